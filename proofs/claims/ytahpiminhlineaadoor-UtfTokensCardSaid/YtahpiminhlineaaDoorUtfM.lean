/- Plain maths of mentions: what is mentioned is a name; a name behind an @ is mentioned. -/
import Derived.Test.YtahpiminhlineaaDoorUtfC
namespace Go.Proofs.YtahpiminhlineaaDoor
open Go.RowKit Go.Shelf Go.PlainAid

theorem mentTo_name (s : ByteArray) : ∀ k, ∀ x ∈ mentTo s k, nameB x = true
  | 0, x, h => by cases h
  | k + 1, x, h => by
    rw [mentTo] at h
    split at h
    · rename_i hf
      rcases List.mem_append.1 h with h | h
      · exact mentTo_name s k x h
      · simp at h
        subst h
        unfold freshB at hf
        simp only [Bool.and_eq_true] at hf
        exact hf.1.2
    · exact mentTo_name s k x h
theorem mentTo_step (s : ByteArray) (k : Nat) : ∀ x ∈ mentTo s k, x ∈ mentTo s (k + 1) := fun x h => by
  rw [mentTo]
  split
  · exact List.mem_append.2 (.inl h)
  · exact h
theorem mentTo_mono (s : ByteArray) (k d : Nat) : ∀ x ∈ mentTo s k, x ∈ mentTo s (k + d) := by
  induction d with
  | zero => exact fun x h => h
  | succ d ih => exact fun x h => mentTo_step s (k + d) x (ih x h)
/-- A word that is a name, where a mention stands, is among the mentions. -/
theorem ment_in {s : ByteArray} {k : Nat} (hk : k < s.size) (hm : mentB s k = true) (hn : nameB (wordS s k) = true) : wordS s k ∈ mentL s := by
  have h1 : wordS s k ∈ mentTo s (k + 1) := by
    rw [mentTo]
    split
    · exact List.mem_append.2 (.inr (by simp))
    · rename_i hf
      unfold freshB at hf
      rw [hm, hn] at hf
      simp at hf
      exact memB_iff.1 hf
  have := mentTo_mono s (k + 1) (s.size - (k + 1)) _ h1
  rw [show k + 1 + (s.size - (k + 1)) = s.size by omega] at this
  exact this
theorem bt_left (a b : ByteArray) (k : Nat) (h : k < a.size) : bt (a ++ b) k = bt a k := by
  unfold bt
  rw [dif_pos (by rw [ByteArray.size_append]; omega), dif_pos h, ByteArray.getElem_append_left h]
theorem bt_right (a b : ByteArray) (k : Nat) : bt (a ++ b) (a.size + k) = bt b k := by
  unfold bt
  by_cases h : k < b.size
  · rw [dif_pos (by rw [ByteArray.size_append]; omega), dif_pos h, ByteArray.getElem_append_right (by omega)]
    simp
  · rw [dif_neg (by rw [ByteArray.size_append]; omega), dif_neg h]
theorem arr_right (x y : Array UInt8) : (x ++ y).extract x.size (x.size + y.size) = y := by
  rw [Array.extract_append]
  simp
theorem ext_right (a b : ByteArray) (k n : Nat) (hk : k = a.size) (hn : n = (a ++ b).size) : (a ++ b).extract k n = b := by
  subst hk hn
  apply ByteArray.ext
  rw [ByteArray.data_extract, ByteArray.data_append, ByteArray.size_append]
  exact arr_right a.data b.data
theorem ext_left (a b : ByteArray) : (a ++ b).extract 0 a.size = a := by
  apply ByteArray.ext
  rw [ByteArray.data_extract, ByteArray.data_append]
  simp only [ByteArray.size]
  rw [Array.extract_append]
  simp
/-- All bytes of a name's run. -/
theorem run_parts {s : ByteArray} (h : runN s = s.size) : ∀ k, k ≤ s.size → runFrom s (s.size - k) k = s.size
  | 0, _ => h
  | k + 1, hk => by
    have ih := run_parts h k (by omega)
    cases hp : partB (bt s k) with
    | true => rw [← runFrom_go (by omega) hp]; exact ih
    | false => rw [runFrom_stop hp] at ih; omega
theorem parts_of {s : ByteArray} (h : runN s = s.size) (k : Nat) (hk : k < s.size) : partB (bt s k) = true := by
  have ih := run_parts h k (by omega)
  cases hp : partB (bt s k) with
  | true => rfl
  | false => rw [runFrom_stop hp] at ih; omega
/-- A run of the bytes of names, and one behind it that is none. -/
theorem run_cut {n r : ByteArray} (h : runN n = n.size) (hr : partB (bt r 0) = false) : runS (n ++ r) = n := by
  have hz : (n ++ r).size = n.size + r.size := ByteArray.size_append
  have key : ∀ d, d ≤ n.size → runFrom (n ++ r) ((n ++ r).size - (n.size - d)) (n.size - d) = n.size := fun d => by
    induction d with
    | zero =>
      intro _
      have : partB (bt (n ++ r) (n.size - 0)) = false := by
        have := bt_right n r 0
        rw [Nat.add_zero] at this
        rw [Nat.sub_zero, this]; exact hr
      rw [runFrom_stop this]
      omega
    | succ d ih =>
      intro hd
      have hp : partB (bt (n ++ r) (n.size - (d + 1))) = true := by
        rw [bt_left _ _ _ (by omega)]
        exact parts_of h _ (by omega)
      rw [runFrom_go (by omega) hp, show n.size - (d + 1) + 1 = n.size - d by omega]
      exact ih (by omega)
  have := key n.size (Nat.le_refl _)
  rw [Nat.sub_self, Nat.sub_zero] at this
  unfold runS runN
  rw [this, ext_left]
def at2 : ByteArray := ⟨#[32, 64]⟩
def bl1 : ByteArray := ⟨#[32]⟩
/-- The text with a name behind an @. -/
def namedS (a n b : ByteArray) : ByteArray := a ++ at2 ++ n ++ bl1 ++ b
theorem namedS_size (a n b : ByteArray) : (namedS a n b).size = a.size + 2 + n.size + 1 + b.size := by
  unfold namedS
  simp only [ByteArray.size_append]
  rfl
theorem named_word {a n b : ByteArray} (h : runN n = n.size) : wordS (namedS a n b) (a.size + 1) = n ∧ mentB (namedS a n b) (a.size + 1) = true := by
  have e : namedS a n b = (a ++ at2) ++ (n ++ (bl1 ++ b)) := by unfold namedS; simp only [ByteArray.append_assoc]
  have e2 : namedS a n b = a ++ (at2 ++ (n ++ (bl1 ++ b))) := by unfold namedS; simp only [ByteArray.append_assoc]
  constructor
  · unfold wordS
    rw [e, ext_right _ _ _ _ (by rw [ByteArray.size_append]; rfl) rfl]
    exact run_cut h (by rw [bt_left _ _ _ (by decide)]; decide)
  · have h1 : bt (namedS a n b) (a.size + 1) = 64 := by
      rw [e2, bt_right, bt_left _ _ _ (by decide)]; decide
    have h2 : bt (namedS a n b) (a.size + 1 - 1) = 32 := by
      have := bt_right a (at2 ++ (n ++ (bl1 ++ b))) 0
      rw [Nat.add_zero] at this
      rw [e2, Nat.add_sub_cancel, this, bt_left _ _ _ (by decide)]; decide
    unfold mentB
    rw [h1, h2]
    exact decide_eq_true ⟨rfl, Or.inr ⟨by decide, by decide⟩⟩
/-- Is a text mentioned there? Just if it is a name. -/
theorem named_mem {a n b : ByteArray} : memB n (mentL (namedS a n b)) = true → nameB n = true := fun h =>
  mentTo_name _ _ _ (memB_iff.1 h)
theorem named_name {a n b : ByteArray} (h : nameB n = true) : memB n (mentL (namedS a n b)) = true := by
  have hr : runN n = n.size := by unfold nameB at h; exact (of_decide_eq_true h).2.2.2.2
  obtain ⟨h1, h2⟩ := named_word (a := a) (b := b) hr
  have := ment_in (k := a.size + 1) (by rw [namedS_size]; omega) h2 (by rw [h1]; exact h)
  rw [h1] at this
  exact memB_iff.2 this
theorem named_eq (a n b : ByteArray) : memB n (mentL (namedS a n b)) = nameB n := by
  cases hn : nameB n with
  | true => exact named_name hn
  | false =>
    cases hm : memB n (mentL (namedS a n b)) with
    | false => rfl
    | true => rw [named_mem hm] at hn; cases hn
end Go.Proofs.YtahpiminhlineaaDoor
