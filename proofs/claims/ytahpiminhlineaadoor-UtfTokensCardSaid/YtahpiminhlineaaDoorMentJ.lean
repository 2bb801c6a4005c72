/- Plain maths of two texts with a blank between: mentions. -/
import Derived.Test.YtahpiminhlineaaDoorJoinM
import Derived.Test.YtahpiminhlineaaDoorRune
namespace Go.Proofs.YtahpiminhlineaaDoor
open Go.Lib Go.PlainAid

theorem run_stop (u r : ByteArray) (hr : partB (bt r 0) = false) : ∀ d, d ≤ u.size → runFrom (u ++ r) ((u ++ r).size - (u.size - d)) (u.size - d) = runFrom u (u.size - (u.size - d)) (u.size - d) := fun d => by
  have hz : (u ++ r).size = u.size + r.size := ByteArray.size_append
  induction d with
  | zero =>
    intro _
    have h1 : partB (bt (u ++ r) (u.size - 0)) = false := by
      have := bt_right u r 0
      rw [Nat.add_zero] at this
      rw [Nat.sub_zero, this]; exact hr
    rw [runFrom_stop h1, runFrom_end (by omega)]
  | succ d ih =>
    intro hd
    have hb : bt (u ++ r) (u.size - (d + 1)) = bt u (u.size - (d + 1)) := bt_left _ _ _ (by omega)
    cases hp : partB (bt u (u.size - (d + 1))) with
    | true =>
      rw [runFrom_go (by omega) (by rw [hb]; exact hp), runFrom_go (by omega) hp, show u.size - (d + 1) + 1 = u.size - d by omega]
      exact ih (by omega)
    | false => rw [runFrom_stop (by rw [hb]; exact hp), runFrom_stop hp]
theorem ext_pre (u r : ByteArray) (y : Nat) (h : y ≤ u.size) : (u ++ r).extract 0 y = u.extract 0 y := by
  apply ba_ext
  rw [ByteArray.data_extract, ByteArray.data_extract, Array.toList_extract, Array.toList_extract, ByteArray.data_append, Array.toList_append]
  show ((u.data.toList ++ r.data.toList).drop 0).take (y - 0) = (u.data.toList.drop 0).take (y - 0)
  rw [List.drop_zero, List.drop_zero, List.take_append_of_le_length (by rw [len_list]; omega)]
theorem runS_app (u r : ByteArray) (hr : partB (bt r 0) = false) : runS (u ++ r) = runS u := by
  have := run_stop u r hr u.size (Nat.le_refl _)
  rw [Nat.sub_self, Nat.sub_zero, Nat.sub_zero] at this
  have e : runN (u ++ r) = runN u := this
  unfold runS
  rw [e, ext_pre _ _ _ (runN_le u)]
theorem jn_assoc (a b : ByteArray) : jnS a b = a ++ (bl1 ++ b) := by unfold jnS; rw [ByteArray.append_assoc]
theorem bl_first (b : ByteArray) : bt (bl1 ++ b) 0 = 32 := by rw [bt_left _ _ _ (by decide)]; decide
theorem jbt_left (a b : ByteArray) (k : Nat) (h : k < a.size) : bt (jnS a b) k = bt a k := by rw [jn_assoc]; exact bt_left _ _ _ h
theorem jbt_mid (a b : ByteArray) : bt (jnS a b) a.size = 32 := by
  have := bt_right a (bl1 ++ b) 0
  rw [Nat.add_zero] at this
  rw [jn_assoc, this, bl_first]
theorem jbt_right (a b : ByteArray) (k : Nat) : bt (jnS a b) (a.size + 1 + k) = bt b k := by
  rw [jn_assoc, Nat.add_assoc, bt_right]
  exact bt_right bl1 b k
theorem jment_left (a b : ByteArray) (k : Nat) (h : k < a.size) : mentB (jnS a b) k = mentB a k := by
  unfold mentB
  rw [jbt_left a b k h, jbt_left a b (k - 1) (by omega)]
theorem jment_mid (a b : ByteArray) : mentB (jnS a b) a.size = false := by
  unfold mentB
  rw [jbt_mid]
  exact decide_eq_false (fun h => by have := h.1; omega)
theorem jment_right (a b : ByteArray) (j : Nat) : mentB (jnS a b) (a.size + 1 + j) = mentB b j := by
  unfold mentB
  rw [jbt_right]
  cases j with
  | zero =>
    rw [Nat.add_zero, Nat.add_sub_cancel, jbt_mid, Bool.eq_iff_iff]
    simp only [decide_eq_true_eq]
    constructor
    · intro h; exact ⟨h.1, .inl trivial⟩
    · intro h; exact ⟨h.1, .inr ⟨by decide, by decide⟩⟩
  | succ j =>
    rw [show a.size + 1 + (j + 1) - 1 = a.size + 1 + j by omega, jbt_right, Nat.add_sub_cancel, Bool.eq_iff_iff]
    simp only [decide_eq_true_eq]
    constructor
    · intro h; exact ⟨h.1, .inr (by rcases h.2 with h | h; (exfalso; omega); exact h)⟩
    · intro h; exact ⟨h.1, .inr (by rcases h.2 with h | h; (exfalso; omega); exact h)⟩
theorem ext_from (u r : ByteArray) (k : Nat) (h : k ≤ u.size) : (u ++ r).extract k (u ++ r).size = u.extract k u.size ++ r := by
  apply ba_ext
  rw [drop_list, ByteArray.data_append, Array.toList_append, ByteArray.data_append, Array.toList_append, drop_list, List.drop_append_of_le_length (by rw [len_list]; exact h)]
theorem jword_left (a b : ByteArray) (k : Nat) (h : k < a.size) : wordS (jnS a b) k = wordS a k := by
  unfold wordS
  rw [jn_assoc, ext_from _ _ _ (by omega), runS_app _ _ (by rw [bl_first]; decide)]
theorem jword_right (a b : ByteArray) (j : Nat) : wordS (jnS a b) (a.size + 1 + j) = wordS b j := by
  unfold wordS
  rw [jn_size, Nat.add_assoc (a.size + 1) j 1, ext_jr]
theorem jment_to (a b : ByteArray) : ∀ k, k ≤ a.size → mentTo (jnS a b) k = mentTo a k
  | 0, _ => rfl
  | k + 1, h => by
    rw [mentTo, mentTo, jment_to a b k (by omega)]
    unfold freshB
    rw [jment_left a b k (by omega), jword_left a b k (by omega)]
theorem jment_half (a b : ByteArray) : mentTo (jnS a b) (a.size + 1) = mentL a := by
  rw [mentTo, if_neg, jment_to a b _ (Nat.le_refl _)]
  · rfl
  · unfold freshB
    rw [jment_mid]
    simp
theorem memB_false {x : ByteArray} {l : List ByteArray} (h : x ∉ l) : memB x l = false := by
  cases hm : memB x l with
  | false => rfl
  | true => exact absurd (memB_iff.1 hm) h
theorem jment_all (a b : ByteArray) : ∀ j, (∀ x ∈ mentL a, x ∈ mentTo (jnS a b) (a.size + 1 + j)) ∧ (∀ x ∈ mentTo b j, x ∈ mentTo (jnS a b) (a.size + 1 + j)) ∧ (mentTo (jnS a b) (a.size + 1 + j)).length ≤ (mentL a).length + (mentTo b j).length
  | 0 => by
    rw [Nat.add_zero, jment_half]
    exact ⟨fun x h => h, fun x h => (by cases h), Nat.le_add_right _ _⟩
  | j + 1 => by
    obtain ⟨h1, h2, h3⟩ := jment_all a b j
    have e1 : mentTo (jnS a b) (a.size + 1 + (j + 1)) = if freshB (jnS a b) (a.size + 1 + j) (mentTo (jnS a b) (a.size + 1 + j)) = true then mentTo (jnS a b) (a.size + 1 + j) ++ [wordS (jnS a b) (a.size + 1 + j)] else mentTo (jnS a b) (a.size + 1 + j) := rfl
    have e2 : mentTo b (j + 1) = if freshB b j (mentTo b j) = true then mentTo b j ++ [wordS b j] else mentTo b j := rfl
    rw [e1, e2]
    unfold freshB
    rw [jment_right, jword_right]
    generalize mentTo (jnS a b) (a.size + 1 + j) = T at *
    generalize mentTo b j = B at *
    generalize wordS b j = wd
    cases mentB b j && nameB wd with
    | false =>
      simp only [Bool.false_and, Bool.false_eq_true, if_false]
      exact ⟨h1, h2, h3⟩
    | true =>
      by_cases hb : wd ∈ B
      · rw [memB_iff.2 hb, memB_iff.2 (h2 _ hb)]
        simp only [Bool.not_true, Bool.and_false, Bool.false_eq_true, if_false]
        exact ⟨h1, h2, h3⟩
      · rw [memB_false hb]
        by_cases ht : wd ∈ T
        · rw [memB_iff.2 ht]
          simp only [Bool.not_true, Bool.and_false, Bool.false_eq_true, if_false, Bool.not_false, Bool.and_true, if_true]
          refine ⟨h1, fun x hx => ?_, by rw [List.length_append]; omega⟩
          rcases List.mem_append.1 hx with hx | hx
          · exact h2 x hx
          · simp at hx; subst hx; exact ht
        · rw [memB_false ht]
          simp only [Bool.not_false, Bool.and_true, if_true]
          refine ⟨fun x hx => List.mem_append.2 (.inl (h1 x hx)), fun x hx => ?_, by rw [List.length_append, List.length_append]; simp; omega⟩
          rcases List.mem_append.1 hx with hx | hx
          · exact List.mem_append.2 (.inl (h2 x hx))
          · exact List.mem_append.2 (.inr hx)
theorem ment_jn (a b : ByteArray) : (∀ x ∈ mentL a ++ mentL b, memB x (mentL (jnS a b)) = true) ∧ (mentL (jnS a b)).length ≤ (mentL a).length + (mentL b).length := by
  obtain ⟨h1, h2, h3⟩ := jment_all a b b.size
  have e : mentL (jnS a b) = mentTo (jnS a b) (a.size + 1 + b.size) := by unfold mentL; rw [jn_size]
  rw [e]
  refine ⟨fun x hx => memB_iff.2 ?_, h3⟩
  rcases List.mem_append.1 hx with hx | hx
  · exact h1 x hx
  · exact h2 x hx
end Go.Proofs.YtahpiminhlineaaDoor
