/- Where a key stands in a row of keys in their order: plain maths, and the halving's answer. No program. What Set and Unset make of a leaf's rows: plain maths. No program. -/
import Derived.Test.YtopkkolcimmedaaNdA
import Derived.Shelf.Spec.SearchS
namespace Go.Proofs.Ytopkkolcimmedaa
open Go.RowKit

theorem bless_irr : ∀ (x : List UInt8), Op.bytesLess x x = false
  | [] => rfl
  | a :: x => by simp [Op.bytesLess, bless_irr x]
theorem bless_trans : ∀ (x y z : List UInt8), Op.bytesLess x y = true → Op.bytesLess y z = true → Op.bytesLess x z = true
  | _, [], _, h, _ => by cases ‹List UInt8› <;> simp [Op.bytesLess] at h
  | _, _ :: _, [], _, h => by simp [Op.bytesLess] at h
  | [], _ :: _, _ :: _, _, _ => rfl
  | a :: x, b :: y, c :: z, h1, h2 => by
    simp only [Op.bytesLess, Bool.or_eq_true, decide_eq_true_eq, Bool.and_eq_true, beq_iff_eq] at h1 h2 ⊢
    rcases h1 with h1 | ⟨rfl, h1⟩
    · rcases h2 with h2 | ⟨rfl, h2⟩
      · exact Or.inl (UInt8.lt_trans h1 h2)
      · exact Or.inl h1
    · rcases h2 with h2 | ⟨rfl, h2⟩
      · exact Or.inl h2
      · exact Or.inr ⟨rfl, bless_trans x y z h1 h2⟩
theorem bless_tri : ∀ (x y : List UInt8), Op.bytesLess x y = false → x ≠ y → Op.bytesLess y x = true
  | [], [], _, h => absurd rfl h
  | [], _ :: _, h, _ => by simp [Op.bytesLess] at h
  | _ :: _, [], _, _ => rfl
  | a :: x, b :: y, h, hne => by
    simp only [Op.bytesLess, Bool.or_eq_true, decide_eq_true_eq, Bool.and_eq_true, beq_iff_eq, Bool.or_eq_false_iff, decide_eq_false_iff_not, Bool.and_eq_false_iff, beq_eq_false_iff_ne] at h ⊢
    by_cases hab : a = b
    · subst hab
      refine Or.inr ⟨rfl, bless_tri x y ?_ (fun he => hne (by rw [he]))⟩
      rcases h.2 with h2 | h2
      · exact absurd rfl h2
      · exact h2
    · refine Or.inl ?_
      have hn : a.toNat ≠ b.toNat := fun hc => hab (UInt8.toNat_inj.1 hc)
      rcases Nat.lt_or_gt_of_ne hn with h1 | h1
      · exact absurd (UInt8.lt_iff_toNat_lt.2 h1) h.1
      · exact UInt8.lt_iff_toNat_lt.2 h1

/-- Is key t of the row below x? Behind the row's end: no. -/
def lessK (ks : List ByteArray) (x : ByteArray) (t : Nat) : Bool := Op.bytesLess (ks.getD t x).toList x.toList
/-- So many of the first k keys are below x. -/
def rankN (ks : List ByteArray) (x : ByteArray) : Nat → Nat
  | 0 => 0
  | k + 1 => rankN ks x k + (lessK ks x k).toNat
/-- Is x one of the first k keys? -/
def hitN (ks : List ByteArray) (x : ByteArray) : Nat → Bool
  | 0 => false
  | k + 1 => hitN ks x k || decide (ks.getD k ByteArray.empty = x)
def atN (ks : List ByteArray) (x : ByteArray) : Nat := rankN ks x ks.length
def hitB (ks : List ByteArray) (x : ByteArray) : Bool := hitN ks x ks.length
theorem rankN_le (ks : List ByteArray) (x : ByteArray) : ∀ k, rankN ks x k ≤ k
  | 0 => Nat.le_refl _
  | k + 1 => by
    have := rankN_le ks x k
    have h := Bool.toNat_le (lessK ks x k)
    unfold rankN; omega
theorem atN_le (ks : List ByteArray) (x : ByteArray) : atN ks x ≤ ks.length := rankN_le ks x _

theorem keys_next {ks : List ByteArray} (h : keysOk ks = true) {j : Nat} (hj : j + 1 < ks.length) : Op.bytesLess ks[j].toList ks[j + 1].toList = true := by
  have h1 := keysOk_at h hj
  unfold keyOk at h1
  rw [getD_at hj, show j + 1 - 1 = j from rfl, getD_at (show j < ks.length by omega)] at h1
  simp at h1
  exact h1.2
theorem keys_up {ks : List ByteArray} (h : keysOk ks = true) {i : Nat} : ∀ (d : Nat) (hj : i + d + 1 < ks.length), Op.bytesLess (ks[i]'(by omega)).toList ks[i + d + 1].toList = true
  | 0, hj => keys_next h hj
  | d + 1, hj => bless_trans _ _ _ (keys_up h d (by omega)) (keys_next h (j := i + d + 1) hj)
theorem lessK_in {ks : List ByteArray} {x : ByteArray} {t : Nat} (ht : t < ks.length) : lessK ks x t = Op.bytesLess ks[t].toList x.toList := by
  unfold lessK; rw [show ks.getD t x = ks[t] by simp [ht]]
theorem lessK_out {ks : List ByteArray} {x : ByteArray} {t : Nat} (ht : ks.length ≤ t) : lessK ks x t = false := by
  unfold lessK; rw [show ks.getD t x = x by simp [ht]]; exact bless_irr _
theorem lessK_down {ks : List ByteArray} {x : ByteArray} (h : keysOk ks = true) {i j : Nat} (hij : i < j) (hl : lessK ks x j = true) : lessK ks x i = true := by
  by_cases hj : j < ks.length
  · rw [lessK_in hj] at hl
    rw [lessK_in (show i < ks.length by omega)]
    obtain ⟨d, rfl⟩ : ∃ d, j = i + d + 1 := ⟨j - i - 1, by omega⟩
    exact bless_trans _ _ _ (keys_up h d hj) hl
  · rw [lessK_out (by omega)] at hl; cases hl
/-- In a row in its order: the first rankN keys are below x, and no other of the first k. -/
theorem rankN_is {ks : List ByteArray} {x : ByteArray} (h : keysOk ks = true) : ∀ (k t : Nat), t < k → (lessK ks x t = true ↔ t < rankN ks x k)
  | 0, t, ht => absurd ht (by omega)
  | k + 1, t, ht => by
    have hk := rankN_le ks x k
    unfold rankN
    cases hl : lessK ks x k
    · by_cases hte : t = k
      · subst hte; simp only [hl, Bool.toNat_false]; constructor
        · intro hc; cases hc
        · intro hc; omega
      · rw [rankN_is h k t (by omega)]; simp
    · have hall : ∀ i, i < k → lessK ks x i = true := fun i hi => lessK_down h hi hl
      have hfull : rankN ks x k = k := by
        by_cases hk0 : k = 0
        · subst hk0; rfl
        · have := (rankN_is h k (k - 1) (by omega)).1 (hall _ (by omega)); omega
      rw [hfull]
      simp only [Bool.toNat_true]
      constructor
      · intro _; exact ht
      · intro _
        by_cases hte : t = k
        · subst hte; exact hl
        · exact hall t (by omega)
theorem lessK_is {ks : List ByteArray} {x : ByteArray} (h : keysOk ks = true) (t : Nat) : lessK ks x t = true ↔ t < atN ks x := by
  by_cases ht : t < ks.length
  · exact rankN_is h _ t ht
  · rw [lessK_out (by omega)]
    have := atN_le ks x
    constructor
    · intro hc; cases hc
    · intro hc; omega
theorem bs_is {ks : List ByteArray} {x : ByteArray} (h : keysOk ks = true) : Lib.bsGo (fun t => Op.bytesLess (ks.getD t x).toList x.toList) ks.length 0 ks.length = atN ks x := by
  refine Lib.bsGo_spec _ (atN ks x) (fun t ht => (lessK_is h t).2 ht) (fun t ht => ?_) _ _ _ (by omega) (by omega) (atN_le _ _)
  have := (lessK_is (x := x) h t)
  cases hc : lessK ks x t with
  | false => first | exact hc | rfl
  | true => exact absurd (this.1 hc) (by omega)
theorem hitN_iff (ks : List ByteArray) (x : ByteArray) : ∀ k, k ≤ ks.length → (hitN ks x k = true ↔ ∃ (j : Nat) (hj : j < ks.length), j < k ∧ ks[j] = x)
  | 0, _ => by simp [hitN]
  | k + 1, hk => by
    unfold hitN
    rw [getD_at (show k < ks.length by omega)]
    simp only [Bool.or_eq_true, decide_eq_true_eq, hitN_iff ks x k (by omega)]
    constructor
    · rintro (⟨j, hj, hjk, he⟩ | he)
      · exact ⟨j, hj, by omega, he⟩
      · exact ⟨k, by omega, by omega, he⟩
    · rintro ⟨j, hj, hjk, he⟩
      by_cases hje : j = k
      · subst hje; exact Or.inr he
      · exact Or.inl ⟨j, hj, by omega, he⟩
/-- In a row in its order a key is there just where it stands. -/
theorem hitB_is {ks : List ByteArray} {x : ByteArray} (h : keysOk ks = true) : hitB ks x = decide (atN ks x < ks.length ∧ ks.getD (atN ks x) x = x) := by
  have key : hitB ks x = true ↔ (atN ks x < ks.length ∧ ks.getD (atN ks x) x = x) := by
    unfold hitB
    rw [hitN_iff ks x _ (Nat.le_refl _)]
    constructor
    · rintro ⟨j, hj, _, he⟩
      have hnot : lessK ks x j = false := by rw [lessK_in hj, he]; exact bless_irr _
      have hge : atN ks x ≤ j := by
        rcases Nat.lt_or_ge j (atN ks x) with hc | hc
        · rw [(lessK_is h j).2 hc] at hnot; cases hnot
        · exact hc
      have hle : j ≤ atN ks x := by
        rcases Nat.lt_or_ge (atN ks x) j with hc | hc
        · obtain ⟨d, hd⟩ : ∃ d, j = atN ks x + d + 1 := ⟨j - atN ks x - 1, by omega⟩
          have hu := keys_up h (i := atN ks x) d (by omega)
          have he2 : ks[atN ks x + d + 1]'(by omega) = x := (getElem_congr_idx hd.symm).trans he
          rw [he2, ← lessK_in (show atN ks x < ks.length by omega)] at hu
          exact absurd ((lessK_is h _).1 hu) (by omega)
        · exact hc
      have hja : atN ks x = j := by omega
      refine ⟨by omega, ?_⟩
      rw [hja, show ks.getD j x = ks[j] by simp [hj]]; exact he
    · rintro ⟨ha, he⟩
      rw [show ks.getD (atN ks x) x = ks[atN ks x] by simp [ha]] at he
      exact ⟨_, ha, ha, he⟩
  by_cases hd : atN ks x < ks.length ∧ ks.getD (atN ks x) x = x
  · rw [decide_eq_true hd]; exact key.2 hd
  · rw [decide_eq_false hd]
    cases hc : hitB ks x
    · rfl
    · exact absurd (key.1 hc) hd
end Go.Proofs.Ytopkkolcimmedaa
namespace Go.Proofs.Ytopkkolcimmedaa
open Go.RowKit

/-- A list with x at place a, h elements of it gone. -/
def putL {α : Type} (l : List α) (a h : Nat) (x : α) : List α := l.take a ++ x :: l.drop (a + h)
/-- The same, of the first i elements. -/
def putT {α : Type} (l : List α) (a h : Nat) (x : α) (i : Nat) : List α := if i ≤ a then l.take i else l.take a ++ x :: (l.take i).drop (a + h)
theorem putT_zero {α : Type} (l : List α) (a h : Nat) (x : α) : putT l a h x 0 = [] := by unfold putT; rw [if_pos (Nat.zero_le _)]; rfl
theorem take_next {α : Type} {l : List α} {i : Nat} (hi : i < l.length) : l.take (i + 1) = l.take i ++ [l[i]] := by rw [List.take_succ_eq_append_getElem hi]
theorem putT_low {α : Type} {l : List α} {a h : Nat} {x : α} {i : Nat} (hi : i < l.length) (ha : i < a) : putT l a h x (i + 1) = putT l a h x i ++ [l[i]] := by
  unfold putT; rw [if_pos (show i + 1 ≤ a by omega), if_pos (show i ≤ a by omega), take_next hi]
theorem drop_next {α : Type} {l : List α} {i d : Nat} (hi : i < l.length) (hd : d ≤ i) : (l.take (i + 1)).drop d = (l.take i).drop d ++ [l[i]] := by
  rw [take_next hi, List.drop_append_of_le_length (by rw [List.length_take]; omega)]
theorem putT_high {α : Type} {l : List α} {a h : Nat} {x : α} {i : Nat} (hi : i < l.length) (ha : a < i) (hh : h ≤ 1) : putT l a h x (i + 1) = putT l a h x i ++ [l[i]] := by
  unfold putT; rw [if_neg (show ¬ i + 1 ≤ a by omega), if_neg (show ¬ i ≤ a by omega), drop_next hi (by omega)]; simp
/-- At the place itself: x, and what stands there if it stays. -/
theorem putT_at {α : Type} {l : List α} {a : Nat} {x : α} (hi : a < l.length) : putT l a 0 x (a + 1) = (putT l a 0 x a ++ [x]) ++ [l[a]] := by
  unfold putT; rw [if_neg (show ¬ a + 1 ≤ a by omega), if_pos (Nat.le_refl _), drop_next (d := a + 0) hi (Nat.le_refl _), List.drop_of_length_le (by rw [List.length_take]; omega)]; simp
theorem putT_hit {α : Type} {l : List α} {a : Nat} {x : α} : putT l a 1 x (a + 1) = putT l a 1 x a ++ [x] := by
  unfold putT; rw [if_neg (show ¬ a + 1 ≤ a by omega), if_pos (Nat.le_refl _), List.drop_of_length_le (by rw [List.length_take]; omega)]
theorem putT_end {α : Type} {l : List α} {a : Nat} {x : α} (hi : a = l.length) : putT l a 0 x (a + 1) = putT l a 0 x a ++ [x] := by
  unfold putT; rw [if_neg (show ¬ a + 1 ≤ a by omega), if_pos (Nat.le_refl _), List.drop_of_length_le (by rw [List.length_take]; omega)]
theorem putT_all {α : Type} {l : List α} {a h : Nat} {x : α} (ha : a ≤ l.length) : putT l a h x (l.length + 1) = putL l a h x := by
  unfold putT putL; rw [if_neg (by omega), List.take_of_length_le (Nat.le_succ _)]
theorem putL_length {α : Type} {l : List α} {a : Nat} {x : α} (ha : a ≤ l.length) : (putL l a 0 x).length = l.length + 1 := by
  unfold putL; simp; omega
theorem putL_set {α : Type} {l : List α} {a : Nat} {x : α} (ha : a < l.length) : putL l a 1 x = l.set a x := by
  unfold putL; rw [List.set_eq_take_append_cons_drop, if_pos ha]
theorem putL_same {α : Type} {l : List α} {a : Nat} {x : α} (ha : a < l.length) (hx : l[a] = x) : putL l a 1 x = l := by
  subst hx; unfold putL; rw [List.getElem_cons_drop, List.take_append_drop]
/-- The rows of a leaf with a pair more. -/
def setK (ks : List ByteArray) (x : ByteArray) : List ByteArray := putL ks (atN ks x) (hitB ks x).toNat x
def setV (ks vs : List ByteArray) (x v : ByteArray) : List ByteArray := putL vs (atN ks x) (hitB ks x).toNat v
/-- The rows of a leaf without a key: of the first i. -/
def unT {α : Type} (l : List α) (a : Nat) (b : Bool) (i : Nat) : List α := if b = true ∧ a < i then l.take a ++ (l.take i).drop (a + 1) else l.take i
def unL {α : Type} (l : List α) (a : Nat) (b : Bool) : List α := unT l a b l.length
theorem unT_zero {α : Type} (l : List α) (a : Nat) (b : Bool) : unT l a b 0 = [] := by unfold unT; rw [if_neg (by omega)]; rfl
theorem unT_keep {α : Type} {l : List α} {a : Nat} {b : Bool} {i : Nat} (hi : i < l.length) (h : ¬ (b = true ∧ i = a)) : unT l a b (i + 1) = unT l a b i ++ [l[i]] := by
  unfold unT
  by_cases hb : b = true ∧ a < i
  · rw [if_pos ⟨hb.1, by omega⟩, if_pos hb, drop_next hi (by omega)]; simp
  · rw [if_neg (fun hc => h ⟨hc.1, by have := hc.2; have : ¬ a < i := fun h2 => hb ⟨hc.1, h2⟩; omega⟩), if_neg hb, take_next hi]
theorem unT_skip {α : Type} {l : List α} {a : Nat} (hi : a < l.length) : unT l a true (a + 1) = unT l a true a := by
  unfold unT
  rw [if_pos ⟨rfl, by omega⟩, if_neg (by omega), List.drop_of_length_le (by rw [List.length_take]; omega)]; simp
theorem unL_no {α : Type} (l : List α) (a : Nat) : unL l a false = l := by unfold unL unT; rw [if_neg (by simp)]; simp
theorem unL_yes {α : Type} {l : List α} {a : Nat} (ha : a < l.length) : unL l a true = l.take a ++ l.drop (a + 1) := by unfold unL unT; rw [if_pos ⟨rfl, ha⟩]; simp
theorem hit_at {ks : List ByteArray} {x : ByteArray} (h : keysOk ks = true) (hb : hitB ks x = true) : ∃ hl : atN ks x < ks.length, ks[atN ks x] = x := by
  rw [hitB_is h] at hb
  have := of_decide_eq_true hb
  refine ⟨this.1, ?_⟩
  have h2 := this.2
  rw [show ks.getD (atN ks x) x = ks[atN ks x] by simp [this.1]] at h2
  exact h2
/-- A key of the row that is x stands where x stands. -/
theorem eq_at {ks : List ByteArray} {x : ByteArray} (h : keysOk ks = true) {i : Nat} (hi : i < ks.length) (he : ks[i] = x) : hitB ks x = true ∧ i = atN ks x := by
  have hb : hitB ks x = true := by
    unfold hitB
    exact (hitN_iff ks x _ (Nat.le_refl _)).2 ⟨i, hi, hi, he⟩
  refine ⟨hb, ?_⟩
  obtain ⟨hl, ha⟩ := hit_at h hb
  have hnot : lessK ks x i = false := by rw [lessK_in hi, he]; exact bless_irr _
  rcases Nat.lt_trichotomy i (atN ks x) with hc | hc | hc
  · rw [(lessK_is h i).2 hc] at hnot; cases hnot
  · exact hc
  · obtain ⟨d, hd⟩ : ∃ d, i = atN ks x + d + 1 := ⟨i - atN ks x - 1, by omega⟩
    have hu := keys_up h (i := atN ks x) d (by omega)
    have he2 : ks[atN ks x + d + 1]'(by omega) = x := (getElem_congr_idx hd.symm).trans he
    rw [he2, ha, bless_irr] at hu
    cases hu
theorem eq_iff {ks : List ByteArray} {x : ByteArray} (h : keysOk ks = true) {i : Nat} (hi : i < ks.length) : decide (ks[i] = x) = (hitB ks x && decide (i = atN ks x)) := by
  by_cases he : ks[i] = x
  · obtain ⟨h1, h2⟩ := eq_at h hi he
    rw [decide_eq_true he, h1, decide_eq_true h2]; rfl
  · rw [decide_eq_false he]
    cases hb : hitB ks x with
    | false => rfl
    | true =>
      have hne : i ≠ atN ks x := fun hc => by
        obtain ⟨hl, ha⟩ := hit_at h hb
        subst hc
        exact he ha
      rw [decide_eq_false hne]; rfl
end Go.Proofs.Ytopkkolcimmedaa
