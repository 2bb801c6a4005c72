/- What Set and Unset make of a leaf's rows: plain maths. No program. -/
import Derived.Test.YtcnfnfnmpifahaaPFindM
namespace Go.Proofs.Ytcnfnfnmpifahaa
open Go.RowKit

/-- A list with x at place a, h elements of it gone. -/
def putL {α : Type} (l : List α) (a h : Nat) (x : α) : List α := l.take a ++ x :: l.drop (a + h)
/-- The same, of the first i elements. -/
def putT {α : Type} (l : List α) (a h : Nat) (x : α) (i : Nat) : List α := if i ≤ a then l.take i else l.take a ++ x :: (l.take i).drop (a + h)
theorem putT_zero {α : Type} (l : List α) (a h : Nat) (x : α) : putT l a h x 0 = [] := by unfold putT; rw [if_pos (Nat.zero_le _)]; rfl
theorem take_next {α : Type} {l : List α} {i : Nat} (hi : i < l.length) : l.take (i + 1) = l.take i ++ [l[i]] := by rw [List.take_succ_eq_append_getElem hi]
theorem putT_low {α : Type} {l : List α} {a h : Nat} {x : α} {i : Nat} (hi : i < l.length) (ha : i < a) : putT l a h x (i + 1) = putT l a h x i ++ [l[i]] := by
  unfold putT; rw [if_pos (show i + 1 ≤ a by omega), if_pos (show i ≤ a by omega), take_next hi]
theorem drop_next {α : Type} {l : List α} {i d : Nat} (hi : i < l.length) (hd : d ≤ i) : (l.take (i + 1)).drop d = (l.take i).drop d ++ [l[i]] := by
  rw [take_next hi, List.drop_append_of_le_length (by rw [List.length_take]; omega)]
theorem putT_high {α : Type} {l : List α} {a h : Nat} {x : α} {i : Nat} (hi : i < l.length) (ha : a < i) (hh : h ≤ 1) : putT l a h x (i + 1) = putT l a h x i ++ [l[i]] := by
  unfold putT; rw [if_neg (show ¬ i + 1 ≤ a by omega), if_neg (show ¬ i ≤ a by omega), drop_next hi (by omega)]; simp
/-- At the place itself: x, and what stands there if it stays. -/
theorem putT_at {α : Type} {l : List α} {a : Nat} {x : α} (hi : a < l.length) : putT l a 0 x (a + 1) = (putT l a 0 x a ++ [x]) ++ [l[a]] := by
  unfold putT; rw [if_neg (show ¬ a + 1 ≤ a by omega), if_pos (Nat.le_refl _), drop_next (d := a + 0) hi (Nat.le_refl _), List.drop_of_length_le (by rw [List.length_take]; omega)]; simp
theorem putT_hit {α : Type} {l : List α} {a : Nat} {x : α} : putT l a 1 x (a + 1) = putT l a 1 x a ++ [x] := by
  unfold putT; rw [if_neg (show ¬ a + 1 ≤ a by omega), if_pos (Nat.le_refl _), List.drop_of_length_le (by rw [List.length_take]; omega)]
theorem putT_end {α : Type} {l : List α} {a : Nat} {x : α} (hi : a = l.length) : putT l a 0 x (a + 1) = putT l a 0 x a ++ [x] := by
  unfold putT; rw [if_neg (show ¬ a + 1 ≤ a by omega), if_pos (Nat.le_refl _), List.drop_of_length_le (by rw [List.length_take]; omega)]
theorem putT_all {α : Type} {l : List α} {a h : Nat} {x : α} (ha : a ≤ l.length) : putT l a h x (l.length + 1) = putL l a h x := by
  unfold putT putL; rw [if_neg (by omega), List.take_of_length_le (Nat.le_succ _)]
theorem putL_length {α : Type} {l : List α} {a : Nat} {x : α} (ha : a ≤ l.length) : (putL l a 0 x).length = l.length + 1 := by
  unfold putL; simp; omega
theorem putL_set {α : Type} {l : List α} {a : Nat} {x : α} (ha : a < l.length) : putL l a 1 x = l.set a x := by
  unfold putL; rw [List.set_eq_take_append_cons_drop, if_pos ha]
theorem putL_same {α : Type} {l : List α} {a : Nat} {x : α} (ha : a < l.length) (hx : l[a] = x) : putL l a 1 x = l := by
  subst hx; unfold putL; rw [List.getElem_cons_drop, List.take_append_drop]
/-- The rows of a leaf with a pair more. -/
def setK (ks : List ByteArray) (x : ByteArray) : List ByteArray := putL ks (atN ks x) (hitB ks x).toNat x
def setV (ks vs : List ByteArray) (x v : ByteArray) : List ByteArray := putL vs (atN ks x) (hitB ks x).toNat v
/-- The rows of a leaf without a key: of the first i. -/
def unT {α : Type} (l : List α) (a : Nat) (b : Bool) (i : Nat) : List α := if b = true ∧ a < i then l.take a ++ (l.take i).drop (a + 1) else l.take i
def unL {α : Type} (l : List α) (a : Nat) (b : Bool) : List α := unT l a b l.length
theorem unT_zero {α : Type} (l : List α) (a : Nat) (b : Bool) : unT l a b 0 = [] := by unfold unT; rw [if_neg (by omega)]; rfl
theorem unT_keep {α : Type} {l : List α} {a : Nat} {b : Bool} {i : Nat} (hi : i < l.length) (h : ¬ (b = true ∧ i = a)) : unT l a b (i + 1) = unT l a b i ++ [l[i]] := by
  unfold unT
  by_cases hb : b = true ∧ a < i
  · rw [if_pos ⟨hb.1, by omega⟩, if_pos hb, drop_next hi (by omega)]; simp
  · rw [if_neg (fun hc => h ⟨hc.1, by have := hc.2; have : ¬ a < i := fun h2 => hb ⟨hc.1, h2⟩; omega⟩), if_neg hb, take_next hi]
theorem unT_skip {α : Type} {l : List α} {a : Nat} (hi : a < l.length) : unT l a true (a + 1) = unT l a true a := by
  unfold unT
  rw [if_pos ⟨rfl, by omega⟩, if_neg (by omega), List.drop_of_length_le (by rw [List.length_take]; omega)]; simp
theorem unL_no {α : Type} (l : List α) (a : Nat) : unL l a false = l := by unfold unL unT; rw [if_neg (by simp)]; simp
theorem unL_yes {α : Type} {l : List α} {a : Nat} (ha : a < l.length) : unL l a true = l.take a ++ l.drop (a + 1) := by unfold unL unT; rw [if_pos ⟨rfl, ha⟩]; simp
theorem hit_at {ks : List ByteArray} {x : ByteArray} (h : keysOk ks = true) (hb : hitB ks x = true) : ∃ hl : atN ks x < ks.length, ks[atN ks x] = x := by
  rw [hitB_is h] at hb
  have := of_decide_eq_true hb
  refine ⟨this.1, ?_⟩
  have h2 := this.2
  rw [show ks.getD (atN ks x) x = ks[atN ks x] by simp [this.1]] at h2
  exact h2
/-- A key of the row that is x stands where x stands. -/
theorem eq_at {ks : List ByteArray} {x : ByteArray} (h : keysOk ks = true) {i : Nat} (hi : i < ks.length) (he : ks[i] = x) : hitB ks x = true ∧ i = atN ks x := by
  have hb : hitB ks x = true := by
    unfold hitB
    exact (hitN_iff ks x _ (Nat.le_refl _)).2 ⟨i, hi, hi, he⟩
  refine ⟨hb, ?_⟩
  obtain ⟨hl, ha⟩ := hit_at h hb
  have hnot : lessK ks x i = false := by rw [lessK_in hi, he]; exact bless_irr _
  rcases Nat.lt_trichotomy i (atN ks x) with hc | hc | hc
  · rw [(lessK_is h i).2 hc] at hnot; cases hnot
  · exact hc
  · obtain ⟨d, hd⟩ : ∃ d, i = atN ks x + d + 1 := ⟨i - atN ks x - 1, by omega⟩
    have hu := keys_up h (i := atN ks x) d (by omega)
    have he2 : ks[atN ks x + d + 1]'(by omega) = x := (getElem_congr_idx hd.symm).trans he
    rw [he2, ha, bless_irr] at hu
    cases hu
theorem eq_iff {ks : List ByteArray} {x : ByteArray} (h : keysOk ks = true) {i : Nat} (hi : i < ks.length) : decide (ks[i] = x) = (hitB ks x && decide (i = atN ks x)) := by
  by_cases he : ks[i] = x
  · obtain ⟨h1, h2⟩ := eq_at h hi he
    rw [decide_eq_true he, h1, decide_eq_true h2]; rfl
  · rw [decide_eq_false he]
    cases hb : hitB ks x with
    | false => rfl
    | true =>
      have hne : i ≠ atN ks x := fun hc => by
        obtain ⟨hl, ha⟩ := hit_at h hb
        subst hc
        exact he ha
      rw [decide_eq_false hne]; rfl
end Go.Proofs.Ytcnfnfnmpifahaa
