/- The pages at hand as data, and in memory. No program but for the types' numbers. -/
import Derived.Test.YtfbpagbfdccgfaaGPut
import Derived.Lib.SlBy
import Derived.OwnWalk
namespace Go.Proofs.Ytfbpagbfdccgfaa
open Go.RowKit

structure HeldM where
  page : Int
  pins : Nat
  turned : Bool
instance : Inhabited HeldM := ⟨⟨0, 0, false⟩⟩
def heldV (h : HeldM) : List Value := [.int .i64 h.page, .int .i64 (h.pins : Int), .bool h.turned]
def rowH (l : List HeldM) : List Value := l.flatMap heldV
theorem heldV_length (h : HeldM) : (heldV h).length = 3 := rfl
theorem rowH_nil : rowH [] = [] := rfl
theorem rowH_cons (h : HeldM) (l : List HeldM) : rowH (h :: l) = heldV h ++ rowH l := rfl
theorem rowH_append (a b : List HeldM) : rowH (a ++ b) = rowH a ++ rowH b := by unfold rowH; rw [List.flatMap_append]
theorem rowH_length (l : List HeldM) : (rowH l).length = l.length * 3 := by
  induction l with
  | nil => rfl
  | cons h l ih => rw [rowH_cons, List.length_append, ih, heldV_length, List.length_cons]; omega
theorem rowH_take (l : List HeldM) (i : Nat) (hi : i ≤ l.length) : (rowH l).take (i * 3) = rowH (l.take i) := by
  have h := rowH_append (l.take i) (l.drop i)
  rw [List.take_append_drop] at h
  rw [h, List.take_append_of_le_length (by rw [rowH_length, List.length_take]; omega), List.take_of_length_le (by rw [rowH_length, List.length_take]; omega)]
theorem rowH_drop (l : List HeldM) (i : Nat) (hi : i ≤ l.length) : (rowH l).drop (i * 3) = rowH (l.drop i) := by
  have h := rowH_append (l.take i) (l.drop i)
  rw [List.take_append_drop] at h
  rw [h, List.drop_append_of_le_length (by rw [rowH_length, List.length_take]; omega), List.drop_of_length_le (by rw [rowH_length, List.length_take]; omega)]
  rfl
theorem rowH_at {l : List HeldM} {i k : Nat} (hi : i < l.length) (hk : k < 3) : (rowH l)[i * 3 + k]? = (heldV l[i])[k]? := by
  rw [← List.getElem?_drop, rowH_drop l i (by omega), List.drop_eq_getElem_cons hi, rowH_cons, List.getElem?_append_left (by rw [heldV_length]; exact hk)]
theorem rowH_one (l : List HeldM) : ∀ u ∈ rowH l, u.oneCell' = true := by
  intro u hu
  unfold rowH at hu
  obtain ⟨h, _, hu⟩ := List.mem_flatMap.1 hu
  unfold heldV at hu
  simp only [List.mem_cons, List.not_mem_nil, or_false] at hu
  rcases hu with rfl | rfl | rfl <;> rfl
/-- A row of pages in memory: where its block lies, and its cells. -/
structure RowG (B g n cap : Nat) (l : List HeldM) (w : World) : Prop where
  own : w.ownsRow B 61 3 (.slice (some ⟨g, 0, none⟩) n cap) n (rowH l)
  len : n = l.length
theorem own_lenH {B n : Nat} {v : Value} {l : List HeldM} {w : World} (h : w.ownsRow B 61 3 v n (rowH l)) : n = l.length := by
  have := h.1
  rw [rowH_length] at this
  omega
theorem own_cellsH {B n : Nat} {g cap : Nat} {l : List HeldM} {w : World} (h : w.ownsRow B 61 3 (.slice (some ⟨g, 0, none⟩) n cap) n (rowH l)) : ∃ cur, Bk w g 61 cur ∧ n ≤ cap ∧ cap ≤ maxLen ∧ cur.size = cap * 3 ∧ cur.toList.take (n * 3) = rowH l ∧ B ≤ g := by
  rcases h.2 with ⟨h1, _⟩ | ⟨g', cap', cur, h1, hb, hc, hnc, hm, hs, ht⟩
  · cases h1
  · simp only [Value.slice.injEq, Option.some.injEq, Addr.mk.injEq, and_true, true_and] at h1
    obtain ⟨rfl, rfl⟩ := h1
    exact ⟨cur, hc, hnc, hm, hs, ht, hb⟩
theorem own_cellH {B n : Nat} {g cap i : Nat} {l : List HeldM} {w : World} (h : w.ownsRow B 61 3 (.slice (some ⟨g, 0, none⟩) n cap) n (rowH l)) (hi : i < l.length) (k : Nat) (hk : k < 3) : w.cell? ⟨g, i * 3 + k, none⟩ = (heldV l[i])[k]? := by
  obtain ⟨cur, hb, hn, _, hs, ht, _⟩ := own_cellsH h
  have hl := own_lenH h
  rw [hb.cell, ← rowH_at hi hk, ← ht, List.getElem?_take, if_pos (by omega), Array.getElem?_toList]
/-- The shape of an own row. -/
theorem own_shapeH {B n : Nat} {v : Value} {l : List HeldM} {w : World} (h : w.ownsRow B 61 3 v n (rowH l)) : (v = .slice none 0 0 ∧ l = []) ∨ ∃ g cap, v = .slice (some ⟨g, 0, none⟩) n cap ∧ B ≤ g ∧ g < w.heap.size ∧ n ≤ cap := by
  have hl := own_lenH h
  rcases h.2 with ⟨h1, h2⟩ | ⟨g', cap', cur, h1, hb, hc, hnc, hm, hs, ht⟩
  · exact Or.inl ⟨h1, List.eq_nil_of_length_eq_zero (by omega)⟩
  · refine Or.inr ⟨g', cap', h1, hb, ?_, hnc⟩
    rcases Nat.lt_or_ge g' w.heap.size with h | h
    · exact h
    · rw [Array.getElem?_eq_none h] at hc; cases hc
/-- The blocks of a pager: its box, and its row's. -/
def pS (gp : Nat) (v : Value) : Nat → Prop := fun i => i = gp ∨ v.ownBlock = some i
/-- A pager in memory. -/
structure PgA (B gp : Nat) (room : Int) (l : List HeldM) (v : Value) (w : World) : Prop where
  bk : Bk w gp 56 #[.int .i64 room, v]
  row : w.ownsRow B 61 3 v l.length (rowH l)
  ge : B ≤ gp
  base : B ≤ w.heap.size
theorem PgA.bel {B gp : Nat} {room : Int} {l : List HeldM} {v : Value} {w w' : World} (h : PgA B gp room l v w) (hb : Below w.heap.size w w') : PgA B gp room l v w' := by
  refine ⟨h.bk.bel hb, ⟨h.row.1, ?_⟩, h.ge, Nat.le_trans h.base hb.size⟩
  rcases h.row.2 with h1 | ⟨g, cap, cur, h1, hg, hc, r⟩
  · exact Or.inl h1
  · have hl : g < w.heap.size := by
      rcases Nat.lt_or_ge g w.heap.size with h | h
      · exact h
      · rw [Array.getElem?_eq_none h] at hc; cases hc
    exact Or.inr ⟨g, cap, cur, h1, hg, (hb.block g hl).trans hc, r⟩
theorem PgA.kp {B gp : Nat} {room : Int} {l : List HeldM} {v : Value} {w w' : World} {S S' : Nat → Prop} (h : PgA B gp room l v w) (k : Kp S S' w w') (hS : ∀ i, pS gp v i → ¬ S i) : PgA B gp room l v w' :=
  ⟨k.bk h.bk (hS gp (Or.inl rfl)), k.own h.row (fun i hi => hS i (Or.inr hi)), h.ge, Nat.le_trans h.base k.size⟩
theorem own_tyneH {B n gp g cap : Nat} {l : List HeldM} {w : World} {cs : Array Value} (h : w.ownsRow B 61 3 (.slice (some ⟨g, 0, none⟩) n cap) n (rowH l)) (hb : Bk w gp 56 cs) : g ≠ gp := by
  intro e
  subst e
  obtain ⟨cur, hc, _⟩ := own_cellsH h
  unfold Bk at hb hc
  rw [hc] at hb
  injection hb with hb
  injection hb with _ h2
  revert h2
  decide
theorem bk_set2 {w : World} {g b i : Nat} {t : TypeId} {cs : Array Value} {u : Value} (h : Bk w g t cs) (hne : ¬ g = b) : Bk (w.setCell ⟨b, i, none⟩ u) g t cs := (Below.heap_setCell w ⟨b, i, none⟩ u g hne).trans h
/-- Where the first page is of which p is said; below 0: nowhere. -/
def findZ (p : HeldM → Bool) (l : List HeldM) : Int := Lib.idxBy (fun _ y => p y) l default
theorem findZ_cases (p : HeldM → Bool) (l : List HeldM) : (findZ p l = -1 ∧ ∀ h ∈ l, p h = false) ∨ ∃ (i : Nat) (hi : i < l.length), findZ p l = i ∧ p l[i] = true ∧ ∀ j (hj : j < i), p (l[j]'(by omega)) = false := by
  have gen : ∀ (l : List HeldM) (k : Nat), (Lib.idxByFrom (fun _ y => p y) default l k = -1 ∧ ∀ h ∈ l, p h = false) ∨ ∃ (i : Nat) (hi : i < l.length), Lib.idxByFrom (fun _ y => p y) default l k = ((k + i : Nat) : Int) ∧ p l[i] = true ∧ ∀ j (hj : j < i), p (l[j]'(by omega)) = false := by
    intro l
    induction l with
    | nil => intro k; exact Or.inl ⟨rfl, fun h hh => by cases hh⟩
    | cons y r ih =>
      intro k
      cases hy : p y with
      | true => exact Or.inr ⟨0, by simp, by simp [Lib.idxByFrom, hy], hy, fun j hj => by omega⟩
      | false =>
        rcases ih (k + 1) with ⟨h1, h2⟩ | ⟨i, hi, h1, h2, h3⟩
        · refine Or.inl ⟨by simp only [Lib.idxByFrom, hy]; simpa using h1, fun h hh => ?_⟩
          rcases List.mem_cons.1 hh with rfl | hh
          · exact hy
          · exact h2 h hh
        · refine Or.inr ⟨i + 1, by simp; omega, ?_, by simpa using h2, fun j hj => ?_⟩
          · simp only [Lib.idxByFrom, hy]
            rw [show k + (i + 1) = k + 1 + i by omega]
            simpa using h1
          · cases j with
            | zero => simpa using hy
            | succ j => simpa using h3 j (by omega)
  have := gen l 0
  simp only [Nat.zero_add] at this
  exact this
end Go.Proofs.Ytfbpagbfdccgfaa
