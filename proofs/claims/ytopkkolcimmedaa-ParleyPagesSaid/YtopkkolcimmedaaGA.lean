/- What a call leaves alone: only blocks of a set S have changed. No condition. A block's cells with values written in. No program. The pages at hand as data, and in memory. No program but for the types' numbers. slices.Delete of one page out of a row of one's own. Condition: the place lies in the row. Where a page is in the pager, and a page taken out. Condition: the pager lies in memory. The library's sort of whole numbers at this program, on a row of one's own. Condition: the row is one's own. What a call of the pager comes to, as data; what a call leaves. No program but for the types' numbers. -/
import Derived.Test.YtopkkolcimmedaaMem
import Derived.OwnWalk
import Derived.Lib.SlBy
import Derived.Test.YtopkkolcimmedaaProg
import Derived.WalkKit
import Derived.WalkLawsBesides
import Derived.Deep.RegionLaw
import Derived.Shelf.RegionOpenPlain
import Derived.Deep.LoopGhost
import Derived.Lib.Walk
import Derived.Sort.WalkB12
import Derived.Lib.SliceRun
import Derived.Laws.AppendOwn
import Derived.Shelf.SlLaysH0
import Derived.Shelf.SlicesQ.IndexFunc
import Derived.BigQuiet
import Derived.Deep.QuietTactic
import Derived.Deep.CutBlock
import Derived.Deep.DeepCutAuto
import Derived.Shelf.Sort.Plain
import Derived.Shelf.Slices.In.SortNone
import Derived.Lib.OwnBridge
import Derived.Test.YtopkkolcimmedaaStA
import Derived.Maps.AppendAt
namespace Go.Proofs.Ytopkkolcimmedaa
open Go.RowKit

/-- From a to w only blocks of S have changed; what belongs to S' and not to S is new. -/
structure Kp (S S' : Nat → Prop) (a w : World) : Prop where
  os : w.os = a.os
  tape : w.tape = a.tape
  output : w.output = a.output
  size : a.heap.size ≤ w.heap.size
  block : ∀ i, i < a.heap.size → ¬ S i → w.heap[i]? = a.heap[i]?
  news : ∀ i, S' i → S i ∨ a.heap.size ≤ i
section
variable {S S' S'' : Nat → Prop} {a b c w w' : World}
theorem Kp.refl (S : Nat → Prop) (w : World) : Kp S S w w := ⟨rfl, rfl, rfl, Nat.le_refl _, fun _ _ _ => rfl, fun _ h => .inl h⟩
theorem Kp.trans (h : Kp S S' a b) (k : Kp S' S'' b c) : Kp S S'' a c :=
  ⟨k.os.trans h.os, k.tape.trans h.tape, k.output.trans h.output, Nat.le_trans h.size k.size,
    fun i hi hn => (k.block i (Nat.lt_of_lt_of_le hi h.size) (fun hs => (h.news i hs).elim hn (fun hge => by omega))).trans (h.block i hi hn),
    fun i hi => (k.news i hi).elim (h.news i) (fun hge => .inr (Nat.le_trans h.size hge))⟩
theorem Kp.below (h : Kp S S' a w) {B : Nat} (hS : ∀ i, S i → B ≤ i) (hB : B ≤ a.heap.size) : Below B a w :=
  ⟨h.os, h.tape, h.output, h.size, fun i hi => h.block i (Nat.lt_of_lt_of_le hi hB) (fun hs => by have := hS i hs; omega)⟩
theorem Kp.bk (h : Kp S S' a w) {k : Nat} {t : TypeId} {cs : Array Value} (hb : Bk a k t cs) (hk : ¬ S k) : Bk w k t cs := (h.block k hb.lt hk).trans hb
theorem Kp.far (h : Kp S S' a w) {k : Nat} (hl : k < a.heap.size) (hk : ¬ S k) : ¬ S' k := fun hs => (h.news k hs).elim hk (fun hge => by omega)
theorem Kp.of_grown {g : Nat} (h : a.grownBy w (some g)) (hg : S g) : Kp S S a w :=
  ⟨h.os, h.tape, h.output, h.size, fun i hi hn => h.block i hi (fun e => hn (by injection e with e; exact e ▸ hg)), fun _ hs => .inl hs⟩
theorem Kp.of_bel (h : Below a.heap.size a w) (S : Nat → Prop) : Kp S S a w :=
  ⟨h.os, h.tape, h.output, h.size, fun i hi _ => h.block i hi, fun _ hs => .inl hs⟩
theorem Kp.of_below {B : Nat} (h : Below B a w) (hS : ∀ i, B ≤ i → i < a.heap.size → S i) : Kp S S a w :=
  ⟨h.os, h.tape, h.output, h.size, fun i hi hn => by
    rcases Nat.lt_or_ge i B with hl | hg
    · exact h.block i hl
    · exact absurd (hS i hg hi) hn, fun _ hs => .inl hs⟩
theorem Kp.alloc (h : Kp S S' a w) (o : Obj) : Kp S S' a (w.alloc o) :=
  ⟨h.os, h.tape, h.output, Nat.le_trans h.size (by simp), fun i hi hn => (Below.heap_alloc w o i (Nat.lt_of_lt_of_le hi h.size)).trans (h.block i hi hn), h.news⟩
theorem Kp.drew (h : Kp S S' a w) : Kp S S' a w.drew := ⟨h.os, h.tape, h.output, h.size, h.block, h.news⟩
theorem Kp.drewN (h : Kp S S' a w) (n : Nat) : Kp S S' a (w.drewN n) := ⟨h.os, h.tape, h.output, h.size, h.block, h.news⟩
theorem Kp.setCell (h : Kp S S' a w) {p : Addr} (hp : S p.block ∨ a.heap.size ≤ p.block) (u : Value) : Kp S S' a (w.setCell p u) :=
  ⟨h.os, h.tape, h.output, by simpa [World.setCell] using h.size, fun i hi hn => (Below.heap_setCell w p u i (by
    rintro rfl
    rcases hp with hp | hp
    · exact hn hp
    · omega)).trans (h.block i hi hn), h.news⟩
theorem Kp.mono (h : Kp S S' a w) {R R' : Nat → Prop} (hS : ∀ i, S i → R i) (hS' : ∀ i, R' i → S' i ∨ R i ∨ a.heap.size ≤ i) : Kp R R' a w :=
  ⟨h.os, h.tape, h.output, h.size, fun i hi hn => h.block i hi (fun hs => hn (hS i hs)), fun i hi => by
    rcases hS' i hi with h1 | h1 | h1
    · exact (h.news i h1).elim (fun h2 => .inl (hS i h2)) .inr
    · exact .inl h1
    · exact .inr h1⟩
theorem Kp.own (h : Kp S S' a w) {base : Nat} {e : TypeId} {z : Nat} {v : Value} {n : Nat} {xs : List Value} (ho : a.ownsRow base e z v n xs) (hv : ∀ k, v.ownBlock = some k → ¬ S k) : w.ownsRow base e z v n xs := by
  refine ⟨ho.1, ?_⟩
  rcases ho.2 with h0 | ⟨g, cap, cur, hv1, hb, hg, hr⟩
  · exact .inl h0
  · subst hv1
    refine .inr ⟨g, cap, cur, rfl, hb, ?_, hr⟩
    have hl : g < a.heap.size := by
      rcases Nat.lt_or_ge g a.heap.size with hl | hge
      · exact hl
      · rw [Array.getElem?_eq_none hge] at hg; cases hg
    exact (h.block g hl (hv g rfl)).trans hg
theorem Kp.seg (h : Kp S S' a w) {A : Option Addr} {xs : List Value} (hs : Seg a A xs) (hA : ∀ p, A = some p → ¬ S p.block) : Seg w A xs := fun hn => by
  obtain ⟨b, off, rfl, hb, hc⟩ := hs hn
  refine ⟨b, off, rfl, Nat.lt_of_lt_of_le hb h.size, fun i hi => ?_⟩
  rw [← hc i hi]
  exact World.cell?_of_block (h.block b hb (hA _ rfl))
theorem Kp.cell (h : Kp S S' a w) {b o : Nat} (hl : b < a.heap.size) (hb : ¬ S b) : w.cell? ⟨b, o, none⟩ = a.cell? ⟨b, o, none⟩ := World.cell?_of_block (h.block b hl hb)
theorem Kp.frozen (h : Kp S S' a w) {b o : Nat} (hl : b < a.heap.size) (hb : ¬ S b) : w.frozen? ⟨b, o, none⟩ = a.frozen? ⟨b, o, none⟩ := World.frozen?_of_block (h.block b hl hb)
end
end Go.Proofs.Ytopkkolcimmedaa
namespace Go.Proofs.Ytopkkolcimmedaa
open Go.RowKit

/-- A block's cells with values written from place o on. -/
def glaid : Array Value → Nat → List Value → Array Value
  | cs, _, [] => cs
  | cs, o, v :: r => glaid (cs.setIfInBounds o v) (o + 1) r
theorem glaid_size : ∀ (vs : List Value) (cs : Array Value) (o : Nat), (glaid cs o vs).size = cs.size
  | [], _, _ => rfl
  | v :: r, cs, o => by rw [glaid, glaid_size r]; simp
theorem glaid_list : ∀ (vs : List Value) (cs : Array Value) (o : Nat), o + vs.length ≤ cs.size → (glaid cs o vs).toList = cs.toList.take o ++ vs ++ cs.toList.drop (o + vs.length)
  | [], cs, o, _ => by simp [glaid]
  | v :: r, cs, o, h => by
    simp only [List.length_cons] at h
    have ho : o < cs.toList.length := by rw [Array.length_toList]; omega
    have e1 : (cs.setIfInBounds o v).toList = cs.toList.take o ++ v :: cs.toList.drop (o + 1) := by
      rw [Array.toList_setIfInBounds, List.set_eq_take_append_cons_drop, if_pos ho]
    have lt : (cs.toList.take o).length = o := by rw [List.length_take]; omega
    rw [glaid, glaid_list r _ (o + 1) (by simp; omega), e1]
    rw [List.take_append, List.drop_append, lt, List.take_of_length_le (l := cs.toList.take o) (by omega), List.drop_of_length_le (l := cs.toList.take o) (by omega)]
    rw [show o + 1 - o = 1 by omega, show o + 1 + r.length - o = r.length + 1 by omega, show o + (v :: r).length = o + 1 + r.length by simp; omega]
    simp [List.drop_drop]
theorem Bk.gputs {g : Nat} {t : TypeId} : ∀ (vs : List Value) (o : Nat) {w : World} {cs : Array Value}, Bk w g t cs → Bk (w.setCells g o vs) g t (glaid cs o vs)
  | [], _, _, _, h => h
  | v :: r, o, _, _, h => Bk.gputs r (o + 1) (h.put o v)
theorem gkeep_puts {g : Nat} : ∀ (vs : List Value) (o : Nat) (w : World) (b : Nat), b ≠ g → (w.setCells g o vs).heap[b]? = w.heap[b]?
  | [], _, _, _, _ => rfl
  | v :: r, o, w, b, h => (gkeep_puts r (o + 1) _ b h).trans (Below.heap_setCell w ⟨g, o, none⟩ v b h)
theorem gbelow_puts {B g : Nat} (hg : B ≤ g) : ∀ (vs : List Value) (o : Nat) (w : World), Below B w (w.setCells g o vs)
  | [], _, w => Below.refl B w
  | v :: r, o, w => ((Below.refl B w).setCell (p := ⟨g, o, none⟩) hg v).trans (gbelow_puts hg r (o + 1) _)

theorem setCells_heap {g : Nat} : ∀ (vs : List Value) (o : Nat) (w : World) (b : Nat), b ≠ g → (w.setCells g o vs).heap[b]? = w.heap[b]? := gkeep_puts
theorem Kp.gputs {S S' : Nat → Prop} {a : World} {g : Nat} (hg : S g) : ∀ (vs : List Value) (o : Nat) {w : World}, Kp S S' a w → Kp S S' a (w.setCells g o vs)
  | [], _, _, h => h
  | v :: r, o, _, h => Kp.gputs hg r (o + 1) (h.setCell (p := ⟨g, o, none⟩) (Or.inl hg) v)
end Go.Proofs.Ytopkkolcimmedaa
namespace Go.Proofs.Ytopkkolcimmedaa
open Go.RowKit

structure HeldM where
  page : Int
  pins : Nat
  turned : Bool
instance : Inhabited HeldM := ⟨⟨0, 0, false⟩⟩
def heldV (h : HeldM) : List Value := [.int .i64 h.page, .int .i64 (h.pins : Int), .bool h.turned]
def rowH (l : List HeldM) : List Value := l.flatMap heldV
theorem heldV_length (h : HeldM) : (heldV h).length = 3 := rfl
theorem rowH_nil : rowH [] = [] := rfl
theorem rowH_cons (h : HeldM) (l : List HeldM) : rowH (h :: l) = heldV h ++ rowH l := rfl
theorem rowH_append (a b : List HeldM) : rowH (a ++ b) = rowH a ++ rowH b := by unfold rowH; rw [List.flatMap_append]
theorem rowH_length (l : List HeldM) : (rowH l).length = l.length * 3 := by
  induction l with
  | nil => rfl
  | cons h l ih => rw [rowH_cons, List.length_append, ih, heldV_length, List.length_cons]; omega
theorem rowH_take (l : List HeldM) (i : Nat) (hi : i ≤ l.length) : (rowH l).take (i * 3) = rowH (l.take i) := by
  have h := rowH_append (l.take i) (l.drop i)
  rw [List.take_append_drop] at h
  rw [h, List.take_append_of_le_length (by rw [rowH_length, List.length_take]; omega), List.take_of_length_le (by rw [rowH_length, List.length_take]; omega)]
theorem rowH_drop (l : List HeldM) (i : Nat) (hi : i ≤ l.length) : (rowH l).drop (i * 3) = rowH (l.drop i) := by
  have h := rowH_append (l.take i) (l.drop i)
  rw [List.take_append_drop] at h
  rw [h, List.drop_append_of_le_length (by rw [rowH_length, List.length_take]; omega), List.drop_of_length_le (by rw [rowH_length, List.length_take]; omega)]
  rfl
theorem rowH_at {l : List HeldM} {i k : Nat} (hi : i < l.length) (hk : k < 3) : (rowH l)[i * 3 + k]? = (heldV l[i])[k]? := by
  rw [← List.getElem?_drop, rowH_drop l i (by omega), List.drop_eq_getElem_cons hi, rowH_cons, List.getElem?_append_left (by rw [heldV_length]; exact hk)]
theorem rowH_one (l : List HeldM) : ∀ u ∈ rowH l, u.oneCell' = true := by
  intro u hu
  unfold rowH at hu
  obtain ⟨h, _, hu⟩ := List.mem_flatMap.1 hu
  unfold heldV at hu
  simp only [List.mem_cons, List.not_mem_nil, or_false] at hu
  rcases hu with rfl | rfl | rfl <;> rfl
/-- A row of pages in memory: where its block lies, and its cells. -/
structure RowG (B g n cap : Nat) (l : List HeldM) (w : World) : Prop where
  own : w.ownsRow B 82 3 (.slice (some ⟨g, 0, none⟩) n cap) n (rowH l)
  len : n = l.length
theorem own_lenH {B n : Nat} {v : Value} {l : List HeldM} {w : World} (h : w.ownsRow B 82 3 v n (rowH l)) : n = l.length := by
  have := h.1
  rw [rowH_length] at this
  omega
theorem own_cellsH {B n : Nat} {g cap : Nat} {l : List HeldM} {w : World} (h : w.ownsRow B 82 3 (.slice (some ⟨g, 0, none⟩) n cap) n (rowH l)) : ∃ cur, Bk w g 82 cur ∧ n ≤ cap ∧ cap ≤ maxLen ∧ cur.size = cap * 3 ∧ cur.toList.take (n * 3) = rowH l ∧ B ≤ g := by
  rcases h.2 with ⟨h1, _⟩ | ⟨g', cap', cur, h1, hb, hc, hnc, hm, hs, ht⟩
  · cases h1
  · simp only [Value.slice.injEq, Option.some.injEq, Addr.mk.injEq, and_true, true_and] at h1
    obtain ⟨rfl, rfl⟩ := h1
    exact ⟨cur, hc, hnc, hm, hs, ht, hb⟩
theorem own_cellH {B n : Nat} {g cap i : Nat} {l : List HeldM} {w : World} (h : w.ownsRow B 82 3 (.slice (some ⟨g, 0, none⟩) n cap) n (rowH l)) (hi : i < l.length) (k : Nat) (hk : k < 3) : w.cell? ⟨g, i * 3 + k, none⟩ = (heldV l[i])[k]? := by
  obtain ⟨cur, hb, hn, _, hs, ht, _⟩ := own_cellsH h
  have hl := own_lenH h
  rw [hb.cell, ← rowH_at hi hk, ← ht, List.getElem?_take, if_pos (by omega), Array.getElem?_toList]
/-- The shape of an own row. -/
theorem own_shapeH {B n : Nat} {v : Value} {l : List HeldM} {w : World} (h : w.ownsRow B 82 3 v n (rowH l)) : (v = .slice none 0 0 ∧ l = []) ∨ ∃ g cap, v = .slice (some ⟨g, 0, none⟩) n cap ∧ B ≤ g ∧ g < w.heap.size ∧ n ≤ cap := by
  have hl := own_lenH h
  rcases h.2 with ⟨h1, h2⟩ | ⟨g', cap', cur, h1, hb, hc, hnc, hm, hs, ht⟩
  · exact Or.inl ⟨h1, List.eq_nil_of_length_eq_zero (by omega)⟩
  · refine Or.inr ⟨g', cap', h1, hb, ?_, hnc⟩
    rcases Nat.lt_or_ge g' w.heap.size with h | h
    · exact h
    · rw [Array.getElem?_eq_none h] at hc; cases hc
/-- The blocks of a pager: its box, and its row's. -/
def pS (gp : Nat) (v : Value) : Nat → Prop := fun i => i = gp ∨ v.ownBlock = some i
/-- A pager in memory. -/
structure PgA (B gp : Nat) (room : Int) (l : List HeldM) (v : Value) (w : World) : Prop where
  bk : Bk w gp 53 #[.int .i64 room, v]
  row : w.ownsRow B 82 3 v l.length (rowH l)
  ge : B ≤ gp
  base : B ≤ w.heap.size
theorem PgA.bel {B gp : Nat} {room : Int} {l : List HeldM} {v : Value} {w w' : World} (h : PgA B gp room l v w) (hb : Below w.heap.size w w') : PgA B gp room l v w' := by
  refine ⟨h.bk.bel hb, ⟨h.row.1, ?_⟩, h.ge, Nat.le_trans h.base hb.size⟩
  rcases h.row.2 with h1 | ⟨g, cap, cur, h1, hg, hc, r⟩
  · exact Or.inl h1
  · have hl : g < w.heap.size := by
      rcases Nat.lt_or_ge g w.heap.size with h | h
      · exact h
      · rw [Array.getElem?_eq_none h] at hc; cases hc
    exact Or.inr ⟨g, cap, cur, h1, hg, (hb.block g hl).trans hc, r⟩
theorem PgA.kp {B gp : Nat} {room : Int} {l : List HeldM} {v : Value} {w w' : World} {S S' : Nat → Prop} (h : PgA B gp room l v w) (k : Kp S S' w w') (hS : ∀ i, pS gp v i → ¬ S i) : PgA B gp room l v w' :=
  ⟨k.bk h.bk (hS gp (Or.inl rfl)), k.own h.row (fun i hi => hS i (Or.inr hi)), h.ge, Nat.le_trans h.base k.size⟩
theorem own_tyneH {B n gp g cap : Nat} {l : List HeldM} {w : World} {cs : Array Value} (h : w.ownsRow B 82 3 (.slice (some ⟨g, 0, none⟩) n cap) n (rowH l)) (hb : Bk w gp 53 cs) : g ≠ gp := by
  intro e
  subst e
  obtain ⟨cur, hc, _⟩ := own_cellsH h
  unfold Bk at hb hc
  rw [hc] at hb
  injection hb with hb
  injection hb with _ h2
  revert h2
  decide
theorem bk_set2 {w : World} {g b i : Nat} {t : TypeId} {cs : Array Value} {u : Value} (h : Bk w g t cs) (hne : ¬ g = b) : Bk (w.setCell ⟨b, i, none⟩ u) g t cs := (Below.heap_setCell w ⟨b, i, none⟩ u g hne).trans h
/-- Where the first page is of which p is said; below 0: nowhere. -/
def findZ (p : HeldM → Bool) (l : List HeldM) : Int := Lib.idxBy (fun _ y => p y) l default
theorem findZ_cases (p : HeldM → Bool) (l : List HeldM) : (findZ p l = -1 ∧ ∀ h ∈ l, p h = false) ∨ ∃ (i : Nat) (hi : i < l.length), findZ p l = i ∧ p l[i] = true ∧ ∀ j (hj : j < i), p (l[j]'(by omega)) = false := by
  have gen : ∀ (l : List HeldM) (k : Nat), (Lib.idxByFrom (fun _ y => p y) default l k = -1 ∧ ∀ h ∈ l, p h = false) ∨ ∃ (i : Nat) (hi : i < l.length), Lib.idxByFrom (fun _ y => p y) default l k = ((k + i : Nat) : Int) ∧ p l[i] = true ∧ ∀ j (hj : j < i), p (l[j]'(by omega)) = false := by
    intro l
    induction l with
    | nil => intro k; exact Or.inl ⟨rfl, fun h hh => by cases hh⟩
    | cons y r ih =>
      intro k
      cases hy : p y with
      | true => exact Or.inr ⟨0, by simp, by simp [Lib.idxByFrom, hy], hy, fun j hj => by omega⟩
      | false =>
        rcases ih (k + 1) with ⟨h1, h2⟩ | ⟨i, hi, h1, h2, h3⟩
        · refine Or.inl ⟨by simp only [Lib.idxByFrom, hy]; simpa using h1, fun h hh => ?_⟩
          rcases List.mem_cons.1 hh with rfl | hh
          · exact hy
          · exact h2 h hh
        · refine Or.inr ⟨i + 1, by simp; omega, ?_, by simpa using h2, fun j hj => ?_⟩
          · simp only [Lib.idxByFrom, hy]
            rw [show k + (i + 1) = k + 1 + i by omega]
            simpa using h1
          · cases j with
            | zero => simpa using hy
            | succ j => simpa using h3 j (by omega)
  have := gen l 0
  simp only [Nat.zero_add] at this
  exact this
end Go.Proofs.Ytopkkolcimmedaa
namespace Go.Proofs.Ytopkkolcimmedaa
open Go.RowKit

theorem info_held : (Try.prog.info? 82).map (fun i => (i.zero, i.size, i.bytes)) = some (some (.agg #[.int .i64 0, .int .i64 0, .bool false]), 3, 24) := by kernel_rfl
theorem take_app2 {α : Type} (a b c : List α) (n : Nat) (h : n = a.length + b.length) : (a ++ b ++ c).take n = a ++ b := by
  subst h
  rw [← List.length_append, List.take_left]
theorem run_clear_one (w : World) (t e ty : TypeId) (z : Value) (zs : List Value) (ht : Try.prog.underlying t = some (.slice e)) (hv : ∀ w, (zeroValue e).run Try.prog w = .ok z w) (hz : z.cells.toList = zs) (h1 : ∀ u ∈ zs, u.oneCell' = true) (b o c : Nat)
    (hc : ∀ j, j < zs.length → (w.cell? ⟨b, o + j, none⟩).isSome = true) (hf : ∀ j, j < zs.length → w.frozen? ⟨b, o + j, none⟩ = false) :
    (Builtin.clear_ #[t] ty #[.slice (some ⟨b, o, none⟩) 1 c]).run Try.prog w = .ok (.tuple #[]) (w.setCells b o zs) := by
  have hzc : (Builtin.zeroCells z.cells 1).toList = zs := by
    rw [← hz]
    simp [Builtin.zeroCells]
    apply List.ext_getElem
    · simp
    · intro i h1 h2
      simp at h1 h2
      simp only [List.getElem_map, List.getElem_range, Array.getElem_toList]
      rw [Nat.mod_eq_of_lt h2, getElem!_pos z.cells i h2]
  have hst := run_storeCells_cells (P := Try.prog) b o zs 0 w (by simpa using hc) (by simpa using hf) h1
  simp only [Nat.add_zero] at hst
  simp [Builtin.clear_, run_underlying ht, hv, hzc, hst]
set_option maxRecDepth 100000 in
set_option maxHeartbeats 4000000 in
theorem delH_any (B g n cap i : Nat) (l : List HeldM) (w : World) (hown : w.ownsRow B 82 3 (.slice (some ⟨g, 0, none⟩) n cap) n (rowH l)) (hi : i < n) (y : Int) (hy : y = (i : Int) + 1) :
    Calls Try.prog 58 #[.slice (some ⟨g, 0, none⟩) n cap, .int .i64 (i : Nat), .int .i64 y] w fun e w' => e = .returned (.slice (some ⟨g, 0, none⟩) (n - 1) cap) ∧ w'.ownsRow B 82 3 (.slice (some ⟨g, 0, none⟩) (n - 1) cap) (n - 1) (rowH (l.eraseIdx i)) ∧ ∀ S : Nat → Prop, S g → Kp S S w w' := by
  subst hy
  obtain ⟨i0, hi0, _, hz3, _⟩ := info_parts info_held
  obtain ⟨cur, hb, hnc, hcm, hcs, htk, hBg⟩ := own_cellsH hown
  have hln := own_lenH hown
  have hmx : cap ≤ 9223372036854775807 := by unfold maxLen at hcm; omega
  obtain ⟨news, hnews⟩ : ∃ news, news = rowH (l.drop (i + 1)) := ⟨_, rfl⟩
  have hlen : news.length = (n - (i + 1)) * 3 := by rw [hnews, rowH_length, List.length_drop, ← hln]
  obtain ⟨A, hA, hsrc⟩ : ∃ A : Addr, (if cap = i + 1 then some (⟨g, 0, none⟩ : Addr) else some ⟨g, (i + 1) * 3, none⟩) = some A ∧ Hid (∀ t u, news[t]? = some u → w.drew.cell? (A.add t) = some u) := by
    by_cases h : cap = i + 1
    · refine ⟨⟨g, 0, none⟩, by simp [h], fun t u hu => ?_⟩
      have h0 : news.length = 0 := by rw [hlen]; omega
      rw [List.length_eq_zero_iff.1 h0] at hu
      simp at hu
    · refine ⟨⟨g, (i + 1) * 3, none⟩, by simp [h], fun t u hu => ?_⟩
      have ht : t < (n - (i + 1)) * 3 := by
        have := (List.getElem?_eq_some_iff.1 hu).1
        rwa [hlen] at this
      rw [Addr.add_lit]
      show w.cell? _ = some u
      rw [hb.cell, ← hu, hnews, ← rowH_drop l (i + 1) (by omega), List.getElem?_drop, ← htk, List.getElem?_take, if_pos (by omega), Array.getElem?_toList]
  have s2 : Hid (∀ u ∈ news, u.oneCell' = true) := by rw [hnews]; exact rowH_one _
  have hcell : ∀ t, t < cap * 3 → (w.cell? ⟨g, t, none⟩).isSome = true := fun t ht => by rw [hb.cell]; simp [hcs, ht]
  have s3 : Hid (∀ t, t < news.length → (w.drew.cell? ⟨g, 0 + i * 3 + t, none⟩).isSome = true ∧ w.drew.frozen? ⟨g, 0 + i * 3 + t, none⟩ = false) := by
    intro t ht
    rw [hlen] at ht
    rw [Nat.zero_add]
    exact ⟨hcell _ (by omega), hb.frozen _⟩
  obtain ⟨W1, hW1⟩ : ∃ W1, W1 = w.drew.setCells g (0 + i * 3) news := ⟨_, rfl⟩
  have hb1 : Bk W1 g 82 (glaid cur (i * 3) news) := by rw [hW1, Nat.zero_add]; exact Bk.gputs news (i * 3) (w := w.drew) hb
  have hcl : ∀ ty, (Builtin.clear_ #[51] ty #[.slice (some ⟨g, (n - 1) * 3, none⟩) 1 (cap - (n - 1))]).run Try.prog W1 = .ok (.tuple #[]) (W1.setCells g ((n - 1) * 3) [.int .i64 0, .int .i64 0, .bool false]) :=
    fun ty => run_clear_one W1 _ _ ty _ [.int .i64 0, .int .i64 0, .bool false] Try.underlying51 Try.zeroValue82 rfl (by intro u hu; simp at hu; rcases hu with rfl | rfl <;> rfl) g ((n - 1) * 3) _ (fun j hj => by rw [hb1.cell]; simp [glaid_size, hcs]; simp at hj; omega) (fun j _ => hb1.frozen _)
  have hfin := Lib.hid (show (W1.setCells g ((n - 1) * 3) [.int .i64 0, .int .i64 0, .bool false]).ownsRow B 82 3 (.slice (some ⟨g, 0, none⟩) (n - 1) cap) (n - 1) (rowH (l.eraseIdx i)) ∧ ∀ S : Nat → Prop, S g → Kp S S w (W1.setCells g ((n - 1) * 3) [.int .i64 0, .int .i64 0, .bool false]) by
    have hb2 := Bk.gputs [.int .i64 0, .int .i64 0, .bool false] ((n - 1) * 3) hb1
    have he : l.eraseIdx i = l.take i ++ l.drop (i + 1) := List.eraseIdx_eq_take_drop_succ l i
    have hcl2 : cur.toList.length = cap * 3 := by rw [Array.length_toList, hcs]
    refine ⟨⟨by rw [rowH_length, List.length_eraseIdx, if_pos (by omega)]; omega, Or.inr ⟨g, cap, _, rfl, hBg, hb2, by omega, hcm, by rw [glaid_size, glaid_size]; exact hcs, ?_⟩⟩, fun S hS => ?_⟩
    · rw [glaid_list _ _ _ (by rw [glaid_size, hcs]; simp; omega), glaid_list _ _ _ (by rw [hcs, hlen]; omega)]
      have h1 : cur.toList.take (i * 3) = rowH (l.take i) := by
        rw [← rowH_take l i (by omega), ← htk, List.take_take]; congr 1; omega
      have h2 : (cur.toList.take (i * 3) ++ news ++ cur.toList.drop (i * 3 + news.length)).take ((n - 1) * 3) = cur.toList.take (i * 3) ++ news := by
        refine take_app2 _ _ _ _ ?_
        rw [h1, rowH_length, List.length_take, hlen]; omega
      rw [h2, List.append_assoc, List.take_append_of_le_length (by rw [List.length_append, h1, rowH_length, List.length_take, hlen]; omega), List.take_of_length_le (by rw [List.length_append, h1, rowH_length, List.length_take, hlen]; omega), h1, hnews, he, rowH_append]
    · rw [hW1]
      exact Kp.gputs hS _ _ (Kp.gputs hS _ _ (Kp.refl S w).drew))
  have hW : Hid (W1 = w.drew.setCells g (0 + i * 3) news) := hW1
  have s1 := Lib.hid hlen
  have hic : i ≤ cap := by omega
  have hjc : i + 1 ≤ cap := by omega
  have HLN := Lib.hid hln
  have mixed : Try.prog.follows .mixedOrders = true := by kernel_rfl
  have e1 : i + (n - (i + 1)) = n - 1 := by omega
  have e2 : n - (n - 1) = 1 := by omega
  have e3 : ¬ cap = n - 1 := by omega
  have hI1 : (0 : Int) ≤ (i : Int) + 1 := by omega
  have hI2 : (i : Int) + 1 ≤ (n : Int) := by omega
  clear hW1 hb1 hnews hlen hb hcell htk hcs hown hln
  go_enter Try.func58, Try.ntmps58
  go_wp2_with fail
  go_region_law_o (refine step_append_room rfl (.tmp 22) (.tmp 25) 51 rfl 82 i0 3 Try.underlying51 hi0 hz3 g 0 i cap (by simp [Act.eval, Act.put]) A (n - (i + 1)) (cap - (i + 1)) news (by simp [Act.eval, Act.put]) s1.out hsrc.out s2.out (by omega) s3.out ?_; rw [← hW.out])
  go_wp2
  go_ret
  exact ⟨rfl, hfin.out⟩
end Go.Proofs.Ytopkkolcimmedaa
namespace Go.Proofs.Ytopkkolcimmedaa
open Go.RowKit Go.Shelf Go.Lib

/-- The shelf's numbers and this program's. -/
def iRen : Ren where
  f := fun n => if n = 6 then 43 else n
  t := fun n => if n = 0 then 0 else if n = 3 then 3 else if n = 4 then 4 else if n = 22 then 51 else if n = 23 then 82 else if n = 25 then 87 else n
  g := fun n => n
theorem laysI : SlLaysH0.n6 Try.prog iRen := by
  constructor
  case f6 => exact ⟨Try.f43.name, by kernel_rfl, by kernel_rfl⟩
  all_goals first | kernel_rfl | (intro w; kernel_rfl)
def encH (h : HeldM) : Value := .agg (heldV h).toArray
theorem isPage_any (h : HeldM) (pb : Nat) (p : Int) (w : World) (hp : w.cell? ⟨pb, 0, none⟩ = some (.int .i64 p)) (hl : pb < w.heap.size) :
    Calls Try.prog 57 #[encH h, .pointer (some ⟨pb, 0, none⟩)] w fun e w' => e = .returned (.bool (h.page == p)) ∧ Below w.heap.size w w' := by
  obtain ⟨a, b, c⟩ := h
  have HA := Lib.hid ((Below.refl w.heap.size w).alloc (Nat.le_refl _) (.cells #[.int .i64 a, .int .i64 (b : Int), .bool c] 82))
  have hp2 : (w.alloc (.cells #[.int .i64 a, .int .i64 (b : Int), .bool c] 82)).cell? ⟨pb, 0, none⟩ = some (.int .i64 p) := by
    rw [← hp]
    exact World.cell?_of_block (w := w) (a := ⟨pb, 0, none⟩) (HA.out.block pb hl)
  have y0 := (Bk.new w 82 #[.int .i64 a, .int .i64 (b : Int), .bool c]).cell 0
  show Calls Try.prog 57 #[.agg #[.int .i64 a, .int .i64 (b : Int), .bool c], .pointer (some ⟨pb, 0, none⟩)] w fun e w' => e = .returned (.bool (a == p)) ∧ Below w.heap.size w w'
  go_enter Try.func57, Try.ntmps57
  go_wp2_with fail
  go_ret
  exact ⟨rfl, HA.out⟩
theorem isFree_any (h : HeldM) (w : World) :
    Calls Try.prog 44 #[encH h] w fun e w' => e = .returned (.bool (h.pins == 0)) ∧ Below w.heap.size w w' := by
  obtain ⟨a, b, c⟩ := h
  have HA := Lib.hid ((Below.refl w.heap.size w).alloc (Nat.le_refl _) (.cells #[.int .i64 a, .int .i64 (b : Int), .bool c] 82))
  have y0 := (Bk.new w 82 #[.int .i64 a, .int .i64 (b : Int), .bool c]).cell 1
  have e : ((b : Int) == 0) = (b == 0) := by rw [Bool.eq_iff_iff, beq_iff_eq, beq_iff_eq]; omega
  show Calls Try.prog 44 #[.agg #[.int .i64 a, .int .i64 (b : Int), .bool c]] w fun e w' => e = .returned (.bool (b == 0)) ∧ Below w.heap.size w w'
  rw [← e]
  clear e
  go_enter Try.func44, Try.ntmps44
  go_wp2_with fail
  go_ret
  exact ⟨rfl, HA.out⟩
set_option maxRecDepth 100000 in
theorem index_any (F : Nat) (lb : Array Value) (p : HeldM → Bool) (eg : ∀ args w, (callFunc F args).run Try.prog w = .ok (.enter F args) w) (B n : Nat) (v : Value) (l : List HeldM) (w : World) (hown : w.ownsRow B 82 3 v n (rowH l)) (hn : n ≤ 9223372036854775807) (hp : PredBelow Try.prog F lb encH p w) :
    Calls Try.prog 43 #[v, .func (.func F) #[] lb] w fun e w' => e = .returned (.int .i64 (findZ p l)) ∧ Below w.heap.size w w' := by
  rcases own_shapeH hown with ⟨rfl, rfl⟩ | ⟨g, cap, rfl, hB, hg, hc⟩
  · clear hown hp eg
    go_enter Try.func43, Try.ntmps43
    go_wp2
    go_loop [8] (fun i => i = .int .i64 0) (fun _ => 0)
    case atStart => rfl
    case round =>
      subst hrel
      go_wp2
      go_ret
      exact ⟨rfl, Below.refl _ _⟩
  · have hl := own_lenH hown
    have h := AnyQ.slices_IndexFunc laysI 3 (by intro w; kernel_rfl) (by intro w; kernel_rfl) heldV (fun _ => rfl) p F lb eg g 0 n cap l w hp (by omega) hn hg (fun j hj i u hu => by
      have hi : i < 3 := (List.getElem?_eq_some_iff.1 hu).1
      rw [Nat.zero_add, own_cellH hown hj i hi, ← hu, getElem!_pos l j hj])
    rw [List.take_of_length_le (by omega)] at h
    exact h
set_option maxRecDepth 100000 in
theorem gfind_any (B gp : Nat) (room : Int) (l : List HeldM) (v : Value) (w : World) (h : PgA B gp room l v w) (hl : l.length ≤ 9223372036854775807) (page : Int) :
    Calls Try.prog 41 #[.pointer (some ⟨gp, 0, none⟩), .int .i64 page] w fun e w' => e = .returned (.int .i64 (findZ (fun h => h.page == page) l)) ∧ Below w.heap.size w w' := by
  have al := (Below.refl w.heap.size w).alloc (Nat.le_refl _) (.cells #[.int .i64 page] 3)
  have HA := Lib.hid al
  have h1 := h.bel al
  have yb := (Bk.new w 3 #[.int .i64 page]).cell 0
  have y1 : (w.alloc (.cells #[.int .i64 page] 3)).cell? ⟨gp, 1, none⟩ = some v := h1.bk.cell 1
  have CI := Lib.hid (index_any 57 #[.pointer (some ⟨w.heap.size, 0, none⟩)] (fun h => h.page == page) (enters_of Try.func57 (by kernel_rfl) rfl) B l.length v l _ h1.row hl (fun W x hb => by
    have hc : W.cell? ⟨w.heap.size, 0, none⟩ = some (.int .i64 page) := by
      rw [World.cell?_of_block (hb.block w.heap.size (by simp))]
      exact yb
    have hlt : w.heap.size < W.heap.size := Nat.lt_of_lt_of_le (by simp) hb.size
    exact (isPage_any x w.heap.size page W hc hlt).mono (fun e w' h => ⟨h.1, hb.trans (h.2.mono hb.size)⟩)))
  rcases own_shapeH h.row with ⟨rfl, rfl⟩ | ⟨g, cap, rfl, _⟩
  all_goals
    clear h h1 al yb
    go_enter Try.func41, Try.ntmps41
    go_wp2_with fail
    refine CI.out.mono ?_
    rintro e w1 ⟨rfl, hb1⟩
    have HB := Lib.hid (HA.out.trans (hb1.mono HA.out.size))
    clear hb1
    go_wp2_with fail
    go_ret
    exact ⟨rfl, HB.out⟩
theorem pS_bel {gp : Nat} {v : Value} {w w' : World} (hb : Below w.heap.size w w') : Kp (pS gp v) (pS gp v) w w' := Kp.of_bel hb _
set_option maxRecDepth 100000 in
set_option maxHeartbeats 1000000 in
theorem remove_any (B gp : Nat) (room : Int) (l : List HeldM) (v : Value) (w : World) (h : PgA B gp room l v w) (i : Nat) (hi : i < l.length) (hl : l.length ≤ 1000000) :
    Calls Try.prog 42 #[.pointer (some ⟨gp, 0, none⟩), .int .i64 (i : Nat)] w fun e w' => e = .returned (.agg #[.int .i64 l[i].page, .int .i64 (l[i].pins : Int), .bool l[i].turned]) ∧ ∃ v', PgA B gp room (l.eraseIdx i) v' w' ∧ Kp (pS gp v) (pS gp v') w w' ∧ v'.ownBlock = v.ownBlock := by
  obtain ⟨W1, hW1⟩ : ∃ W1, W1 = w.alloc (.cells #[.int .i64 0, .int .i64 0, .bool false] 82) := ⟨_, rfl⟩
  obtain ⟨W2, hW2⟩ : ∃ W2, W2 = W1.alloc (.cells #[.int .i64 l[i].page, .int .i64 (l[i].pins : Int), .bool l[i].turned] 82) := ⟨_, rfl⟩
  have a1 : Below w.heap.size w W1 := by rw [hW1]; exact (Below.refl _ _).alloc (Nat.le_refl _) _
  have hs1 : W1.heap.size = w.heap.size + 1 := by rw [hW1]; simp
  have a2 : Below w.heap.size w W2 := by rw [hW2]; exact a1.alloc (by omega) _
  have hs2 : W2.heap.size = w.heap.size + 2 := by rw [hW2]; simp [hs1]
  have h1 := h.bel a1
  have h2 := h.bel a2
  have R2 : Bk W2 w.heap.size 82 #[.int .i64 0, .int .i64 0, .bool false] := by rw [hW2, hW1]; exact (Bk.new w _ _).alloc _
  have X2 : Bk W2 (w.heap.size + 1) 82 #[.int .i64 l[i].page, .int .i64 (l[i].pins : Int), .bool l[i].turned] := by rw [hW2, ← hs1]; exact Bk.new W1 _ _
  rcases own_shapeH h.row with ⟨rfl, hl0⟩ | ⟨g, cap, rfl, hBg, hg, hc⟩
  · subst hl0; simp at hi
  · have y1 : W1.cell? ⟨gp, 1, none⟩ = some (.slice (some ⟨g, 0, none⟩) l.length cap) := h1.bk.cell 1
    have z1 : W2.cell? ⟨gp, 1, none⟩ = some (.slice (some ⟨g, 0, none⟩) l.length cap) := h2.bk.cell 1
    have c0 : W1.cell? ⟨g, i * 3, none⟩ = some (.int .i64 l[i].page) := by have := own_cellH h1.row hi 0 (by omega); rw [Nat.add_zero] at this; exact this
    have c1 : W1.cell? ⟨g, i * 3 + 1, none⟩ = some (.int .i64 (l[i].pins : Int)) := own_cellH h1.row hi 1 (by omega)
    have c2 : W1.cell? ⟨g, i * 3 + 2, none⟩ = some (.bool l[i].turned) := own_cellH h1.row hi 2 (by omega)
    have D := Lib.hid (delH_any B g l.length cap i l W2 h2.row hi ((i : Int) + 1) rfl)
    have HH := Lib.hid h2
    have HR := Lib.hid R2
    have HX := Lib.hid X2
    have HA := Lib.hid a2
    have HGP := Lib.hid (show gp < w.heap.size from h.bk.lt)
    have HGE := Lib.hid h.ge
    have HW1 := Lib.hid hW1
    have HW2 := Lib.hid hW2
    have HLE := Lib.hid (show (l.eraseIdx i).length = l.length - 1 by rw [List.length_eraseIdx, if_pos hi])
    have HNE := Lib.hid (own_tyneH h.row h.bk)
    have HBS := Lib.hid h.base
    have i1 : (0 : Int) ≤ (i : Int) := by omega
    have i2 : (i : Int) < (l.length : Int) := by omega
    obtain ⟨s, hs⟩ : ∃ s, s = l[i] := ⟨_, rfl⟩
    rw [← hs] at c0 c1 c2 HX HW2 ⊢
    obtain ⟨pa, pb, pc⟩ := s
    dsimp only at c0 c1 c2 HX HW2 ⊢
    clear hs h h1 h2 R2 X2 a1 a2 hW1 hW2
    obtain ⟨n, hn⟩ : ∃ n, n = l.length := ⟨_, rfl⟩
    rw [← hn] at y1 z1 D hi hl i2 hc HH
    have HN := Lib.hid hn
    clear hn
    go_enter Try.func42, Try.ntmps42
    go_upto_region 1 with fail
    rw [← HW1.out]
    go_upto_region 2 with fail
    rw [← HW2.out]
    go_wp2_with fail
    refine D.out.mono ?_
    rintro e w3 ⟨rfl, ho, hk⟩
    have K3 := hk (pS gp (.slice (some ⟨g, 0, none⟩) n cap)) (Or.inr rfl)
    have K4 := hk (fun i => i = g) rfl
    have hgg : g ≠ gp := HNE.out
    have b3 := K4.bk HH.out.bk (fun e => hgg e.symm)
    have r3 := K4.bk HR.out (by omega)
    have x3 := K4.bk HX.out (by omega)
    have q1 : w3.cell? ⟨gp, 1, none⟩ = some (.slice (some ⟨g, 0, none⟩) n cap) := b3.cell 1
    have q2 := b3.frozen 1
    have t0 := x3.cell 0
    have t1 := x3.cell 1
    have t2 := x3.cell 2
    have u0 := r3.cell 0
    have u1 := r3.cell 1
    have u2 := r3.cell 2
    have f0 := r3.frozen 0
    have f1 := r3.frozen 1
    have f2 := r3.frozen 2
    have n1 : ¬ gp = w.heap.size := by have := HGP.out; omega
    have n2 : ¬ gp = w.heap.size + 1 := by have := HGP.out; omega
    have n3 : ¬ w.heap.size = gp := by have := HGP.out; omega
    have n4 : ¬ w.heap.size + 1 = gp := by have := HGP.out; omega
    have FIN := Lib.hid (show PgA B gp room (l.eraseIdx i) (.slice (some ⟨g, 0, none⟩) (n - 1) cap) ((((w3.setCell ⟨gp, 1, none⟩ (.slice (some ⟨g, 0, none⟩) (n - 1) cap)).setCell ⟨w.heap.size, 0, none⟩ (.int .i64 pa)).setCell ⟨w.heap.size, 1, none⟩ (.int .i64 (pb : Int))).setCell ⟨w.heap.size, 2, none⟩ (.bool pc)) ∧ Kp (pS gp (.slice (some ⟨g, 0, none⟩) n cap)) (pS gp (.slice (some ⟨g, 0, none⟩) (n - 1) cap)) w ((((w3.setCell ⟨gp, 1, none⟩ (.slice (some ⟨g, 0, none⟩) (n - 1) cap)).setCell ⟨w.heap.size, 0, none⟩ (.int .i64 pa)).setCell ⟨w.heap.size, 1, none⟩ (.int .i64 (pb : Int))).setCell ⟨w.heap.size, 2, none⟩ (.bool pc)) by
      have hw : w.heap.size ≤ w3.heap.size := Nat.le_trans HA.out.size K4.size
      have kk : Kp (fun i => i = gp ∨ i = w.heap.size) (fun i => i = gp ∨ i = w.heap.size) w3 ((((w3.setCell ⟨gp, 1, none⟩ (.slice (some ⟨g, 0, none⟩) (n - 1) cap)).setCell ⟨w.heap.size, 0, none⟩ (.int .i64 pa)).setCell ⟨w.heap.size, 1, none⟩ (.int .i64 (pb : Int))).setCell ⟨w.heap.size, 2, none⟩ (.bool pc)) :=
        ((((Kp.refl _ w3).setCell (p := ⟨gp, 1, none⟩) (Or.inl (Or.inl rfl)) _).setCell (p := ⟨w.heap.size, 0, none⟩) (Or.inl (Or.inr rfl)) _).setCell (p := ⟨w.heap.size, 1, none⟩) (Or.inl (Or.inr rfl)) _).setCell (p := ⟨w.heap.size, 2, none⟩) (Or.inl (Or.inr rfl)) _
      refine ⟨⟨?_, ?_, HGE.out, Nat.le_trans (Nat.le_trans HBS.out hw) kk.size⟩, ?_⟩
      · have hb4 := b3.put 1 (.slice (some ⟨g, 0, none⟩) (n - 1) cap)
        exact bk_set2 (bk_set2 (bk_set2 hb4 n1) n1) n1
      · rw [HLE.out, ← HN.out]
        refine kk.own ho ?_
        intro k hk2 hk3
        have : g = k := by simpa [Value.ownBlock] using hk2
        subst this
        rcases hk3 with hk3 | hk3
        · exact hgg hk3
        · omega
      · have k1 : Kp (pS gp (.slice (some ⟨g, 0, none⟩) n cap)) (pS gp (.slice (some ⟨g, 0, none⟩) n cap)) w w3 := (Kp.of_bel HA.out _).trans K3
        have k2 := (((k1.setCell (p := ⟨gp, 1, none⟩) (Or.inl (Or.inl rfl)) (.slice (some ⟨g, 0, none⟩) (n - 1) cap)).setCell (p := ⟨w.heap.size, 0, none⟩) (Or.inr (Nat.le_refl _)) (.int .i64 pa)).setCell (p := ⟨w.heap.size, 1, none⟩) (Or.inr (Nat.le_refl _)) (.int .i64 (pb : Int))).setCell (p := ⟨w.heap.size, 2, none⟩) (Or.inr (Nat.le_refl _)) (.bool pc)
        exact k2.mono (fun _ h => h) (fun _ h => Or.inl h))
    clear ho hk K3 K4 b3 r3 x3
    go_wp2_with fail
    exact bodyPost_ret (v := .agg #[.int .i64 pa, .int .i64 (pb : Int), .bool pc]) (by simp [results, Try.results42, go_sem, u0, u1, u2, n1, n2, n3, n4]) rfl ⟨rfl, _, FIN.out.1, FIN.out.2, rfl⟩
end Go.Proofs.Ytopkkolcimmedaa
namespace Go.Proofs.Ytopkkolcimmedaa
open Go.RowKit Go.Shelf Go.Lib Go.Sort

/-- The shelf's numbers and this program's. -/
def gRen : Ren where
  f := fun n => if n = 125 then 56 else if n = 128 then 74 else if n = 129 then 75 else if n = 189 then 40 else if n = 215 then 81 else if n = 216 then 71 else if n = 257 then 55 else if n = 294 then 65 else if n = 295 then 66 else if n = 296 then 67 else if n = 297 then 68 else if n = 298 then 69 else if n = 299 then 70 else if n = 300 then 72 else if n = 301 then 73 else if n = 328 then 76 else if n = 329 then 77 else if n = 330 then 78 else if n = 331 then 79 else if n = 332 then 80 else if n = 343 then 82 else n
  t := fun n => if n = 0 then 0 else if n = 3 then 3 else if n = 4 then 4 else if n = 5 then 5 else if n = 9 then 9 else if n = 28 then 28 else if n = 46 then 88 else if n = 51 then 111 else if n = 53 then 113 else if n = 131 then 54 else if n = 182 then 103 else if n = 183 then 104 else if n = 218 then 114 else if n = 222 then 118 else if n = 228 then 120 else if n = 229 then 121 else n
  g := fun n => n
set_option maxRecDepth 100000 in
theorem laysG : Lays.n189 Try.prog gRen := by
  constructor <;> first | kernel_rfl | (intro w; kernel_rfl)
/-- Whole numbers, rising. -/
def sortI (l : List Int) : List Int := l.mergeSort fun x y => decide (x ≤ y)
def intG (l : List Int) : List Value := l.map (fun x => Value.int .i64 x)
theorem intG_length (l : List Int) : (intG l).length = l.length := by simp [intG]
theorem intG_one (l : List Int) : ∀ u ∈ intG l, u.oneCell' = true := by
  intro u hu
  obtain ⟨s, _, rfl⟩ := List.mem_map.1 hu
  rfl
theorem sortI_length (l : List Int) : (sortI l).length = l.length := by unfold sortI; simp
theorem below_grown (w : World) (os : Array Obj) : Go.RowKit.Below w.heap.size w (grow w os) := ⟨rfl, rfl, rfl, by simp, fun k hk => heap_grow_old _ _ hk⟩
theorem kept_bel {w w' : World} {base size n : Nat} {e : TypeId} {v : Value} {xs : List Value} (h : w.ownsRow base e size v n xs) (hb : Go.RowKit.Below w.heap.size w w') : w'.ownsRow base e size v n xs := by
  refine ⟨h.1, ?_⟩
  rcases h.2 with hn | ⟨g, cap, cur, rfl, hg, hgg, rest⟩
  · exact .inl hn
  · refine .inr ⟨g, cap, cur, rfl, hg, ?_, rest⟩
    have hl : g < w.heap.size := by
      rcases Nat.lt_or_ge g w.heap.size with h | h
      · exact h
      · rw [Array.getElem?_eq_none h] at hgg; cases hgg
    exact (hb.block g hl).trans hgg
set_option maxRecDepth 100000 in
theorem sort_any (l : List Int) (B n : Nat) (v : Value) (hz : n ≤ 1000000) (w : World) (hB : B ≤ w.heap.size) (hown : w.ownsRow B 3 1 v n (intG l)) :
    Calls Try.prog 40 #[v] w fun e w' => e = .returned (.tuple #[]) ∧ w'.ownsRow B 3 1 v n (intG (sortI l)) ∧ Kp (fun i => v.ownBlock = some i) (fun i => v.ownBlock = some i) w w' := by
  have hn : n = l.length := by have := hown.1; rw [intG_length] at this; omega
  rcases hown.2 with ⟨h1, h0⟩ | hsome
  · subst h1
    have hl : l = [] := List.eq_nil_of_length_eq_zero (by omega)
    subst hl
    refine (Any.slices_Sort_int_none laysG none 0 w).mono ?_
    rintro e w' ⟨rfl, rfl⟩
    exact ⟨rfl, by simpa [sortI] using hown, Kp.refl _ _⟩
  · obtain ⟨g, cap, cur, rfl, _⟩ := hsome
    obtain ⟨g', cap', e0, hg, hlt, hnc, hmax, hlen, hH⟩ := holds_of_ownsRow (enc := Value.int .i64) (zs := l) hown (by intro e; cases e)
    injection e0 with e1 _ e3
    injection e1 with e1
    injection e1 with e1
    subst e1; subst e3
    have C := Any.slices_Sort_int laysG g 0 cap l w hH hlt (by omega)
    rw [← hn] at C
    refine C.mono ?_
    rintro e w' ⟨rfl, q, os, rfl⟩
    have ho := ownsRow_putRow (enc := Value.int .i64) (q := q) (ys := sortI l) (k := n) hown (by rw [sortI_length, hn]) (Nat.le_refl _)
    rw [List.take_of_length_le (by rw [sortI_length, hn]; exact Nat.le_refl _)] at ho
    refine ⟨rfl, kept_bel ho (below_grown _ os), ?_⟩
    have kp : Kp (fun i => Value.ownBlock (.slice (some ⟨g, 0, none⟩) n cap) = some i) (fun i => Value.ownBlock (.slice (some ⟨g, 0, none⟩) n cap) = some i) w (putRow (Value.int .i64) (Sort.ahead w q) g 0 (sortI l).toArray) :=
      ⟨rfl, rfl, rfl, by simp [putRow, mapBlock, Sort.ahead], fun k hk hn => by
        have hgk : g ≠ k := fun e => hn (by rw [e]; rfl)
        simp [putRow, mapBlock, Sort.ahead, Array.getElem?_modify, hgk], fun _ h => .inl h⟩
    exact kp.trans (Kp.of_bel (below_grown _ os) _)
end Go.Proofs.Ytopkkolcimmedaa
namespace Go.Proofs.Ytopkkolcimmedaa
open Go.RowKit

structure ActM where
  err : Int
  hit : Bool
  out : Int
  wrote : List Int
def refM (e : Int) : ActM := ⟨e, false, -1, []⟩
def isP (page : Int) : HeldM → Bool := fun h => h.page == page
def isF : HeldM → Bool := fun h => h.pins == 0
def pinM (room : Int) (l : List HeldM) (page : Int) : List HeldM × ActM :=
  if 0 ≤ findZ (isP page) l then (l.eraseIdx (findZ (isP page) l).toNat ++ [⟨(l.getD (findZ (isP page) l).toNat default).page, (l.getD (findZ (isP page) l).toNat default).pins + 1, (l.getD (findZ (isP page) l).toNat default).turned⟩], ⟨0, true, -1, []⟩)
  else if room ≤ (l.length : Int) then
    if findZ isF l < 0 then (l, refM 5)
    else (l.eraseIdx (findZ isF l).toNat ++ [⟨page, 1, false⟩], ⟨0, false, (l.getD (findZ isF l).toNat default).page, if (l.getD (findZ isF l).toNat default).turned then [(l.getD (findZ isF l).toNat default).page] else []⟩)
  else (l ++ [⟨page, 1, false⟩], ⟨0, false, -1, []⟩)
/-- What a call leaves: the answer, the pager, and nothing else changed. -/
def DoP (B gp : Nat) (room : Int) (v : Value) (w : World) (r : List HeldM × ActM) (e : Ending) (w' : World) : Prop :=
  ∃ W v', e = .returned (.agg #[.int .i64 r.2.err, .bool r.2.hit, .int .i64 r.2.out, W]) ∧ w'.ownsRow w.heap.size 3 1 W r.2.wrote.length (intG r.2.wrote) ∧ PgA B gp room r.1 v' w' ∧ Kp (pS gp v) (pS gp v') w w'
/-- What holds while a page is put behind the others. -/
structure PnS (B gp : Nat) (room : Int) (l : List HeldM) (v0 v : Value) (h : HeldM) (hit : Bool) (out : Int) (W : Value) (ws : List Int) (w wr : World) : Prop where
  pg : PgA B gp room l v wr
  kp : Kp (pS gp v0) (pS gp v) w wr
  res : Bk wr w.heap.size 40 #[.int .i64 0, .bool false, .int .i64 0, .slice none 0 0]
  act : Bk wr (w.heap.size + 1) 40 #[.int .i64 0, .bool hit, .int .i64 out, W]
  hb : Bk wr (w.heap.size + 2) 82 #[.int .i64 h.page, .int .i64 (h.pins : Int), .bool h.turned]
  wrote : wr.ownsRow w.heap.size 3 1 W ws.length (intG ws)
  lt : gp < w.heap.size
  low : ∀ k, v.ownBlock = some k → k < w.heap.size
  base : B ≤ w.heap.size
theorem PnS.bel {B gp : Nat} {room : Int} {l : List HeldM} {v0 v : Value} {h : HeldM} {hit : Bool} {out : Int} {W : Value} {ws : List Int} {w wr w' : World} (s : PnS B gp room l v0 v h hit out W ws w wr) (hb : Below wr.heap.size wr w') : PnS B gp room l v0 v h hit out W ws w w' :=
  ⟨s.pg.bel hb, s.kp.trans (Kp.of_bel hb _), s.res.bel hb, s.act.bel hb, s.hb.bel hb, kept_bel s.wrote hb, s.lt, s.low, s.base⟩
theorem own_block_ne {w : World} {B n gp size : Nat} {e t : TypeId} {v : Value} {xs : List Value} {cs : Array Value} (h : w.ownsRow B e size v n xs) (hb : Bk w gp t cs) (hte : e ≠ t) : v.ownBlock ≠ some gp := by
  intro hv
  rcases h.2 with ⟨h1, _⟩ | ⟨g, cap, cur, h1, _, hc, _⟩
  · subst h1; cases hv
  · subst h1
    have : g = gp := by simpa [Value.ownBlock] using hv
    subst this
    unfold Bk at hb
    rw [hc] at hb
    injection hb with hb
    injection hb with _ h2
    exact hte h2
theorem own_setB {w : World} {B n gp size i : Nat} {e : TypeId} {v u : Value} {xs : List Value} (h : w.ownsRow B e size v n xs) (hn : v.ownBlock ≠ some gp) : (w.setCell ⟨gp, i, none⟩ u).ownsRow B e size v n xs := by
  refine ⟨h.1, h.2.imp id ?_⟩
  rintro ⟨g, cap, cur, rfl, hb, hc, r⟩
  exact ⟨g, cap, cur, rfl, hb, (Below.heap_setCell w ⟨gp, i, none⟩ u g (fun e => hn (by have e1 : g = gp := e; rw [e1]; rfl))).trans hc, r⟩
section
variable {B gp : Nat} {room : Int} {l : List HeldM} {v0 v : Value} {h : HeldM} {hit : Bool} {out : Int} {W : Value} {ws : List Int} {w wr : World}
/-- A cell of the answer's box written. -/
theorem PnS.act2 (s : PnS B gp room l v0 v h hit out W ws w wr) (i : Nat) (u : Value) {hit2 : Bool} {out2 : Int} {W2 : Value} {ws2 : List Int} (hc : (#[.int .i64 0, .bool hit, .int .i64 out, W] : Array Value).setIfInBounds i u = #[.int .i64 0, .bool hit2, .int .i64 out2, W2]) (hw : wr.ownsRow w.heap.size 3 1 W2 ws2.length (intG ws2)) : PnS B gp room l v0 v h hit2 out2 W2 ws2 w (wr.setCell ⟨w.heap.size + 1, i, none⟩ u) := by
  have hlt := s.lt
  have n1 : ¬ gp = w.heap.size + 1 := by omega
  have nv : v.ownBlock ≠ some (w.heap.size + 1) := fun e => by have := s.low _ e; omega
  have ha := s.act.put i u
  rw [hc] at ha
  exact ⟨⟨bk_set2 s.pg.bk n1, own_setB s.pg.row nv, s.pg.ge, by simpa [World.setCell] using s.pg.base⟩, s.kp.setCell (p := ⟨w.heap.size + 1, i, none⟩) (Or.inr (by show w.heap.size ≤ w.heap.size + 1; omega)) _, bk_set2 s.res (by omega), ha, bk_set2 s.hb (by omega), own_setB hw (own_block_ne hw s.act (by decide)), s.lt, s.low, s.base⟩
/-- The page's box written whole. -/
theorem PnS.box (s : PnS B gp room l v0 v h hit out W ws w wr) (h2 : HeldM) : PnS B gp room l v0 v h2 hit out W ws w (((wr.setCell ⟨w.heap.size + 2, 0, none⟩ (.int .i64 h2.page)).setCell ⟨w.heap.size + 2, 1, none⟩ (.int .i64 (h2.pins : Int))).setCell ⟨w.heap.size + 2, 2, none⟩ (.bool h2.turned)) := by
  have hlt := s.lt
  have n1 : ¬ gp = w.heap.size + 2 := by omega
  have nv : v.ownBlock ≠ some (w.heap.size + 2) := fun e => by have := s.low _ e; omega
  have nw := own_block_ne s.wrote s.hb (by decide)
  exact ⟨⟨bk_set2 (bk_set2 (bk_set2 s.pg.bk n1) n1) n1, own_setB (own_setB (own_setB s.pg.row nv) nv) nv, s.pg.ge, by simpa [World.setCell] using s.pg.base⟩,
    ((s.kp.setCell (p := ⟨w.heap.size + 2, 0, none⟩) (Or.inr (by show w.heap.size ≤ w.heap.size + 2; omega)) _).setCell (p := ⟨w.heap.size + 2, 1, none⟩) (Or.inr (by show w.heap.size ≤ w.heap.size + 2; omega)) _).setCell (p := ⟨w.heap.size + 2, 2, none⟩) (Or.inr (by show w.heap.size ≤ w.heap.size + 2; omega)) _,
    bk_set2 (bk_set2 (bk_set2 s.res (by omega)) (by omega)) (by omega), bk_set2 (bk_set2 (bk_set2 s.act (by omega)) (by omega)) (by omega), ((s.hb.put 0 (.int .i64 h2.page)).put 1 (.int .i64 (h2.pins : Int))).put 2 (.bool h2.turned),
    own_setB (own_setB (own_setB s.wrote nw) nw) nw, s.lt, s.low, s.base⟩
/-- The pager's row turned by a call. -/
theorem PnS.turn (s : PnS B gp room l v0 v h hit out W ws w wr) {l2 : List HeldM} {v2 : Value} {w2 : World} (hp : PgA B gp room l2 v2 w2) (hk : Kp (pS gp v) (pS gp v2) wr w2) (hb : v2.ownBlock = v.ownBlock) (hW : W = .slice none 0 0) : PnS B gp room l2 v0 v2 h hit out W ws w w2 := by
  have hlt := s.lt
  have nb : ∀ k, w.heap.size ≤ k → ¬ pS gp v k := fun k hk e => by
    rcases e with e | e
    · omega
    · have := s.low _ e; omega
  refine ⟨hp, s.kp.trans hk, hk.bk s.res (nb _ (Nat.le_refl _)), hk.bk s.act (nb _ (by omega)), hk.bk s.hb (nb _ (by omega)), ?_, s.lt, fun k e => s.low k (by rw [← hb]; exact e), s.base⟩
  subst hW
  rcases s.wrote.2 with ⟨_, h0⟩ | ⟨g, cap, cur, h1, _⟩
  · rw [h0]
    have hx := s.wrote.1
    rw [h0] at hx
    have : intG ws = [] := List.eq_nil_of_length_eq_zero (by simpa using hx)
    rw [this]
    exact World.ownsRow_nil _ _ _ _
  · cases h1
end
/-- Each operation's fact, while the row grows. -/
def puF (B gp : Nat) (room : Int) (l : List HeldM) (h : HeldM) (K : Value) (wr : World) (j : Nat) (v _u : Value) (w : World) : Prop := match j with
  | 0 => v = .pointer (some ⟨gp, 0, none⟩)
  | 1 => v = .pointer (some ⟨gp, 0, none⟩)
  | 2 => v = .pointer (some ⟨gp, 0, none⟩)
  | 3 => v = .pointer (some ⟨gp, 1, none⟩)
  | 4 => v = K
  | 5 => v = .agg #[.int .i64 h.page, .int .i64 (h.pins : Int), .bool h.turned]
  | 6 => ∃ g, v = .slice (some ⟨g, 0, none⟩) 1 1 ∧ B ≤ g ∧ g ≠ gp ∧ K.ownBlock ≠ some g ∧ Bk w g 82 #[.int .i64 h.page, .int .i64 (h.pins : Int), .bool h.turned]
  | 7 => w.ownsRow B 82 3 v (l.length + 1) (rowH l ++ heldV h) ∧ (v.ownBlock = K.ownBlock ∨ ∃ g, v.ownBlock = some g ∧ wr.heap.size ≤ g)
  | 8 => v = .pointer (some ⟨gp, 0, none⟩)
  | 9 => v = .pointer (some ⟨gp, 1, none⟩)
  | 10 => ∃ v', Bk w gp 53 #[.int .i64 room, v'] ∧ w.ownsRow B 82 3 v' (l.length + 1) (rowH l ++ heldV h) ∧ (v'.ownBlock = K.ownBlock ∨ ∃ g, v'.ownBlock = some g ∧ wr.heap.size ≤ g)
  | _ => True
def puH (B gp : Nat) (room : Int) (l : List HeldM) (K : Value) (m : Nat) (w : World) : Prop := match m with
  | 7 => w.ownsRow B 82 3 K l.length (rowH l)
  | 10 => Bk w gp 53 #[.int .i64 room, K]
  | _ => True
/-- What holds throughout. -/
structure puG (B gp : Nat) (K : Value) (wr w : World) : Prop where
  kp : Kp (pS gp K) (pS gp K) wr w
  lt : gp < w.heap.size
  kl : ∀ b, K.ownBlock = some b → B ≤ b ∧ b < w.heap.size
  base : B ≤ w.heap.size
section
variable {B gp : Nat} {room : Int} {l : List HeldM} {h : HeldM} {K : Value} {wr w w' : World}
theorem puG.next (s : puG B gp K wr w) (hb : Below w.heap.size w w') : puG B gp K wr w' := ⟨s.kp.trans (Kp.of_bel hb _), Nat.lt_of_lt_of_le s.lt hb.size, fun b e => ⟨(s.kl b e).1, Nat.lt_of_lt_of_le (s.kl b e).2 hb.size⟩, Nat.le_trans s.base hb.size⟩
theorem puG.app (s : puG B gp K wr w) (k : w.grownBy w' K.ownBlock) : puG B gp K wr w' := by
  refine ⟨s.kp.trans ?_, Nat.lt_of_lt_of_le s.lt k.size, fun b e => ⟨(s.kl b e).1, Nat.lt_of_lt_of_le (s.kl b e).2 k.size⟩, Nat.le_trans s.base k.size⟩
  exact ⟨k.os, k.tape, k.output, k.size, fun i hi hn => k.block i hi (fun e => hn (Or.inr e.symm)), fun _ hs => Or.inl hs⟩
theorem puG.set (s : puG B gp K wr w) (i : Nat) (u : Value) : puG B gp K wr (w.setCell ⟨gp, i, none⟩ u) :=
  ⟨s.kp.setCell (p := ⟨gp, i, none⟩) (Or.inl (Or.inl rfl)) u, by simpa [World.setCell] using s.lt, fun b e => ⟨(s.kl b e).1, by simpa [World.setCell] using (s.kl b e).2⟩, by simpa [World.setCell] using s.base⟩
theorem own_grown {w w' : World} {g : Nat} {t : TypeId} {cs : Array Value} {row : Option Nat} (hg : w.grownBy w' row) (hb : Bk w g t cs) (hn : row ≠ some g) : Bk w' g t cs := (hg.block g hb.lt (fun e => hn e.symm)).trans hb
theorem own_shapeS {w : World} {B n size : Nat} {e : TypeId} {v : Value} {xs : List Value} (h : w.ownsRow B e size v n xs) : ∃ A c, v = .slice A n c ∧ n ≤ c := by
  rcases h.2 with ⟨rfl, rfl⟩ | ⟨g, cap, cur, rfl, _, _, hc, _⟩
  · exact ⟨_, _, rfl, Nat.le_refl _⟩
  · exact ⟨_, _, rfl, hc⟩
theorem puF_bel (hb : Below w.heap.size w w') : ∀ j u u', puF B gp room l h K wr j u u' w → puF B gp room l h K wr j u u' w' := by
  intro j u u' s
  unfold puF at *
  split at s <;> first | exact s | exact ⟨kept_bel s.1 hb, s.2⟩ | skip
  · obtain ⟨g, hv, h0, h1, h2, h3⟩ := s
    exact ⟨g, hv, h0, h1, h2, h3.bel hb⟩
  · obtain ⟨v', h1, h2, h3⟩ := s
    exact ⟨v', h1.bel hb, kept_bel h2 hb, h3⟩
theorem puH_bel (hb : Below w.heap.size w w') : ∀ m, puH B gp room l K m w → puH B gp room l K m w' := by
  intro m s
  unfold puH at *
  split at s <;> first | exact s | exact s.bel hb | exact kept_bel s hb
theorem puF_app (k : w.grownBy w' K.ownBlock) : ∀ j, j ≠ 7 → j ≠ 10 → ∀ u u', puF B gp room l h K wr j u u' w → puF B gp room l h K wr j u u' w' := by
  intro j h7 h10 u u' s
  unfold puF at *
  split at s <;> first | exact s | exact absurd rfl h7 | exact absurd rfl h10 | skip
  · obtain ⟨g, hv, h0, h1, h2, h3⟩ := s
    exact ⟨g, hv, h0, h1, h2, own_grown k h3 h2⟩
theorem puH_app (k : w.grownBy w' K.ownBlock) (h3 : K.ownBlock ≠ some gp) : ∀ m, m ≠ 7 → puH B gp room l K m w → puH B gp room l K m w' := by
  intro m h7 s
  unfold puH at *
  split at s <;> first | exact s | exact absurd rfl h7 | exact own_grown k s h3
theorem puF_set {cs : Array Value} (hb : Bk w gp 53 cs) (i : Nat) (u0 : Value) : ∀ j, j ≠ 10 → ∀ u u', puF B gp room l h K wr j u u' w → puF B gp room l h K wr j u u' (w.setCell ⟨gp, i, none⟩ u0) := by
  intro j h10 u u' s
  unfold puF at *
  split at s <;> first | exact s | exact absurd rfl h10 | skip
  · obtain ⟨g, hv, h0, h1, h2, h3⟩ := s
    exact ⟨g, hv, h0, h1, h2, bk_set2 h3 h1⟩
  · exact ⟨own_setB s.1 (own_block_ne s.1 hb (by decide)), s.2⟩
theorem puH_set {cs : Array Value} (hb : Bk w gp 53 cs) (i : Nat) (u0 : Value) : ∀ m, m ≠ 10 → puH B gp room l K m w → puH B gp room l K m (w.setCell ⟨gp, i, none⟩ u0) := by
  intro m h10 s
  unfold puH at *
  split at s <;> first | exact s | exact absurd rfl h10 | exact own_setB s (own_block_ne s hb (by decide))
end
end Go.Proofs.Ytopkkolcimmedaa
