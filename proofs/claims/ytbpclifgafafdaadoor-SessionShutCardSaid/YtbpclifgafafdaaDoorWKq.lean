/- Nothing changed but one block; no condition. -/
import Derived.Test.YtbpclifgafafdaaDoorTwo
import Derived.Test.YtbpclifgafafdaaDoorBts
namespace Go.Proofs.YtbpclifgafafdaaDoor
open Go.RowKit

/-- Nothing that was there has changed but for one block. -/
structure Kept1 (g2 : Nat) (w w' : World) : Prop where
  size : w.heap.size ≤ w'.heap.size
  block : ∀ b, b < w.heap.size → b ≠ g2 → w'.heap[b]? = w.heap[b]?
theorem Kept1.of_below {g2 : Nat} {w w' : World} (h : Below w.heap.size w w') : Kept1 g2 w w' := ⟨h.size, fun b hb _ => h.block b hb⟩
theorem Kept1.trans {g2 : Nat} {w w' w'' : World} (h : Kept1 g2 w w') (k : Kept1 g2 w' w'') : Kept1 g2 w w'' := ⟨Nat.le_trans h.size k.size, fun b hb hn => (k.block b (Nat.lt_of_lt_of_le hb h.size) hn).trans (h.block b hb hn)⟩
theorem Kept1.set (w : World) (g i : Nat) (v : Value) : Kept1 g w (w.setCell ⟨g, i, none⟩ v) := ⟨by simp, fun b _ hn => Below.heap_setCell w ⟨g, i, none⟩ v b hn⟩
theorem bk_kept {g2 g : Nat} {t : TypeId} {cs : Array Value} {w w' : World} (h : Bk w g t cs) (hg : g ≠ g2) (k : Kept1 g2 w w') : Bk w' g t cs := (k.block g h.lt hg).trans h
/-- Nothing that was there has changed but for block q. -/
structure KQ (q : Nat) (w w' : World) : Prop where
  bel : Below q w w'
  kept : Kept1 q w w'
theorem KQ.refl (q : Nat) (w : World) : KQ q w w := ⟨Below.refl _ _, Kept1.of_below (Below.refl _ _)⟩
theorem KQ.trans {q : Nat} {w w' w'' : World} (h : KQ q w w') (k : KQ q w' w'') : KQ q w w'' := ⟨h.bel.trans k.bel, h.kept.trans k.kept⟩
theorem KQ.of_below {q : Nat} {w w' : World} (hq : q < w.heap.size) (h : Below w.heap.size w w') : KQ q w w' := ⟨h.mono (by omega), Kept1.of_below h⟩
theorem KQ.set (q i : Nat) (w : World) (v : Value) : KQ q w (w.setCell ⟨q, i, none⟩ v) := ⟨(Below.refl q w).setCell (p := ⟨q, i, none⟩) (Nat.le_refl q) v, Kept1.set w q i v⟩
theorem KQ.alloc {q : Nat} {w w' : World} (h : KQ q w w') (hq : q < w.heap.size) (o : Obj) : KQ q w (w'.alloc o) := h.trans (KQ.of_below (Nat.lt_of_lt_of_le hq h.kept.size) ((Below.refl _ _).alloc (Nat.le_refl _) o))
theorem Seg.kept {w w' : World} {q : Nat} {A : Option Addr} {xs : List Value} (h : Seg w A xs) (k : Kept1 q w w') (ha : ∀ a, A = some a → a.block ≠ q) : Seg w' A xs := fun hn => by
  obtain ⟨b, off, rfl, hl, hc⟩ := h hn
  refine ⟨b, off, rfl, Nat.lt_of_lt_of_le hl k.size, fun i hi => ?_⟩
  rw [World.cell?_of_block (w := w) (a := ⟨b, off + i, none⟩) (k.block b hl (ha _ rfl))]
  exact hc i hi
theorem KQ.drewN {q : Nat} {w w' : World} (h : KQ q w w') (n : Nat) : KQ q w (w'.drewN n) := ⟨below_drewN h.bel n, ⟨h.kept.size, h.kept.block⟩⟩
end Go.Proofs.YtbpclifgafafdaaDoor
