/- A box of pieces in memory as plain data; what a call that changes one block leaves as it was. No condition. -/
import Derived.Test.YthjbkgappjpanaaDoorSAwake
namespace Go.Proofs.YthjbkgappjpanaaDoor
open Go.RowKit

/-- A box's cells: how many pieces, their sum, which are there, what they hold. -/
def bxC (T sm : Nat) (th : Nat → Bool) (dt : Nat → ByteArray) (i : Nat) : Value :=
  if i = 0 then .int .i64 (T : Int) else if i = 1 then .int .u32 (sm : Int) else if i < 102 then .bool (th (i - 2)) else .string (dt (i - 102))
def Bx (w : World) (g : Nat) (F : Nat → Value) : Prop := ∃ cs, Bk w g 38 cs ∧ cs.size = 202 ∧ ∀ i, i < 202 → cs[i]? = some (F i)
def updF (F : Nat → Value) (i : Nat) (v : Value) : Nat → Value := fun k => if k = i then v else F k
section
variable {w w' : World} {g : Nat} {F : Nat → Value}
theorem Bx.lt (h : Bx w g F) : g < w.heap.size := by obtain ⟨cs, hb, _⟩ := h; exact hb.lt
theorem Bx.cell (h : Bx w g F) (i : Nat) (hi : i < 202) : w.cell? ⟨g, i, none⟩ = some (F i) := by
  obtain ⟨cs, hb, _, hc⟩ := h
  rw [hb.cell i, hc i hi]
theorem Bx.frozen (h : Bx w g F) (i : Nat) : w.frozen? ⟨g, i, none⟩ = false := by
  obtain ⟨cs, hb, _⟩ := h
  exact hb.frozen i
theorem Bx.put (h : Bx w g F) (i : Nat) (hi : i < 202) (v : Value) : Bx (w.setCell ⟨g, i, none⟩ v) g (updF F i v) := by
  obtain ⟨cs, hb, hs, hc⟩ := h
  refine ⟨_, hb.put i v, by simpa using hs, fun k hk => ?_⟩
  unfold updF
  rw [Array.getElem?_setIfInBounds]
  by_cases hki : i = k
  · subst hki
    simp [hs, hi]
  · rw [if_neg hki, if_neg (Ne.symm hki), hc k hk]
theorem Bx.kept (h : Bx w g F) (hh : w'.heap[g]? = w.heap[g]?) : Bx w' g F := by
  obtain ⟨cs, hb, hs, hc⟩ := h
  exact ⟨cs, hh.trans hb, hs, hc⟩
theorem Bx.bel (h : Bx w g F) (hb : Below w.heap.size w w') : Bx w' g F := h.kept (hb.block g h.lt)
theorem Bx.congr {F' : Nat → Value} (h : Bx w g F) (he : ∀ i, i < 202 → F i = F' i) : Bx w g F' := by
  obtain ⟨cs, hb, hs, hc⟩ := h
  exact ⟨cs, hb, hs, fun i hi => by rw [hc i hi, he i hi]⟩
end
/-- Nothing that was there has changed but for block g. -/
structure Onl (g : Nat) (w w' : World) : Prop where
  os : w'.os = w.os
  tape : w'.tape = w.tape
  output : w'.output = w.output
  size : w.heap.size ≤ w'.heap.size
  block : ∀ b, b < w.heap.size → b ≠ g → w'.heap[b]? = w.heap[b]?
theorem Onl.refl (g : Nat) (w : World) : Onl g w w := ⟨rfl, rfl, rfl, Nat.le_refl _, fun _ _ _ => rfl⟩
theorem Onl.of_below {g : Nat} {w w' : World} (h : Below w.heap.size w w') : Onl g w w' := ⟨h.os, h.tape, h.output, h.size, fun b hb _ => h.block b hb⟩
theorem Onl.trans {g : Nat} {w w' w'' : World} (h : Onl g w w') (k : Onl g w' w'') : Onl g w w'' :=
  ⟨k.os.trans h.os, k.tape.trans h.tape, k.output.trans h.output, Nat.le_trans h.size k.size, fun b hb hn => (k.block b (Nat.lt_of_lt_of_le hb h.size) hn).trans (h.block b hb hn)⟩
theorem Onl.drew {g : Nat} {w w' : World} (h : Onl g w w') : Onl g w w'.drew := ⟨h.os, h.tape, h.output, h.size, h.block⟩
theorem Onl.drewN {g : Nat} {w w' : World} (h : Onl g w w') (n : Nat) : Onl g w (w'.drewN n) := ⟨h.os, h.tape, h.output, h.size, h.block⟩
theorem Onl.set (w : World) (g i : Nat) (v : Value) : Onl g w (w.setCell ⟨g, i, none⟩ v) := by
  have h := (Below.refl 0 w).setCell (p := ⟨g, i, none⟩) (Nat.zero_le _) v
  exact ⟨h.os, h.tape, h.output, h.size, fun b _ hn => Below.heap_setCell w ⟨g, i, none⟩ v b hn⟩
theorem Onl.below {g B : Nat} {a w w' : World} (h : Onl g w w') (k : Below B a w) (hB : B ≤ g) (hs : B ≤ w.heap.size) : Below B a w' :=
  ⟨h.os.trans k.os, h.tape.trans k.tape, h.output.trans k.output, Nat.le_trans k.size h.size, fun i hi => (h.block i (by omega) (by omega)).trans (k.block i hi)⟩
theorem Onl.cell {g b i : Nat} {w w' : World} (h : Onl g w w') (hb : b < w.heap.size) (hn : b ≠ g) : w'.cell? ⟨b, i, none⟩ = w.cell? ⟨b, i, none⟩ := World.cell?_of_block (h.block b hb hn)
theorem bk_onl {g b : Nat} {t : TypeId} {cs : Array Value} {w w' : World} (h : Bk w b t cs) (k : Onl g w w') (hn : b ≠ g) : Bk w' b t cs := (k.block b h.lt hn).trans h
theorem bx_drewN {w : World} {g : Nat} {F : Nat → Value} (h : Bx w g F) (n : Nat) : Bx (w.drewN n) g F := h
theorem bx_drew {w : World} {g : Nat} {F : Nat → Value} (h : Bx w g F) : Bx w.drew g F := h
end Go.Proofs.YthjbkgappjpanaaDoor
