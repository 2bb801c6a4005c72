/- What a call leaves alone: only blocks of a set S have changed. No condition. -/
import Derived.Test.YtfbpagbfdccgfaaMem
import Derived.OwnWalk
namespace Go.Proofs.Ytfbpagbfdccgfaa
open Go.RowKit

/-- From a to w only blocks of S have changed; what belongs to S' and not to S is new. -/
structure Kp (S S' : Nat → Prop) (a w : World) : Prop where
  os : w.os = a.os
  tape : w.tape = a.tape
  output : w.output = a.output
  size : a.heap.size ≤ w.heap.size
  block : ∀ i, i < a.heap.size → ¬ S i → w.heap[i]? = a.heap[i]?
  news : ∀ i, S' i → S i ∨ a.heap.size ≤ i
section
variable {S S' S'' : Nat → Prop} {a b c w w' : World}
theorem Kp.refl (S : Nat → Prop) (w : World) : Kp S S w w := ⟨rfl, rfl, rfl, Nat.le_refl _, fun _ _ _ => rfl, fun _ h => .inl h⟩
theorem Kp.trans (h : Kp S S' a b) (k : Kp S' S'' b c) : Kp S S'' a c :=
  ⟨k.os.trans h.os, k.tape.trans h.tape, k.output.trans h.output, Nat.le_trans h.size k.size,
    fun i hi hn => (k.block i (Nat.lt_of_lt_of_le hi h.size) (fun hs => (h.news i hs).elim hn (fun hge => by omega))).trans (h.block i hi hn),
    fun i hi => (k.news i hi).elim (h.news i) (fun hge => .inr (Nat.le_trans h.size hge))⟩
theorem Kp.below (h : Kp S S' a w) {B : Nat} (hS : ∀ i, S i → B ≤ i) (hB : B ≤ a.heap.size) : Below B a w :=
  ⟨h.os, h.tape, h.output, h.size, fun i hi => h.block i (Nat.lt_of_lt_of_le hi hB) (fun hs => by have := hS i hs; omega)⟩
theorem Kp.bk (h : Kp S S' a w) {k : Nat} {t : TypeId} {cs : Array Value} (hb : Bk a k t cs) (hk : ¬ S k) : Bk w k t cs := (h.block k hb.lt hk).trans hb
theorem Kp.far (h : Kp S S' a w) {k : Nat} (hl : k < a.heap.size) (hk : ¬ S k) : ¬ S' k := fun hs => (h.news k hs).elim hk (fun hge => by omega)
theorem Kp.of_grown {g : Nat} (h : a.grownBy w (some g)) (hg : S g) : Kp S S a w :=
  ⟨h.os, h.tape, h.output, h.size, fun i hi hn => h.block i hi (fun e => hn (by injection e with e; exact e ▸ hg)), fun _ hs => .inl hs⟩
theorem Kp.of_bel (h : Below a.heap.size a w) (S : Nat → Prop) : Kp S S a w :=
  ⟨h.os, h.tape, h.output, h.size, fun i hi _ => h.block i hi, fun _ hs => .inl hs⟩
theorem Kp.of_below {B : Nat} (h : Below B a w) (hS : ∀ i, B ≤ i → i < a.heap.size → S i) : Kp S S a w :=
  ⟨h.os, h.tape, h.output, h.size, fun i hi hn => by
    rcases Nat.lt_or_ge i B with hl | hg
    · exact h.block i hl
    · exact absurd (hS i hg hi) hn, fun _ hs => .inl hs⟩
theorem Kp.alloc (h : Kp S S' a w) (o : Obj) : Kp S S' a (w.alloc o) :=
  ⟨h.os, h.tape, h.output, Nat.le_trans h.size (by simp), fun i hi hn => (Below.heap_alloc w o i (Nat.lt_of_lt_of_le hi h.size)).trans (h.block i hi hn), h.news⟩
theorem Kp.drew (h : Kp S S' a w) : Kp S S' a w.drew := ⟨h.os, h.tape, h.output, h.size, h.block, h.news⟩
theorem Kp.drewN (h : Kp S S' a w) (n : Nat) : Kp S S' a (w.drewN n) := ⟨h.os, h.tape, h.output, h.size, h.block, h.news⟩
theorem Kp.setCell (h : Kp S S' a w) {p : Addr} (hp : S p.block ∨ a.heap.size ≤ p.block) (u : Value) : Kp S S' a (w.setCell p u) :=
  ⟨h.os, h.tape, h.output, by simpa [World.setCell] using h.size, fun i hi hn => (Below.heap_setCell w p u i (by
    rintro rfl
    rcases hp with hp | hp
    · exact hn hp
    · omega)).trans (h.block i hi hn), h.news⟩
theorem Kp.mono (h : Kp S S' a w) {R R' : Nat → Prop} (hS : ∀ i, S i → R i) (hS' : ∀ i, R' i → S' i ∨ R i ∨ a.heap.size ≤ i) : Kp R R' a w :=
  ⟨h.os, h.tape, h.output, h.size, fun i hi hn => h.block i hi (fun hs => hn (hS i hs)), fun i hi => by
    rcases hS' i hi with h1 | h1 | h1
    · exact (h.news i h1).elim (fun h2 => .inl (hS i h2)) .inr
    · exact .inl h1
    · exact .inr h1⟩
theorem Kp.own (h : Kp S S' a w) {base : Nat} {e : TypeId} {z : Nat} {v : Value} {n : Nat} {xs : List Value} (ho : a.ownsRow base e z v n xs) (hv : ∀ k, v.ownBlock = some k → ¬ S k) : w.ownsRow base e z v n xs := by
  refine ⟨ho.1, ?_⟩
  rcases ho.2 with h0 | ⟨g, cap, cur, hv1, hb, hg, hr⟩
  · exact .inl h0
  · subst hv1
    refine .inr ⟨g, cap, cur, rfl, hb, ?_, hr⟩
    have hl : g < a.heap.size := by
      rcases Nat.lt_or_ge g a.heap.size with hl | hge
      · exact hl
      · rw [Array.getElem?_eq_none hge] at hg; cases hg
    exact (h.block g hl (hv g rfl)).trans hg
theorem Kp.seg (h : Kp S S' a w) {A : Option Addr} {xs : List Value} (hs : Seg a A xs) (hA : ∀ p, A = some p → ¬ S p.block) : Seg w A xs := fun hn => by
  obtain ⟨b, off, rfl, hb, hc⟩ := hs hn
  refine ⟨b, off, rfl, Nat.lt_of_lt_of_le hb h.size, fun i hi => ?_⟩
  rw [← hc i hi]
  exact World.cell?_of_block (h.block b hb (hA _ rfl))
theorem Kp.cell (h : Kp S S' a w) {b o : Nat} (hl : b < a.heap.size) (hb : ¬ S b) : w.cell? ⟨b, o, none⟩ = a.cell? ⟨b, o, none⟩ := World.cell?_of_block (h.block b hl hb)
theorem Kp.frozen (h : Kp S S' a w) {b o : Nat} (hl : b < a.heap.size) (hb : ¬ S b) : w.frozen? ⟨b, o, none⟩ = a.frozen? ⟨b, o, none⟩ := World.frozen?_of_block (h.block b hl hb)
end
end Go.Proofs.Ytfbpagbfdccgfaa
