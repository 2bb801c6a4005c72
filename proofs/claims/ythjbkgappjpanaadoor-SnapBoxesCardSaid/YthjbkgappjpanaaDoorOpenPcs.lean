/- An argument that is a row of pieces, opened. No condition. -/
import Derived.Test.YthjbkgappjpanaaDoorSBoxes
import Derived.Deep.Matrix
import Derived.SizedLaws
import Derived.OpenShut
import Derived.Carry
namespace Go.Proofs.YthjbkgappjpanaaDoor
open Go.ChangeShapes Go.WideShapes Go.ChangeAt Go.RowKit Go.Deep

instance : Inhabited QM := ⟨⟨0, 0, 0, ⟨#[]⟩⟩⟩
/-- One piece's cells, and what they read as. -/
def QCell (W : World) (a : Addr) (o : QM) : Prop := (∀ j, j < 4 → W.cell? (a.add j) = (o.cl)[j]?) ∧ -9223372036854775808 ≤ o.i ∧ o.i ≤ 9223372036854775807
theorem four_of {α : Type} {l : List α} (h : l.length = 4) : ∃ a b c d, l = [a, b, c, d] := by
  match l, h with
  | [a, b, c, d], _ => exact ⟨a, b, c, d, rfl⟩
theorem open_pc {H : Type} {enc : TypeId × Value → H} {P : Program} {W : World} {e : TypeId} {f0 f1 f2 f3 : Field} {n : Nat} {cs : List Value} {D : DataW H} {Pl : List MemPlace} {a : Addr}
    (he : P.underlying e = some (.struct #[f0, f1, f2, f3])) (h0 : P.underlying f0.type = some (.int .i64)) (h1 : P.underlying f1.type = some (.int .i64)) (h2 : P.underlying f2.type = some (.int .u32)) (h3 : P.underlying f3.type = some .string)
    (ce : P.cellsOf e = 4)
    (ho : (#[f0, f1, f2, f3].map fun f => (f.offset, P.cellsOf f.type)) = #[(0, 1), (1, 1), (2, 1), (3, 1)])
    (hcell : ∀ j, j < 4 → W.cell? (a.add j) = cs[j]?) (h : DataW.trod enc P W 0 (fun _ => true) true n e cs = some (D, Pl)) : ∃ o : QM, QCell W a o := by
  obtain ⟨xs, m, _, hx, hcl, hxl, hf⟩ := DataW.trod_struct he h
  rw [ce] at hcl
  obtain ⟨y0, y1, y2, y3, rfl⟩ := four_of hxl
  obtain ⟨c0, c1, c2, c3, rfl⟩ := four_of hcl
  simp only [List.map_toArray, List.map_cons, List.map_nil, Array.mk.injEq, List.cons.injEq, Prod.mk.injEq, and_true] at ho
  obtain ⟨⟨o0, z0⟩, ⟨o1, z1⟩, ⟨o2, z2⟩, ⟨o3, z3⟩⟩ := ho
  have t0 := hf 0 f0 rfl
  have t1 := hf 1 f1 rfl
  have t2 := hf 2 f2 rfl
  have t3 := hf 3 f3 rfl
  simp only [o0, z0, o1, z1, o2, z2, o3, z3, List.drop_succ_cons, List.drop_zero, List.take_succ_cons, List.take_zero, List.getElem?_cons_zero, List.getElem?_cons_succ] at t0 t1 t2 t3
  obtain ⟨x0, e0, _, w0⟩ := DataW.trod_int h0 t0
  obtain ⟨x1, e1, _, _⟩ := DataW.trod_int h1 t1
  obtain ⟨x2, e2, _, w2⟩ := DataW.trod_int h2 t2
  obtain ⟨x3, e3, _, _⟩ := DataW.trod_string h3 t3
  obtain rfl : c0 = .int .i64 x0 := by simpa using e0
  obtain rfl : c1 = .int .i64 x1 := by simpa using e1
  obtain rfl : c2 = .int .u32 x2 := by simpa using e2
  obtain rfl : c3 = .string x3 := by simpa using e3
  have hb := bounds_u32 w2
  refine ⟨⟨x0, x1, x2.toNat, x3⟩, fun j hj => ?_, (bounds_i64 w0).1, (bounds_i64 w0).2⟩
  rw [hcell j hj, show (QM.cl ⟨x0, x1, x2.toNat, x3⟩) = [.int .i64 x0, .int .i64 x1, .int .u32 x2, .string x3] by simp [QM.cl]; omega]
theorem open_pcs {H : Type} {enc : TypeId × Value → H} {P : Program} {W : World} {t e : TypeId} {f0 f1 f2 f3 : Field} {a0 : Option Addr} {len0 cap0 : Nat} {d : DataW H} {ps : List MemPlace}
    (ht : P.underlying t = some (.slice e)) (he : P.underlying e = some (.struct #[f0, f1, f2, f3])) (h0 : P.underlying f0.type = some (.int .i64)) (h1 : P.underlying f1.type = some (.int .i64)) (h2 : P.underlying f2.type = some (.int .u32)) (h3 : P.underlying f3.type = some .string)
    (ce : P.cellsOf e = 4)
    (ho : (#[f0, f1, f2, f3].map fun f => (f.offset, P.cellsOf f.type)) = #[(0, 1), (1, 1), (2, 1), (3, 1)])
    (h : DataW.Trod enc P W 0 (fun _ => true) true t (.slice a0 len0 cap0) d ps) :
    ∃ l : List QM, len0 = l.length ∧ QsAt W a0 l ∧ ∀ p ∈ l, -9223372036854775808 ≤ p.i ∧ p.i ≤ 9223372036854775807 := by
  obtain ⟨fuel, hf⟩ := h
  rcases open_slice ht hf with ⟨hcs, _⟩ | ⟨a, len, cap, m, n, D, Pl, hcs, _, hlc, hcm, hmm, hx, hel⟩
  · simp [Value.cells] at hcs
    obtain ⟨rfl, rfl, rfl⟩ := hcs
    exact ⟨[], rfl, fun k hk => by simp at hk, fun p hp => by simp at hp⟩
  · simp [Value.cells] at hcs
    obtain ⟨rfl, rfl, rfl⟩ := hcs
    simp only [if_true] at hmm
    subst hmm
    rw [ce] at hel
    have each : ∀ i, i < len0 → ∃ o : QM, QCell W (a.add (i * 4)) o := fun i hi => by
      obtain ⟨cs', hc1, hc2⟩ := hel i (by omega)
      obtain ⟨_, _, hcc⟩ := World.cells?_some hc1
      exact open_pc he h0 h1 h2 h3 ce ho hcc hc2
    obtain ⟨f, hf2⟩ := choose_lt each
    refine ⟨(List.range len0).map f, by simp, fun k hk => ?_, fun p hp => ?_⟩
    · have hk' : k < len0 := by simpa using hk
      have hg : ((List.range len0).map f)[k] = f k := by simp
      rw [hg]
      obtain ⟨g1, _⟩ := hf2 k hk'
      obtain ⟨b, off, spot⟩ := a
      obtain ⟨k1, _⟩ := hf2 0 (by omega)
      have hc1 : W.cell? ((Addr.add ⟨b, off, spot⟩ (0 * 4)).add 0) = some (.int .i64 (f 0).i) := k1 0 (by omega)
      have hspot : spot = none := by simpa [Addr.add] using World.cell?_spot hc1
      subst hspot
      refine ⟨b, off, rfl, ?_, fun j hj => ?_⟩
      · rcases Nat.lt_or_ge b W.heap.size with h | h
        · exact h
        · rw [Go.WideShapes.add_plain, Go.WideShapes.add_plain, World.cell?, Array.getElem?_eq_none h] at hc1
          cases hc1
      · have := g1 j hj
        rw [Go.WideShapes.add_plain, Go.WideShapes.add_plain] at this
        exact this
    · rw [List.mem_map] at hp
      obtain ⟨i, hi, rfl⟩ := hp
      exact (hf2 i (List.mem_range.1 hi)).2
end Go.Proofs.YthjbkgappjpanaaDoor
