/- An argument that is a row of calls of a pager, opened. No condition. -/
import Derived.Test.YtfbpagbfdccgfaaGFew
import Derived.Deep.Matrix
import Derived.SizedLaws
import Derived.OpenShut
import Derived.Carry
namespace Go.Proofs.Ytfbpagbfdccgfaa
open Go.ChangeShapes Go.WideShapes Go.ChangeAt Go.RowKit Go.Deep

/-- One call's cells. -/
def OCell (W : World) (a : Addr) (o : Int × Int) : Prop := ∀ j, j < 2 → W.cell? (a.add j) = (opV o)[j]?
theorem two_of {α : Type} {l : List α} (h : l.length = 2) : ∃ a b, l = [a, b] := by
  match l, h with
  | [a, b], _ => exact ⟨a, b, rfl⟩
theorem open_pr {H : Type} {enc : TypeId × Value → H} {P : Program} {W : World} {e : TypeId} {f0 f1 : Field} {n : Nat} {cs : List Value} {D : DataW H} {Pl : List MemPlace} {a : Addr}
    (he : P.underlying e = some (.struct #[f0, f1])) (h0 : P.underlying f0.type = some (.int .i64)) (h1 : P.underlying f1.type = some (.int .i64)) (ce : P.cellsOf e = 2)
    (ho : (#[f0, f1].map fun f => (f.offset, P.cellsOf f.type)) = #[(0, 1), (1, 1)])
    (hcell : ∀ j, j < 2 → W.cell? (a.add j) = cs[j]?) (h : DataW.trod enc P W 0 (fun _ => true) true n e cs = some (D, Pl)) : ∃ o : Int × Int, OCell W a o := by
  obtain ⟨xs, m, _, hx, hcl, hxl, hf⟩ := DataW.trod_struct he h
  rw [ce] at hcl
  obtain ⟨y0, y1, rfl⟩ := two_of hxl
  obtain ⟨c0, c1, rfl⟩ := two_of hcl
  simp only [List.map_toArray, List.map_cons, List.map_nil, Array.mk.injEq, List.cons.injEq, Prod.mk.injEq, and_true] at ho
  obtain ⟨⟨o0, z0⟩, ⟨o1, z1⟩⟩ := ho
  have t0 := hf 0 f0 rfl
  have t1 := hf 1 f1 rfl
  simp only [o0, z0, o1, z1, List.drop_succ_cons, List.drop_zero, List.take_succ_cons, List.take_zero, List.getElem?_cons_zero, List.getElem?_cons_succ] at t0 t1
  obtain ⟨x0, e0, _, _⟩ := DataW.trod_int h0 t0
  obtain ⟨x1, e1, _, _⟩ := DataW.trod_int h1 t1
  obtain rfl : c0 = .int .i64 x0 := by simpa using e0
  obtain rfl : c1 = .int .i64 x1 := by simpa using e1
  exact ⟨(x0, x1), fun j hj => hcell j hj⟩
theorem open_prs {H : Type} {enc : TypeId × Value → H} {P : Program} {W : World} {t e : TypeId} {f0 f1 : Field} {a0 : Option Addr} {len0 cap0 : Nat} {d : DataW H} {ps : List MemPlace}
    (ht : P.underlying t = some (.slice e)) (he : P.underlying e = some (.struct #[f0, f1])) (h0 : P.underlying f0.type = some (.int .i64)) (h1 : P.underlying f1.type = some (.int .i64)) (ce : P.cellsOf e = 2)
    (ho : (#[f0, f1].map fun f => (f.offset, P.cellsOf f.type)) = #[(0, 1), (1, 1)])
    (h : DataW.Trod enc P W 0 (fun _ => true) true t (.slice a0 len0 cap0) d ps) :
    ∃ l : List (Int × Int), len0 = l.length ∧ Seg W a0 (opsV l) ∧ len0 ≤ cap0 ∧ cap0 ≤ maxLen := by
  obtain ⟨fuel, hf⟩ := h
  rcases open_slice ht hf with ⟨hcs, _⟩ | ⟨a, len, cap, m, n, D, Pl, hcs, _, hlc, hcm, hmm, hx, hel⟩
  · simp [Value.cells] at hcs
    obtain ⟨rfl, rfl, rfl⟩ := hcs
    exact ⟨[], rfl, Seg.nil _ _, Nat.le_refl _, Nat.zero_le _⟩
  · simp [Value.cells] at hcs
    obtain ⟨rfl, rfl, rfl⟩ := hcs
    simp only [if_true] at hmm
    subst hmm
    rw [ce] at hel
    have each : ∀ i, i < len0 → ∃ o : Int × Int, OCell W (a.add (i * 2)) o := fun i hi => by
      obtain ⟨cs', hc1, hc2⟩ := hel i (by omega)
      obtain ⟨_, _, hcc⟩ := World.cells?_some hc1
      exact open_pr he h0 h1 ce ho hcc hc2
    obtain ⟨f, hf2⟩ := choose_lt each
    refine ⟨(List.range len0).map f, by simp, fun hne => ?_, hlc, hcm⟩
    have hpos : 0 < len0 := by
      rcases Nat.eq_zero_or_pos len0 with h | h
      · subst h; exact absurd rfl hne
      · exact h
    obtain ⟨b, off, spot⟩ := a
    have hc1 : W.cell? ((Addr.add ⟨b, off, spot⟩ (0 * 2)).add 0) = some (.int .i64 (f 0).1) := hf2 0 hpos 0 (by omega)
    have hspot : spot = none := by simpa [Addr.add] using World.cell?_spot hc1
    subst hspot
    refine ⟨b, off, rfl, ?_, fun i hi => ?_⟩
    · rcases Nat.lt_or_ge b W.heap.size with h | h
      · exact h
      · rw [Go.WideShapes.add_plain, Go.WideShapes.add_plain, World.cell?, Array.getElem?_eq_none h] at hc1
        cases hc1
    · rw [opsV_length, List.length_map, List.length_range] at hi
      have h1 := hf2 (i / 2) (by omega) (i % 2) (Nat.mod_lt _ (by omega))
      rw [Go.WideShapes.add_plain, Go.WideShapes.add_plain, Nat.add_assoc, show i / 2 * 2 + i % 2 = i by omega] at h1
      rw [h1]
      have h2 := opsV_at (l := (List.range len0).map f) (i := i / 2) (k := i % 2) (by simp; omega) (Nat.mod_lt _ (by omega))
      rw [show i / 2 * 2 + i % 2 = i by omega] at h2
      rw [h2]
      simp
end Go.Proofs.Ytfbpagbfdccgfaa
