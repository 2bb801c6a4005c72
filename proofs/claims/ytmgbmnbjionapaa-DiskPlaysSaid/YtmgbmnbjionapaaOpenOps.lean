/- An argument that is a row of calls of a disk, opened. No condition. -/
import Derived.Test.YtmgbmnbjionapaaDiskL
import Derived.Deep.Matrix
import Derived.SizedLaws
import Derived.OpenShut
import Derived.Carry
namespace Go.Proofs.Ytmgbmnbjionapaa
open Go.ChangeShapes Go.WideShapes Go.ChangeAt Go.RowKit Go.Deep

theorem weights_all {H : Type} {P : Program} {e : TypeId} {d : DataW H} {n : Nat} (hn : n ∈ DataW.weights P e d) : ∀ (ds : List (DataW H)), d ∈ ds → n ∈ DataW.weightsAll P e ds
  | [], h => by simp at h
  | x :: r, h => by
    rcases List.mem_cons.1 h with rfl | h
    · simp only [DataW.weightsAll]
      exact List.mem_append_left _ hn
    · simp only [DataW.weightsAll]
      exact List.mem_append_right _ (weights_all hn r h)
instance : Inhabited OpM := ⟨⟨0, 0, [], 0, 0, 0⟩⟩
/-- One call's cells, and what they read as. -/
def OpCell (W : World) (a : Addr) (o : OpM) : Prop :=
  ∃ Ad c, (∀ j, j < 6 → W.cell? (a.add j) = (o.cl Ad c)[j]?) ∧ Seg W Ad (u8s o.data) ∧ o.data.length ≤ c ∧ c ≤ maxLen ∧ o.keep < 18446744073709551616 ∧ o.data.length ≤ 140737488355328
theorem six_of {α : Type} {l : List α} (h : l.length = 6) : ∃ a b c d e f, l = [a, b, c, d, e, f] := by
  match l, h with
  | [a, b, c, d, e, f], _ => exact ⟨a, b, c, d, e, f, rfl⟩
theorem open_op {H : Type} {enc : TypeId × Value → H} {P : Program} {W : World} {e q : TypeId} {f0 f1 f2 f3 f4 f5 : Field} {n : Nat} {cs : List Value} {D : DataW H} {Pl : List MemPlace} {a : Addr}
    (he : P.underlying e = some (.struct #[f0, f1, f2, f3, f4, f5])) (h0 : P.underlying f0.type = some (.int .i64)) (h1 : P.underlying f1.type = some (.int .i64)) (h2 : P.underlying f2.type = some (.slice q)) (h3 : P.underlying f3.type = some (.int .u64)) (h4 : P.underlying f4.type = some (.int .i64)) (h5 : P.underlying f5.type = some (.int .i64))
    (hq : P.underlying q = some (.int .u8)) (cq : P.cellsOf q = 1) (hbq : P.bytesOf q = 1) (ce : P.cellsOf e = 6)
    (ho : (#[f0, f1, f2, f3, f4, f5].map fun f => (f.offset, P.cellsOf f.type)) = #[(0, 1), (1, 1), (2, 1), (3, 1), (4, 1), (5, 1)])
    (hcell : ∀ j, j < 6 → W.cell? (a.add j) = cs[j]?) (h : DataW.trod enc P W 0 (fun _ => true) true n e cs = some (D, Pl)) (hlt : ∀ x ∈ Pl, x.block < W.heap.size) (hwt : ∀ n, n ∈ DataW.weights P e D → n ≤ reachBytes) : ∃ o : OpM, OpCell W a o := by
  obtain ⟨xs, m, _, hx, hcl, hxl, hf⟩ := DataW.trod_struct he h
  rw [ce] at hcl
  obtain ⟨y0, y1, y2, y3, y4, y5, rfl⟩ := six_of hxl
  obtain ⟨c0, c1, c2, c3, c4, c5, rfl⟩ := six_of hcl
  simp only [List.map_toArray, List.map_cons, List.map_nil, Array.mk.injEq, List.cons.injEq, Prod.mk.injEq, and_true] at ho
  obtain ⟨⟨o0, z0⟩, ⟨o1, z1⟩, ⟨o2, z2⟩, ⟨o3, z3⟩, ⟨o4, z4⟩, ⟨o5, z5⟩⟩ := ho
  have t0 := hf 0 f0 rfl
  have t1 := hf 1 f1 rfl
  have t2 := hf 2 f2 rfl
  have t3 := hf 3 f3 rfl
  have t4 := hf 4 f4 rfl
  have t5 := hf 5 f5 rfl
  simp only [o0, z0, o1, z1, o2, z2, o3, z3, o4, z4, o5, z5, List.drop_succ_cons, List.drop_zero, List.take_succ_cons, List.take_zero, List.getElem?_cons_zero, List.getElem?_cons_succ] at t0 t1 t2 t3 t4 t5
  obtain ⟨x0, e0, _, _⟩ := DataW.trod_int h0 t0
  obtain ⟨x1, e1, _, _⟩ := DataW.trod_int h1 t1
  obtain ⟨x3, e3, _, w3⟩ := DataW.trod_int h3 t3
  obtain ⟨x4, e4, _, _⟩ := DataW.trod_int h4 t4
  obtain ⟨x5, e5, _, _⟩ := DataW.trod_int h5 t5
  obtain rfl : c0 = .int .i64 x0 := by simpa using e0
  obtain rfl : c1 = .int .i64 x1 := by simpa using e1
  obtain rfl : c3 = .int .u64 x3 := by simpa using e3
  obtain rfl : c4 = .int .i64 x4 := by simpa using e4
  obtain rfl : c5 = .int .i64 x5 := by simpa using e5
  have hb := bounds_u64 w3
  obtain ⟨A, len, cap, rfl, hcm⟩ : ∃ A len cap, c2 = .slice A len cap ∧ cap ≤ maxLen := by
    rcases open_ints h2 hq cq t2 with ⟨h, _⟩ | ⟨A, len, cap, _, h, _, _, hm, _⟩
    · exact ⟨none, 0, 0, by simpa using h, Nat.zero_le _⟩
    · exact ⟨some A, len, cap, by simpa using h, hm⟩
  simp only [Prod.mk.injEq] at hx
  obtain ⟨hd, hp⟩ := hx
  have T2 : DataW.Trod enc P W 0 (fun _ => true) true f2.type (.slice A len cap) y2.1 y2.2 := ⟨m, by simpa [Value.cells] using t2⟩
  obtain ⟨hlc, hre, zs, hl, hS, hw⟩ := seg_arg h2 hq cq T2 (fun x hx => hlt x (by rw [hp]; simp [hx])) (fun elems spare hd2 => by
    refine hwt _ ?_
    rw [hd]
    simp only [DataW.weights, he]
    refine DataW.weights_mem_each (j := 2) (t := f2.type) (d := y2.1) rfl rfl _ ?_
    rw [hd2]
    simp [DataW.weights, h2])
  obtain ⟨l, rfl, hb2⟩ := nats_of_u8 hw
  rw [hbq] at hre
  simp only [reachBytes] at hre
  have hll : l.length = len := by simpa using hl
  refine ⟨⟨x0, x1, l, x3.toNat, x4, x5⟩, A, cap, fun j hj => ?_, u8s_of hS, by simp; omega, hcm, by simp; omega, by simp; omega⟩
  rw [hcell j hj, show (OpM.cl ⟨x0, x1, l, x3.toNat, x4, x5⟩ A cap) = [.int .i64 x0, .int .i64 x1, .slice A len cap, .int .u64 x3, .int .i64 x4, .int .i64 x5] by simp [OpM.cl, hll]; omega]
theorem open_ops {H : Type} {enc : TypeId × Value → H} {P : Program} {W : World} {t e q : TypeId} {f0 f1 f2 f3 f4 f5 : Field} {a0 : Option Addr} {len0 cap0 : Nat} {d : DataW H} {ps : List MemPlace}
    (ht : P.underlying t = some (.slice e)) (he : P.underlying e = some (.struct #[f0, f1, f2, f3, f4, f5])) (h0 : P.underlying f0.type = some (.int .i64)) (h1 : P.underlying f1.type = some (.int .i64)) (h2 : P.underlying f2.type = some (.slice q)) (h3 : P.underlying f3.type = some (.int .u64)) (h4 : P.underlying f4.type = some (.int .i64)) (h5 : P.underlying f5.type = some (.int .i64))
    (hq : P.underlying q = some (.int .u8)) (cq : P.cellsOf q = 1) (hbq : P.bytesOf q = 1) (ce : P.cellsOf e = 6)
    (ho : (#[f0, f1, f2, f3, f4, f5].map fun f => (f.offset, P.cellsOf f.type)) = #[(0, 1), (1, 1), (2, 1), (3, 1), (4, 1), (5, 1)])
    (h : DataW.Trod enc P W 0 (fun _ => true) true t (.slice a0 len0 cap0) d ps) (hlt : ∀ x ∈ ps, x.block < W.heap.size) (hwt : ∀ n, n ∈ DataW.weights P t d → n ≤ reachBytes) :
    ∃ ops : List OpM, len0 = ops.length ∧ len0 ≤ cap0 ∧ OpsAt W a0 ops := by
  obtain ⟨fuel, hf⟩ := h
  rcases open_slice ht hf with ⟨hcs, _⟩ | ⟨a, len, cap, m, n, D, Pl, hcs, _, hlc, hcm, hmm, hx, hel⟩
  · simp [Value.cells] at hcs
    obtain ⟨rfl, rfl, rfl⟩ := hcs
    exact ⟨[], rfl, Nat.le_refl _, fun k hk => by simp at hk⟩
  · simp [Value.cells] at hcs
    obtain ⟨rfl, rfl, rfl⟩ := hcs
    simp only [if_true] at hmm
    subst hmm
    simp only [Prod.mk.injEq] at hx
    obtain ⟨hd, hp⟩ := hx
    rw [ce] at hel hp
    have each : ∀ i, i < len0 → ∃ o : OpM, OpCell W (a.add (i * 6)) o := fun i hi => by
      obtain ⟨cs', hc1, hc2⟩ := hel i (by omega)
      obtain ⟨_, _, hcc⟩ := World.cells?_some hc1
      refine open_op he h0 h1 h2 h3 h4 h5 hq cq hbq ce ho hcc hc2 (fun x hx => hlt x ?_) (fun n hn => hwt n ?_)
      · rw [hp]
        exact List.mem_append_right _ (List.mem_flatMap.2 ⟨i, List.mem_range.2 (by omega), hx⟩)
      · rw [hd]
        simp only [DataW.weights, ht]
        refine List.mem_cons_of_mem _ (List.mem_append_left _ ?_)
        exact weights_all hn _ (List.mem_map.2 ⟨i, List.mem_range.2 hi, rfl⟩)
    obtain ⟨f, hf2⟩ := choose_lt each
    refine ⟨(List.range len0).map f, by simp, hlc, fun k hk => ?_⟩
    have hk' : k < len0 := by simpa using hk
    have hg : ((List.range len0).map f)[k] = f k := by simp
    rw [hg]
    obtain ⟨Ad, c, g1, g2, g3, g4, g5, g6⟩ := hf2 k hk'
    obtain ⟨b, off, spot⟩ := a
    obtain ⟨A0, c0, k1, _⟩ := hf2 0 (by omega)
    have hc1 : W.cell? ((Addr.add ⟨b, off, spot⟩ (0 * 6)).add 0) = some (.int .i64 (f 0).kind) := k1 0 (by omega)
    have hspot : spot = none := by simpa [Addr.add] using World.cell?_spot hc1
    subst hspot
    refine ⟨b, off, Ad, c, rfl, fun j u hj => ?_, g2, g3, g4, g5, g6⟩
    have hj' : j < 6 := by
      have := (List.getElem?_eq_some_iff.1 hj).1
      simpa [OpM.cl] using this
    have := g1 j hj'
    rw [Go.WideShapes.add_plain, Go.WideShapes.add_plain, hj] at this
    exact this
end Go.Proofs.Ytmgbmnbjionapaa
