/- An argument that is a row of blocks to be written, opened. No condition. -/
import Derived.Test.YtmgbmnbjionapaaJRefW
import Derived.Deep.Matrix
import Derived.SizedLaws
import Derived.OpenShut
import Derived.Carry
namespace Go.Proofs.Ytmgbmnbjionapaa
open Go.ChangeShapes Go.WideShapes Go.ChangeAt Go.RowKit Go.Deep

theorem weights_allW {H : Type} {P : Program} {e : TypeId} {d : DataW H} {n : Nat} (hn : n ∈ DataW.weights P e d) : ∀ (ds : List (DataW H)), d ∈ ds → n ∈ DataW.weightsAll P e ds
  | [], h => by simp at h
  | x :: r, h => by
    rcases List.mem_cons.1 h with rfl | h
    · simp only [DataW.weightsAll]
      exact List.mem_append_left _ hn
    · simp only [DataW.weightsAll]
      exact List.mem_append_right _ (weights_allW hn r h)
theorem u8s_ofW (l : List Nat) : (l.map fun (x : Nat) => (x : Int)).map (Value.int .u8) = u8s l := u8s_cast l
instance : Inhabited BW := ⟨⟨0, []⟩⟩
/-- One block's cells, and what they read as. -/
def BwCell (W : World) (a : Addr) (o : BW) : Prop :=
  ∃ Ad c, W.cell? (a.add 0) = some (.int .i64 o.n) ∧ W.cell? (a.add 1) = some (.slice Ad o.l.length c) ∧ Seg W Ad (u8s o.l)
theorem open_bw {H : Type} {enc : TypeId × Value → H} {P : Program} {W : World} {e q : TypeId} {f0 f1 : Field} {n : Nat} {cs : List Value} {D : DataW H} {Pl : List MemPlace} {a : Addr}
    (he : P.underlying e = some (.struct #[f0, f1])) (h0 : P.underlying f0.type = some (.int .i64)) (h1 : P.underlying f1.type = some (.slice q))
    (hq : P.underlying q = some (.int .u8)) (cq : P.cellsOf q = 1) (ce : P.cellsOf e = 2)
    (ho : (#[f0, f1].map fun f => (f.offset, P.cellsOf f.type)) = #[(0, 1), (1, 1)])
    (hcell : ∀ j, j < 2 → W.cell? (a.add j) = cs[j]?) (h : DataW.trod enc P W 0 (fun _ => true) true n e cs = some (D, Pl)) (hlt : ∀ x ∈ Pl, x.block < W.heap.size) (hwt : ∀ n, n ∈ DataW.weights P e D → n ≤ reachBytes) : ∃ o : BW, BwCell W a o := by
  obtain ⟨xs, m, _, hx, hcl, hxl, hf⟩ := DataW.trod_struct he h
  rw [ce] at hcl
  obtain ⟨y0, y1, rfl⟩ : ∃ a b, xs = [a, b] := by match xs, hxl with | [a, b], _ => exact ⟨a, b, rfl⟩
  obtain ⟨c0, c1, rfl⟩ : ∃ a b, cs = [a, b] := by match cs, hcl with | [a, b], _ => exact ⟨a, b, rfl⟩
  simp only [List.map_toArray, List.map_cons, List.map_nil, Array.mk.injEq, List.cons.injEq, Prod.mk.injEq, and_true] at ho
  obtain ⟨⟨o0, z0⟩, ⟨o1, z1⟩⟩ := ho
  have t0 := hf 0 f0 rfl
  have t1 := hf 1 f1 rfl
  simp only [o0, z0, o1, z1, List.drop_succ_cons, List.drop_zero, List.take_succ_cons, List.take_zero, List.getElem?_cons_zero, List.getElem?_cons_succ] at t0 t1
  obtain ⟨x0, e0, _, _⟩ := DataW.trod_int h0 t0
  obtain rfl : c0 = .int .i64 x0 := by simpa using e0
  obtain ⟨A, len, cap, rfl⟩ : ∃ A len cap, c1 = .slice A len cap := by
    rcases open_ints h1 hq cq t1 with ⟨h, _⟩ | ⟨A, len, cap, _, h, _⟩
    · exact ⟨none, 0, 0, by simpa using h⟩
    · exact ⟨some A, len, cap, by simpa using h⟩
  simp only [Prod.mk.injEq] at hx
  obtain ⟨hd, hp⟩ := hx
  have T1 : DataW.Trod enc P W 0 (fun _ => true) true f1.type (.slice A len cap) y1.1 y1.2 := ⟨m, by simpa [Value.cells] using t1⟩
  obtain ⟨_, _, zs, hl, hS, hw⟩ := seg_arg h1 hq cq T1 (fun x hx => hlt x (by rw [hp]; simp [hx])) (fun elems spare hd2 => by
    refine hwt _ ?_
    rw [hd]
    simp only [DataW.weights, he]
    refine DataW.weights_mem_each (j := 1) (t := f1.type) (d := y1.1) rfl rfl _ ?_
    rw [hd2]
    simp [DataW.weights, h1])
  obtain ⟨l, rfl, _⟩ := nats_of_u8 hw
  have hll : l.length = len := by simpa using hl
  refine ⟨⟨x0, l⟩, A, cap, ?_, ?_, ?_⟩
  · rw [hcell 0 (by omega)]; rfl
  · rw [hcell 1 (by omega), hll]; rfl
  · rw [← u8s_ofW]; exact hS
theorem open_bws {H : Type} {enc : TypeId × Value → H} {P : Program} {W : World} {t e q : TypeId} {f0 f1 : Field} {a0 : Option Addr} {len0 cap0 : Nat} {d : DataW H} {ps : List MemPlace}
    (ht : P.underlying t = some (.slice e)) (he : P.underlying e = some (.struct #[f0, f1])) (h0 : P.underlying f0.type = some (.int .i64)) (h1 : P.underlying f1.type = some (.slice q))
    (hq : P.underlying q = some (.int .u8)) (cq : P.cellsOf q = 1) (ce : P.cellsOf e = 2)
    (ho : (#[f0, f1].map fun f => (f.offset, P.cellsOf f.type)) = #[(0, 1), (1, 1)])
    (h : DataW.Trod enc P W 0 (fun _ => true) true t (.slice a0 len0 cap0) d ps) (hlt : ∀ x ∈ ps, x.block < W.heap.size) (hwt : ∀ n, n ∈ DataW.weights P t d → n ≤ reachBytes) :
    ∃ l : List BW, len0 = l.length ∧ len0 ≤ cap0 ∧ BsAt W a0 l := by
  obtain ⟨fuel, hf⟩ := h
  rcases open_slice ht hf with ⟨hcs, _⟩ | ⟨a, len, cap, m, n, D, Pl, hcs, _, hlc, hcm, hmm, hx, hel⟩
  · simp [Value.cells] at hcs
    obtain ⟨rfl, rfl, rfl⟩ := hcs
    exact ⟨[], rfl, Nat.le_refl _, ⟨fun k hk => by simp at hk⟩⟩
  · simp [Value.cells] at hcs
    obtain ⟨rfl, rfl, rfl⟩ := hcs
    simp only [if_true] at hmm
    subst hmm
    simp only [Prod.mk.injEq] at hx
    obtain ⟨hd, hp⟩ := hx
    rw [ce] at hel hp
    have each : ∀ i, i < len0 → ∃ o : BW, BwCell W (a.add (i * 2)) o := fun i hi => by
      obtain ⟨cs', hc1, hc2⟩ := hel i (by omega)
      obtain ⟨_, _, hcc⟩ := World.cells?_some hc1
      refine open_bw he h0 h1 hq cq ce ho hcc hc2 (fun x hx => hlt x ?_) (fun n hn => hwt n ?_)
      · rw [hp]
        exact List.mem_append_right _ (List.mem_flatMap.2 ⟨i, List.mem_range.2 (by omega), hx⟩)
      · rw [hd]
        simp only [DataW.weights, ht]
        refine List.mem_cons_of_mem _ (List.mem_append_left _ ?_)
        exact weights_allW hn _ (List.mem_map.2 ⟨i, List.mem_range.2 hi, rfl⟩)
    obtain ⟨f, hf2⟩ := choose_lt each
    refine ⟨(List.range len0).map f, by simp, hlc, ⟨fun k hk => ?_⟩⟩
    have hk' : k < len0 := by simpa using hk
    have hg : ((List.range len0).map f)[k] = f k := by simp
    rw [hg]
    obtain ⟨Ad, c, g1, g2, g3⟩ := hf2 k hk'
    obtain ⟨b, off, spot⟩ := a
    obtain ⟨A0, c0, k1, _⟩ := hf2 0 (by omega)
    have hspot : spot = none := by simpa [Addr.add] using World.cell?_spot k1
    subst hspot
    rw [Go.WideShapes.add_plain, Go.WideShapes.add_plain] at g1 g2
    refine ⟨b, off, Ad, c, rfl, ?_, g1, g2, g3⟩
    rcases Nat.lt_or_ge b W.heap.size with h | h
    · exact h
    · rw [World.cell?, Array.getElem?_eq_none h] at g1
      cases g1
end Go.Proofs.Ytmgbmnbjionapaa
