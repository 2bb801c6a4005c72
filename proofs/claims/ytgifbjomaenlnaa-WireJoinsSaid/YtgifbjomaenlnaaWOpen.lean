/- An argument that is a message, or a row of messages, opened: what lies in memory. No condition. -/
import Derived.Test.YtgifbjomaenlnaaWFew
import Derived.Test.YtgifbjomaenlnaaWMsgs
import Derived.Deep.Matrix
import Derived.Deep.SlicePairs
import Derived.SizedLaws
import Derived.OpenShut
import Derived.Carry
namespace Go.Proofs.Ytgifbjomaenlnaa
open Go.ChangeShapes Go.WideShapes Go.ChangeAt Go.RowKit Go.Deep

theorem weights_all' {H : Type} {P : Program} {e : TypeId} {d : DataW H} {n : Nat} (hn : n ∈ DataW.weights P e d) : ∀ (ds : List (DataW H)), d ∈ ds → n ∈ DataW.weightsAll P e ds
  | [], h => by simp at h
  | x :: r, h => by
    rcases List.mem_cons.1 h with rfl | h
    · simp only [DataW.weightsAll]
      exact List.mem_append_left _ hn
    · simp only [DataW.weightsAll]
      exact List.mem_append_right _ (weights_all' hn r h)
instance : Inhabited MsgM := ⟨⟨0, 0, 0, 0, 0, 0, 0, 0, false, []⟩⟩
instance : Inhabited Mq := ⟨⟨default, none, 0, 0⟩⟩
theorem ten_of {α : Type} {l : List α} (h : l.length = 10) : ∃ a b c d e f g h' i j, l = [a, b, c, d, e, f, g, h', i, j] := by
  match l, h with
  | [a, b, c, d, e, f, g, h', i, j], _ => exact ⟨a, b, c, d, e, f, g, h', i, j, rfl⟩
theorem open_ents {H : Type} {enc : TypeId × Value → H} {P : Program} {W : World} {t e : TypeId} {g0 g1 : Field} {fu : Nat} {v : Value} {y : DataW H × List MemPlace}
    (ht : P.underlying t = some (.slice e)) (he : P.underlying e = some (.struct #[g0, g1])) (k0 : P.underlying g0.type = some (.int .i64)) (k1 : P.underlying g1.type = some .string)
    (ce : P.cellsOf e = 2) (be : P.bytesOf e = 24) (o0 : g0.offset = 0) (o1 : g1.offset = 1) (z0 : P.cellsOf g0.type = 1) (z1 : P.cellsOf g1.type = 1)
    (h : DataW.trod enc P W 0 (fun _ => true) true fu t [v] = some y) (hw : ∀ n, n ∈ DataW.weights P t y.1 → n ≤ reachBytes) :
    ∃ (A : Option Addr) (n c : Nat) (l : List (Int × ByteArray)), v = .slice A n c ∧ n = l.length ∧ Seg W A (entV l) ∧ n ≤ c ∧ n ≤ 5864062014805 ∧ ∀ x ∈ l, inI x.1 ∧ x.2.size ≤ 140737488355328 := by
  rcases open_slice_pairs ht he ce o0 o1 z0 z1 h with ⟨hcs, _⟩ | ⟨a, len, cap, m, n, V0, V1, D0, D1, P0, P1, hcs, _, hl, _, hm, hx, hel⟩
  · exact ⟨none, 0, 0, [], by simpa using hcs, rfl, Seg.nil _ _, Nat.le_refl _, by omega, by simp⟩
  · simp only [if_true] at hm
    subst hm
    have hy : y.1 = .slice ((List.range len).map fun i => .agg [D0 i, D1 i]) ((List.range (m - len)).map fun j => .agg [D0 (len + j), D1 (len + j)]) := by rw [hx]
    have hc := hw ((((List.range len).map fun i => (DataW.agg [D0 i, D1 i] : DataW H)).length + ((List.range (m - len)).map fun j => (DataW.agg [D0 (len + j), D1 (len + j)] : DataW H)).length) * P.bytesOf e) (by
      rw [hy]
      simp only [DataW.weights, ht]
      exact List.mem_cons_self ..)
    rw [be] at hc
    simp only [List.length_map, List.length_range, reachBytes] at hc
    have each : ∀ i, i < len → ∃ q : Int × ByteArray, W.cell? (a.add (i * 2)) = some (.int .i64 q.1) ∧ W.cell? (a.add (i * 2 + 1)) = some (.string q.2) ∧ inI q.1 ∧ q.2.size ≤ 140737488355328 := fun i hi => by
      obtain ⟨x0, x1, t0, t1⟩ := hel i (by omega)
      obtain ⟨z, e0, _, w0⟩ := DataW.trod_int k0 t0
      obtain ⟨s, e1, hd1, _⟩ := DataW.trod_string k1 t1
      have r0 : V0 i = .int .i64 z := by simpa using e0
      have r1 : V1 i = .string s := by simpa using e1
      have hd : D1 i = .lit (.string s.data.toList) := by
        simp only [Prod.mk.injEq] at hd1
        exact hd1.1
      refine ⟨(z, s), by rw [x0, r0], by rw [x1, r1], bounds_i64 w0, ?_⟩
      have := hw s.data.toList.length (by
        rw [hy]
        simp only [DataW.weights, ht]
        refine List.mem_cons_of_mem _ (List.mem_append_left _ ?_)
        refine weights_all' (d := .agg [D0 i, D1 i]) ?_ _ (List.mem_map.2 ⟨i, List.mem_range.2 hi, rfl⟩)
        simp only [DataW.weights, he]
        refine DataW.weights_mem_each (j := 1) (t := g1.type) (d := D1 i) rfl rfl _ ?_
        rw [hd]
        simp [DataW.weights])
      simp only [reachBytes, Array.length_toList] at this
      show s.data.size ≤ _
      omega
    obtain ⟨f, hf⟩ := choose_lt each
    refine ⟨some a, len, m, (List.range len).map f, by simpa using hcs, by simp, fun hne => ?_, hl, by omega, fun x hx => ?_⟩
    · have hpos : 0 < len := by
        rcases len with _ | len
        · simp [entV] at hne
        · omega
      obtain ⟨b, off, spot⟩ := a
      have h0 := (hf 0 hpos).1
      have hspot : spot = none := by simpa [Addr.add] using World.cell?_spot h0
      subst hspot
      have hb := World.block_lt_of_cell? W _ h0
      refine ⟨b, off, rfl, by simpa [Addr.add] using hb, fun i hi => ?_⟩
      have hlen := entV_length ((List.range len).map f)
      rw [hlen] at hi
      simp only [List.length_map, List.length_range] at hi
      have hk : i / 2 < len := by omega
      have hat := entV_at ((List.range len).map f) (i / 2) (by simpa using hk)
      have hg : ((List.range len).map f)[i / 2]'(by simpa using hk) = f (i / 2) := by simp
      rw [hg] at hat
      obtain ⟨q0, q1, _⟩ := hf (i / 2) hk
      rw [Go.WideShapes.add_plain] at q0 q1
      by_cases hp : i % 2 = 0
      · have ei : i = i / 2 * 2 := by omega
        rw [ei, hat.1, q0]
      · have ei : i = i / 2 * 2 + 1 := by omega
        rw [ei, hat.2, q1]
    · rw [List.mem_map] at hx
      obtain ⟨i, hi, rfl⟩ := hx
      exact (hf i (List.mem_range.1 hi)).2.2
theorem open_mcells {H : Type} {enc : TypeId × Value → H} {P : Program} {W : World} {t e : TypeId} {f0 f1 f2 f3 f4 f5 f6 f7 f8 f9 : Field} {g0 g1 : Field} {fu : Nat} {cs : List Value} {D : DataW H} {Pl : List MemPlace}
    (hs : P.underlying t = some (.struct #[f0, f1, f2, f3, f4, f5, f6, f7, f8, f9])) (h0 : P.underlying f0.type = some (.int .i64)) (h1 : P.underlying f1.type = some (.int .i64)) (h2 : P.underlying f2.type = some (.int .i64)) (h3 : P.underlying f3.type = some (.int .i64)) (h4 : P.underlying f4.type = some (.int .i64)) (h5 : P.underlying f5.type = some (.int .i64)) (h6 : P.underlying f6.type = some (.int .i64)) (h7 : P.underlying f7.type = some (.slice e)) (h8 : P.underlying f8.type = some .bool) (h9 : P.underlying f9.type = some (.int .i64)) (he : P.underlying e = some (.struct #[g0, g1])) (k0 : P.underlying g0.type = some (.int .i64)) (k1 : P.underlying g1.type = some .string)
    (ce : P.cellsOf e = 2) (be : P.bytesOf e = 24) (o0 : g0.offset = 0) (o1 : g1.offset = 1) (z0 : P.cellsOf g0.type = 1) (z1 : P.cellsOf g1.type = 1) (ct : P.cellsOf t = 10)
    (ho : (#[f0, f1, f2, f3, f4, f5, f6, f7, f8, f9].map fun f => (f.offset, P.cellsOf f.type)) = #[(0, 1), (1, 1), (2, 1), (3, 1), (4, 1), (5, 1), (6, 1), (7, 1), (8, 1), (9, 1)])
    (h : DataW.trod enc P W 0 (fun _ => true) true fu t cs = some (D, Pl)) (hw : ∀ n, n ∈ DataW.weights P t D → n ≤ reachBytes) : ∃ q : Mq, cs = q.v ∧ Mg W q.m q.A q.n q.c := by
  obtain ⟨xs, m, _, hx, hcl, hxl, hf⟩ := DataW.trod_struct hs h
  rw [ct] at hcl
  obtain ⟨y0, y1, y2, y3, y4, y5, y6, y7, y8, y9, rfl⟩ := ten_of hxl
  obtain ⟨c0, c1, c2, c3, c4, c5, c6, c7, c8, c9, rfl⟩ := ten_of hcl
  simp only [List.map_toArray, List.map_cons, List.map_nil, Array.mk.injEq, List.cons.injEq, Prod.mk.injEq, and_true] at ho
  obtain ⟨⟨q0, s0⟩, ⟨q1, s1⟩, ⟨q2, s2⟩, ⟨q3, s3⟩, ⟨q4, s4⟩, ⟨q5, s5⟩, ⟨q6, s6⟩, ⟨q7, s7⟩, ⟨q8, s8⟩, ⟨q9, s9⟩⟩ := ho
  have t0 := hf 0 f0 rfl
  have t1 := hf 1 f1 rfl
  have t2 := hf 2 f2 rfl
  have t3 := hf 3 f3 rfl
  have t4 := hf 4 f4 rfl
  have t5 := hf 5 f5 rfl
  have t6 := hf 6 f6 rfl
  have t7 := hf 7 f7 rfl
  have t8 := hf 8 f8 rfl
  have t9 := hf 9 f9 rfl
  simp only [q0, s0, q1, s1, q2, s2, q3, s3, q4, s4, q5, s5, q6, s6, q7, s7, q8, s8, q9, s9, List.drop_succ_cons, List.drop_zero, List.take_succ_cons, List.take_zero, List.getElem?_cons_zero, List.getElem?_cons_succ] at t0 t1 t2 t3 t4 t5 t6 t7 t8 t9
  simp only [Prod.mk.injEq] at hx
  obtain ⟨hd, _⟩ := hx
  obtain ⟨x0, e0, _, w0⟩ := DataW.trod_int h0 t0
  obtain rfl : c0 = .int .i64 x0 := by simpa using e0
  obtain ⟨x1, e1, _, w1⟩ := DataW.trod_int h1 t1
  obtain rfl : c1 = .int .i64 x1 := by simpa using e1
  obtain ⟨x2, e2, _, w2⟩ := DataW.trod_int h2 t2
  obtain rfl : c2 = .int .i64 x2 := by simpa using e2
  obtain ⟨x3, e3, _, w3⟩ := DataW.trod_int h3 t3
  obtain rfl : c3 = .int .i64 x3 := by simpa using e3
  obtain ⟨x4, e4, _, w4⟩ := DataW.trod_int h4 t4
  obtain rfl : c4 = .int .i64 x4 := by simpa using e4
  obtain ⟨x5, e5, _, w5⟩ := DataW.trod_int h5 t5
  obtain rfl : c5 = .int .i64 x5 := by simpa using e5
  obtain ⟨x6, e6, _, w6⟩ := DataW.trod_int h6 t6
  obtain rfl : c6 = .int .i64 x6 := by simpa using e6
  obtain ⟨x9, e9, _, w9⟩ := DataW.trod_int h9 t9
  obtain rfl : c9 = .int .i64 x9 := by simpa using e9
  obtain ⟨bb, e8, _⟩ := DataW.trod_bool h8 t8
  obtain rfl : c8 = .bool bb := by simpa using e8
  obtain ⟨A, n, c, l, rfl, hn, hS, hnc, hbn, hb⟩ := open_ents h7 he k0 k1 ce be o0 o1 z0 z1 t7 (fun n hn => hw n (by
    rw [hd]
    simp only [DataW.weights, hs]
    exact DataW.weights_mem_each (j := 7) (t := f7.type) (d := y7.1) rfl rfl n hn))
  exact ⟨⟨⟨x0, x1, x2, x3, x4, x5, x6, x9, bb, l⟩, A, n, c⟩, rfl, ⟨hn, hS, hnc, hbn, bounds_i64 w0, fun k => by
    unfold MsgM.num
    split
    · exact bounds_i64 w1
    · exact bounds_i64 w2
    · exact bounds_i64 w3
    · exact bounds_i64 w4
    · exact bounds_i64 w5
    · exact bounds_i64 w6
    · exact bounds_i64 w9, hb⟩⟩
theorem open_msg {H : Type} {enc : TypeId × Value → H} {P : Program} {W : World} {r : Reach} {b0 : Nat} {t e : TypeId} {f0 f1 f2 f3 f4 f5 f6 f7 f8 f9 : Field} {g0 g1 : Field} {v : Value} {d : DataW H} {ps : List MemPlace}
    (hs : P.underlying t = some (.struct #[f0, f1, f2, f3, f4, f5, f6, f7, f8, f9])) (h0 : P.underlying f0.type = some (.int .i64)) (h1 : P.underlying f1.type = some (.int .i64)) (h2 : P.underlying f2.type = some (.int .i64)) (h3 : P.underlying f3.type = some (.int .i64)) (h4 : P.underlying f4.type = some (.int .i64)) (h5 : P.underlying f5.type = some (.int .i64)) (h6 : P.underlying f6.type = some (.int .i64)) (h7 : P.underlying f7.type = some (.slice e)) (h8 : P.underlying f8.type = some .bool) (h9 : P.underlying f9.type = some (.int .i64)) (he : P.underlying e = some (.struct #[g0, g1])) (k0 : P.underlying g0.type = some (.int .i64)) (k1 : P.underlying g1.type = some .string)
    (ce : P.cellsOf e = 2) (be : P.bytesOf e = 24) (o0 : g0.offset = 0) (o1 : g1.offset = 1) (z0 : P.cellsOf g0.type = 1) (z1 : P.cellsOf g1.type = 1) (ct : P.cellsOf t = 10)
    (ho : (#[f0, f1, f2, f3, f4, f5, f6, f7, f8, f9].map fun f => (f.offset, P.cellsOf f.type)) = #[(0, 1), (1, 1), (2, 1), (3, 1), (4, 1), (5, 1), (6, 1), (7, 1), (8, 1), (9, 1)])
    (hv : Value.okWide P W r b0 t v) (h : DataW.Trod enc P W 0 (fun _ => true) true t v d ps) (hw : ∀ n, n ∈ DataW.weights P t d → n ≤ reachBytes) : ∃ q : Mq, v = .agg (msgC q.m q.A q.n q.c) ∧ Mg W q.m q.A q.n q.c := by
  obtain ⟨cs, rfl, hsz⟩ := okWide_struct hs hv
  obtain ⟨fuel, hf⟩ := h
  obtain ⟨q, hq, hm⟩ := open_mcells hs h0 h1 h2 h3 h4 h5 h6 h7 h8 h9 he k0 k1 ce be o0 o1 z0 z1 ct ho (by simpa [Value.cells] using hf) hw
  refine ⟨q, ?_, hm⟩
  congr 1
  exact Array.toList_inj.1 hq
theorem open_msgs {H : Type} {enc : TypeId × Value → H} {P : Program} {W : World} {tt t e : TypeId} {f0 f1 f2 f3 f4 f5 f6 f7 f8 f9 : Field} {g0 g1 : Field} {a0 : Option Addr} {len0 cap0 : Nat} {d : DataW H} {ps : List MemPlace}
    (htt : P.underlying tt = some (.slice t)) (hs : P.underlying t = some (.struct #[f0, f1, f2, f3, f4, f5, f6, f7, f8, f9])) (h0 : P.underlying f0.type = some (.int .i64)) (h1 : P.underlying f1.type = some (.int .i64)) (h2 : P.underlying f2.type = some (.int .i64)) (h3 : P.underlying f3.type = some (.int .i64)) (h4 : P.underlying f4.type = some (.int .i64)) (h5 : P.underlying f5.type = some (.int .i64)) (h6 : P.underlying f6.type = some (.int .i64)) (h7 : P.underlying f7.type = some (.slice e)) (h8 : P.underlying f8.type = some .bool) (h9 : P.underlying f9.type = some (.int .i64)) (he : P.underlying e = some (.struct #[g0, g1])) (k0 : P.underlying g0.type = some (.int .i64)) (k1 : P.underlying g1.type = some .string)
    (ce : P.cellsOf e = 2) (be : P.bytesOf e = 24) (o0 : g0.offset = 0) (o1 : g1.offset = 1) (z0 : P.cellsOf g0.type = 1) (z1 : P.cellsOf g1.type = 1) (ct : P.cellsOf t = 10)
    (ho : (#[f0, f1, f2, f3, f4, f5, f6, f7, f8, f9].map fun f => (f.offset, P.cellsOf f.type)) = #[(0, 1), (1, 1), (2, 1), (3, 1), (4, 1), (5, 1), (6, 1), (7, 1), (8, 1), (9, 1)]) (bt : 96 ≤ P.bytesOf t)
    (h : DataW.Trod enc P W 0 (fun _ => true) true tt (.slice a0 len0 cap0) d ps) (hw : ∀ n, n ∈ DataW.weights P tt d → n ≤ reachBytes) :
    ∃ L : List Mq, len0 = L.length ∧ len0 ≤ cap0 ∧ cap0 ≤ 1466015503701 ∧ Seg W a0 (mqV L) ∧ ∀ q ∈ L, Mg W q.m q.A q.n q.c := by
  obtain ⟨fuel, hf⟩ := h
  rcases open_slice htt hf with ⟨hcs, _⟩ | ⟨a, len, cap, m, n, D, Pl, hcs, _, hlc, hcm, hmm, hx, hel⟩
  · simp [Value.cells] at hcs
    obtain ⟨rfl, rfl, rfl⟩ := hcs
    exact ⟨[], rfl, Nat.le_refl _, by omega, Seg.nil _ _, fun q hq => by simp at hq⟩
  · simp [Value.cells] at hcs
    obtain ⟨rfl, rfl, rfl⟩ := hcs
    simp only [if_true] at hmm
    subst hmm
    simp only [Prod.mk.injEq] at hx
    obtain ⟨hd, hp⟩ := hx
    rw [ct] at hel
    have hc := hw ((((List.range len0).map D).length + ((List.range (m - len0)).map fun j => D (len0 + j)).length) * P.bytesOf t) (by
      rw [hd]
      simp only [DataW.weights, htt]
      exact List.mem_cons_self ..)
    simp only [List.length_map, List.length_range, reachBytes] at hc
    have hc2 : m * 96 ≤ 140737488355328 := by
      have h1 : m * 96 ≤ m * P.bytesOf t := Nat.mul_le_mul_left _ bt
      have h2 : len0 + (m - len0) = m := by omega
      rw [h2] at hc
      omega
    have each : ∀ i, i < len0 → ∃ q : Mq, (∀ j, j < 10 → W.cell? ((a.add (i * 10)).add j) = (q.v)[j]?) ∧ Mg W q.m q.A q.n q.c := fun i hi => by
      obtain ⟨cs', hc1, hc2⟩ := hel i (by omega)
      obtain ⟨_, _, hcc⟩ := World.cells?_some hc1
      obtain ⟨q, rfl, hm⟩ := open_mcells hs h0 h1 h2 h3 h4 h5 h6 h7 h8 h9 he k0 k1 ce be o0 o1 z0 z1 ct ho hc2 (fun n hn => hw n (by
        rw [hd]
        simp only [DataW.weights, htt]
        refine List.mem_cons_of_mem _ (List.mem_append_left _ ?_)
        exact weights_all' hn _ (List.mem_map.2 ⟨i, List.mem_range.2 hi, rfl⟩)))
      exact ⟨q, hcc, hm⟩
    obtain ⟨f, hf2⟩ := choose_lt each
    refine ⟨(List.range len0).map f, by simp, hlc, by omega, fun hne => ?_, fun q hq => ?_⟩
    · have hpos : 0 < len0 := by
        rcases len0 with _ | len0
        · simp [mqV] at hne
        · omega
      obtain ⟨b, off, spot⟩ := a
      have h0 : W.cell? ((Addr.add ⟨b, off, spot⟩ (0 * 10)).add 0) = some (.int .i64 (f 0).m.kind) := (hf2 0 hpos).1 0 (by omega)
      have hspot : spot = none := by simpa [Addr.add] using World.cell?_spot h0
      subst hspot
      refine ⟨b, off, rfl, ?_, fun i hi => ?_⟩
      · rcases Nat.lt_or_ge b W.heap.size with h | h
        · exact h
        · rw [Go.WideShapes.add_plain, Go.WideShapes.add_plain, World.cell?, Array.getElem?_eq_none h] at h0
          cases h0
      · have hlen := mqV_length ((List.range len0).map f)
        rw [hlen] at hi
        simp only [List.length_map, List.length_range] at hi
        have hk : i / 10 < len0 := by omega
        have hat := mqV_at ((List.range len0).map f) (i / 10) (by simpa using hk) (i % 10) (by omega)
        have hg : ((List.range len0).map f)[i / 10]'(by simpa using hk) = f (i / 10) := by simp
        rw [hg] at hat
        have hq := (hf2 (i / 10) hk).1 (i % 10) (by omega)
        rw [Go.WideShapes.add_plain, Go.WideShapes.add_plain] at hq
        rw [show i = i / 10 * 10 + i % 10 by omega, hat, ← hq]
        congr 2
        omega
    · rw [List.mem_map] at hq
      obtain ⟨i, hi, rfl⟩ := hq
      exact (hf2 i (List.mem_range.1 hi)).2
end Go.Proofs.Ytgifbjomaenlnaa
