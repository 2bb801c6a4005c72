/- An argument that is a frame, or four bytes, opened. No condition. -/
import Derived.Test.YtnbhgjionpidnaaDoorSFr
import Derived.Laws.IdiomArrays
import Derived.SizedLaws
import Derived.OpenShut
import Derived.Carry
namespace Go.Proofs.YtnbhgjionpidnaaDoor
open Go.ChangeShapes Go.WideShapes Go.ChangeAt Go.RowKit

theorem fourC {α : Type} {l : List α} (h : l.length = 4) : ∃ a b c d, l = [a, b, c, d] := by
  match l, h with
  | [a, b, c, d], _ => exact ⟨a, b, c, d, rfl⟩
theorem eightC {α : Type} {l : List α} (h : l.length = 8) : ∃ a b c d e f g i, l = [a, b, c, d, e, f, g, i] := by
  match l, h with
  | [a, b, c, d, e, f, g, i], _ => exact ⟨a, b, c, d, e, f, g, i, rfl⟩
theorem fiveC {α : Type} {l : List α} (h : l.length = 5) : ∃ a b c d e, l = [a, b, c, d, e] := by
  match l, h with
  | [a, b, c, d, e], _ => exact ⟨a, b, c, d, e, rfl⟩
theorem open_four {H : Type} {enc : TypeId × Value → H} {P : Program} {W : World} {t e : TypeId} {fu : Nat} {cs : List Value} {x : DataW H × List MemPlace} (ht : P.underlying t = some (.array 4 e)) (he : P.underlying e = some (.int .u8)) (hce : P.cellsOf e = 1) (hl : cs.length = 4)
    (h : DataW.trod enc P W 0 (fun _ => true) true fu t cs = some x) : ∃ M : Nat → Nat, cs = (msA M).toList ∧ ∀ i, i < 4 → M i < 256 := by
  obtain ⟨c0, c1, c2, c3, rfl⟩ := fourC hl
  obtain ⟨y0, y1, y2, y3, n, _, t0, t1, t2, t3⟩ := trod_array4 ht hce h
  obtain ⟨x0, e0, _, w0⟩ := DataW.trod_int he t0
  obtain ⟨x1, e1, _, w1⟩ := DataW.trod_int he t1
  obtain ⟨x2, e2, _, w2⟩ := DataW.trod_int he t2
  obtain ⟨x3, e3, _, w3⟩ := DataW.trod_int he t3
  obtain rfl : c0 = .int .u8 x0 := by simpa using e0
  obtain rfl : c1 = .int .u8 x1 := by simpa using e1
  obtain rfl : c2 = .int .u8 x2 := by simpa using e2
  obtain rfl : c3 = .int .u8 x3 := by simpa using e3
  have b0 := bounds_u8 w0
  have b1 := bounds_u8 w1
  have b2 := bounds_u8 w2
  have b3 := bounds_u8 w3
  refine ⟨fun i => if i = 0 then x0.toNat else if i = 1 then x1.toNat else if i = 2 then x2.toNat else x3.toNat, ?_, fun i hi => ?_⟩
  · show _ = [Value.int .u8 ((x0.toNat : Nat) : Int), .int .u8 ((x1.toNat : Nat) : Int), .int .u8 ((x2.toNat : Nat) : Int), .int .u8 ((x3.toNat : Nat) : Int)]
    rw [Int.toNat_of_nonneg b0.1, Int.toNat_of_nonneg b1.1, Int.toNat_of_nonneg b2.1, Int.toNat_of_nonneg b3.1]
  · dsimp only
    split
    · omega
    · split
      · omega
      · split <;> omega
theorem okWide_arr {P : Program} {w : World} {r : Reach} {base : Nat} {t e : TypeId} {n : Nat} {v : Value} (ht : P.underlying t = some (.array n e)) (h : Value.okWide P w r base t v) : ∃ cs, v = .agg cs ∧ cs.size = P.cellsOf t := by
  simp only [Value.okWide, ht] at h
  obtain ⟨cs, h1, h2, _⟩ := h
  exact ⟨cs, h1, h2⟩
theorem open_arr4 {H : Type} {enc : TypeId × Value → H} {P : Program} {W : World} {r : Reach} {b0 : Nat} {t e : TypeId} {v : Value} {d : DataW H} {ps : List MemPlace} (ht : P.underlying t = some (.array 4 e)) (he : P.underlying e = some (.int .u8)) (hce : P.cellsOf e = 1) (hC : P.cellsOf t = 4) (hv : Value.okWide P W r b0 t v)
    (h : DataW.Trod enc P W 0 (fun _ => true) true t v d ps) : ∃ M : Nat → Nat, v = .agg (msA M) ∧ ∀ i, i < 4 → M i < 256 := by
  obtain ⟨cs, rfl, hsz⟩ := okWide_arr ht hv
  obtain ⟨fu, hf⟩ := h
  obtain ⟨M, hq, hM⟩ := open_four ht he hce (by rw [Array.length_toList, hsz, hC]) (by simpa [Value.cells] using hf)
  exact ⟨M, by congr 1; exact Array.toList_inj.1 hq, hM⟩
theorem open_frame {H : Type} {enc : TypeId × Value → H} {P : Program} {W : World} {r : Reach} {b0 : Nat} {t e : TypeId} {f0 f1 f2 f3 f4 : Field} {v : Value} {d : DataW H} {ps : List MemPlace}
    (hs : P.underlying t = some (.struct #[f0, f1, f2, f3, f4])) (h0 : P.underlying f0.type = some .bool) (h1 : P.underlying f1.type = some (.int .i64)) (h2 : P.underlying f2.type = some .bool) (h3 : P.underlying f3.type = some (.array 4 e)) (h4 : P.underlying f4.type = some .string) (he : P.underlying e = some (.int .u8)) (hce : P.cellsOf e = 1)
    (ct : P.cellsOf t = 8) (ho : (#[f0, f1, f2, f3, f4].map fun f => (f.offset, P.cellsOf f.type)) = #[(0, 1), (1, 1), (2, 1), (3, 4), (7, 1)])
    (hv : Value.okWide P W r b0 t v) (h : DataW.Trod enc P W 0 (fun _ => true) true t v d ps) (hw : ∀ n, n ∈ DataW.weights P t d → n ≤ reachBytes) : ∃ (fin msk : Bool) (op : Int) (M : Nat → Nat) (p : ByteArray), v = .agg (frO fin op msk M p) ∧ (-9223372036854775808 ≤ op ∧ op ≤ 9223372036854775807) ∧ (∀ i, i < 4 → M i < 256) ∧ p.size ≤ 140737488351232 := by
  obtain ⟨cs, rfl, hsz⟩ := okWide_struct hs hv
  obtain ⟨fu, hf⟩ := h
  have hf : DataW.trod enc P W 0 (fun _ => true) true fu t cs.toList = some (d, ps) := by simpa [Value.cells] using hf
  obtain ⟨xs, m, _, hx, hcl, hxl, hf⟩ := DataW.trod_struct hs hf
  rw [ct] at hcl
  obtain ⟨y0, y1, y2, y3, y4, rfl⟩ := fiveC hxl
  obtain ⟨c0, c1, c2, c3, c4, c5, c6, c7, hcs⟩ := eightC hcl
  rw [hcs] at hf
  simp only [List.map_toArray, List.map_cons, List.map_nil, Array.mk.injEq, List.cons.injEq, Prod.mk.injEq, and_true] at ho
  obtain ⟨⟨q0, s0⟩, ⟨q1, s1⟩, ⟨q2, s2⟩, ⟨q3, s3⟩, ⟨q4, s4⟩⟩ := ho
  have t0 := hf 0 f0 rfl
  have t1 := hf 1 f1 rfl
  have t2 := hf 2 f2 rfl
  have t3 := hf 3 f3 rfl
  have t4 := hf 4 f4 rfl
  simp only [q0, s0, q1, s1, q2, s2, q3, s3, q4, s4, List.drop_succ_cons, List.drop_zero, List.take_succ_cons, List.take_zero, List.getElem?_cons_zero, List.getElem?_cons_succ] at t0 t1 t2 t3 t4
  simp only [Prod.mk.injEq] at hx
  obtain ⟨hd, _⟩ := hx
  obtain ⟨fin, e0, _⟩ := DataW.trod_bool h0 t0
  obtain ⟨op, e1, _, w1⟩ := DataW.trod_int h1 t1
  obtain ⟨msk, e2, _⟩ := DataW.trod_bool h2 t2
  obtain ⟨M, e3, hM⟩ := open_four h3 he hce rfl t3
  obtain ⟨p, e4, hd4, _⟩ := DataW.trod_string h4 t4
  obtain rfl : c0 = .bool fin := by simpa using e0
  obtain rfl : c1 = .int .i64 op := by simpa using e1
  obtain rfl : c2 = .bool msk := by simpa using e2
  obtain rfl : c7 = .string p := by simpa using e4
  simp only [msA, List.cons.injEq, and_true] at e3
  obtain ⟨rfl, rfl, rfl, rfl⟩ := e3
  refine ⟨fin, msk, op, M, p, ?_, bounds_i64 w1, hM, ?_⟩
  · congr 1
    exact Array.toList_inj.1 hcs
  · have := hw p.data.toList.length (by
      rw [hd]
      simp only [DataW.weights, hs]
      refine DataW.weights_mem_each (j := 4) (t := f4.type) (d := y4.1) rfl rfl _ ?_
      rw [hd4]
      simp [DataW.weights])
    simp only [reachBytes, Array.length_toList] at this
    show p.data.size ≤ _
    omega
end Go.Proofs.YtnbhgjionpidnaaDoor
