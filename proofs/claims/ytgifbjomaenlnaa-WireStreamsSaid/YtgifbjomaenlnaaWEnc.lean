/- Encode. Condition: the message's entries lie in memory. -/
import Derived.Test.YtgifbjomaenlnaaWApp
namespace Go.Proofs.Ytgifbjomaenlnaa
open Go.RowKit

set_option maxRecDepth 100000 in
theorem wenc_ok (m : MsgM) (A : Option Addr) (n c : Nat) (w : World) (h : Mg w m A n c) (hc : checkN m = 0) :
    Calls Try.prog 8 #[.agg (msgC m A n c)] w fun e w' => (∃ A2 c2, e = .returned (.tuple #[.slice A2 (encN m).length c2, .int .i64 0]) ∧ (encN m).length ≤ c2 ∧ Seg w' A2 (u8s (encN m))) ∧ Below w.heap.size w w' := by
  have B0 := (Below.refl w.heap.size w).alloc (Nat.le_refl _) (.cells (msgC m A n c) 24)
  have X0 := Bk.new w 24 (msgC m A n c)
  have H := Lib.hid h
  have HC := Lib.hid hc
  obtain ⟨w1, hw1⟩ : ∃ w1, w1 = w.alloc (.cells (msgC m A n c) 24) := ⟨_, rfl⟩
  rw [← hw1] at B0 X0
  have y0 : w1.cell? ⟨w.heap.size, 0, none⟩ = some (.int .i64 m.kind) := X0.cell 0
  have y1 : w1.cell? ⟨w.heap.size, 1, none⟩ = some (.int .i64 m.n0) := X0.cell 1
  have y2 : w1.cell? ⟨w.heap.size, 2, none⟩ = some (.int .i64 m.n1) := X0.cell 2
  have y3 : w1.cell? ⟨w.heap.size, 3, none⟩ = some (.int .i64 m.n2) := X0.cell 3
  have y4 : w1.cell? ⟨w.heap.size, 4, none⟩ = some (.int .i64 m.n3) := X0.cell 4
  have y5 : w1.cell? ⟨w.heap.size, 5, none⟩ = some (.int .i64 m.n4) := X0.cell 5
  have y6 : w1.cell? ⟨w.heap.size, 6, none⟩ = some (.int .i64 m.n5) := X0.cell 6
  have y7 : w1.cell? ⟨w.heap.size, 7, none⟩ = some (.slice A n c) := X0.cell 7
  have y8 : w1.cell? ⟨w.heap.size, 8, none⟩ = some (.bool m.ok) := X0.cell 8
  have y9 : w1.cell? ⟨w.heap.size, 9, none⟩ = some (.int .i64 m.n6) := X0.cell 9
  have C1 := check_any m A n c w1 (h.bel B0)
  rw [hc] at C1
  have C1 := Lib.hid C1
  have HW1 := Lib.hid hw1
  have HB0 := Lib.hid B0
  have HX0 := Lib.hid X0
  clear h hc B0 X0 hw1
  unfold msgC at C1 HW1 ⊢
  go_enter Try.func8, Try.ntmps8
  go_upto_region 1 with fail
  rw [← HW1.out]
  go_wp2_with fail
  refine C1.out.mono ?_
  rintro e w2 ⟨rfl, hb2⟩
  have X2 := HX0.out.bel hb2
  have HB2 := Lib.hid (HB0.out.trans (hb2.mono HB0.out.size))
  have C2 := Lib.hid (body_any m A n c w2 (H.out.bel HB2.out) HC.out)
  have z0 : w2.cell? ⟨w.heap.size, 0, none⟩ = some (.int .i64 m.kind) := X2.cell 0
  have z1 : w2.cell? ⟨w.heap.size, 1, none⟩ = some (.int .i64 m.n0) := X2.cell 1
  have z2 : w2.cell? ⟨w.heap.size, 2, none⟩ = some (.int .i64 m.n1) := X2.cell 2
  have z3 : w2.cell? ⟨w.heap.size, 3, none⟩ = some (.int .i64 m.n2) := X2.cell 3
  have z4 : w2.cell? ⟨w.heap.size, 4, none⟩ = some (.int .i64 m.n3) := X2.cell 4
  have z5 : w2.cell? ⟨w.heap.size, 5, none⟩ = some (.int .i64 m.n4) := X2.cell 5
  have z6 : w2.cell? ⟨w.heap.size, 6, none⟩ = some (.int .i64 m.n5) := X2.cell 6
  have z7 : w2.cell? ⟨w.heap.size, 7, none⟩ = some (.slice A n c) := X2.cell 7
  have z8 : w2.cell? ⟨w.heap.size, 8, none⟩ = some (.bool m.ok) := X2.cell 8
  have z9 : w2.cell? ⟨w.heap.size, 9, none⟩ = some (.int .i64 m.n6) := X2.cell 9
  unfold msgC at C2
  clear hb2 X2 y0 y1 y2 y3 y4 y5 y6 y7 y8 y9 HX0 C1
  go_wp2_with fail
  refine C2.out.mono ?_
  rintro e w3 ⟨v, rfl, hown, hb3⟩
  obtain ⟨A2, c2, rfl, hc2, hs⟩ := own_shape hown
  have HB3 := Lib.hid (HB2.out.trans (hb3.mono HB2.out.size))
  have HS := Lib.hid hs
  have HC2 := Lib.hid hc2
  clear hown hb3 hs hc2 C2 z0 z1 z2 z3 z4 z5 z6 z7 z8 z9
  go_wp2_with fail
  refine bodyPost_ret (v := .tuple #[.slice A2 (encN m).length c2, .int .i64 0]) (by simp [results, Try.results8, go_sem]) rfl ⟨⟨A2, c2, rfl, HC2.out, HS.out⟩, HB3.out⟩
set_option maxRecDepth 100000 in
theorem wenc_no (m : MsgM) (A : Option Addr) (n c : Nat) (w : World) (h : Mg w m A n c) (hc : checkN m ≠ 0) :
    Calls Try.prog 8 #[.agg (msgC m A n c)] w fun e w' => e = .returned (.tuple #[.slice none 0 0, .int .i64 (checkN m : Nat)]) ∧ Below w.heap.size w w' := by
  have B0 := (Below.refl w.heap.size w).alloc (Nat.le_refl _) (.cells (msgC m A n c) 24)
  have X0 := Bk.new w 24 (msgC m A n c)
  obtain ⟨w1, hw1⟩ : ∃ w1, w1 = w.alloc (.cells (msgC m A n c) 24) := ⟨_, rfl⟩
  rw [← hw1] at B0 X0
  have y0 : w1.cell? ⟨w.heap.size, 0, none⟩ = some (.int .i64 m.kind) := X0.cell 0
  have y1 : w1.cell? ⟨w.heap.size, 1, none⟩ = some (.int .i64 m.n0) := X0.cell 1
  have y2 : w1.cell? ⟨w.heap.size, 2, none⟩ = some (.int .i64 m.n1) := X0.cell 2
  have y3 : w1.cell? ⟨w.heap.size, 3, none⟩ = some (.int .i64 m.n2) := X0.cell 3
  have y4 : w1.cell? ⟨w.heap.size, 4, none⟩ = some (.int .i64 m.n3) := X0.cell 4
  have y5 : w1.cell? ⟨w.heap.size, 5, none⟩ = some (.int .i64 m.n4) := X0.cell 5
  have y6 : w1.cell? ⟨w.heap.size, 6, none⟩ = some (.int .i64 m.n5) := X0.cell 6
  have y7 : w1.cell? ⟨w.heap.size, 7, none⟩ = some (.slice A n c) := X0.cell 7
  have y8 : w1.cell? ⟨w.heap.size, 8, none⟩ = some (.bool m.ok) := X0.cell 8
  have y9 : w1.cell? ⟨w.heap.size, 9, none⟩ = some (.int .i64 m.n6) := X0.cell 9
  have C1 := check_any m A n c w1 (h.bel B0)
  obtain ⟨K, hK⟩ : ∃ K, K = checkN m := ⟨_, rfl⟩
  rw [← hK] at hc C1 ⊢
  have hk : ((K : Int) != 0) = true := by rw [bne_iff_ne]; omega
  have C1 := Lib.hid C1
  have HW1 := Lib.hid hw1
  have HB0 := Lib.hid B0
  clear h B0 X0 hw1 hK
  unfold msgC at C1 HW1 ⊢
  go_enter Try.func8, Try.ntmps8
  go_upto_region 1 with fail
  rw [← HW1.out]
  go_wp2_with fail
  refine C1.out.mono ?_
  rintro e w2 ⟨rfl, hb2⟩
  have HB2 := Lib.hid (HB0.out.trans (hb2.mono HB0.out.size))
  clear hb2 y0 y1 y2 y3 y4 y5 y6 y7 y8 y9 C1
  go_wp2_with fail
  refine bodyPost_ret (v := .tuple #[.slice none 0 0, .int .i64 (K : Nat)]) (by simp [results, Try.results8, go_sem]) rfl ⟨rfl, HB2.out⟩
end Go.Proofs.Ytgifbjomaenlnaa
