/- The statement on encoding, its own walk. Condition: the message's entries lie in memory. -/
import Derived.Test.YtgifbjomaenlnaaWDecL
import Derived.Test.YtgifbjomaenlnaaWFrame
import Derived.Test.YtgifbjomaenlnaaWFew
namespace Go.Proofs.Ytgifbjomaenlnaa
open Go.RowKit

set_option maxRecDepth 100000 in
set_option maxHeartbeats 4000000 in
theorem wencl_any (m : MsgM) (A : Option Addr) (n c : Nat) (w : World) (h : Mg w m A n c) :
    Calls Try.prog 3 #[.agg (msgC m A n c)] w fun e w' => e = .returned (.bool true) ∧ Below w.heap.size w w' := by
  obtain ⟨i0, hi0, hz0, hz1, hz2⟩ := info_parts info5
  obtain ⟨wa, hwa⟩ : ∃ wa, wa = w.alloc (.cells (msgC m A n c) 24) := ⟨_, rfl⟩
  have BA := Lib.hid (show Below w.heap.size w wa by rw [hwa]; exact (Below.refl _ _).alloc (Nat.le_refl _) _)
  have XA := Lib.hid (show Bk wa w.heap.size 24 (msgC m A n c) by rw [hwa]; exact Bk.new w _ _)
  have CC := few_any m A n c wa (h.bel BA.out)
  have HLT := Lib.hid XA.out.lt
  obtain ⟨M, hM⟩ : ∃ M, M = fewM m := ⟨_, rfl⟩
  rw [← hM] at CC
  obtain ⟨k, hk⟩ : ∃ k, k = M.ents.length := ⟨_, rfl⟩
  rw [← hk] at CC
  have HK := Lib.hid hk
  have HF := Lib.hid (show fewM M = M by rw [hM]; exact fewM_two m)
  have HWA := Lib.hid hwa
  clear h hM hk hwa
  unfold msgC at CC HWA ⊢
  have CC := Lib.hid CC
  go_enter Try.func3, Try.ntmps3
  go_upto_region 1 with fail
  rw [← HWA.out]
  have y0 : wa.cell? ⟨w.heap.size, 0, none⟩ = some (.int .i64 m.kind) := XA.out.cell 0
  have y1 : wa.cell? ⟨w.heap.size, 1, none⟩ = some (.int .i64 m.n0) := XA.out.cell 1
  have y2 : wa.cell? ⟨w.heap.size, 2, none⟩ = some (.int .i64 m.n1) := XA.out.cell 2
  have y3 : wa.cell? ⟨w.heap.size, 3, none⟩ = some (.int .i64 m.n2) := XA.out.cell 3
  have y4 : wa.cell? ⟨w.heap.size, 4, none⟩ = some (.int .i64 m.n3) := XA.out.cell 4
  have y5 : wa.cell? ⟨w.heap.size, 5, none⟩ = some (.int .i64 m.n4) := XA.out.cell 5
  have y6 : wa.cell? ⟨w.heap.size, 6, none⟩ = some (.int .i64 m.n5) := XA.out.cell 6
  have y7 : wa.cell? ⟨w.heap.size, 7, none⟩ = some (.slice A n c) := XA.out.cell 7
  have y8 : wa.cell? ⟨w.heap.size, 8, none⟩ = some (.bool m.ok) := XA.out.cell 8
  have y9 : wa.cell? ⟨w.heap.size, 9, none⟩ = some (.int .i64 m.n6) := XA.out.cell 9
  go_wp2_with fail
  refine CC.out.mono ?_
  rintro e wb ⟨⟨A1, c1, rfl, hm, hf⟩, hb⟩
  clear CC y0 y1 y2 y3 y4 y5 y6 y7 y8 y9
  have XB := XA.out.bel hb
  have y0 : wb.cell? ⟨w.heap.size, 0, none⟩ = some (.int .i64 m.kind) := XB.cell 0
  have y1 : wb.cell? ⟨w.heap.size, 1, none⟩ = some (.int .i64 m.n0) := XB.cell 1
  have y2 : wb.cell? ⟨w.heap.size, 2, none⟩ = some (.int .i64 m.n1) := XB.cell 2
  have y3 : wb.cell? ⟨w.heap.size, 3, none⟩ = some (.int .i64 m.n2) := XB.cell 3
  have y4 : wb.cell? ⟨w.heap.size, 4, none⟩ = some (.int .i64 m.n3) := XB.cell 4
  have y5 : wb.cell? ⟨w.heap.size, 5, none⟩ = some (.int .i64 m.n4) := XB.cell 5
  have y6 : wb.cell? ⟨w.heap.size, 6, none⟩ = some (.int .i64 m.n5) := XB.cell 6
  have y7 : wb.cell? ⟨w.heap.size, 7, none⟩ = some (.slice A n c) := XB.cell 7
  have y8 : wb.cell? ⟨w.heap.size, 8, none⟩ = some (.bool m.ok) := XB.cell 8
  have y9 : wb.cell? ⟨w.heap.size, 9, none⟩ = some (.int .i64 m.n6) := XB.cell 9
  have z0 := XB.frozen 0
  have z1 := XB.frozen 1
  have z2 := XB.frozen 2
  have z3 := XB.frozen 3
  have z4 := XB.frozen 4
  have z5 := XB.frozen 5
  have z6 := XB.frozen 6
  have z7 := XB.frozen 7
  have z8 := XB.frozen 8
  have z9 := XB.frozen 9
  have HSW := Lib.hid (show ∀ W1, ((((((((((wb.setCell ⟨w.heap.size, 0, none⟩ (.int .i64 M.kind)).setCell ⟨w.heap.size, 1, none⟩ (.int .i64 M.n0)).setCell ⟨w.heap.size, 2, none⟩ (.int .i64 M.n1)).setCell ⟨w.heap.size, 3, none⟩ (.int .i64 M.n2)).setCell ⟨w.heap.size, 4, none⟩ (.int .i64 M.n3)).setCell ⟨w.heap.size, 5, none⟩ (.int .i64 M.n4)).setCell ⟨w.heap.size, 6, none⟩ (.int .i64 M.n5)).setCell ⟨w.heap.size, 7, none⟩ (.slice A1 k c1)).setCell ⟨w.heap.size, 8, none⟩ (.bool M.ok)).setCell ⟨w.heap.size, 9, none⟩ (.int .i64 M.n6)) = W1 → Bk W1 w.heap.size 24 #[.int .i64 M.kind, .int .i64 M.n0, .int .i64 M.n1, .int .i64 M.n2, .int .i64 M.n3, .int .i64 M.n4, .int .i64 M.n5, .slice A1 k c1, .bool M.ok, .int .i64 M.n6] ∧ Mg W1 M A1 k c1 ∧ Below w.heap.size w W1 from fun W1 hW => by
    obtain ⟨g1, g2, g3⟩ := set_ten (Nat.le_refl _) (BA.out.trans (hb.mono BA.out.size)) XB (.int .i64 M.kind) (.int .i64 M.n0) (.int .i64 M.n1) (.int .i64 M.n2) (.int .i64 M.n3) (.int .i64 M.n4) (.int .i64 M.n5) (.slice A1 k c1) (.bool M.ok) (.int .i64 M.n6) _ hW
    exact ⟨g2, ⟨hm.en, hm.es.kept g3 (fun a e => by have := hf a e; have := HLT.out; omega), hm.nc, hm.bn, hm.bk, hm.bm, hm.be⟩, g1⟩)
  clear XB hb hm hf
  go_upto_region 2 with fail
  generalize hW1 : ((((((((((wb.setCell ⟨w.heap.size, 0, none⟩ (.int .i64 M.kind)).setCell ⟨w.heap.size, 1, none⟩ (.int .i64 M.n0)).setCell ⟨w.heap.size, 2, none⟩ (.int .i64 M.n1)).setCell ⟨w.heap.size, 3, none⟩ (.int .i64 M.n2)).setCell ⟨w.heap.size, 4, none⟩ (.int .i64 M.n3)).setCell ⟨w.heap.size, 5, none⟩ (.int .i64 M.n4)).setCell ⟨w.heap.size, 6, none⟩ (.int .i64 M.n5)).setCell ⟨w.heap.size, 7, none⟩ (.slice A1 k c1)).setCell ⟨w.heap.size, 8, none⟩ (.bool M.ok)).setCell ⟨w.heap.size, 9, none⟩ (.int .i64 M.n6)) = W1
  obtain ⟨x1, m1, b1⟩ := HSW.out W1 hW1
  have HX1 := Lib.hid x1
  have HM1 := Lib.hid m1
  have HB1 := Lib.hid b1
  clear hW1 HSW x1 m1 b1 y0 y1 y2 y3 y4 y5 y6 y7 y8 y9 z0 z1 z2 z3 z4 z5 z6 z7 z8 z9
  by_cases hck : checkN M = 0
  · have HCK := Lib.hid hck
    obtain ⟨q0, q1, q2, q3⟩ := check_ok hck
    have HBP := Lib.hid (show bodyP (encN M) = some M from bodyP_enc M hck ⟨q0, q1⟩ q2 HM1.out.bm (fun e he => ⟨(HM1.out.be e he).1, q3 e he⟩))
    have HLT8 := Lib.hid (encN_lt HM1.out.bm (fun e he => (HM1.out.be e he).1))
    have hen9 := encN_len hck
    obtain ⟨en, hen⟩ : ∃ en, en = (encN M).length := ⟨_, rfl⟩
    rw [← hen] at hen9
    have HEN := Lib.hid hen
    obtain ⟨fl, hfl⟩ : ∃ fl, fl = (frameN M).length := ⟨_, rfl⟩
    have hfl9 : fl ≤ 902 := by rw [hfl]; unfold frameN; simp only [List.length_cons]; omega
    have HFL := Lib.hid hfl
    clear hck q0 q1 q2 q3 hen hfl
    have y0 : W1.cell? ⟨w.heap.size, 0, none⟩ = some (.int .i64 M.kind) := HX1.out.cell 0
    have y1 : W1.cell? ⟨w.heap.size, 1, none⟩ = some (.int .i64 M.n0) := HX1.out.cell 1
    have y2 : W1.cell? ⟨w.heap.size, 2, none⟩ = some (.int .i64 M.n1) := HX1.out.cell 2
    have y3 : W1.cell? ⟨w.heap.size, 3, none⟩ = some (.int .i64 M.n2) := HX1.out.cell 3
    have y4 : W1.cell? ⟨w.heap.size, 4, none⟩ = some (.int .i64 M.n3) := HX1.out.cell 4
    have y5 : W1.cell? ⟨w.heap.size, 5, none⟩ = some (.int .i64 M.n4) := HX1.out.cell 5
    have y6 : W1.cell? ⟨w.heap.size, 6, none⟩ = some (.int .i64 M.n5) := HX1.out.cell 6
    have y7 : W1.cell? ⟨w.heap.size, 7, none⟩ = some (.slice A1 k c1) := HX1.out.cell 7
    have y8 : W1.cell? ⟨w.heap.size, 8, none⟩ = some (.bool M.ok) := HX1.out.cell 8
    have y9 : W1.cell? ⟨w.heap.size, 9, none⟩ = some (.int .i64 M.n6) := HX1.out.cell 9
    have F2 := few_any M A1 k c1 W1 HM1.out
    rw [HF.out, ← HK.out] at F2
    unfold msgC at F2
    have F2 := Lib.hid F2
    go_wp2_with fail
    refine F2.out.mono ?_
    rintro e w2 ⟨⟨A2, c2, rfl, hm2, _⟩, hb⟩
    clear y0 y1 y2 y3 y4 y5 y6 y7 y8 y9 F2
    have HX2 := Lib.hid (HX1.out.bel hb)
    have HM2 := Lib.hid (HM1.out.bel hb)
    have HB2 := Lib.hid (HB1.out.trans (hb.mono HB1.out.size))
    clear hb
    have HN2 := Lib.hid hm2
    clear hm2
    have CC := wenc_ok M A2 k c2 w2 HN2.out HCK.out
    rw [← HEN.out] at CC
    unfold msgC at CC
    have CC := Lib.hid CC
    go_wp2_with fail
    refine CC.out.mono ?_
    rintro e w3 ⟨⟨Ab, cb, rfl, hcb, hsb⟩, hb⟩
    clear CC
    have HX3 := Lib.hid (HX2.out.bel hb)
    have HM3 := Lib.hid (HM2.out.bel hb)
    have HB3 := Lib.hid (HB2.out.trans (hb.mono HB2.out.size))
    clear hb
    have HSb3 := Lib.hid hsb
    clear hsb HN2
    have y0 : w3.cell? ⟨w.heap.size, 0, none⟩ = some (.int .i64 M.kind) := HX3.out.cell 0
    have y1 : w3.cell? ⟨w.heap.size, 1, none⟩ = some (.int .i64 M.n0) := HX3.out.cell 1
    have y2 : w3.cell? ⟨w.heap.size, 2, none⟩ = some (.int .i64 M.n1) := HX3.out.cell 2
    have y3 : w3.cell? ⟨w.heap.size, 3, none⟩ = some (.int .i64 M.n2) := HX3.out.cell 3
    have y4 : w3.cell? ⟨w.heap.size, 4, none⟩ = some (.int .i64 M.n3) := HX3.out.cell 4
    have y5 : w3.cell? ⟨w.heap.size, 5, none⟩ = some (.int .i64 M.n4) := HX3.out.cell 5
    have y6 : w3.cell? ⟨w.heap.size, 6, none⟩ = some (.int .i64 M.n5) := HX3.out.cell 6
    have y7 : w3.cell? ⟨w.heap.size, 7, none⟩ = some (.slice A1 k c1) := HX3.out.cell 7
    have y8 : w3.cell? ⟨w.heap.size, 8, none⟩ = some (.bool M.ok) := HX3.out.cell 8
    have y9 : w3.cell? ⟨w.heap.size, 9, none⟩ = some (.int .i64 M.n6) := HX3.out.cell 9
    have F4 := few_any M A1 k c1 w3 HM3.out
    rw [HF.out, ← HK.out] at F4
    unfold msgC at F4
    have F4 := Lib.hid F4
    go_wp2_with fail
    refine F4.out.mono ?_
    rintro e w4 ⟨⟨A4, c4, rfl, hm4, _⟩, hb⟩
    clear y0 y1 y2 y3 y4 y5 y6 y7 y8 y9 F4
    have HX4 := Lib.hid (HX3.out.bel hb)
    have HM4 := Lib.hid (HM3.out.bel hb)
    have HB4 := Lib.hid (HB3.out.trans (hb.mono HB3.out.size))
    have HSb4 := Lib.hid (HSb3.out.bel hb)
    clear hb
    have HN4 := Lib.hid hm4
    clear hm4
    have CC := wframe_ok M A4 k c4 w4 HN4.out HCK.out
    rw [← HFL.out] at CC
    unfold msgC at CC
    have CC := Lib.hid CC
    go_wp2_with fail
    refine CC.out.mono ?_
    rintro e w5 ⟨⟨Af, cf, rfl, hcf, hsf, _⟩, hb⟩
    clear CC
    have HX5 := Lib.hid (HX4.out.bel hb)
    have HM5 := Lib.hid (HM4.out.bel hb)
    have HB5 := Lib.hid (HB4.out.trans (hb.mono HB4.out.size))
    have HSb5 := Lib.hid (HSb4.out.bel hb)
    clear hb
    have HSf5 := Lib.hid hsf
    clear hsf HN4
    have y0 : w5.cell? ⟨w.heap.size, 0, none⟩ = some (.int .i64 M.kind) := HX5.out.cell 0
    have y1 : w5.cell? ⟨w.heap.size, 1, none⟩ = some (.int .i64 M.n0) := HX5.out.cell 1
    have y2 : w5.cell? ⟨w.heap.size, 2, none⟩ = some (.int .i64 M.n1) := HX5.out.cell 2
    have y3 : w5.cell? ⟨w.heap.size, 3, none⟩ = some (.int .i64 M.n2) := HX5.out.cell 3
    have y4 : w5.cell? ⟨w.heap.size, 4, none⟩ = some (.int .i64 M.n3) := HX5.out.cell 4
    have y5 : w5.cell? ⟨w.heap.size, 5, none⟩ = some (.int .i64 M.n4) := HX5.out.cell 5
    have y6 : w5.cell? ⟨w.heap.size, 6, none⟩ = some (.int .i64 M.n5) := HX5.out.cell 6
    have y7 : w5.cell? ⟨w.heap.size, 7, none⟩ = some (.slice A1 k c1) := HX5.out.cell 7
    have y8 : w5.cell? ⟨w.heap.size, 8, none⟩ = some (.bool M.ok) := HX5.out.cell 8
    have y9 : w5.cell? ⟨w.heap.size, 9, none⟩ = some (.int .i64 M.n6) := HX5.out.cell 9
    have CC := rcheck_any M A1 k c1 w5 HM5.out
    rw [HCK.out, show ((0 : Nat) : Int) = 0 from rfl] at CC
    unfold msgC at CC
    have CC := Lib.hid CC
    go_wp2_with fail
    refine CC.out.mono ?_
    rintro e w6 ⟨rfl, hb⟩
    clear CC y0 y1 y2 y3 y4 y5 y6 y7 y8 y9
    have HX6 := Lib.hid (HX5.out.bel hb)
    have HM6 := Lib.hid (HM5.out.bel hb)
    have HB6 := Lib.hid (HB5.out.trans (hb.mono HB5.out.size))
    have HSb6 := Lib.hid (HSb5.out.bel hb)
    have HSf6 := Lib.hid (HSf5.out.bel hb)
    clear hb
    have CC := Lib.hid (wawake_any w6)
    go_wp2_with fail
    refine CC.out.mono ?_
    rintro e w7 ⟨rfl, hb⟩
    clear CC
    have HX7 := Lib.hid (HX6.out.bel hb)
    have HM7 := Lib.hid (HM6.out.bel hb)
    have HB7 := Lib.hid (HB6.out.trans (hb.mono HB6.out.size))
    have HSb7 := Lib.hid (HSb6.out.bel hb)
    have HSf7 := Lib.hid (HSf6.out.bel hb)
    clear hb
    have y0 : w7.cell? ⟨w.heap.size, 0, none⟩ = some (.int .i64 M.kind) := HX7.out.cell 0
    have y1 : w7.cell? ⟨w.heap.size, 1, none⟩ = some (.int .i64 M.n0) := HX7.out.cell 1
    have y2 : w7.cell? ⟨w.heap.size, 2, none⟩ = some (.int .i64 M.n1) := HX7.out.cell 2
    have y3 : w7.cell? ⟨w.heap.size, 3, none⟩ = some (.int .i64 M.n2) := HX7.out.cell 3
    have y4 : w7.cell? ⟨w.heap.size, 4, none⟩ = some (.int .i64 M.n3) := HX7.out.cell 4
    have y5 : w7.cell? ⟨w.heap.size, 5, none⟩ = some (.int .i64 M.n4) := HX7.out.cell 5
    have y6 : w7.cell? ⟨w.heap.size, 6, none⟩ = some (.int .i64 M.n5) := HX7.out.cell 6
    have y7 : w7.cell? ⟨w.heap.size, 7, none⟩ = some (.slice A1 k c1) := HX7.out.cell 7
    have y8 : w7.cell? ⟨w.heap.size, 8, none⟩ = some (.bool M.ok) := HX7.out.cell 8
    have y9 : w7.cell? ⟨w.heap.size, 9, none⟩ = some (.int .i64 M.n6) := HX7.out.cell 9
    have F8 := few_any M A1 k c1 w7 HM7.out
    rw [HF.out, ← HK.out] at F8
    unfold msgC at F8
    have F8 := Lib.hid F8
    go_wp2_with fail
    refine F8.out.mono ?_
    rintro e w8 ⟨⟨A8, c8, rfl, hm8, _⟩, hb⟩
    clear y0 y1 y2 y3 y4 y5 y6 y7 y8 y9 F8
    have HX8 := Lib.hid (HX7.out.bel hb)
    have HM8 := Lib.hid (HM7.out.bel hb)
    have HB8 := Lib.hid (HB7.out.trans (hb.mono HB7.out.size))
    have HSb8 := Lib.hid (HSb7.out.bel hb)
    have HSf8 := Lib.hid (HSf7.out.bel hb)
    clear hb
    have HN8 := Lib.hid hm8
    clear hm8
    have CC := check_any M A8 k c8 w8 HN8.out
    rw [HCK.out, show ((0 : Nat) : Int) = 0 from rfl] at CC
    unfold msgC at CC
    have CC := Lib.hid CC
    go_wp2_with fail
    refine CC.out.mono ?_
    rintro e w9 ⟨rfl, hb⟩
    clear CC
    have HX9 := Lib.hid (HX8.out.bel hb)
    have HM9 := Lib.hid (HM8.out.bel hb)
    have HB9 := Lib.hid (HB8.out.trans (hb.mono HB8.out.size))
    have HSb9 := Lib.hid (HSb8.out.bel hb)
    have HSf9 := Lib.hid (HSf8.out.bel hb)
    clear hb
    clear HN8
    have hbs := HB9.out.size
    go_wp2_with (at_builtin; refine wpList_append_seg _ rfl (.tmp 56) (.tmp 57) _ rfl w9.heap.size 5 i0 _ 1 Try.underlying26 hi0 hz0 hz1 hz2 rfl _ 0 _ rfl (World.ownsRow_lit w9 #[] 0 (by omega) (by decide) rfl) Ab en cb (u8s (encN M)) rfl (by rw [u8s_length, ← HEN.out]) (HSb9.out.bel ((Below.refl _ _).alloc (Nat.le_refl _) _)) (u8s_one _) (by simp only [maxLen]; omega) (by omega) (by simp only [World.size_alloc]; omega) ?_; intro v1 w10 hown1 hb1; simp only [Nat.zero_add, List.nil_append] at hown1; obtain ⟨Ac, cc, rfl, hcc, sc⟩ := own_shape hown1; have SC := Lib.hid sc; have LC := Lib.hid (fun a (e : Ac = some a) => own_lt_slice hown1 e); have hb : Below w9.heap.size w9 w10 := (((Below.refl w9.heap.size w9).alloc (Nat.le_refl _) (.cells #[] 5)).trans hb1); clear hown1 hb1 sc)
    have HX10 := Lib.hid (HX9.out.bel hb)
    have HM10 := Lib.hid (HM9.out.bel hb)
    have HB10 := Lib.hid (HB9.out.trans (hb.mono HB9.out.size))
    have HSb10 := Lib.hid (HSb9.out.bel hb)
    have HSf10 := Lib.hid (HSf9.out.bel hb)
    clear hb
    refine (dec_any Ac en cc (encN M) HEN.out hcc (by omega) HLT8.out w10 SC.out LC.out).mono ?_
    rintro e w11 ⟨hb, hpost⟩
    rw [if_pos (by rw [← HEN.out]; exact hen9), HBP.out] at hpost
    obtain ⟨Ad, cd, rfl, hmd⟩ := hpost
    rw [← HK.out] at hmd ⊢
    have HMD := Lib.hid hmd
    have HX11 := Lib.hid (HX10.out.bel hb)
    have HM11 := Lib.hid (HM10.out.bel hb)
    have HB11 := Lib.hid (HB10.out.trans (hb.mono HB10.out.size))
    have HSb11 := Lib.hid (HSb10.out.bel hb)
    have HSf11 := Lib.hid (HSf10.out.bel hb)
    clear hb
    clear hmd SC LC
    have hb := (Below.refl w11.heap.size w11).alloc (Nat.le_refl _) (.cells #[.int .i64 M.kind, .int .i64 M.n0, .int .i64 M.n1, .int .i64 M.n2, .int .i64 M.n3, .int .i64 M.n4, .int .i64 M.n5, .slice Ad k cd, .bool M.ok, .int .i64 M.n6] 24)
    have XD := Lib.hid (Bk.new w11 24 #[.int .i64 M.kind, .int .i64 M.n0, .int .i64 M.n1, .int .i64 M.n2, .int .i64 M.n3, .int .i64 M.n4, .int .i64 M.n5, .slice Ad k cd, .bool M.ok, .int .i64 M.n6])
    obtain ⟨w12, hw12⟩ : ∃ w12, w12 = w11.alloc (.cells #[.int .i64 M.kind, .int .i64 M.n0, .int .i64 M.n1, .int .i64 M.n2, .int .i64 M.n3, .int .i64 M.n4, .int .i64 M.n5, .slice Ad k cd, .bool M.ok, .int .i64 M.n6] 24) := ⟨_, rfl⟩
    rw [← hw12] at XD hb
    have HMD12 := Lib.hid (HMD.out.bel hb)
    have HW12 := Lib.hid hw12
    clear hw12
    have HX12 := Lib.hid (HX11.out.bel hb)
    have HM12 := Lib.hid (HM11.out.bel hb)
    have HB12 := Lib.hid (HB11.out.trans (hb.mono HB11.out.size))
    have HSb12 := Lib.hid (HSb11.out.bel hb)
    have HSf12 := Lib.hid (HSf11.out.bel hb)
    clear hb
    unfold msgC
    go_upto_region 10 with fail
    rw [← HW12.out]
    have XD12 := XD
    have y0 : w12.cell? ⟨w.heap.size, 0, none⟩ = some (.int .i64 M.kind) := HX12.out.cell 0
    have y1 : w12.cell? ⟨w.heap.size, 1, none⟩ = some (.int .i64 M.n0) := HX12.out.cell 1
    have y2 : w12.cell? ⟨w.heap.size, 2, none⟩ = some (.int .i64 M.n1) := HX12.out.cell 2
    have y3 : w12.cell? ⟨w.heap.size, 3, none⟩ = some (.int .i64 M.n2) := HX12.out.cell 3
    have y4 : w12.cell? ⟨w.heap.size, 4, none⟩ = some (.int .i64 M.n3) := HX12.out.cell 4
    have y5 : w12.cell? ⟨w.heap.size, 5, none⟩ = some (.int .i64 M.n4) := HX12.out.cell 5
    have y6 : w12.cell? ⟨w.heap.size, 6, none⟩ = some (.int .i64 M.n5) := HX12.out.cell 6
    have y7 : w12.cell? ⟨w.heap.size, 7, none⟩ = some (.slice A1 k c1) := HX12.out.cell 7
    have y8 : w12.cell? ⟨w.heap.size, 8, none⟩ = some (.bool M.ok) := HX12.out.cell 8
    have y9 : w12.cell? ⟨w.heap.size, 9, none⟩ = some (.int .i64 M.n6) := HX12.out.cell 9
    have CC := renc_any M A1 k c1 w12 HM12.out HCK.out
    rw [← HEN.out] at CC
    unfold msgC at CC
    have CC := Lib.hid CC
    go_wp2_with fail
    refine CC.out.mono ?_
    rintro e w13 ⟨⟨Ae, ce, rfl, hce, hse, _⟩, hb⟩
    clear CC y0 y1 y2 y3 y4 y5 y6 y7 y8 y9
    have HX13 := Lib.hid (HX12.out.bel hb)
    have HM13 := Lib.hid (HM12.out.bel hb)
    have HB13 := Lib.hid (HB12.out.trans (hb.mono HB12.out.size))
    have HSb13 := Lib.hid (HSb12.out.bel hb)
    have HSf13 := Lib.hid (HSf12.out.bel hb)
    have XD13 := Lib.hid (XD12.out.bel hb)
    have HMD13 := Lib.hid (HMD12.out.bel hb)
    clear hb
    have CC := same_u8 Ab Ae en en cb ce (encN M) (encN M) HEN.out HEN.out w13 HSb13.out hse (by omega) (by omega)
    rw [show decide (encN M = encN M) = true by simp] at CC
    have CC := Lib.hid CC
    clear hse
    go_wp2_with fail
    refine CC.out.mono ?_
    rintro e w14 ⟨rfl, hb⟩
    clear CC
    have HX14 := Lib.hid (HX13.out.bel hb)
    have HM14 := Lib.hid (HM13.out.bel hb)
    have HB14 := Lib.hid (HB13.out.trans (hb.mono HB13.out.size))
    have HSb14 := Lib.hid (HSb13.out.bel hb)
    have HSf14 := Lib.hid (HSf13.out.bel hb)
    have XD14 := Lib.hid (XD13.out.bel hb)
    have HMD14 := Lib.hid (HMD13.out.bel hb)
    clear hb
    have y0 : w14.cell? ⟨w.heap.size, 0, none⟩ = some (.int .i64 M.kind) := HX14.out.cell 0
    have y1 : w14.cell? ⟨w.heap.size, 1, none⟩ = some (.int .i64 M.n0) := HX14.out.cell 1
    have y2 : w14.cell? ⟨w.heap.size, 2, none⟩ = some (.int .i64 M.n1) := HX14.out.cell 2
    have y3 : w14.cell? ⟨w.heap.size, 3, none⟩ = some (.int .i64 M.n2) := HX14.out.cell 3
    have y4 : w14.cell? ⟨w.heap.size, 4, none⟩ = some (.int .i64 M.n3) := HX14.out.cell 4
    have y5 : w14.cell? ⟨w.heap.size, 5, none⟩ = some (.int .i64 M.n4) := HX14.out.cell 5
    have y6 : w14.cell? ⟨w.heap.size, 6, none⟩ = some (.int .i64 M.n5) := HX14.out.cell 6
    have y7 : w14.cell? ⟨w.heap.size, 7, none⟩ = some (.slice A1 k c1) := HX14.out.cell 7
    have y8 : w14.cell? ⟨w.heap.size, 8, none⟩ = some (.bool M.ok) := HX14.out.cell 8
    have y9 : w14.cell? ⟨w.heap.size, 9, none⟩ = some (.int .i64 M.n6) := HX14.out.cell 9
    have CC := rframe_any M A1 k c1 w14 HM14.out HCK.out
    rw [← HFL.out] at CC
    unfold msgC at CC
    have CC := Lib.hid CC
    go_wp2_with fail
    refine CC.out.mono ?_
    rintro e w15 ⟨⟨Ag, cg, rfl, hcg, hsg⟩, hb⟩
    clear CC y0 y1 y2 y3 y4 y5 y6 y7 y8 y9
    have HX15 := Lib.hid (HX14.out.bel hb)
    have HM15 := Lib.hid (HM14.out.bel hb)
    have HB15 := Lib.hid (HB14.out.trans (hb.mono HB14.out.size))
    have HSb15 := Lib.hid (HSb14.out.bel hb)
    have HSf15 := Lib.hid (HSf14.out.bel hb)
    have XD15 := Lib.hid (XD14.out.bel hb)
    have HMD15 := Lib.hid (HMD14.out.bel hb)
    clear hb
    have CC := same_u8 Af Ag fl fl cf cg (frameN M) (frameN M) HFL.out HFL.out w15 HSf15.out hsg (by omega) (by omega)
    rw [show decide (frameN M = frameN M) = true by simp] at CC
    have CC := Lib.hid CC
    clear hsg
    go_wp2_with fail
    refine CC.out.mono ?_
    rintro e w16 ⟨rfl, hb⟩
    clear CC
    have HX16 := Lib.hid (HX15.out.bel hb)
    have HM16 := Lib.hid (HM15.out.bel hb)
    have HB16 := Lib.hid (HB15.out.trans (hb.mono HB15.out.size))
    have HSb16 := Lib.hid (HSb15.out.bel hb)
    have HSf16 := Lib.hid (HSf15.out.bel hb)
    have XD16 := Lib.hid (XD15.out.bel hb)
    have HMD16 := Lib.hid (HMD15.out.bel hb)
    clear hb
    have y0 : w16.cell? ⟨w.heap.size, 0, none⟩ = some (.int .i64 M.kind) := HX16.out.cell 0
    have y1 : w16.cell? ⟨w.heap.size, 1, none⟩ = some (.int .i64 M.n0) := HX16.out.cell 1
    have y2 : w16.cell? ⟨w.heap.size, 2, none⟩ = some (.int .i64 M.n1) := HX16.out.cell 2
    have y3 : w16.cell? ⟨w.heap.size, 3, none⟩ = some (.int .i64 M.n2) := HX16.out.cell 3
    have y4 : w16.cell? ⟨w.heap.size, 4, none⟩ = some (.int .i64 M.n3) := HX16.out.cell 4
    have y5 : w16.cell? ⟨w.heap.size, 5, none⟩ = some (.int .i64 M.n4) := HX16.out.cell 5
    have y6 : w16.cell? ⟨w.heap.size, 6, none⟩ = some (.int .i64 M.n5) := HX16.out.cell 6
    have y7 : w16.cell? ⟨w.heap.size, 7, none⟩ = some (.slice A1 k c1) := HX16.out.cell 7
    have y8 : w16.cell? ⟨w.heap.size, 8, none⟩ = some (.bool M.ok) := HX16.out.cell 8
    have y9 : w16.cell? ⟨w.heap.size, 9, none⟩ = some (.int .i64 M.n6) := HX16.out.cell 9
    have x0 : w16.cell? ⟨w11.heap.size, 0, none⟩ = some (.int .i64 M.kind) := XD16.out.cell 0
    have x1 : w16.cell? ⟨w11.heap.size, 1, none⟩ = some (.int .i64 M.n0) := XD16.out.cell 1
    have x2 : w16.cell? ⟨w11.heap.size, 2, none⟩ = some (.int .i64 M.n1) := XD16.out.cell 2
    have x3 : w16.cell? ⟨w11.heap.size, 3, none⟩ = some (.int .i64 M.n2) := XD16.out.cell 3
    have x4 : w16.cell? ⟨w11.heap.size, 4, none⟩ = some (.int .i64 M.n3) := XD16.out.cell 4
    have x5 : w16.cell? ⟨w11.heap.size, 5, none⟩ = some (.int .i64 M.n4) := XD16.out.cell 5
    have x6 : w16.cell? ⟨w11.heap.size, 6, none⟩ = some (.int .i64 M.n5) := XD16.out.cell 6
    have x7 : w16.cell? ⟨w11.heap.size, 7, none⟩ = some (.slice Ad k cd) := XD16.out.cell 7
    have x8 : w16.cell? ⟨w11.heap.size, 8, none⟩ = some (.bool M.ok) := XD16.out.cell 8
    have x9 : w16.cell? ⟨w11.heap.size, 9, none⟩ = some (.int .i64 M.n6) := XD16.out.cell 9
    have CC := wsame_any M Ad A1 k cd k c1 w16 HMD16.out.ent' HM16.out.ent'
    unfold msgC at CC
    have CC := Lib.hid CC
    go_wp2_with fail
    refine CC.out.mono ?_
    rintro e w17 ⟨rfl, hb⟩
    clear CC
    have HB17 := Lib.hid (HB16.out.trans (hb.mono HB16.out.size))
    clear hb
    go_wp2_with fail
    go_ret
    exact ⟨rfl, HB17.out⟩
  · have HCK := Lib.hid hck
    obtain ⟨ck, hcn⟩ : ∃ ck, ck = checkN M := ⟨_, rfl⟩
    rw [← hcn] at hck
    have HCN := Lib.hid hcn
    have hne : ((ck : Int) != 0) = true := by rw [bne_iff_ne]; omega
    clear hck hcn
    have y0 : W1.cell? ⟨w.heap.size, 0, none⟩ = some (.int .i64 M.kind) := HX1.out.cell 0
    have y1 : W1.cell? ⟨w.heap.size, 1, none⟩ = some (.int .i64 M.n0) := HX1.out.cell 1
    have y2 : W1.cell? ⟨w.heap.size, 2, none⟩ = some (.int .i64 M.n1) := HX1.out.cell 2
    have y3 : W1.cell? ⟨w.heap.size, 3, none⟩ = some (.int .i64 M.n2) := HX1.out.cell 3
    have y4 : W1.cell? ⟨w.heap.size, 4, none⟩ = some (.int .i64 M.n3) := HX1.out.cell 4
    have y5 : W1.cell? ⟨w.heap.size, 5, none⟩ = some (.int .i64 M.n4) := HX1.out.cell 5
    have y6 : W1.cell? ⟨w.heap.size, 6, none⟩ = some (.int .i64 M.n5) := HX1.out.cell 6
    have y7 : W1.cell? ⟨w.heap.size, 7, none⟩ = some (.slice A1 k c1) := HX1.out.cell 7
    have y8 : W1.cell? ⟨w.heap.size, 8, none⟩ = some (.bool M.ok) := HX1.out.cell 8
    have y9 : W1.cell? ⟨w.heap.size, 9, none⟩ = some (.int .i64 M.n6) := HX1.out.cell 9
    have F2 := few_any M A1 k c1 W1 HM1.out
    rw [HF.out, ← HK.out] at F2
    unfold msgC at F2
    have F2 := Lib.hid F2
    go_wp2_with fail
    refine F2.out.mono ?_
    rintro e w2 ⟨⟨A2, c2, rfl, hm2, _⟩, hb⟩
    clear y0 y1 y2 y3 y4 y5 y6 y7 y8 y9 F2
    have HX2 := Lib.hid (HX1.out.bel hb)
    have HM2 := Lib.hid (HM1.out.bel hb)
    have HB2 := Lib.hid (HB1.out.trans (hb.mono HB1.out.size))
    clear hb
    have HN2 := Lib.hid hm2
    clear hm2
    have CC := wenc_no M A2 k c2 w2 HN2.out HCK.out
    rw [← HCN.out] at CC
    unfold msgC at CC
    have CC := Lib.hid CC
    go_wp2_with fail
    refine CC.out.mono ?_
    rintro e w3 ⟨rfl, hb⟩
    clear CC
    have HX3 := Lib.hid (HX2.out.bel hb)
    have HM3 := Lib.hid (HM2.out.bel hb)
    have HB3 := Lib.hid (HB2.out.trans (hb.mono HB2.out.size))
    clear hb
    clear HN2
    have y0 : w3.cell? ⟨w.heap.size, 0, none⟩ = some (.int .i64 M.kind) := HX3.out.cell 0
    have y1 : w3.cell? ⟨w.heap.size, 1, none⟩ = some (.int .i64 M.n0) := HX3.out.cell 1
    have y2 : w3.cell? ⟨w.heap.size, 2, none⟩ = some (.int .i64 M.n1) := HX3.out.cell 2
    have y3 : w3.cell? ⟨w.heap.size, 3, none⟩ = some (.int .i64 M.n2) := HX3.out.cell 3
    have y4 : w3.cell? ⟨w.heap.size, 4, none⟩ = some (.int .i64 M.n3) := HX3.out.cell 4
    have y5 : w3.cell? ⟨w.heap.size, 5, none⟩ = some (.int .i64 M.n4) := HX3.out.cell 5
    have y6 : w3.cell? ⟨w.heap.size, 6, none⟩ = some (.int .i64 M.n5) := HX3.out.cell 6
    have y7 : w3.cell? ⟨w.heap.size, 7, none⟩ = some (.slice A1 k c1) := HX3.out.cell 7
    have y8 : w3.cell? ⟨w.heap.size, 8, none⟩ = some (.bool M.ok) := HX3.out.cell 8
    have y9 : w3.cell? ⟨w.heap.size, 9, none⟩ = some (.int .i64 M.n6) := HX3.out.cell 9
    have F4 := few_any M A1 k c1 w3 HM3.out
    rw [HF.out, ← HK.out] at F4
    unfold msgC at F4
    have F4 := Lib.hid F4
    go_wp2_with fail
    refine F4.out.mono ?_
    rintro e w4 ⟨⟨A4, c4, rfl, hm4, _⟩, hb⟩
    clear y0 y1 y2 y3 y4 y5 y6 y7 y8 y9 F4
    have HX4 := Lib.hid (HX3.out.bel hb)
    have HM4 := Lib.hid (HM3.out.bel hb)
    have HB4 := Lib.hid (HB3.out.trans (hb.mono HB3.out.size))
    clear hb
    have HN4 := Lib.hid hm4
    clear hm4
    have CC := wframe_no M A4 k c4 w4 HN4.out HCK.out
    rw [← HCN.out] at CC
    unfold msgC at CC
    have CC := Lib.hid CC
    go_wp2_with fail
    refine CC.out.mono ?_
    rintro e w5 ⟨rfl, hb⟩
    clear CC
    have HX5 := Lib.hid (HX4.out.bel hb)
    have HM5 := Lib.hid (HM4.out.bel hb)
    have HB5 := Lib.hid (HB4.out.trans (hb.mono HB4.out.size))
    clear hb
    clear HN4
    have y0 : w5.cell? ⟨w.heap.size, 0, none⟩ = some (.int .i64 M.kind) := HX5.out.cell 0
    have y1 : w5.cell? ⟨w.heap.size, 1, none⟩ = some (.int .i64 M.n0) := HX5.out.cell 1
    have y2 : w5.cell? ⟨w.heap.size, 2, none⟩ = some (.int .i64 M.n1) := HX5.out.cell 2
    have y3 : w5.cell? ⟨w.heap.size, 3, none⟩ = some (.int .i64 M.n2) := HX5.out.cell 3
    have y4 : w5.cell? ⟨w.heap.size, 4, none⟩ = some (.int .i64 M.n3) := HX5.out.cell 4
    have y5 : w5.cell? ⟨w.heap.size, 5, none⟩ = some (.int .i64 M.n4) := HX5.out.cell 5
    have y6 : w5.cell? ⟨w.heap.size, 6, none⟩ = some (.int .i64 M.n5) := HX5.out.cell 6
    have y7 : w5.cell? ⟨w.heap.size, 7, none⟩ = some (.slice A1 k c1) := HX5.out.cell 7
    have y8 : w5.cell? ⟨w.heap.size, 8, none⟩ = some (.bool M.ok) := HX5.out.cell 8
    have y9 : w5.cell? ⟨w.heap.size, 9, none⟩ = some (.int .i64 M.n6) := HX5.out.cell 9
    have CC := rcheck_any M A1 k c1 w5 HM5.out
    rw [← HCN.out] at CC
    unfold msgC at CC
    have CC := Lib.hid CC
    go_wp2_with fail
    refine CC.out.mono ?_
    rintro e w6 ⟨rfl, hb⟩
    clear CC y0 y1 y2 y3 y4 y5 y6 y7 y8 y9
    have HX6 := Lib.hid (HX5.out.bel hb)
    have HM6 := Lib.hid (HM5.out.bel hb)
    have HB6 := Lib.hid (HB5.out.trans (hb.mono HB5.out.size))
    clear hb
    have CC := Lib.hid (wawake_any w6)
    go_wp2_with fail
    refine CC.out.mono ?_
    rintro e w7 ⟨rfl, hb⟩
    clear CC
    have HX7 := Lib.hid (HX6.out.bel hb)
    have HM7 := Lib.hid (HM6.out.bel hb)
    have HB7 := Lib.hid (HB6.out.trans (hb.mono HB6.out.size))
    clear hb
    have y0 : w7.cell? ⟨w.heap.size, 0, none⟩ = some (.int .i64 M.kind) := HX7.out.cell 0
    have y1 : w7.cell? ⟨w.heap.size, 1, none⟩ = some (.int .i64 M.n0) := HX7.out.cell 1
    have y2 : w7.cell? ⟨w.heap.size, 2, none⟩ = some (.int .i64 M.n1) := HX7.out.cell 2
    have y3 : w7.cell? ⟨w.heap.size, 3, none⟩ = some (.int .i64 M.n2) := HX7.out.cell 3
    have y4 : w7.cell? ⟨w.heap.size, 4, none⟩ = some (.int .i64 M.n3) := HX7.out.cell 4
    have y5 : w7.cell? ⟨w.heap.size, 5, none⟩ = some (.int .i64 M.n4) := HX7.out.cell 5
    have y6 : w7.cell? ⟨w.heap.size, 6, none⟩ = some (.int .i64 M.n5) := HX7.out.cell 6
    have y7 : w7.cell? ⟨w.heap.size, 7, none⟩ = some (.slice A1 k c1) := HX7.out.cell 7
    have y8 : w7.cell? ⟨w.heap.size, 8, none⟩ = some (.bool M.ok) := HX7.out.cell 8
    have y9 : w7.cell? ⟨w.heap.size, 9, none⟩ = some (.int .i64 M.n6) := HX7.out.cell 9
    have F8 := few_any M A1 k c1 w7 HM7.out
    rw [HF.out, ← HK.out] at F8
    unfold msgC at F8
    have F8 := Lib.hid F8
    go_wp2_with fail
    refine F8.out.mono ?_
    rintro e w8 ⟨⟨A8, c8, rfl, hm8, _⟩, hb⟩
    clear y0 y1 y2 y3 y4 y5 y6 y7 y8 y9 F8
    have HX8 := Lib.hid (HX7.out.bel hb)
    have HM8 := Lib.hid (HM7.out.bel hb)
    have HB8 := Lib.hid (HB7.out.trans (hb.mono HB7.out.size))
    clear hb
    have HN8 := Lib.hid hm8
    clear hm8
    have CC := check_any M A8 k c8 w8 HN8.out
    rw [← HCN.out] at CC
    unfold msgC at CC
    have CC := Lib.hid CC
    go_wp2_with fail
    refine CC.out.mono ?_
    rintro e w9 ⟨rfl, hb⟩
    clear CC
    have HX9 := Lib.hid (HX8.out.bel hb)
    have HM9 := Lib.hid (HM8.out.bel hb)
    have HB9 := Lib.hid (HB8.out.trans (hb.mono HB8.out.size))
    clear hb
    clear HN8
    go_wp2_with fail
    go_ret
    exact ⟨rfl, HB9.out⟩
end Go.Proofs.Ytgifbjomaenlnaa
