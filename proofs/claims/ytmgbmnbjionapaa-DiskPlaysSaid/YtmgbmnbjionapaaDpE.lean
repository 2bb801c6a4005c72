/- The reference's Do: flushes and crashes. Condition: its disk lies in memory. -/
import Derived.Test.YtmgbmnbjionapaaDpD
namespace Go.Proofs.Ytmgbmnbjionapaa
open Go.RowKit

theorem RsN.low {w : World} {N : Nat → Prop} {A : Option Addr} {rows : List (List Nat)} (h : RsN w N A rows) : RsN w (fun g => N g ∧ g < w.heap.size) A rows := ⟨fun i hi => by
  obtain ⟨b, off, Ad, c, h1, h2, h3, h4, h5, h6⟩ := h.at' i hi
  refine ⟨b, off, Ad, c, h1, h2, ⟨h3, h2⟩, h4, (fun hn => ?_), h6⟩
  obtain ⟨b2, off2, e1, e2, e3, e4⟩ := h5 hn
  exact ⟨b2, off2, e1, e2, ⟨e3, e2⟩, e4⟩⟩
theorem RsN.set {w : World} {N : Nat → Prop} {A : Option Addr} {rows : List (List Nat)} {g i : Nat} {u : Value} (h : RsN w N A rows) (hg : ¬ N g) : RsN (w.setCell ⟨g, i, none⟩ u) N A rows := ⟨fun k hk => by
  obtain ⟨b, off, Ad, c, h1, h2, h3, h4, h5, h6⟩ := h.at' k hk
  refine ⟨b, off, Ad, c, h1, by simpa using h2, h3, ?_, (fun hn => ?_), h6⟩
  · rw [World.cell?_of_block (Below.heap_setCell w ⟨g, i, none⟩ u b (fun e => hg (by rw [show g = b from e.symm]; exact h3)))]; exact h4
  · obtain ⟨b2, off2, e1, e2, e3, e4⟩ := h5 hn
    refine ⟨b2, off2, e1, by simpa using e2, e3, fun j hj => ?_⟩
    rw [World.cell?_of_block (Below.heap_setCell w ⟨g, i, none⟩ u b2 (fun e => hg (by rw [show g = b2 from e.symm]; exact e3)))]
    exact e4 j hj⟩
theorem landN_congr (f g : Nat → Nat) (im : List Nat) (wts : List (Nat × List Nat)) : ∀ k, (∀ i, i < k → f i = g i) → landN f im wts k = landN g im wts k
  | 0, _ => rfl
  | k + 1, h => by
    show landP (f k) (landN f im wts k) _ = landP (g k) (landN g im wts k) _
    rw [h k (by omega), landN_congr f g im wts k (fun i hi => h i (by omega))]
theorem all_bits (i : Nat) (h : i < 64) : crashS 18446744073709551615 (-1) 0 i = 8 := by
  unfold crashS
  rw [if_pos]
  rw [show (18446744073709551615 : Nat) = 2 ^ 64 - 1 from rfl, Nat.testBit_two_pow_sub_one]
  exact decide_eq_true h
theorem rows256 {D : DM} {T : Nat} (h : D.Ok T) : ∀ x ∈ rowsN D.img T, x.length = 256 := fun x hx => by
  unfold rowsN at hx
  obtain ⟨i, hi, rfl⟩ := List.mem_map.1 hx
  have hi := List.mem_range.1 hi
  have := Nat.mul_le_mul_right 256 (show i + 1 ≤ T by omega)
  unfold blkN
  rw [List.length_take, List.length_drop, h.len]; omega
set_option maxRecDepth 100000 in
set_option maxHeartbeats 8000000 in
theorem rdo_flush (N : Nat → Prop) (Ab Aw : Option Addr) (T cb cw : Nat) (D : DM) (o : OpM) (A : Option Addr) (c : Nat) (w : World) (h : RfD N w Ab Aw D T) (hN : ∀ g, w.heap.size ≤ g → N g) (hk : o.kind = 3) (D' : DM) (hu : D.use = some D') : Calls Try.prog 17 #[RfV Ab T cb Aw D.wts.length cw (refL D), .agg (o.cells A c)] w (RdPost N w T (D'.flush, [], 0)) := by
  have hk1 : (o.kind == 1) = false := by rw [hk]; rfl
  have hk2 : (o.kind == 2) = false := by rw [hk]; rfl
  have hk3 : (o.kind == 3) = true := by rw [hk]; rfl
  have hk4 : (o.kind == 4) = false := by rw [hk]; rfl
  have hg4 : w.heap.size ≤ w.heap.size + 1 + 1 := by omega
  have hok := h.ok.use hu
  obtain ⟨hu1, hu2⟩ := DM.use_img hu
  have hr := refL_high h.ok
  have hue := ref_use h.ok
  have HROW := Lib.hid (show landR (crashS 18446744073709551615 (-1) 0) (rowsN D.img T) D.wts D.wts.length = rowsN D'.flush.img T by
    rw [landR_rows _ (crashS_le _ _ _) D T h.ok _ (Nat.le_refl _)]
    show _ = rowsN (landN (fun _ => 8) D'.img D'.wts D'.wts.length) T
    rw [hu1, hu2, landN_congr (crashS 18446744073709551615 (-1) 0) (fun _ => 8) D.img D.wts _ (fun i hi => all_bits i (by have := h.ok.few; omega))])
  have HOKF := Lib.hid hok.flush
  have HNW := Lib.hid hN
  clear hN
  have HWN := Lib.hid (show D'.flush.wts = [] from rfl)
  clear hk hok hu1 hu2
  obtain ⟨lf, hlf⟩ : ∃ lf, lf = refL D := ⟨_, rfl⟩
  obtain ⟨m, hm⟩ : ∃ m, m = D.wts.length := ⟨_, rfl⟩
  obtain ⟨dl, hdl⟩ : ∃ dl, dl = o.data.length := ⟨_, rfl⟩
  have hT := h.ok.top
  have hT1 := h.ok.one
  have hfew : m ≤ 64 := by rw [hm]; exact h.ok.few
  obtain ⟨wA, hwA⟩ : ∃ wA, wA = w.alloc (.cells #[.slice Ab T cb, .slice Aw m cw, .int .i64 lf] 32) := ⟨_, rfl⟩
  have hsA : wA.heap.size = w.heap.size + 1 := by rw [hwA]; simp
  obtain ⟨wB, hwB⟩ : ∃ wB, wB = wA.alloc (.cells #[.int .i64 o.kind, .int .i64 o.block, .slice A dl c, .int .u64 (o.keep : Int), .int .i64 o.tear, .int .i64 o.sectors] 36) := ⟨_, rfl⟩
  have hsB : wB.heap.size = w.heap.size + 1 + 1 := by rw [hwB]; simp [hsA]
  obtain ⟨wC, hwC⟩ : ∃ wC, wC = wB.alloc (.cells ResC 32) := ⟨_, rfl⟩
  have hsC : wC.heap.size = w.heap.size + 1 + 1 + 1 := by rw [hwC]; simp [hsB]
  have X2 : Bk wC w.heap.size 32 #[.slice Ab T cb, .slice Aw m cw, .int .i64 lf] := by rw [hwC, hwB, hwA]; exact ((Bk.new w _ _).alloc _).alloc _
  have X3 : Bk wC (w.heap.size + 1) 36 #[.int .i64 o.kind, .int .i64 o.block, .slice A dl c, .int .u64 (o.keep : Int), .int .i64 o.tear, .int .i64 o.sectors] := by rw [hwC, hwB, ← hsA]; exact (Bk.new wA _ _).alloc _
  have X4 : Bk wC (w.heap.size + 1 + 1) 32 ResC := by rw [hwC, ← hsB]; exact Bk.new wB _ _
  have BC : Below w.heap.size w wC := by rw [hwC, hwB, hwA]; exact (((Below.refl _ _).alloc (Nat.le_refl _) _).alloc (by simp) _).alloc (by simp; omega) _
  have x0 := X2.cell 0
  have x1 := X2.cell 1
  have x2 := X2.cell 2
  have y0 := X3.cell 0
  have y1 := X3.cell 1
  have y2 := X3.cell 2
  have y3 := X3.cell 3
  have y4 := X3.cell 4
  have y5 := X3.cell 5
  have z0 := X4.cell 0
  have z1 := X4.cell 1
  have z2 := X4.cell 2
  simp only [ResC, List.getElem?_toArray, List.getElem?_cons_zero, List.getElem?_cons_succ] at x0 x1 x2 y0 y1 y2 y3 y4 y5 z0 z1 z2
  have f0 := X4.frozen 0
  have f1 := X4.frozen 1
  have f2 := X4.frozen 2
  have fx2 := X2.frozen 2
  have HX2 := Lib.hid X2
  have HX3 := Lib.hid X3
  have HX4 := Lib.hid X4
  have HBC := Lib.hid BC
  have HH := Lib.hid h
  have HLF := Lib.hid hlf
  have HM := Lib.hid hm
  have HDL := Lib.hid hdl
  have HSC := Lib.hid hsC
  have HWW := Lib.hid (show ((w.alloc (.cells #[.slice Ab T cb, .slice Aw m cw, .int .i64 lf] 32)).alloc (.cells #[.int .i64 o.kind, .int .i64 o.block, .slice A dl c, .int .u64 (o.keep : Int), .int .i64 o.tear, .int .i64 o.sectors] 36)).alloc (.cells #[.slice none 0 0, .slice none 0 0, .int .i64 0] 32) = wC by rw [hwC, hwB, hwA]; rfl)
  rw [← hlf, ← hm]
  unfold RfV OpM.cells
  rw [← hdl]
  clear hwA hwB hwC hsA hsB hsC X2 X3 X4 BC h hlf hm hdl
  go_enter Try.func17, Try.ntmps17
  go_upto_region 1 with fail
  rw [HWW.out]
  rw [← HM.out] at HROW
  rw [← HLF.out] at hue hr
  rcases hue with ⟨_, hn⟩ | ⟨hpos, D2, hD2, _, _, hu3⟩ | ⟨hneg, hD2⟩
  · rw [hu] at hn; cases hn
  · obtain rfl : D' = D2 := by rw [hu] at hD2; exact Option.some.inj hD2
    have hlz : (lf == 0) = false := by rw [beq_eq_false_iff_ne]; omega
    have HREF := Lib.hid (show refL D'.flush = lf - 1 from hu3)
    obtain ⟨wS, hwS⟩ : ∃ wS, wS = wC.setCell ⟨w.heap.size, 2, none⟩ (.int .i64 (lf - 1)) := ⟨_, rfl⟩
    have X2 : Bk wS w.heap.size 32 #[.slice Ab T cb, .slice Aw m cw, .int .i64 (lf - 1)] := by rw [hwS]; exact HX2.out.put 2 _
    have X3 : Bk wS (w.heap.size + 1) 36 #[.int .i64 o.kind, .int .i64 o.block, .slice A dl c, .int .u64 (o.keep : Int), .int .i64 o.tear, .int .i64 o.sectors] := by rw [hwS]; exact HX3.out.far (by simp) _
    have X4 : Bk wS (w.heap.size + 1 + 1) 32 ResC := by rw [hwS]; exact HX4.out.far (by simp only; omega) _
    have BS : Below w.heap.size w wS := by rw [hwS]; exact HBC.out.setCell (Nat.le_refl _) _
    have hzS : wS.heap.size = w.heap.size + 1 + 1 + 1 := by rw [hwS, ← HSC.out]; simp
    have hsub : wrap64 (lf - 1) = lf - 1 := IntWalk.wrap64_in _ ⟨by omega, by omega⟩
    have hsub2 : IntKind.i64.wrap (lf - 1) = lf - 1 := IntWalk.i64_in _ ⟨by omega, by omega⟩
    have HWS := Lib.hid hwS
    have HZ := Lib.hid hzS
    clear hwS hD2 hu hu3
    by_cases hb0 : 0 ≤ o.block
    · by_cases hbT : o.block < (T : Int)
      all_goals
        go_upto_region 30 with fail
        rw [← HWS.out]
        clear x0 x1 x2 y0 y1 y2 y3 y4 y5 z0 z1 z2 f0 f1 f2 fx2
        have x0 := X2.cell 0
        have x1 := X2.cell 1
        have x2 := X2.cell 2
        have y0 := X3.cell 0
        have y1 := X3.cell 1
        have y2 := X3.cell 2
        have y3 := X3.cell 3
        have y4 := X3.cell 4
        have y5 := X3.cell 5
        have z0 := X4.cell 0
        have z1 := X4.cell 1
        have z2 := X4.cell 2
        simp only [ResC, List.getElem?_toArray, List.getElem?_cons_zero, List.getElem?_cons_succ] at x0 x1 x2 y0 y1 y2 y3 y4 y5 z0 z1 z2
        have f0 := X4.frozen 0
        have f1 := X4.frozen 1
        have f2 := X4.frozen 2
        have CL := Lib.hid (rland_any (fun g => N g ∧ g ≠ w.heap.size + 1 + 1) Ab Aw T cb m cw (lf - 1) (rowsN D.img T) D.wts 18446744073709551615 (-1) 0 wS (by rw [rowsN_length]) hT ((HH.out.rs.low.mono (fun g hg => ⟨hg.1, by have := hg.2; omega⟩)).bel BS) (rows256 HH.out.ok) HM.out hfew (HH.out.wt.wt.bel BS) (fun x hx => ⟨HH.out.ok.fit x hx, HH.out.ok.full x hx⟩) (by omega) (fun g hg => by have := (BS).size; have hz := HZ.out; exact ⟨HNW.out g (by omega), by omega⟩))
        go_wp2_with fail
        refine CL.out.mono ?_
        rintro e w5 ⟨A5, c5, rfl, hR5, hb5⟩
        have HB5 := Lib.hid ((BS).trans (hb5.mono (BS).size))
        have X45 := (X4).bel hb5
        have z0 := X45.cell 0
        have z1 := X45.cell 1
        have z2 := X45.cell 2
        simp only [ResC, List.getElem?_toArray, List.getElem?_cons_zero, List.getElem?_cons_succ] at z0 z1 z2
        have f0 := X45.frozen 0
        have f1 := X45.frozen 1
        have f2 := X45.frozen 2
        have HX45 := Lib.hid X45
        have hng : ¬ (fun g => N g ∧ g ≠ w.heap.size + 1 + 1) (w.heap.size + 1 + 1) := fun h => h.2 rfl
        have RF := Lib.hid (((hR5.set (i := 0) (u := .slice A5 T c5) hng).set (i := 1) (u := .slice none 0 0) hng).set (i := 2) (u := .int .i64 (lf - 1)) hng)
        clear hR5 hb5 X45 CL hng
        have BF := Lib.hid ((((HB5.out).setCell (p := ⟨w.heap.size + 1 + 1, 0, none⟩) hg4 (Value.slice A5 T c5)).setCell (p := ⟨w.heap.size + 1 + 1, 1, none⟩) hg4 (Value.slice none 0 0)).setCell (p := ⟨w.heap.size + 1 + 1, 2, none⟩) hg4 (.int .i64 (lf - 1)))
        have YF := Lib.hid ((((HX45.out).put 0 (Value.slice A5 T c5)).put 1 (Value.slice none 0 0)).put 2 (.int .i64 (lf - 1)))
        go_wp2_with fail
        generalize ((w5.setCell { block := w.heap.size + 1 + 1, off := 0 } (Value.slice A5 T c5)).setCell { block := w.heap.size + 1 + 1, off := 1 } (Value.slice none 0 0)).setCell { block := w.heap.size + 1 + 1, off := 2 } (Value.int IntKind.i64 (lf - 1)) = wf at *
        have q0 : wf.cell? ⟨w.heap.size + 1 + 1, 0, none⟩ = some (Value.slice A5 T c5) := by rw [YF.out.cell 0]; rfl
        have q1 : wf.cell? ⟨w.heap.size + 1 + 1, 1, none⟩ = some (Value.slice none 0 0) := by rw [YF.out.cell 1]; rfl
        have q2 : wf.cell? ⟨w.heap.size + 1 + 1, 2, none⟩ = some (.int .i64 (lf - 1)) := by rw [YF.out.cell 2]; rfl
        exact bodyPost_ret (v := .tuple #[.agg #[Value.slice A5 T c5, Value.slice none 0 0, .int .i64 (lf - 1)], .slice none 0 0, .int .i64 0]) (by simp [results, Try.results17, go_sem, q0, q1, q2]) rfl ⟨A5, c5, none, 0, none, 0, by unfold RfV; rw [HREF.out]; rfl, ⟨by rw [← HROW.out]; exact (RF.out).mono (fun _ h => h.1), ⟨fun k hk => by simp [HWN.out] at hk⟩, HOKF.out⟩, Seg.nil _ _, BF.out⟩
    · go_upto_region 30 with fail
      rw [← HWS.out]
      clear x0 x1 x2 y0 y1 y2 y3 y4 y5 z0 z1 z2 f0 f1 f2 fx2
      have x0 := X2.cell 0
      have x1 := X2.cell 1
      have x2 := X2.cell 2
      have y0 := X3.cell 0
      have y1 := X3.cell 1
      have y2 := X3.cell 2
      have y3 := X3.cell 3
      have y4 := X3.cell 4
      have y5 := X3.cell 5
      have z0 := X4.cell 0
      have z1 := X4.cell 1
      have z2 := X4.cell 2
      simp only [ResC, List.getElem?_toArray, List.getElem?_cons_zero, List.getElem?_cons_succ] at x0 x1 x2 y0 y1 y2 y3 y4 y5 z0 z1 z2
      have f0 := X4.frozen 0
      have f1 := X4.frozen 1
      have f2 := X4.frozen 2
      have CL := Lib.hid (rland_any (fun g => N g ∧ g ≠ w.heap.size + 1 + 1) Ab Aw T cb m cw (lf - 1) (rowsN D.img T) D.wts 18446744073709551615 (-1) 0 wS (by rw [rowsN_length]) hT ((HH.out.rs.low.mono (fun g hg => ⟨hg.1, by have := hg.2; omega⟩)).bel BS) (rows256 HH.out.ok) HM.out hfew (HH.out.wt.wt.bel BS) (fun x hx => ⟨HH.out.ok.fit x hx, HH.out.ok.full x hx⟩) (by omega) (fun g hg => by have := (BS).size; have hz := HZ.out; exact ⟨HNW.out g (by omega), by omega⟩))
      go_wp2_with fail
      refine CL.out.mono ?_
      rintro e w5 ⟨A5, c5, rfl, hR5, hb5⟩
      have HB5 := Lib.hid ((BS).trans (hb5.mono (BS).size))
      have X45 := (X4).bel hb5
      have z0 := X45.cell 0
      have z1 := X45.cell 1
      have z2 := X45.cell 2
      simp only [ResC, List.getElem?_toArray, List.getElem?_cons_zero, List.getElem?_cons_succ] at z0 z1 z2
      have f0 := X45.frozen 0
      have f1 := X45.frozen 1
      have f2 := X45.frozen 2
      have HX45 := Lib.hid X45
      have hng : ¬ (fun g => N g ∧ g ≠ w.heap.size + 1 + 1) (w.heap.size + 1 + 1) := fun h => h.2 rfl
      have RF := Lib.hid (((hR5.set (i := 0) (u := .slice A5 T c5) hng).set (i := 1) (u := .slice none 0 0) hng).set (i := 2) (u := .int .i64 (lf - 1)) hng)
      clear hR5 hb5 X45 CL hng
      have BF := Lib.hid ((((HB5.out).setCell (p := ⟨w.heap.size + 1 + 1, 0, none⟩) hg4 (Value.slice A5 T c5)).setCell (p := ⟨w.heap.size + 1 + 1, 1, none⟩) hg4 (Value.slice none 0 0)).setCell (p := ⟨w.heap.size + 1 + 1, 2, none⟩) hg4 (.int .i64 (lf - 1)))
      have YF := Lib.hid ((((HX45.out).put 0 (Value.slice A5 T c5)).put 1 (Value.slice none 0 0)).put 2 (.int .i64 (lf - 1)))
      go_wp2_with fail
      generalize ((w5.setCell { block := w.heap.size + 1 + 1, off := 0 } (Value.slice A5 T c5)).setCell { block := w.heap.size + 1 + 1, off := 1 } (Value.slice none 0 0)).setCell { block := w.heap.size + 1 + 1, off := 2 } (Value.int IntKind.i64 (lf - 1)) = wf at *
      have q0 : wf.cell? ⟨w.heap.size + 1 + 1, 0, none⟩ = some (Value.slice A5 T c5) := by rw [YF.out.cell 0]; rfl
      have q1 : wf.cell? ⟨w.heap.size + 1 + 1, 1, none⟩ = some (Value.slice none 0 0) := by rw [YF.out.cell 1]; rfl
      have q2 : wf.cell? ⟨w.heap.size + 1 + 1, 2, none⟩ = some (.int .i64 (lf - 1)) := by rw [YF.out.cell 2]; rfl
      exact bodyPost_ret (v := .tuple #[.agg #[Value.slice A5 T c5, Value.slice none 0 0, .int .i64 (lf - 1)], .slice none 0 0, .int .i64 0]) (by simp [results, Try.results17, go_sem, q0, q1, q2]) rfl ⟨A5, c5, none, 0, none, 0, by unfold RfV; rw [HREF.out]; rfl, ⟨by rw [← HROW.out]; exact (RF.out).mono (fun _ h => h.1), ⟨fun k hk => by simp [HWN.out] at hk⟩, HOKF.out⟩, Seg.nil _ _, BF.out⟩
  · obtain rfl : D = D' := by rw [hu] at hD2; exact (Option.some.inj hD2).symm
    have hlz : (lf == 0) = false := by rw [beq_eq_false_iff_ne]; omega
    have hlp : ¬ 0 < lf := by omega
    have HREF := Lib.hid (show refL D.flush = lf from HLF.out.symm)
    have HZ := HSC
    clear hD2 hu
    by_cases hb0 : 0 ≤ o.block
    · by_cases hbT : o.block < (T : Int)
      all_goals
        skip
        have CL := Lib.hid (rland_any (fun g => N g ∧ g ≠ w.heap.size + 1 + 1) Ab Aw T cb m cw (lf) (rowsN D.img T) D.wts 18446744073709551615 (-1) 0 wC (by rw [rowsN_length]) hT ((HH.out.rs.low.mono (fun g hg => ⟨hg.1, by have := hg.2; omega⟩)).bel HBC.out) (rows256 HH.out.ok) HM.out hfew (HH.out.wt.wt.bel HBC.out) (fun x hx => ⟨HH.out.ok.fit x hx, HH.out.ok.full x hx⟩) (by omega) (fun g hg => by have := (HBC.out).size; have hz := HZ.out; exact ⟨HNW.out g (by omega), by omega⟩))
        go_wp2_with fail
        refine CL.out.mono ?_
        rintro e w5 ⟨A5, c5, rfl, hR5, hb5⟩
        have HB5 := Lib.hid ((HBC.out).trans (hb5.mono (HBC.out).size))
        have X45 := (HX4.out).bel hb5
        have z0 := X45.cell 0
        have z1 := X45.cell 1
        have z2 := X45.cell 2
        simp only [ResC, List.getElem?_toArray, List.getElem?_cons_zero, List.getElem?_cons_succ] at z0 z1 z2
        have f0 := X45.frozen 0
        have f1 := X45.frozen 1
        have f2 := X45.frozen 2
        have HX45 := Lib.hid X45
        have hng : ¬ (fun g => N g ∧ g ≠ w.heap.size + 1 + 1) (w.heap.size + 1 + 1) := fun h => h.2 rfl
        have RF := Lib.hid (((hR5.set (i := 0) (u := .slice A5 T c5) hng).set (i := 1) (u := .slice none 0 0) hng).set (i := 2) (u := .int .i64 (lf)) hng)
        clear hR5 hb5 X45 CL hng
        have BF := Lib.hid ((((HB5.out).setCell (p := ⟨w.heap.size + 1 + 1, 0, none⟩) hg4 (Value.slice A5 T c5)).setCell (p := ⟨w.heap.size + 1 + 1, 1, none⟩) hg4 (Value.slice none 0 0)).setCell (p := ⟨w.heap.size + 1 + 1, 2, none⟩) hg4 (.int .i64 (lf)))
        have YF := Lib.hid ((((HX45.out).put 0 (Value.slice A5 T c5)).put 1 (Value.slice none 0 0)).put 2 (.int .i64 (lf)))
        go_wp2_with fail
        generalize ((w5.setCell { block := w.heap.size + 1 + 1, off := 0 } (Value.slice A5 T c5)).setCell { block := w.heap.size + 1 + 1, off := 1 } (Value.slice none 0 0)).setCell { block := w.heap.size + 1 + 1, off := 2 } (Value.int IntKind.i64 (lf)) = wf at *
        have q0 : wf.cell? ⟨w.heap.size + 1 + 1, 0, none⟩ = some (Value.slice A5 T c5) := by rw [YF.out.cell 0]; rfl
        have q1 : wf.cell? ⟨w.heap.size + 1 + 1, 1, none⟩ = some (Value.slice none 0 0) := by rw [YF.out.cell 1]; rfl
        have q2 : wf.cell? ⟨w.heap.size + 1 + 1, 2, none⟩ = some (.int .i64 (lf)) := by rw [YF.out.cell 2]; rfl
        exact bodyPost_ret (v := .tuple #[.agg #[Value.slice A5 T c5, Value.slice none 0 0, .int .i64 (lf)], .slice none 0 0, .int .i64 0]) (by simp [results, Try.results17, go_sem, q0, q1, q2]) rfl ⟨A5, c5, none, 0, none, 0, by unfold RfV; rw [HREF.out]; rfl, ⟨by rw [← HROW.out]; exact (RF.out).mono (fun _ h => h.1), ⟨fun k hk => by simp [HWN.out] at hk⟩, HOKF.out⟩, Seg.nil _ _, BF.out⟩
    · skip
      have CL := Lib.hid (rland_any (fun g => N g ∧ g ≠ w.heap.size + 1 + 1) Ab Aw T cb m cw (lf) (rowsN D.img T) D.wts 18446744073709551615 (-1) 0 wC (by rw [rowsN_length]) hT ((HH.out.rs.low.mono (fun g hg => ⟨hg.1, by have := hg.2; omega⟩)).bel HBC.out) (rows256 HH.out.ok) HM.out hfew (HH.out.wt.wt.bel HBC.out) (fun x hx => ⟨HH.out.ok.fit x hx, HH.out.ok.full x hx⟩) (by omega) (fun g hg => by have := (HBC.out).size; have hz := HZ.out; exact ⟨HNW.out g (by omega), by omega⟩))
      go_wp2_with fail
      refine CL.out.mono ?_
      rintro e w5 ⟨A5, c5, rfl, hR5, hb5⟩
      have HB5 := Lib.hid ((HBC.out).trans (hb5.mono (HBC.out).size))
      have X45 := (HX4.out).bel hb5
      have z0 := X45.cell 0
      have z1 := X45.cell 1
      have z2 := X45.cell 2
      simp only [ResC, List.getElem?_toArray, List.getElem?_cons_zero, List.getElem?_cons_succ] at z0 z1 z2
      have f0 := X45.frozen 0
      have f1 := X45.frozen 1
      have f2 := X45.frozen 2
      have HX45 := Lib.hid X45
      have hng : ¬ (fun g => N g ∧ g ≠ w.heap.size + 1 + 1) (w.heap.size + 1 + 1) := fun h => h.2 rfl
      have RF := Lib.hid (((hR5.set (i := 0) (u := .slice A5 T c5) hng).set (i := 1) (u := .slice none 0 0) hng).set (i := 2) (u := .int .i64 (lf)) hng)
      clear hR5 hb5 X45 CL hng
      have BF := Lib.hid ((((HB5.out).setCell (p := ⟨w.heap.size + 1 + 1, 0, none⟩) hg4 (Value.slice A5 T c5)).setCell (p := ⟨w.heap.size + 1 + 1, 1, none⟩) hg4 (Value.slice none 0 0)).setCell (p := ⟨w.heap.size + 1 + 1, 2, none⟩) hg4 (.int .i64 (lf)))
      have YF := Lib.hid ((((HX45.out).put 0 (Value.slice A5 T c5)).put 1 (Value.slice none 0 0)).put 2 (.int .i64 (lf)))
      go_wp2_with fail
      generalize ((w5.setCell { block := w.heap.size + 1 + 1, off := 0 } (Value.slice A5 T c5)).setCell { block := w.heap.size + 1 + 1, off := 1 } (Value.slice none 0 0)).setCell { block := w.heap.size + 1 + 1, off := 2 } (Value.int IntKind.i64 (lf)) = wf at *
      have q0 : wf.cell? ⟨w.heap.size + 1 + 1, 0, none⟩ = some (Value.slice A5 T c5) := by rw [YF.out.cell 0]; rfl
      have q1 : wf.cell? ⟨w.heap.size + 1 + 1, 1, none⟩ = some (Value.slice none 0 0) := by rw [YF.out.cell 1]; rfl
      have q2 : wf.cell? ⟨w.heap.size + 1 + 1, 2, none⟩ = some (.int .i64 (lf)) := by rw [YF.out.cell 2]; rfl
      exact bodyPost_ret (v := .tuple #[.agg #[Value.slice A5 T c5, Value.slice none 0 0, .int .i64 (lf)], .slice none 0 0, .int .i64 0]) (by simp [results, Try.results17, go_sem, q0, q1, q2]) rfl ⟨A5, c5, none, 0, none, 0, by unfold RfV; rw [HREF.out]; rfl, ⟨by rw [← HROW.out]; exact (RF.out).mono (fun _ h => h.1), ⟨fun k hk => by simp [HWN.out] at hk⟩, HOKF.out⟩, Seg.nil _ _, BF.out⟩
set_option maxRecDepth 100000 in
set_option maxHeartbeats 8000000 in
theorem rdo_crash (N : Nat → Prop) (Ab Aw : Option Addr) (T cb cw : Nat) (D : DM) (o : OpM) (A : Option Addr) (c : Nat) (w : World) (h : RfD N w Ab Aw D T) (hN : ∀ g, w.heap.size ≤ g → N g) (hk : o.kind = 4) (hkeep : o.keep < 18446744073709551616) : Calls Try.prog 17 #[RfV Ab T cb Aw D.wts.length cw (refL D), .agg (o.cells A c)] w (RdPost N w T (D.crash o.keep o.tear o.sectors, [], 0)) := by
  have hk1 : (o.kind == 1) = false := by rw [hk]; rfl
  have hk2 : (o.kind == 2) = false := by rw [hk]; rfl
  have hk3 : (o.kind == 3) = false := by rw [hk]; rfl
  have hk4 : (o.kind == 4) = true := by rw [hk]; rfl
  have hg4 : w.heap.size ≤ w.heap.size + 1 + 1 := by omega
  have HROW := Lib.hid (show landR (crashS o.keep o.tear o.sectors) (rowsN D.img T) D.wts D.wts.length = rowsN (D.crash o.keep o.tear o.sectors).img T from landR_rows _ (crashS_le _ _ _) D T h.ok _ (Nat.le_refl _))
  have HOKF := Lib.hid (h.ok.crash o.keep o.tear o.sectors)
  have HNW := Lib.hid hN
  clear hN
  have HWN := Lib.hid (show (D.crash o.keep o.tear o.sectors).wts = [] from rfl)
  have HREF := Lib.hid (show refL (D.crash o.keep o.tear o.sectors) = -1 from rfl)
  clear hk
  obtain ⟨lf, hlf⟩ : ∃ lf, lf = refL D := ⟨_, rfl⟩
  obtain ⟨m, hm⟩ : ∃ m, m = D.wts.length := ⟨_, rfl⟩
  obtain ⟨dl, hdl⟩ : ∃ dl, dl = o.data.length := ⟨_, rfl⟩
  have hT := h.ok.top
  have hT1 := h.ok.one
  have hfew : m ≤ 64 := by rw [hm]; exact h.ok.few
  obtain ⟨wA, hwA⟩ : ∃ wA, wA = w.alloc (.cells #[.slice Ab T cb, .slice Aw m cw, .int .i64 lf] 32) := ⟨_, rfl⟩
  have hsA : wA.heap.size = w.heap.size + 1 := by rw [hwA]; simp
  obtain ⟨wB, hwB⟩ : ∃ wB, wB = wA.alloc (.cells #[.int .i64 o.kind, .int .i64 o.block, .slice A dl c, .int .u64 (o.keep : Int), .int .i64 o.tear, .int .i64 o.sectors] 36) := ⟨_, rfl⟩
  have hsB : wB.heap.size = w.heap.size + 1 + 1 := by rw [hwB]; simp [hsA]
  obtain ⟨wC, hwC⟩ : ∃ wC, wC = wB.alloc (.cells ResC 32) := ⟨_, rfl⟩
  have hsC : wC.heap.size = w.heap.size + 1 + 1 + 1 := by rw [hwC]; simp [hsB]
  have X2 : Bk wC w.heap.size 32 #[.slice Ab T cb, .slice Aw m cw, .int .i64 lf] := by rw [hwC, hwB, hwA]; exact ((Bk.new w _ _).alloc _).alloc _
  have X3 : Bk wC (w.heap.size + 1) 36 #[.int .i64 o.kind, .int .i64 o.block, .slice A dl c, .int .u64 (o.keep : Int), .int .i64 o.tear, .int .i64 o.sectors] := by rw [hwC, hwB, ← hsA]; exact (Bk.new wA _ _).alloc _
  have X4 : Bk wC (w.heap.size + 1 + 1) 32 ResC := by rw [hwC, ← hsB]; exact Bk.new wB _ _
  have BC : Below w.heap.size w wC := by rw [hwC, hwB, hwA]; exact (((Below.refl _ _).alloc (Nat.le_refl _) _).alloc (by simp) _).alloc (by simp; omega) _
  have x0 := X2.cell 0
  have x1 := X2.cell 1
  have x2 := X2.cell 2
  have y0 := X3.cell 0
  have y1 := X3.cell 1
  have y2 := X3.cell 2
  have y3 := X3.cell 3
  have y4 := X3.cell 4
  have y5 := X3.cell 5
  have z0 := X4.cell 0
  have z1 := X4.cell 1
  have z2 := X4.cell 2
  simp only [ResC, List.getElem?_toArray, List.getElem?_cons_zero, List.getElem?_cons_succ] at x0 x1 x2 y0 y1 y2 y3 y4 y5 z0 z1 z2
  have f0 := X4.frozen 0
  have f1 := X4.frozen 1
  have f2 := X4.frozen 2
  have fx2 := X2.frozen 2
  have HX2 := Lib.hid X2
  have HX3 := Lib.hid X3
  have HX4 := Lib.hid X4
  have HBC := Lib.hid BC
  have HH := Lib.hid h
  have HLF := Lib.hid hlf
  have HM := Lib.hid hm
  have HDL := Lib.hid hdl
  have HSC := Lib.hid hsC
  have HWW := Lib.hid (show ((w.alloc (.cells #[.slice Ab T cb, .slice Aw m cw, .int .i64 lf] 32)).alloc (.cells #[.int .i64 o.kind, .int .i64 o.block, .slice A dl c, .int .u64 (o.keep : Int), .int .i64 o.tear, .int .i64 o.sectors] 36)).alloc (.cells #[.slice none 0 0, .slice none 0 0, .int .i64 0] 32) = wC by rw [hwC, hwB, hwA]; rfl)
  rw [← hlf, ← hm]
  unfold RfV OpM.cells
  rw [← hdl]
  clear hwA hwB hwC hsA hsB hsC X2 X3 X4 BC h hlf hm hdl
  go_enter Try.func17, Try.ntmps17
  go_upto_region 1 with fail
  rw [HWW.out]
  rw [← HM.out] at HROW
  by_cases hb0 : 0 ≤ o.block
  · by_cases hbT : o.block < (T : Int)
    all_goals
      skip
      have CL := Lib.hid (rland_any (fun g => N g ∧ g ≠ w.heap.size ∧ g ≠ w.heap.size + 1 + 1) Ab Aw T cb m cw lf (rowsN D.img T) D.wts o.keep o.tear o.sectors wC (by rw [rowsN_length]) hT ((HH.out.rs.low.mono (fun g hg => ⟨hg.1, by have := hg.2; omega, by have := hg.2; omega⟩)).bel HBC.out) (rows256 HH.out.ok) HM.out hfew (HH.out.wt.wt.bel HBC.out) (fun x hx => ⟨HH.out.ok.fit x hx, HH.out.ok.full x hx⟩) hkeep (fun g hg => by have hz := HSC.out; exact ⟨HNW.out g (by omega), by omega, by omega⟩))
      go_wp2_with fail
      refine CL.out.mono ?_
      rintro e w5 ⟨A5, c5, rfl, hR5, hb5⟩
      have HB5 := Lib.hid (HBC.out.trans (hb5.mono HBC.out.size))
      have X25 := HX2.out.bel hb5
      have X45 := HX4.out.bel hb5
      clear x0 x1 x2 y0 y1 y2 y3 y4 y5 z0 z1 z2 f0 f1 f2 fx2
      have x0 := X25.cell 0
      have x1 := X25.cell 1
      have x2 := X25.cell 2
      simp only [List.getElem?_toArray, List.getElem?_cons_zero, List.getElem?_cons_succ] at x0 x1 x2
      have f0 := X25.frozen 0
      have f1 := X25.frozen 1
      have f2 := X25.frozen 2
      obtain ⟨w6, hw6⟩ : ∃ w6, w6 = ((w5.setCell ⟨w.heap.size, 0, none⟩ (.slice A5 T c5)).setCell ⟨w.heap.size, 1, none⟩ (.slice none 0 0)).setCell ⟨w.heap.size, 2, none⟩ (.int .i64 lf) := ⟨_, rfl⟩
      have X26 : Bk w6 w.heap.size 32 #[.slice A5 T c5, .slice none 0 0, .int .i64 lf] := by rw [hw6]; exact ((X25.put 0 _).put 1 _).put 2 _
      have X46 : Bk w6 (w.heap.size + 1 + 1) 32 ResC := by rw [hw6]; exact ((X45.far (by simp only; omega) _).far (by simp only; omega) _).far (by simp only; omega) _
      have B6 : Below w.heap.size w w6 := by rw [hw6]; exact ((HB5.out.setCell (Nat.le_refl _) _).setCell (Nat.le_refl _) _).setCell (Nat.le_refl _) _
      have hng : ¬ (fun g => N g ∧ g ≠ w.heap.size ∧ g ≠ w.heap.size + 1 + 1) w.heap.size := fun h => h.2.1 rfl
      have hng4 : ¬ (fun g => N g ∧ g ≠ w.heap.size ∧ g ≠ w.heap.size + 1 + 1) (w.heap.size + 1 + 1) := fun h => h.2.2 rfl
      have R6 : RsN w6 (fun g => N g ∧ g ≠ w.heap.size ∧ g ≠ w.heap.size + 1 + 1) A5 (landR (crashS o.keep o.tear o.sectors) (rowsN D.img T) D.wts m) := by rw [hw6]; exact ((hR5.set (i := 0) (u := .slice A5 T c5) hng).set (i := 1) (u := .slice none 0 0) hng).set (i := 2) (u := .int .i64 lf) hng
      have HW6 := Lib.hid hw6
      have y26 := X26.cell 2
      have fy26 := X26.frozen 2
      simp only [List.getElem?_toArray, List.getElem?_cons_zero, List.getElem?_cons_succ] at y26
      obtain ⟨w7, hw7⟩ : ∃ w7, w7 = w6.setCell ⟨w.heap.size, 2, none⟩ (.int .i64 (-1)) := ⟨_, rfl⟩
      have X27 : Bk w7 w.heap.size 32 #[.slice A5 T c5, .slice none 0 0, .int .i64 (-1)] := by rw [hw7]; exact X26.put 2 _
      have X47 : Bk w7 (w.heap.size + 1 + 1) 32 ResC := by rw [hw7]; exact X46.far (by simp only; omega) _
      have B7 : Below w.heap.size w w7 := by rw [hw7]; exact B6.setCell (Nat.le_refl _) _
      have R7 := R6.set (i := 2) (u := .int .i64 (-1)) hng
      rw [← hw7] at R7
      have RF := Lib.hid (((R7.set (i := 0) (u := .slice A5 T c5) hng4).set (i := 1) (u := .slice none 0 0) hng4).set (i := 2) (u := .int .i64 (-1)) hng4)
      have HW7 := Lib.hid hw7
      have HX27 := Lib.hid X27
      have HX47 := Lib.hid X47
      have HB7 := Lib.hid B7
      clear hR5 hb5 X25 X45 X26 X46 B6 R6 R7 hw6 hw7 X27 X47 B7 hng hng4 CL
      go_upto_region 33 with fail
      rw [← HW6.out]
      clear x0 x1 x2 f0 f1 f2
      go_upto_region 34 with fail
      rw [← HW7.out]
      clear y26 fy26
      have x0 := HX27.out.cell 0
      have x1 := HX27.out.cell 1
      have x2 := HX27.out.cell 2
      have z0 := HX47.out.cell 0
      have z1 := HX47.out.cell 1
      have z2 := HX47.out.cell 2
      simp only [ResC, List.getElem?_toArray, List.getElem?_cons_zero, List.getElem?_cons_succ] at x0 x1 x2 z0 z1 z2
      have f0 := HX47.out.frozen 0
      have f1 := HX47.out.frozen 1
      have f2 := HX47.out.frozen 2
      have BF := Lib.hid ((((HB7.out).setCell (p := ⟨w.heap.size + 1 + 1, 0, none⟩) hg4 (Value.slice A5 T c5)).setCell (p := ⟨w.heap.size + 1 + 1, 1, none⟩) hg4 (Value.slice none 0 0)).setCell (p := ⟨w.heap.size + 1 + 1, 2, none⟩) hg4 (.int .i64 (-1)))
      have YF := Lib.hid ((((HX47.out).put 0 (Value.slice A5 T c5)).put 1 (Value.slice none 0 0)).put 2 (.int .i64 (-1)))
      go_wp2_with fail
      generalize ((w7.setCell { block := w.heap.size + 1 + 1, off := 0 } (Value.slice A5 T c5)).setCell { block := w.heap.size + 1 + 1, off := 1 } (Value.slice none 0 0)).setCell { block := w.heap.size + 1 + 1, off := 2 } (Value.int IntKind.i64 (-1)) = wf at *
      have q0 : wf.cell? ⟨w.heap.size + 1 + 1, 0, none⟩ = some (Value.slice A5 T c5) := by rw [YF.out.cell 0]; rfl
      have q1 : wf.cell? ⟨w.heap.size + 1 + 1, 1, none⟩ = some (Value.slice none 0 0) := by rw [YF.out.cell 1]; rfl
      have q2 : wf.cell? ⟨w.heap.size + 1 + 1, 2, none⟩ = some (.int .i64 (-1)) := by rw [YF.out.cell 2]; rfl
      exact bodyPost_ret (v := .tuple #[.agg #[Value.slice A5 T c5, Value.slice none 0 0, .int .i64 (-1)], .slice none 0 0, .int .i64 0]) (by simp [results, Try.results17, go_sem, q0, q1, q2]) rfl ⟨A5, c5, none, 0, none, 0, by unfold RfV; rw [HREF.out]; rfl, ⟨by rw [← HROW.out]; exact (RF.out).mono (fun _ h => h.1), ⟨fun k hk => by simp [HWN.out] at hk⟩, HOKF.out⟩, Seg.nil _ _, BF.out⟩
  · skip
    have CL := Lib.hid (rland_any (fun g => N g ∧ g ≠ w.heap.size ∧ g ≠ w.heap.size + 1 + 1) Ab Aw T cb m cw lf (rowsN D.img T) D.wts o.keep o.tear o.sectors wC (by rw [rowsN_length]) hT ((HH.out.rs.low.mono (fun g hg => ⟨hg.1, by have := hg.2; omega, by have := hg.2; omega⟩)).bel HBC.out) (rows256 HH.out.ok) HM.out hfew (HH.out.wt.wt.bel HBC.out) (fun x hx => ⟨HH.out.ok.fit x hx, HH.out.ok.full x hx⟩) hkeep (fun g hg => by have hz := HSC.out; exact ⟨HNW.out g (by omega), by omega, by omega⟩))
    go_wp2_with fail
    refine CL.out.mono ?_
    rintro e w5 ⟨A5, c5, rfl, hR5, hb5⟩
    have HB5 := Lib.hid (HBC.out.trans (hb5.mono HBC.out.size))
    have X25 := HX2.out.bel hb5
    have X45 := HX4.out.bel hb5
    clear x0 x1 x2 y0 y1 y2 y3 y4 y5 z0 z1 z2 f0 f1 f2 fx2
    have x0 := X25.cell 0
    have x1 := X25.cell 1
    have x2 := X25.cell 2
    simp only [List.getElem?_toArray, List.getElem?_cons_zero, List.getElem?_cons_succ] at x0 x1 x2
    have f0 := X25.frozen 0
    have f1 := X25.frozen 1
    have f2 := X25.frozen 2
    obtain ⟨w6, hw6⟩ : ∃ w6, w6 = ((w5.setCell ⟨w.heap.size, 0, none⟩ (.slice A5 T c5)).setCell ⟨w.heap.size, 1, none⟩ (.slice none 0 0)).setCell ⟨w.heap.size, 2, none⟩ (.int .i64 lf) := ⟨_, rfl⟩
    have X26 : Bk w6 w.heap.size 32 #[.slice A5 T c5, .slice none 0 0, .int .i64 lf] := by rw [hw6]; exact ((X25.put 0 _).put 1 _).put 2 _
    have X46 : Bk w6 (w.heap.size + 1 + 1) 32 ResC := by rw [hw6]; exact ((X45.far (by simp only; omega) _).far (by simp only; omega) _).far (by simp only; omega) _
    have B6 : Below w.heap.size w w6 := by rw [hw6]; exact ((HB5.out.setCell (Nat.le_refl _) _).setCell (Nat.le_refl _) _).setCell (Nat.le_refl _) _
    have hng : ¬ (fun g => N g ∧ g ≠ w.heap.size ∧ g ≠ w.heap.size + 1 + 1) w.heap.size := fun h => h.2.1 rfl
    have hng4 : ¬ (fun g => N g ∧ g ≠ w.heap.size ∧ g ≠ w.heap.size + 1 + 1) (w.heap.size + 1 + 1) := fun h => h.2.2 rfl
    have R6 : RsN w6 (fun g => N g ∧ g ≠ w.heap.size ∧ g ≠ w.heap.size + 1 + 1) A5 (landR (crashS o.keep o.tear o.sectors) (rowsN D.img T) D.wts m) := by rw [hw6]; exact ((hR5.set (i := 0) (u := .slice A5 T c5) hng).set (i := 1) (u := .slice none 0 0) hng).set (i := 2) (u := .int .i64 lf) hng
    have HW6 := Lib.hid hw6
    have y26 := X26.cell 2
    have fy26 := X26.frozen 2
    simp only [List.getElem?_toArray, List.getElem?_cons_zero, List.getElem?_cons_succ] at y26
    obtain ⟨w7, hw7⟩ : ∃ w7, w7 = w6.setCell ⟨w.heap.size, 2, none⟩ (.int .i64 (-1)) := ⟨_, rfl⟩
    have X27 : Bk w7 w.heap.size 32 #[.slice A5 T c5, .slice none 0 0, .int .i64 (-1)] := by rw [hw7]; exact X26.put 2 _
    have X47 : Bk w7 (w.heap.size + 1 + 1) 32 ResC := by rw [hw7]; exact X46.far (by simp only; omega) _
    have B7 : Below w.heap.size w w7 := by rw [hw7]; exact B6.setCell (Nat.le_refl _) _
    have R7 := R6.set (i := 2) (u := .int .i64 (-1)) hng
    rw [← hw7] at R7
    have RF := Lib.hid (((R7.set (i := 0) (u := .slice A5 T c5) hng4).set (i := 1) (u := .slice none 0 0) hng4).set (i := 2) (u := .int .i64 (-1)) hng4)
    have HW7 := Lib.hid hw7
    have HX27 := Lib.hid X27
    have HX47 := Lib.hid X47
    have HB7 := Lib.hid B7
    clear hR5 hb5 X25 X45 X26 X46 B6 R6 R7 hw6 hw7 X27 X47 B7 hng hng4 CL
    go_upto_region 33 with fail
    rw [← HW6.out]
    clear x0 x1 x2 f0 f1 f2
    go_upto_region 34 with fail
    rw [← HW7.out]
    clear y26 fy26
    have x0 := HX27.out.cell 0
    have x1 := HX27.out.cell 1
    have x2 := HX27.out.cell 2
    have z0 := HX47.out.cell 0
    have z1 := HX47.out.cell 1
    have z2 := HX47.out.cell 2
    simp only [ResC, List.getElem?_toArray, List.getElem?_cons_zero, List.getElem?_cons_succ] at x0 x1 x2 z0 z1 z2
    have f0 := HX47.out.frozen 0
    have f1 := HX47.out.frozen 1
    have f2 := HX47.out.frozen 2
    have BF := Lib.hid ((((HB7.out).setCell (p := ⟨w.heap.size + 1 + 1, 0, none⟩) hg4 (Value.slice A5 T c5)).setCell (p := ⟨w.heap.size + 1 + 1, 1, none⟩) hg4 (Value.slice none 0 0)).setCell (p := ⟨w.heap.size + 1 + 1, 2, none⟩) hg4 (.int .i64 (-1)))
    have YF := Lib.hid ((((HX47.out).put 0 (Value.slice A5 T c5)).put 1 (Value.slice none 0 0)).put 2 (.int .i64 (-1)))
    go_wp2_with fail
    generalize ((w7.setCell { block := w.heap.size + 1 + 1, off := 0 } (Value.slice A5 T c5)).setCell { block := w.heap.size + 1 + 1, off := 1 } (Value.slice none 0 0)).setCell { block := w.heap.size + 1 + 1, off := 2 } (Value.int IntKind.i64 (-1)) = wf at *
    have q0 : wf.cell? ⟨w.heap.size + 1 + 1, 0, none⟩ = some (Value.slice A5 T c5) := by rw [YF.out.cell 0]; rfl
    have q1 : wf.cell? ⟨w.heap.size + 1 + 1, 1, none⟩ = some (Value.slice none 0 0) := by rw [YF.out.cell 1]; rfl
    have q2 : wf.cell? ⟨w.heap.size + 1 + 1, 2, none⟩ = some (.int .i64 (-1)) := by rw [YF.out.cell 2]; rfl
    exact bodyPost_ret (v := .tuple #[.agg #[Value.slice A5 T c5, Value.slice none 0 0, .int .i64 (-1)], .slice none 0 0, .int .i64 0]) (by simp [results, Try.results17, go_sem, q0, q1, q2]) rfl ⟨A5, c5, none, 0, none, 0, by unfold RfV; rw [HREF.out]; rfl, ⟨by rw [← HROW.out]; exact (RF.out).mono (fun _ h => h.1), ⟨fun k hk => by simp [HWN.out] at hk⟩, HOKF.out⟩, Seg.nil _ _, BF.out⟩
end Go.Proofs.Ytmgbmnbjionapaa
