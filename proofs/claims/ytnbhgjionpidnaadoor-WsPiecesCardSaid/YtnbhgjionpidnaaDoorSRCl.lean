/- The reference's closed: what a Close's payload says. Condition: the text is no longer than Go's. -/
import Derived.Test.YtnbhgjionpidnaaDoorSRune
import Derived.Test.YtnbhgjionpidnaaDoorSFrame
namespace Go.Proofs.YtnbhgjionpidnaaDoor
open Go.RowKit

/-- An item, or the one that says a code. -/
def endI (r : Except Nat ItM) : ItM := match r with
  | .ok i => i
  | .error c => ⟨0, ⟨#[]⟩, c⟩
set_option maxRecDepth 100000 in
set_option maxHeartbeats 8000000 in
theorem rclosed_any (p : ByteArray) (hz : p.size ≤ 100000) (w : World) : Calls Tryd.prog 33 #[.string p] w fun e w' => e = .returned (itV (endI (closedN p))) ∧ Below w.heap.size w w' := by
  obtain ⟨r, hr⟩ : ∃ r, r = closedN p := ⟨_, rfl⟩
  rw [← hr]
  unfold closedN at hr
  obtain ⟨w0, hw0⟩ : ∃ x, x = w.alloc (.cells #[.int .i64 0, .string ⟨#[]⟩, .int .i64 0] 46) := ⟨_, rfl⟩
  have al : Below w.heap.size w w0 := by rw [hw0]; exact (Below.refl _ _).alloc (Nat.le_refl _) _
  have HBK := Lib.hid (show Bk w0 w.heap.size 46 #[.int .i64 0, .string ⟨#[]⟩, .int .i64 0] by rw [hw0]; exact Bk.new w _ _)
  have HAL := Lib.hid al
  have HW0 := Lib.hid hw0
  obtain ⟨g, hg⟩ : ∃ g, g = w.heap.size := ⟨_, rfl⟩
  have HG := Lib.hid hg
  have HGL := Lib.hid (show w.heap.size ≤ g from Nat.le_of_eq hg.symm)
  rw [← hg] at HBK
  have f0 := HBK.out.frozen 0
  have f1 := HBK.out.frozen 1
  have f2 := HBK.out.frozen 2
  have y0 := HBK.out.cell 0
  have y1 := HBK.out.cell 1
  have y2 := HBK.out.cell 2
  clear hw0 al hg
  by_cases h0 : p.size = 0
  · rw [if_pos h0] at hr
    subst hr
    have i1 : (p.size : Int) = 0 := by omega
    clear h0
    go_enter Tryd.func33, Tryd.ntmps33
    go_upto_region 1 with fail
    rw [← HW0.out, ← HG.out]
    go_wp2_with fail
    have FB := box3 HBK.out (.int .i64 8) (.string ⟨#[]⟩) (.int .i64 1005)
    have r0 := FB.cell 0
    have r1 := FB.cell 1
    have r2 := FB.cell 2
    exact bodyPost_ret (v := itV ⟨8, ⟨#[]⟩, 1005⟩) (by simp [results, Tryd.results33, go_sem, r0, r1, r2, itV]) rfl ⟨rfl, below3 HAL.out HGL.out _ _ _⟩
  · rw [if_neg h0] at hr
    have i0 : ¬ (p.size : Int) = 0 := by omega
    by_cases h1 : p.size < 2
    · rw [if_pos h1] at hr
      subst hr
      have i1 : (p.size : Int) = 1 := by omega
      clear h0 h1 i0
      go_enter Tryd.func33, Tryd.ntmps33
      go_upto_region 1 with fail
      rw [← HW0.out, ← HG.out]
      go_wp2_with fail
      have FB := box3 HBK.out (.int .i64 0) (.string ⟨#[]⟩) (.int .i64 1002)
      have r0 := FB.cell 0
      have r1 := FB.cell 1
      have r2 := FB.cell 2
      exact bodyPost_ret (v := itV ⟨0, ⟨#[]⟩, 1002⟩) (by simp [results, Tryd.results33, go_sem, r0, r1, r2, itV]) rfl ⟨rfl, below3 HAL.out HGL.out _ _ _⟩
    · rw [if_neg h1] at hr
      have i1 : ¬ (p.size : Int) = 1 := by omega
      have i11 : ((p.size : Int) == 1) = false := by simp; omega
      have i2 : (2 : Int) ≤ (p.size : Int) := by omega
      obtain ⟨a, ha⟩ : ∃ a, a = (p.data.toList.getD 0 0).toNat := ⟨_, rfl⟩
      obtain ⟨b, hb⟩ : ∃ b, b = (p.data.toList.getD 1 0).toNat := ⟨_, rfl⟩
      have ha8 : a < 256 := by rw [ha]; exact UInt8.toNat_lt _
      have hb8 : b < 256 := by rw [hb]; exact UInt8.toNat_lt _
      have x0 : ∀ w' : World, (Instr.index 9 (.string p) (.int .i64 0)).run Tryd.prog w' = .ok (.int .u8 (a : Int)) w' := fun w' => by
        rw [run_index_string w' 9 p .i64 0 Tryd.underlying9, dif_pos (by omega), ha, run_index2 p 0 (by omega)]; rfl
      have x1 : ∀ w' : World, (Instr.index 9 (.string p) (.int .i64 1)).run Tryd.prog w' = .ok (.int .u8 (b : Int)) w' := fun w' => by
        rw [run_index_string w' 9 p .i64 1 Tryd.underlying9, dif_pos (by omega), hb, run_index2 p 1 (by omega)]; rfl
      obtain ⟨c, hc⟩ : ∃ c, c = codeN p := ⟨_, rfl⟩
      have o1 : 256 * (a : Int) + (b : Int) = (c : Int) := by
        have : c = a * 256 + b := by rw [hc, ha, hb]; rfl
        omega
      obtain ⟨T, hT⟩ : ∃ T, T = p.extract 2 p.size := ⟨_, rfl⟩
      have hTz : T.size ≤ 100000 := by rw [hT, ByteArray.size_extract]; omega
      have sl : ∀ w' : World, (Instr.slice 9 (.string p) (some (.int .i64 2)) none none).run Tryd.prog w' = .ok (.string T) w' := fun w' => by
        rw [run_slice_string_l w' 9 p Tryd.underlying9 .i64 2 (by omega) (by omega), hT]; rfl
      rw [← hc, ← hT] at hr
      have HO1 := Lib.hid o1
      clear ha hb hc hT h0 h1 o1
      have HC := Lib.hid (fun w' => utf8_any T (by omega) w')
      by_cases c1 : c < 1000
      · have j1 : (c : Int) < 1000 := by omega
        rw [if_pos (by unfold isCodeB; simp; omega)] at hr
        subst hr
        go_enter Tryd.func33, Tryd.ntmps33
        go_upto_region 1 with fail
        rw [← HW0.out, ← HG.out]
        go_wp2_with fail
        go_quiet (fail)
        rw [HO1.out]
        generalize hW : w0.drewN nq = W
        have bW : Below w0.heap.size w0 W := by rw [← hW]; exact below_drewN (Below.refl _ _) _
        have HB1 := Lib.hid (HAL.out.trans (bW.mono HAL.out.size))
        have HK1 := Lib.hid (HBK.out.bel bW)
        clear hW bW f0 f1 f2 y0 y1 y2 x0 x1
        have f0 := HK1.out.frozen 0
        have y0 := HK1.out.cell 0
        have f1 := HK1.out.frozen 1
        have y1 := HK1.out.cell 1
        have f2 := HK1.out.frozen 2
        have y2 := HK1.out.cell 2
        go_wp2_with fail
        have FB := box3 HK1.out (.int .i64 0) (.string ⟨#[]⟩) (.int .i64 1002)
        have r0 := FB.cell 0
        have r1 := FB.cell 1
        have r2 := FB.cell 2
        exact bodyPost_ret (v := itV ⟨0, ⟨#[]⟩, 1002⟩) (by simp [results, Tryd.results33, go_sem, r0, r1, r2, itV]) rfl ⟨rfl, below3 HB1.out HGL.out _ _ _⟩
      have j1 : ¬ (c : Int) < 1000 := by omega
      by_cases c2 : 1003 < c
      · have j2 : (1003 : Int) < (c : Int) := by omega
        by_cases c3 : c < 1007
        · have j3 : (c : Int) < 1007 := by omega
          rw [if_pos (by unfold isCodeB; simp; omega)] at hr
          subst hr
          go_enter Tryd.func33, Tryd.ntmps33
          go_upto_region 1 with fail
          rw [← HW0.out, ← HG.out]
          go_wp2_with fail
          go_quiet (fail)
          rw [HO1.out]
          generalize hW : w0.drewN nq = W
          have bW : Below w0.heap.size w0 W := by rw [← hW]; exact below_drewN (Below.refl _ _) _
          have HB1 := Lib.hid (HAL.out.trans (bW.mono HAL.out.size))
          have HK1 := Lib.hid (HBK.out.bel bW)
          clear hW bW f0 f1 f2 y0 y1 y2 x0 x1
          have f0 := HK1.out.frozen 0
          have y0 := HK1.out.cell 0
          have f1 := HK1.out.frozen 1
          have y1 := HK1.out.cell 1
          have f2 := HK1.out.frozen 2
          have y2 := HK1.out.cell 2
          go_wp2_with fail
          have FB := box3 HK1.out (.int .i64 0) (.string ⟨#[]⟩) (.int .i64 1002)
          have r0 := FB.cell 0
          have r1 := FB.cell 1
          have r2 := FB.cell 2
          exact bodyPost_ret (v := itV ⟨0, ⟨#[]⟩, 1002⟩) (by simp [results, Tryd.results33, go_sem, r0, r1, r2, itV]) rfl ⟨rfl, below3 HB1.out HGL.out _ _ _⟩
        have j3 : ¬ (c : Int) < 1007 := by omega
        by_cases c4 : 1011 < c
        · have j4 : (1011 : Int) < (c : Int) := by omega
          by_cases c5 : c < 3000
          · have j5 : (c : Int) < 3000 := by omega
            rw [if_pos (by unfold isCodeB; simp; omega)] at hr
            subst hr
            go_enter Tryd.func33, Tryd.ntmps33
            go_upto_region 1 with fail
            rw [← HW0.out, ← HG.out]
            go_wp2_with fail
            go_quiet (fail)
            rw [HO1.out]
            generalize hW : w0.drewN nq = W
            have bW : Below w0.heap.size w0 W := by rw [← hW]; exact below_drewN (Below.refl _ _) _
            have HB1 := Lib.hid (HAL.out.trans (bW.mono HAL.out.size))
            have HK1 := Lib.hid (HBK.out.bel bW)
            clear hW bW f0 f1 f2 y0 y1 y2 x0 x1
            have f0 := HK1.out.frozen 0
            have y0 := HK1.out.cell 0
            have f1 := HK1.out.frozen 1
            have y1 := HK1.out.cell 1
            have f2 := HK1.out.frozen 2
            have y2 := HK1.out.cell 2
            go_wp2_with fail
            have FB := box3 HK1.out (.int .i64 0) (.string ⟨#[]⟩) (.int .i64 1002)
            have r0 := FB.cell 0
            have r1 := FB.cell 1
            have r2 := FB.cell 2
            exact bodyPost_ret (v := itV ⟨0, ⟨#[]⟩, 1002⟩) (by simp [results, Tryd.results33, go_sem, r0, r1, r2, itV]) rfl ⟨rfl, below3 HB1.out HGL.out _ _ _⟩
          have j5 : ¬ (c : Int) < 3000 := by omega
          by_cases c6 : 4999 < c
          · have j6 : (4999 : Int) < (c : Int) := by omega
            rw [if_pos (by unfold isCodeB; simp; omega)] at hr
            subst hr
            go_enter Tryd.func33, Tryd.ntmps33
            go_upto_region 1 with fail
            rw [← HW0.out, ← HG.out]
            go_wp2_with fail
            go_quiet (fail)
            rw [HO1.out]
            generalize hW : w0.drewN nq = W
            have bW : Below w0.heap.size w0 W := by rw [← hW]; exact below_drewN (Below.refl _ _) _
            have HB1 := Lib.hid (HAL.out.trans (bW.mono HAL.out.size))
            have HK1 := Lib.hid (HBK.out.bel bW)
            clear hW bW f0 f1 f2 y0 y1 y2 x0 x1
            have f0 := HK1.out.frozen 0
            have y0 := HK1.out.cell 0
            have f1 := HK1.out.frozen 1
            have y1 := HK1.out.cell 1
            have f2 := HK1.out.frozen 2
            have y2 := HK1.out.cell 2
            go_wp2_with fail
            have FB := box3 HK1.out (.int .i64 0) (.string ⟨#[]⟩) (.int .i64 1002)
            have r0 := FB.cell 0
            have r1 := FB.cell 1
            have r2 := FB.cell 2
            exact bodyPost_ret (v := itV ⟨0, ⟨#[]⟩, 1002⟩) (by simp [results, Tryd.results33, go_sem, r0, r1, r2, itV]) rfl ⟨rfl, below3 HB1.out HGL.out _ _ _⟩
          · have j6 : ¬ (4999 : Int) < (c : Int) := by omega
            rw [if_neg (by unfold isCodeB; simp; omega)] at hr
            have HR := Lib.hid hr
            clear hr
            go_enter Tryd.func33, Tryd.ntmps33
            go_upto_region 1 with fail
            rw [← HW0.out, ← HG.out]
            go_wp2_with fail
            go_quiet (fail)
            rw [HO1.out]
            generalize hW : w0.drewN nq = W
            have bW : Below w0.heap.size w0 W := by rw [← hW]; exact below_drewN (Below.refl _ _) _
            have HB1 := Lib.hid (HAL.out.trans (bW.mono HAL.out.size))
            have HK1 := Lib.hid (HBK.out.bel bW)
            clear hW bW f0 f1 f2 y0 y1 y2 x0 x1
            have f0 := HK1.out.frozen 0
            have y0 := HK1.out.cell 0
            have f1 := HK1.out.frozen 1
            have y1 := HK1.out.cell 1
            have f2 := HK1.out.frozen 2
            have y2 := HK1.out.cell 2
            obtain ⟨V, hV⟩ : ∃ V, V = Lib.validD T.data.toList := ⟨_, rfl⟩
            rw [← hV] at HC HR
            clear hV
            go_wp2_with fail
            refine (HC.out W).mono ?_
            rintro e w1 ⟨rfl, hw1⟩
            subst hw1
            have hr := HR.out
            clear HR
            cases V
            · rw [if_pos rfl] at hr
              subst hr
              go_wp2_with fail
              have FB := box3 HK1.out (.int .i64 0) (.string ⟨#[]⟩) (.int .i64 1007)
              have r0 := FB.cell 0
              have r1 := FB.cell 1
              have r2 := FB.cell 2
              exact bodyPost_ret (v := itV ⟨0, ⟨#[]⟩, 1007⟩) (by simp [results, Tryd.results33, go_sem, r0, r1, r2, itV]) rfl ⟨rfl, below3 HB1.out HGL.out _ _ _⟩
            · rw [if_neg (by decide)] at hr
              subst hr
              go_wp2_with fail
              have FB := box3 HK1.out (.int .i64 8) (.string T) (.int .i64 (c : Int))
              have r0 := FB.cell 0
              have r1 := FB.cell 1
              have r2 := FB.cell 2
              exact bodyPost_ret (v := itV ⟨8, T, c⟩) (by simp [results, Tryd.results33, go_sem, r0, r1, r2, itV]) rfl ⟨rfl, below3 HB1.out HGL.out _ _ _⟩
        · have j4 : ¬ (1011 : Int) < (c : Int) := by omega
          have j6 : ¬ (4999 : Int) < (c : Int) := by omega
          rw [if_neg (by unfold isCodeB; simp; omega)] at hr
          have HR := Lib.hid hr
          clear hr
          go_enter Tryd.func33, Tryd.ntmps33
          go_upto_region 1 with fail
          rw [← HW0.out, ← HG.out]
          go_wp2_with fail
          go_quiet (fail)
          rw [HO1.out]
          generalize hW : w0.drewN nq = W
          have bW : Below w0.heap.size w0 W := by rw [← hW]; exact below_drewN (Below.refl _ _) _
          have HB1 := Lib.hid (HAL.out.trans (bW.mono HAL.out.size))
          have HK1 := Lib.hid (HBK.out.bel bW)
          clear hW bW f0 f1 f2 y0 y1 y2 x0 x1
          have f0 := HK1.out.frozen 0
          have y0 := HK1.out.cell 0
          have f1 := HK1.out.frozen 1
          have y1 := HK1.out.cell 1
          have f2 := HK1.out.frozen 2
          have y2 := HK1.out.cell 2
          obtain ⟨V, hV⟩ : ∃ V, V = Lib.validD T.data.toList := ⟨_, rfl⟩
          rw [← hV] at HC HR
          clear hV
          go_wp2_with fail
          refine (HC.out W).mono ?_
          rintro e w1 ⟨rfl, hw1⟩
          subst hw1
          have hr := HR.out
          clear HR
          cases V
          · rw [if_pos rfl] at hr
            subst hr
            go_wp2_with fail
            have FB := box3 HK1.out (.int .i64 0) (.string ⟨#[]⟩) (.int .i64 1007)
            have r0 := FB.cell 0
            have r1 := FB.cell 1
            have r2 := FB.cell 2
            exact bodyPost_ret (v := itV ⟨0, ⟨#[]⟩, 1007⟩) (by simp [results, Tryd.results33, go_sem, r0, r1, r2, itV]) rfl ⟨rfl, below3 HB1.out HGL.out _ _ _⟩
          · rw [if_neg (by decide)] at hr
            subst hr
            go_wp2_with fail
            have FB := box3 HK1.out (.int .i64 8) (.string T) (.int .i64 (c : Int))
            have r0 := FB.cell 0
            have r1 := FB.cell 1
            have r2 := FB.cell 2
            exact bodyPost_ret (v := itV ⟨8, T, c⟩) (by simp [results, Tryd.results33, go_sem, r0, r1, r2, itV]) rfl ⟨rfl, below3 HB1.out HGL.out _ _ _⟩
      · have j2 : ¬ (1003 : Int) < (c : Int) := by omega
        have j4 : ¬ (1011 : Int) < (c : Int) := by omega
        have j6 : ¬ (4999 : Int) < (c : Int) := by omega
        rw [if_neg (by unfold isCodeB; simp; omega)] at hr
        have HR := Lib.hid hr
        clear hr
        go_enter Tryd.func33, Tryd.ntmps33
        go_upto_region 1 with fail
        rw [← HW0.out, ← HG.out]
        go_wp2_with fail
        go_quiet (fail)
        rw [HO1.out]
        generalize hW : w0.drewN nq = W
        have bW : Below w0.heap.size w0 W := by rw [← hW]; exact below_drewN (Below.refl _ _) _
        have HB1 := Lib.hid (HAL.out.trans (bW.mono HAL.out.size))
        have HK1 := Lib.hid (HBK.out.bel bW)
        clear hW bW f0 f1 f2 y0 y1 y2 x0 x1
        have f0 := HK1.out.frozen 0
        have y0 := HK1.out.cell 0
        have f1 := HK1.out.frozen 1
        have y1 := HK1.out.cell 1
        have f2 := HK1.out.frozen 2
        have y2 := HK1.out.cell 2
        obtain ⟨V, hV⟩ : ∃ V, V = Lib.validD T.data.toList := ⟨_, rfl⟩
        rw [← hV] at HC HR
        clear hV
        go_wp2_with fail
        refine (HC.out W).mono ?_
        rintro e w1 ⟨rfl, hw1⟩
        subst hw1
        have hr := HR.out
        clear HR
        cases V
        · rw [if_pos rfl] at hr
          subst hr
          go_wp2_with fail
          have FB := box3 HK1.out (.int .i64 0) (.string ⟨#[]⟩) (.int .i64 1007)
          have r0 := FB.cell 0
          have r1 := FB.cell 1
          have r2 := FB.cell 2
          exact bodyPost_ret (v := itV ⟨0, ⟨#[]⟩, 1007⟩) (by simp [results, Tryd.results33, go_sem, r0, r1, r2, itV]) rfl ⟨rfl, below3 HB1.out HGL.out _ _ _⟩
        · rw [if_neg (by decide)] at hr
          subst hr
          go_wp2_with fail
          have FB := box3 HK1.out (.int .i64 8) (.string T) (.int .i64 (c : Int))
          have r0 := FB.cell 0
          have r1 := FB.cell 1
          have r2 := FB.cell 2
          exact bodyPost_ret (v := itV ⟨8, T, c⟩) (by simp [results, Tryd.results33, go_sem, r0, r1, r2, itV]) rfl ⟨rfl, below3 HB1.out HGL.out _ _ _⟩
end Go.Proofs.YtnbhgjionpidnaaDoor
