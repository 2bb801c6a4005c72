/- WsPieces. Conditions: the bytes and the cuts lie in memory; the tables of UTF-8 are laid. -/
import Derived.Test.YtnbhgjionpidnaaDoorSParse
import Derived.Test.YtnbhgjionpidnaaDoorSPcM
namespace Go.Proofs.YtnbhgjionpidnaaDoor
open Go.RowKit

theorem tmod60 (Z : Int) : -60 < Z.tmod 60 ∧ Z.tmod 60 < 60 := by
  rcases Int.le_total 0 Z with h | h
  · rw [Int.tmod_eq_emod_of_nonneg h]; omega
  · have e : Z.tmod 60 = -((-Z).tmod 60) := by rw [Int.neg_tmod]; simp
    rw [e, Int.tmod_eq_emod_of_nonneg (by omega)]; omega
set_option maxRecDepth 100000 in
set_option maxHeartbeats 4000000 in
theorem pieces_any (A0 : Option Addr) (n0 c0 : Nat) (l0 : List Nat) (mk : Bool) (AZ : Option Addr) (nz cz : Nat) (zs : List Int) (hn0 : n0 = l0.length) (hc0 : n0 ≤ c0) (hz0 : n0 ≤ 140737488355328) (hl0 : ∀ x ∈ l0, x < 256) (hnz : nz = zs.length) (hbz : ∀ x ∈ zs, -9223372036854775808 ≤ x ∧ x ≤ 9223372036854775807) (_hcn : nz ≤ 9223372036854775807) (w : World) (hT : Tabs w) (hA0 : Seg w A0 (u8s l0)) (hAZ : Seg w AZ (zs.map (Value.int .i64))) :
    Calls Tryd.prog 5 #[.slice A0 n0 c0, .bool mk, .slice AZ nz cz] w fun e w' => e = .returned (.bool true) ∧ Below w.heap.size w w' := by
  obtain ⟨j0, hj0, hy0, hy1, hy2⟩ := info_parts info_ritem
  obtain ⟨l, hl⟩ : ∃ l, l = l0.take 6000 := ⟨_, rfl⟩
  have CF0 := Lib.hid (few_any l0 A0 n0 c0 hn0 hc0 hz0 w hA0)
  have HL := Lib.hid (show ∀ x ∈ l, x < 256 from fun x hx => hl0 x (List.mem_of_mem_take (by rw [← hl]; exact hx)))
  have hN6 : l.length ≤ 6000 := by rw [hl, List.length_take]; omega
  rw [← hl] at CF0
  obtain ⟨n, hn⟩ : ∃ n, n = l.length := ⟨_, rfl⟩
  rw [← hn] at CF0 hN6
  have HN := Lib.hid hn
  have HT := Lib.hid hT
  have HJ := Lib.hid (show Tryd.prog.info? 46 = some j0 from hj0)
  have HY0 := Lib.hid hy0
  have HY1 := Lib.hid hy1
  have HY2 := Lib.hid hy2
  have HNZ := Lib.hid hnz
  have HBZ := Lib.hid hbz
  have HAZ := Lib.hid hAZ
  clear hn0 hc0 hz0 hl0 hT hA0 hl hn hj0 hy0 hy1 hy2 hnz hbz hAZ
  go_enter Tryd.func5, Tryd.ntmps5
  go_wp2_with fail
  refine CF0.out.mono ?_
  rintro e w1 ⟨v1, rfl, ho1, b1⟩
  obtain ⟨A, c, rfl, hnc, hs1, ha1⟩ := own_seg ho1
  have HS1 := Lib.hid hs1
  have HA1 := Lib.hid ha1
  have HB1 := Lib.hid b1
  clear ho1 hs1 ha1 b1 CF0
  go_wp2_with fail
  refine (newReader_any mk w1).mono ?_
  rintro e w2 ⟨rfl, r2, b2⟩
  obtain ⟨gr, hgr⟩ : ∃ x, x = w1.heap.size := ⟨_, rfl⟩
  rw [← hgr] at r2
  rw [← hgr]
  obtain ⟨w3, hw3⟩ : ∃ x, x = w2.alloc (.cells #[] 46) := ⟨_, rfl⟩
  obtain ⟨z, hz⟩ : ∃ x, x = w2.heap.size := ⟨_, rfl⟩
  have al : Below w2.heap.size w2 w3 := by rw [hw3]; exact (Below.refl _ _).alloc (Nat.le_refl _) _
  have HI0 := Lib.hid (show PcI w gr z mk A l z 0 [] st0 w3 from ⟨(HB1.out.trans (b2.mono HB1.out.size)).trans (al.mono (Nat.le_trans HB1.out.size b2.size)), (HS1.out.bel b2).bel al, fun a e => by have := (HA1.out a e).2; omega, ⟨0, rds0 (r2.bel al)⟩, by
    rw [hw3, hz]
    exact World.ownsRow_lit (size := 3) w2 #[] 0 (Nat.le_refl _) (by decide) rfl, ⟨#[], by
    rw [hw3, hz]
    exact heap_alloc_new _ _, fun x hx => by simp at hx⟩, by have := HB1.out.size; omega, by have := r2.lt; omega, Nat.le_refl _, by rw [hz]; exact al.size⟩)
  have HW3 := Lib.hid hw3
  have HZ3 := Lib.hid hz
  clear hgr r2 b2 hw3 hz al HS1 HA1 HB1
  go_upto_region 6 with fail
  rw [← HW3.out, ← HZ3.out]
  go_wp2_with fail
  go_loopw [8, 9, 10, 11] (fun s8 s9 s10 _ wx => ∃ (i a g cap : Nat) (X : List ItM) (st : Option (Nat × ByteArray × List Nat)), i ≤ 200 ∧ a ≤ n ∧ s10 = .int .i64 (i : Nat) ∧ s9 = .int .i64 (a : Nat) ∧ s8 = .slice (some ⟨g, 0, none⟩) X.length cap ∧ Hid (PcI w gr z mk A l g cap X st wx) ∧ Hid (feedN mk st0 (l.take a) = (X, st))) (fun _ _ s10 _ _ => 200 - (intOf s10).toNat)
  case atStart => exact ⟨0, 0, z, 0, [], st0, Nat.zero_le _, Nat.zero_le _, rfl, rfl, rfl, HI0, Lib.hid rfl⟩
  case round =>
    clear HI0 HW3 HZ3
    obtain ⟨i, a, g, cap, X, st, hi, ha, rfl, rfl, rfl, HI, HF⟩ := hrel
    go_upto_region 8 with fail
    go_cut [26] (fun s wx => s = .bool (decide (i < nz ∧ i < 200)) ∧ wx = wr)
    case first =>
      by_cases h1 : i < nz
      · have i1 : (i : Int) < (nz : Int) := by omega
        by_cases h2 : i < 200
        · have i2 : (i : Int) < 200 := by omega
          go_wp2_with fail
          go_meet
          exact ⟨by rw [decide_eq_true (show i < nz ∧ i < 200 from ⟨h1, h2⟩)], rfl⟩
        · have i2 : ¬ (i : Int) < 200 := by omega
          go_wp2_with fail
          go_meet
          exact ⟨by rw [decide_eq_false (show ¬ (i < nz ∧ i < 200) from fun h => h2 h.2)], rfl⟩
      · have i1 : ¬ (i : Int) < (nz : Int) := by omega
        go_wp2_with fail
        go_meet
        exact ⟨by rw [decide_eq_false (show ¬ (i < nz ∧ i < 200) from fun h => h1 h.1)], rfl⟩
    case rest =>
     obtain ⟨rfl, hwc⟩ := hcut
     rw [hwc]
     clear hwc
     by_cases hlt : i < nz ∧ i < 200
     · -- a piece more
      rw [decide_eq_true hlt]
      obtain ⟨h1, h2⟩ := hlt
      have i1 : (i : Int) < (nz : Int) := by omega
      have i2 : (i : Int) < 200 := by omega
      have i0 : (0 : Int) ≤ (i : Int) := by omega
      have hzl : i < zs.length := by have := HNZ.out; omega
      obtain ⟨Z, hZ⟩ : ∃ x, x = zs[i] := ⟨_, rfl⟩
      have hZb := HBZ.out zs[i] (List.getElem_mem hzl)
      rw [← hZ] at hZb
      obtain ⟨ba, oa, hAe, _, _, hcell⟩ := (HAZ.out.bel HI.out.bel).pick (k := i) (by simpa using hzl)
      subst hAe
      rw [List.getElem_map, ← hZ] at hcell
      clear hZ
      go_upto_region 10 with fail
      go_cut [11] (fun s wx => ∃ r : Int, -60 < r ∧ r < 60 ∧ s = .int .i64 r ∧ wx = wr)
      case first =>
        go_wp2_with fail
        go_meet
        exact ⟨_, (tmod60 _).1, (tmod60 _).2, rfl, by first | rfl | trivial⟩
      case rest =>
        obtain ⟨r, hr1, hr2, rfl, hwc⟩ := hcut
        rw [hwc]
        clear hwc hcell hZb
        go_upto_if 35 with fail
        go_cut [11] (fun s wx => ∃ q : Nat, q < 60 ∧ s = .int .i64 (q : Int) ∧ wx = wr)
        case first =>
          by_cases hneg : r < 0
          · have i5 : decide (r < 0) = true := by simp; omega
            obtain ⟨q, rfl⟩ : ∃ q : Nat, r = -(q : Int) := ⟨(-r).toNat, by omega⟩
            have e5 : -(-(q : Int)) = (q : Int) := by omega
            go_wp2_with fail
            go_meet
            refine ⟨q, by omega, ?_, ?_⟩ <;> first | rfl | trivial | (congr 1; omega)
          · have i5 : decide (r < 0) = false := by simp; omega
            obtain ⟨q, rfl⟩ : ∃ q : Nat, r = (q : Int) := ⟨r.toNat, by omega⟩
            go_wp2_with fail
            go_meet
            refine ⟨q, by omega, ?_, ?_⟩ <;> first | rfl | trivial
        case rest =>
          obtain ⟨q, hq, rfl, hwc⟩ := hcut
          rw [hwc]
          clear hwc hr1 hr2
          have e7 : (n : Int) - (a : Int) = ((n - a : Nat) : Int) := by omega
          go_upto_region 13 with fail
          go_cut [11] (fun s wx => ∃ m : Nat, m ≤ n - a ∧ s = .int .i64 (m : Int) ∧ wx = wr)
          case first =>
            by_cases hle : q ≤ n - a
            · have i5 : ¬ ((n - a : Nat) : Int) < (q : Int) := by omega
              have i6 : (q : Int) ≤ ((n - a : Nat) : Int) := by omega
              go_wp2_with fail
              all_goals (go_meet; refine ⟨q, hle, ?_, ?_⟩ <;> first | rfl | trivial | (congr 1; omega))
            · have i5 : ((n - a : Nat) : Int) < (q : Int) := by omega
              have i6 : ¬ (q : Int) ≤ ((n - a : Nat) : Int) := by omega
              go_wp2_with fail
              all_goals (go_meet; refine ⟨n - a, Nat.le_refl _, ?_, ?_⟩ <;> first | rfl | trivial | (congr 1; omega))
          case rest =>
            obtain ⟨m, hm, rfl, hwc⟩ := hcut
            rw [hwc]
            clear hwc hq e7
            obtain ⟨E, hE⟩ : ∃ E, E = (l.drop a).take m := ⟨_, rfl⟩
            have hEm : m = E.length := by rw [hE, List.length_take, List.length_drop, ← HN.out]; omega
            have HEM := Lib.hid hEm
            have HEL := Lib.hid (show ∀ x ∈ E, x < 256 from by rw [hE]; exact fun x hx => HL.out x (List.mem_of_mem_drop (List.mem_of_mem_take hx)))
            obtain ⟨Y, hY⟩ : ∃ Y, Y = (feedN mk st E).1 := ⟨_, rfl⟩
            obtain ⟨ny, hny⟩ : ∃ ny, ny = Y.length := ⟨_, rfl⟩
            have hst : (feedN mk st0 (l.take a)).2 = st := by rw [HF.out]
            have hx1 : (feedN mk st0 (l.take a)).1 = X := by rw [HF.out]
            have HST := Lib.hid (show StB 10000 st from by
              rw [← hst]
              exact feedN_st mk (l.take a) (by rw [List.length_take]; omega) (fun x hx => HL.out x (List.mem_of_mem_take hx)))
            have hta : l.take a ++ E = l.take (a + m) := by rw [hE, List.take_add]
            have HF2 := Lib.hid (show feedN mk st0 (l.take (a + m)) = (X ++ Y, (feedN mk st E).2) by
              rw [← hta, feedN_step, hst, hx1, hY])
            have hcnt : X.length + ny ≤ 6001 := by
              have h := feedN_count mk (l.take (a + m))
              rw [HF2.out, List.length_append, List.length_take] at h
              omega
            have HY := Lib.hid hY
            have HNY := Lib.hid hny
            have SG2 := Lib.hid (show Seg wr (A.map (·.add a)) (u8s E) ∨ c = a from by
              by_cases hca : c = a
              · exact Or.inr hca
              · left
                have h := HI.out.seg.cut a c (by rw [u8s_length, ← HN.out]; exact hnc)
                rw [if_neg hca] at h
                have h2 := h.take m
                rw [show ((u8s l).drop a).take m = u8s E by rw [hE]; simp [u8s, List.map_take, List.map_drop]] at h2
                exact h2)
            have SG1 := Lib.hid (show m = 0 → ∀ A9, Seg wr A9 (u8s E) from fun h A9 => by
              have : E = [] := List.eq_nil_of_length_eq_zero (by omega)
              rw [this]
              exact Seg.nil _ _)
            clear hE hEm hY hny hst hx1 hta
            obtain ⟨am, ham⟩ : ∃ x, x = a + m := ⟨_, rfl⟩
            have e8 : (a : Int) + (m : Int) = (am : Int) := by omega
            have i8 : (a : Int) ≤ (am : Int) := by omega
            have i9 : (am : Int) ≤ (c : Int) := by omega
            have i10 : (am : Int) - (a : Int) = (m : Int) := by omega
            have i11 : am - a = m := by omega
            rw [← ham] at HF2
            have HAM := Lib.hid ham
            clear ham
            by_cases hca : c = a
            · -- a piece
              subst hca
              go_wp2_with fail
              refine (few_any E _ m _ HEM.out (by omega) (by omega) wr (SG1.out (by omega) _)).mono ?_
              rintro e w4 ⟨v4, rfl, ho4, b4⟩
              rw [List.take_of_length_le (show E.length ≤ 6000 by rw [← HEM.out]; omega), ← HEM.out] at ho4
              obtain ⟨A4, c4, rfl, hc4, hs4, _⟩ := own_seg ho4
              have HI4 := Lib.hid (HI.out.next b4)
              obtain ⟨B4, hr4⟩ := HI4.out.rd
              have CF := Lib.hid (feed_any gr mk st B4 A4 m c4 E HEM.out (by omega) HST.out HEL.out w4 (HI4.out.tab HT.out) hr4 hs4)
              clear ho4 b4 hs4 hr4 hc4
              go_wp2_with fail
              refine CF.out.mono ?_
              rintro e w5 ⟨k5, v5, rfl, ho5, B5, hr5, _⟩
              rw [← HY.out, ← HNY.out] at ho5
              obtain ⟨A5, c5, rfl, hc5, hs5, _⟩ := own_seg ho5
              have HI5 := Lib.hid (HI4.out.feed k5 ⟨B5, hr5⟩)
              have CT := Lib.hid (told_any Y A5 ny c5 HNY.out (by omega) w5 hs5)
              clear ho5 k5 hr5 hs5 hc5 CF HI4
              go_wp2_with fail
              refine CT.out.mono ?_
              rintro e w6 ⟨v6, rfl, ho6, b6⟩
              obtain ⟨A6, c6, rfl, hc6, hs6, _⟩ := own_seg ho6
              have HI6 := Lib.hid (HI5.out.next b6)
              obtain ⟨g7, cap7, w7, hrun, hI7⟩ := HI6.out.push A6 c6 hs6 (by rw [← HNY.out]; omega) j0 HJ.out HY0.out HY1.out HY2.out
              obtain ⟨XY, hXY⟩ : ∃ q, q = X ++ Y := ⟨_, rfl⟩
              obtain ⟨nxy, hnxy⟩ : ∃ q, q = XY.length := ⟨_, rfl⟩
              rw [← HNY.out, ← hXY, ← hnxy] at hrun
              rw [← hXY] at hI7
              have HXY := Lib.hid hXY
              have HNXY := Lib.hid hnxy
              clear hXY hnxy
              have R7 := Lib.hid hrun
              have HI7 := Lib.hid hI7
              clear ho6 b6 hs6 hc6 CT HI5 HI6 hrun hI7
              go_wp2_with (at_builtin; refine Lib.wpList_append_run _ rfl _ _ _ _ rfl _ _ rfl rfl _ _ R7.out ?_)
              go_roundw
              case rel => exact ⟨i + 1, am, g7, cap7, XY, (feedN mk st E).2, by omega, by omega, by go_num, rfl, by rw [HNXY.out], HI7, Lib.hid (by rw [HXY.out]; exact HF2.out)⟩
              case measure => simp [intOf]; omega
            · -- a piece
              go_wp2_with fail
              refine (few_any E _ m _ HEM.out (by omega) (by omega) wr (by rcases SG2.out with h | h; exact h; exact absurd h (by omega))).mono ?_
              rintro e w4 ⟨v4, rfl, ho4, b4⟩
              rw [List.take_of_length_le (show E.length ≤ 6000 by rw [← HEM.out]; omega), ← HEM.out] at ho4
              obtain ⟨A4, c4, rfl, hc4, hs4, _⟩ := own_seg ho4
              have HI4 := Lib.hid (HI.out.next b4)
              obtain ⟨B4, hr4⟩ := HI4.out.rd
              have CF := Lib.hid (feed_any gr mk st B4 A4 m c4 E HEM.out (by omega) HST.out HEL.out w4 (HI4.out.tab HT.out) hr4 hs4)
              clear ho4 b4 hs4 hr4 hc4
              go_wp2_with fail
              refine CF.out.mono ?_
              rintro e w5 ⟨k5, v5, rfl, ho5, B5, hr5, _⟩
              rw [← HY.out, ← HNY.out] at ho5
              obtain ⟨A5, c5, rfl, hc5, hs5, _⟩ := own_seg ho5
              have HI5 := Lib.hid (HI4.out.feed k5 ⟨B5, hr5⟩)
              have CT := Lib.hid (told_any Y A5 ny c5 HNY.out (by omega) w5 hs5)
              clear ho5 k5 hr5 hs5 hc5 CF HI4
              go_wp2_with fail
              refine CT.out.mono ?_
              rintro e w6 ⟨v6, rfl, ho6, b6⟩
              obtain ⟨A6, c6, rfl, hc6, hs6, _⟩ := own_seg ho6
              have HI6 := Lib.hid (HI5.out.next b6)
              obtain ⟨g7, cap7, w7, hrun, hI7⟩ := HI6.out.push A6 c6 hs6 (by rw [← HNY.out]; omega) j0 HJ.out HY0.out HY1.out HY2.out
              obtain ⟨XY, hXY⟩ : ∃ q, q = X ++ Y := ⟨_, rfl⟩
              obtain ⟨nxy, hnxy⟩ : ∃ q, q = XY.length := ⟨_, rfl⟩
              rw [← HNY.out, ← hXY, ← hnxy] at hrun
              rw [← hXY] at hI7
              have HXY := Lib.hid hXY
              have HNXY := Lib.hid hnxy
              clear hXY hnxy
              have R7 := Lib.hid hrun
              have HI7 := Lib.hid hI7
              clear ho6 b6 hs6 hc6 CT HI5 HI6 hrun hI7
              go_wp2_with (at_builtin; refine Lib.wpList_append_run _ rfl _ _ _ _ rfl _ _ rfl rfl _ _ R7.out ?_)
              go_roundw
              case rel => exact ⟨i + 1, am, g7, cap7, XY, (feedN mk st E).2, by omega, by omega, by go_num, rfl, by rw [HNXY.out], HI7, Lib.hid (by rw [HXY.out]; exact HF2.out)⟩
              case measure => simp [intOf]; omega
     · -- the end
      rw [decide_eq_false hlt]
      clear hlt
      obtain ⟨m, hm0⟩ : ∃ m, m = n - a := ⟨_, rfl⟩
      have hm : m ≤ n - a := by omega
      obtain ⟨E, hE⟩ : ∃ E, E = (l.drop a).take m := ⟨_, rfl⟩
      have hEm : m = E.length := by rw [hE, List.length_take, List.length_drop, ← HN.out]; omega
      have HEM := Lib.hid hEm
      have HEL := Lib.hid (show ∀ x ∈ E, x < 256 from by rw [hE]; exact fun x hx => HL.out x (List.mem_of_mem_drop (List.mem_of_mem_take hx)))
      obtain ⟨Y, hY⟩ : ∃ Y, Y = (feedN mk st E).1 := ⟨_, rfl⟩
      obtain ⟨ny, hny⟩ : ∃ ny, ny = Y.length := ⟨_, rfl⟩
      have hst : (feedN mk st0 (l.take a)).2 = st := by rw [HF.out]
      have hx1 : (feedN mk st0 (l.take a)).1 = X := by rw [HF.out]
      have HST := Lib.hid (show StB 10000 st from by
        rw [← hst]
        exact feedN_st mk (l.take a) (by rw [List.length_take]; omega) (fun x hx => HL.out x (List.mem_of_mem_take hx)))
      have hta : l.take a ++ E = l.take (a + m) := by rw [hE, List.take_add]
      have HF2 := Lib.hid (show feedN mk st0 (l.take (a + m)) = (X ++ Y, (feedN mk st E).2) by
        rw [← hta, feedN_step, hst, hx1, hY])
      have hcnt : X.length + ny ≤ 6001 := by
        have h := feedN_count mk (l.take (a + m))
        rw [HF2.out, List.length_append, List.length_take] at h
        omega
      have HY := Lib.hid hY
      have HNY := Lib.hid hny
      have SG2 := Lib.hid (show Seg wr (A.map (·.add a)) (u8s E) ∨ c = a from by
        by_cases hca : c = a
        · exact Or.inr hca
        · left
          have h := HI.out.seg.cut a c (by rw [u8s_length, ← HN.out]; exact hnc)
          rw [if_neg hca] at h
          have h2 := h.take m
          rw [show ((u8s l).drop a).take m = u8s E by rw [hE]; simp [u8s, List.map_take, List.map_drop]] at h2
          exact h2)
      have SG1 := Lib.hid (show m = 0 → ∀ A9, Seg wr A9 (u8s E) from fun h A9 => by
        have : E = [] := List.eq_nil_of_length_eq_zero (by omega)
        rw [this]
        exact Seg.nil _ _)
      clear hE hEm hY hny hst hx1 hta
      have i8 : (a : Int) ≤ (n : Int) := by omega
      have i9 : (n : Int) ≤ (c : Int) := by omega
      have i11 : n - a = m := hm0.symm
      have i10 : (n : Int) - (a : Int) = (m : Int) := by omega
      have HALL := Lib.hid (show feedN mk st0 l = (X ++ Y, (feedN mk st E).2) by
        have h := HF2.out
        rw [List.take_of_length_le (by rw [← HN.out]; omega)] at h
        exact h)
      clear hm0 HF2
      by_cases hca : c = a
      · -- the last piece
        subst hca
        go_wp2_with fail
        refine (few_any E _ m _ HEM.out (by omega) (by omega) wr (SG1.out (by omega) _)).mono ?_
        rintro e w4 ⟨v4, rfl, ho4, b4⟩
        rw [List.take_of_length_le (show E.length ≤ 6000 by rw [← HEM.out]; omega), ← HEM.out] at ho4
        obtain ⟨A4, c4, rfl, hc4, hs4, _⟩ := own_seg ho4
        have HI4 := Lib.hid (HI.out.next b4)
        obtain ⟨B4, hr4⟩ := HI4.out.rd
        have CF := Lib.hid (feed_any gr mk st B4 A4 m c4 E HEM.out (by omega) HST.out HEL.out w4 (HI4.out.tab HT.out) hr4 hs4)
        clear ho4 b4 hs4 hr4 hc4
        go_wp2_with fail
        refine CF.out.mono ?_
        rintro e w5 ⟨k5, v5, rfl, ho5, B5, hr5, _⟩
        rw [← HY.out, ← HNY.out] at ho5
        obtain ⟨A5, c5, rfl, hc5, hs5, _⟩ := own_seg ho5
        have HI5 := Lib.hid (HI4.out.feed k5 ⟨B5, hr5⟩)
        have CT := Lib.hid (told_any Y A5 ny c5 HNY.out (by omega) w5 hs5)
        clear ho5 k5 hr5 hs5 hc5 CF HI4
        go_wp2_with fail
        refine CT.out.mono ?_
        rintro e w6 ⟨v6, rfl, ho6, b6⟩
        obtain ⟨A6, c6, rfl, hc6, hs6, _⟩ := own_seg ho6
        have HI6 := Lib.hid (HI5.out.next b6)
        obtain ⟨g7, cap7, w7, hrun, hI7⟩ := HI6.out.push A6 c6 hs6 (by rw [← HNY.out]; omega) j0 HJ.out HY0.out HY1.out HY2.out
        obtain ⟨XY, hXY⟩ : ∃ q, q = X ++ Y := ⟨_, rfl⟩
        obtain ⟨nxy, hnxy⟩ : ∃ q, q = XY.length := ⟨_, rfl⟩
        rw [← HNY.out, ← hXY, ← hnxy] at hrun
        rw [← hXY] at hI7
        have HXY := Lib.hid hXY
        have HNXY := Lib.hid hnxy
        clear hXY hnxy
        have R7 := Lib.hid hrun
        have HI7 := Lib.hid hI7
        clear ho6 b6 hs6 hc6 CT HI5 HI6 hrun hI7
        go_wp2_with (at_builtin; refine Lib.wpList_append_run _ rfl _ _ _ _ rfl _ _ rfl rfl _ _ R7.out ?_)
        have HB7 := Lib.hid HI7.out.bel
        refine (awake_any w7 (HT.out.bel HB7.out)).mono ?_
        rintro e w8 ⟨rfl, b8⟩
        have HI8 := Lib.hid (HI7.out.next b8)
        clear b8 HI7 HB7
        go_wp2_with fail
        refine (rparse_any mk A n _ l HN.out (by omega) (by omega) HL.out w8 HI8.out.seg).mono ?_
        rintro e w9 ⟨v9, rfl, ho9, b9⟩
        rw [← runL_feed, HALL.out, ← HXY.out, ← HNXY.out] at ho9
        obtain ⟨A9, c9, rfl, hc9, hs9, _⟩ := own_seg ho9
        have HI9 := Lib.hid (HI8.out.next b9)
        have hsg : Seg w9 (some ⟨g7, 0, none⟩) (itsL XY) := by
          obtain ⟨Ag, cg, eg, _, hsg, _⟩ := own_seg HI9.out.own
          injection eg with e1 _ _
          rw [e1]
          exact hsg
        have CS := Lib.hid (isame_any XY (some ⟨g7, 0, none⟩) A9 nxy cap7 c9 HNXY.out (by rw [HNXY.out, HXY.out, List.length_append, ← HNY.out]; omega) w9 hsg hs9)
        clear ho9 b9 hs9 hc9 hsg HI8
        go_wp2_with fail
        refine CS.out.mono ?_
        rintro e wa ⟨rfl, ba⟩
        have HBa := Lib.hid (HI9.out.bel.trans (ba.mono HI9.out.bel.size))
        clear ba CS
        go_wp2_with fail
        go_ret
        exact ⟨rfl, HBa.out⟩
      · -- the last piece
        go_wp2_with fail
        refine (few_any E _ m _ HEM.out (by omega) (by omega) wr (by rcases SG2.out with h | h; exact h; exact absurd h (by omega))).mono ?_
        rintro e w4 ⟨v4, rfl, ho4, b4⟩
        rw [List.take_of_length_le (show E.length ≤ 6000 by rw [← HEM.out]; omega), ← HEM.out] at ho4
        obtain ⟨A4, c4, rfl, hc4, hs4, _⟩ := own_seg ho4
        have HI4 := Lib.hid (HI.out.next b4)
        obtain ⟨B4, hr4⟩ := HI4.out.rd
        have CF := Lib.hid (feed_any gr mk st B4 A4 m c4 E HEM.out (by omega) HST.out HEL.out w4 (HI4.out.tab HT.out) hr4 hs4)
        clear ho4 b4 hs4 hr4 hc4
        go_wp2_with fail
        refine CF.out.mono ?_
        rintro e w5 ⟨k5, v5, rfl, ho5, B5, hr5, _⟩
        rw [← HY.out, ← HNY.out] at ho5
        obtain ⟨A5, c5, rfl, hc5, hs5, _⟩ := own_seg ho5
        have HI5 := Lib.hid (HI4.out.feed k5 ⟨B5, hr5⟩)
        have CT := Lib.hid (told_any Y A5 ny c5 HNY.out (by omega) w5 hs5)
        clear ho5 k5 hr5 hs5 hc5 CF HI4
        go_wp2_with fail
        refine CT.out.mono ?_
        rintro e w6 ⟨v6, rfl, ho6, b6⟩
        obtain ⟨A6, c6, rfl, hc6, hs6, _⟩ := own_seg ho6
        have HI6 := Lib.hid (HI5.out.next b6)
        obtain ⟨g7, cap7, w7, hrun, hI7⟩ := HI6.out.push A6 c6 hs6 (by rw [← HNY.out]; omega) j0 HJ.out HY0.out HY1.out HY2.out
        obtain ⟨XY, hXY⟩ : ∃ q, q = X ++ Y := ⟨_, rfl⟩
        obtain ⟨nxy, hnxy⟩ : ∃ q, q = XY.length := ⟨_, rfl⟩
        rw [← HNY.out, ← hXY, ← hnxy] at hrun
        rw [← hXY] at hI7
        have HXY := Lib.hid hXY
        have HNXY := Lib.hid hnxy
        clear hXY hnxy
        have R7 := Lib.hid hrun
        have HI7 := Lib.hid hI7
        clear ho6 b6 hs6 hc6 CT HI5 HI6 hrun hI7
        go_wp2_with (at_builtin; refine Lib.wpList_append_run _ rfl _ _ _ _ rfl _ _ rfl rfl _ _ R7.out ?_)
        have HB7 := Lib.hid HI7.out.bel
        refine (awake_any w7 (HT.out.bel HB7.out)).mono ?_
        rintro e w8 ⟨rfl, b8⟩
        have HI8 := Lib.hid (HI7.out.next b8)
        clear b8 HI7 HB7
        go_wp2_with fail
        refine (rparse_any mk A n _ l HN.out (by omega) (by omega) HL.out w8 HI8.out.seg).mono ?_
        rintro e w9 ⟨v9, rfl, ho9, b9⟩
        rw [← runL_feed, HALL.out, ← HXY.out, ← HNXY.out] at ho9
        obtain ⟨A9, c9, rfl, hc9, hs9, _⟩ := own_seg ho9
        have HI9 := Lib.hid (HI8.out.next b9)
        have hsg : Seg w9 (some ⟨g7, 0, none⟩) (itsL XY) := by
          obtain ⟨Ag, cg, eg, _, hsg, _⟩ := own_seg HI9.out.own
          injection eg with e1 _ _
          rw [e1]
          exact hsg
        have CS := Lib.hid (isame_any XY (some ⟨g7, 0, none⟩) A9 nxy cap7 c9 HNXY.out (by rw [HNXY.out, HXY.out, List.length_append, ← HNY.out]; omega) w9 hsg hs9)
        clear ho9 b9 hs9 hc9 hsg HI8
        go_wp2_with fail
        refine CS.out.mono ?_
        rintro e wa ⟨rfl, ba⟩
        have HBa := Lib.hid (HI9.out.bel.trans (ba.mono HI9.out.bel.size))
        clear ba CS
        go_wp2_with fail
        go_ret
        exact ⟨rfl, HBa.out⟩
end Go.Proofs.YtnbhgjionpidnaaDoor
