/- The reference's Parse. Condition: the bytes lie in memory. -/
import Derived.Test.YtnbhgjionpidnaaDoorSParseM
import Derived.Test.YtnbhgjionpidnaaDoorSWrong
import Derived.Test.YtnbhgjionpidnaaDoorSLen
import Derived.Test.YtnbhgjionpidnaaDoorSRCl
namespace Go.Proofs.YtnbhgjionpidnaaDoor
open Go.RowKit

theorem runL_close {mk mk2 fin : Bool} {k op : Nat} {t p : ByteArray} {M : Nat → Nat} {l l2 : List Nat} (h : frameN mk k t.size l = .ok (⟨fin, op, mk2, p⟩, M) l2) (ho : op = 8) : runL mk k t l = [endI (closedN p)] := by
  cases hc : closedN p with
  | error c =>
    have hi : itemD k t (⟨fin, op, mk2, p⟩ : FrM) = .error c := by
      unfold itemD
      dsimp only
      rw [if_pos ho, hc]
    rw [runL_bad h hi]
    rfl
  | ok i =>
    have hi : itemD k t (⟨fin, op, mk2, p⟩ : FrM) = .ok (some i, none) := by
      unfold itemD
      dsimp only
      rw [if_pos ho, hc]
    rw [runL_end h hi]
    rfl
set_option maxRecDepth 100000 in
set_option maxHeartbeats 4000000 in
theorem rparse_any (mk : Bool) (A : Option Addr) (n c : Nat) (s0 : List Nat) (hn : n = s0.length) (hc : n ≤ c) (hz : n ≤ 100000) (hl : ∀ x ∈ s0, x < 256) (w : World) (hA : Seg w A (u8s s0)) :
    Calls Tryd.prog 20 #[.slice A n c, .bool mk] w fun e w' => ∃ v, e = .returned v ∧ w'.ownsRow w.heap.size 46 3 v (runL mk 0 ⟨#[]⟩ s0).length (itsL (runL mk 0 ⟨#[]⟩ s0)) ∧ Below w.heap.size w w' := by
  obtain ⟨j0, hj0, hz0, hz1, hz2⟩ := info_parts info_ritem
  have HJ0 := Lib.hid hj0
  have HZ0 := Lib.hid hz0
  have HZ1 := Lib.hid hz1
  have HZ2 := Lib.hid hz2
  clear hj0 hz0 hz1 hz2
  obtain ⟨L, hL⟩ : ∃ L, L = runL mk 0 ⟨#[]⟩ s0 := ⟨_, rfl⟩
  rw [← hL]
  have HLL := Lib.hid (show L.length ≤ 100001 by
    have := runN_count mk s0.length.succ 0 ⟨#[]⟩ s0
    rw [hL]
    unfold runL
    omega)
  obtain ⟨w0, hw0⟩ : ∃ x, x = w.alloc (.cells #[] 46) := ⟨_, rfl⟩
  have b0 : Below w.heap.size w w0 := by rw [hw0]; exact (Below.refl _ _).alloc (Nat.le_refl _) _
  have HO0 := Lib.hid (show w0.ownsRow w.heap.size 46 3 (.slice (some ⟨w.heap.size, 0, none⟩) 0 0) 0 (itsL []) by
    rw [hw0]
    exact World.ownsRow_lit (size := 3) w #[] 0 (Nat.le_refl _) (by decide) rfl)
  have HB0 := Lib.hid b0
  have HW0 := Lib.hid hw0
  have HL := Lib.hid hL
  have HX := Lib.hid hl
  have HA := Lib.hid hA
  clear hw0 b0 hA hL hl
  go_enter Tryd.func20, Tryd.ntmps20
  go_upto_region 2 with fail
  rw [← HW0.out]
  go_wp2_with fail
  go_loopw [0, 5, 6, 7] (fun v0 v5 v6 v7 wr => ∃ (B : Option Addr) (d : Nat) (l : List Nat) (k : Nat) (t : ByteArray) (D : List ItM), v0 = .slice B l.length d ∧ l.length ≤ d ∧ l.length ≤ n ∧ v6 = .int .i64 (k : Nat) ∧ v7 = .string t ∧ k ≤ 2 ∧ t.size ≤ 4096 ∧ Hid (k = 0 → t = ⟨#[]⟩) ∧ Hid (Seg w B (u8s l)) ∧ Hid (∀ x ∈ l, x < 256) ∧ Hid (wr.ownsRow w.heap.size 46 3 v5 D.length (itsL D)) ∧ Hid (Below w.heap.size w wr) ∧ Hid (D ++ runL mk k t l = L)) (fun v0 _ _ _ _ => lenOf v0)
  case atStart => exact ⟨A, c, s0, 0, ⟨#[]⟩, [], by rw [hn], by omega, by omega, rfl, rfl, by decide, by decide, Lib.hid (fun _ => rfl), HA, HX, HO0, HB0, Lib.hid (by rw [HL.out]; rfl)⟩
  case round =>
    obtain ⟨B, d, l, k, t, D, rfl, hd, hln, rfl, rfl, hk, ht, HKT, HS, HXl, HO, HB, HR⟩ := hrel
    by_cases h2 : l.length < 2
    · have i1 : ¬ (l.length : Int) ≥ 2 := by omega
      have i2 : ¬ (2 : Int) ≤ (l.length : Int) := by omega
      have HE := Lib.hid (show D = L by
        rw [← HR.out, runL_no (c := 0) (by unfold frameN; rw [if_pos h2]), if_pos rfl, List.append_nil])
      go_wp2_with fail
      go_ret
      rw [← HE.out]
      exact ⟨_, rfl, HO.out, HB.out⟩
    · have i2 : (2 : Int) ≤ (l.length : Int) := by omega
      have i3 : (l.length : Int) ≥ 2 := by omega
      obtain ⟨a, ha⟩ : ∃ a, a = l.getD 0 0 := ⟨_, rfl⟩
      obtain ⟨b, hb⟩ : ∃ b, b = l.getD 1 0 := ⟨_, rfl⟩
      obtain ⟨g, off, rfl, hg, hc0⟩ := HS.out (by intro e; have := congrArg List.length e; rw [u8s_length] at this; simp only [List.length_nil] at this; omega)
      have hat : ∀ j, j < l.length → wr.cell? ⟨g, off + j, none⟩ = some (.int .u8 ((l.getD j 0 : Nat) : Int)) := fun j hj => by
        rw [HB.out.cell (p := ⟨g, off + j, none⟩) hg, hc0 j (by rw [u8s_length]; exact hj), List.getElem?_eq_getElem (by rw [u8s_length]; exact hj), u8s_get _ _ hj]
        simp [List.getD, hj]
      have c0 : wr.cell? ⟨g, off, none⟩ = some (.int .u8 (a : Int)) := by rw [ha]; exact hat 0 (by omega)
      have c1 : wr.cell? ⟨g, off + 1, none⟩ = some (.int .u8 (b : Int)) := by rw [hb]; exact hat 1 (by omega)
      have hbyte : ∀ j, j < l.length → l.getD j 0 < 256 := fun j hj => by
        rw [show l.getD j 0 = l[j] by simp [List.getD, hj]]
        exact HXl.out _ (List.getElem_mem hj)
      have ha8 : a < 256 := by rw [ha]; exact hbyte 0 (by omega)
      have hb8 : b < 256 := by rw [hb]; exact hbyte 1 (by omega)
      have CW := Lib.hid (fun w' => rwrong_any k a b mk ha8 hb8 w')
      have HAT := Lib.hid hat
      have HGW := Lib.hid hg
      have hkd : decide (k ≠ 0) = ((k : Int) != 0) := by
        by_cases hk0 : k = 0 <;> simp [hk0]
      have HA8 := Lib.hid ha
      have HB8 := Lib.hid hb
      have H2 := Lib.hid h2
      have h1l : (1 : Int) < (l.length : Int) := by omega
      have h0l : (0 : Int) < (l.length : Int) := by omega
      rw [hkd] at CW
      clear hc0 hat hbyte hg ha hb h2 hkd
      go_wp2_with fail
      go_quiet (fail)
      generalize hW : wr.drewN nq = W
      have bW : Below wr.heap.size wr W := by rw [← hW]; exact below_drewN (Below.refl _ _) _
      have HBW := Lib.hid (HB.out.trans (bW.mono HB.out.size))
      have HOW := Lib.hid (own_belS HO.out bW)
      have HBR := Lib.hid bW
      clear hW bW c0 c1 HO HB
      go_wp2_with fail
      refine (CW.out W).mono ?_
      rintro e w1 ⟨rfl, b1⟩
      have HB1 := Lib.hid (HBW.out.trans (b1.mono HBW.out.size))
      have HO1 := Lib.hid (own_belS HOW.out b1)
      have HR1 := Lib.hid (HBR.out.trans (b1.mono HBR.out.size))
      have hdl : D.length ≤ 100001 := by
        have := congrArg List.length HR.out
        rw [List.length_append] at this
        have := HLL.out
        omega
      clear b1 HBW HOW HBR
      obtain ⟨X, hX⟩ : ∃ X, X = wrongB k a b mk := ⟨_, rfl⟩
      rw [← hX]
      have HXX := Lib.hid hX
      clear hX CW
      cases X
      · -- A
        have HWN := Lib.hid (show ¬ (a / 16 % 8 ≠ 0 ∨ decide (128 ≤ b) ≠ mk ∨ fitsB k (a % 16) (decide (128 ≤ a)) (b % 128) = false) from of_decide_eq_false HXX.out.symm)
        obtain ⟨sh, hsh⟩ : ∃ x, x = b % 128 := ⟨_, rfl⟩
        have r4 : (b : Int) % 128 = (sh : Int) := by omega
        have hsh8 : sh < 128 := by omega
        have HSH := Lib.hid hsh
        clear hsh
        go_upto_if 44 with fail
        go_cut [11, 12] (fun v11 v12 wx => ∃ (N z : Nat), v11 = .int .i64 (N : Nat) ∧ v12 = .int .i64 (z : Nat) ∧ Hid (lngN sh (l.drop 2) = .ok N (l.drop z)) ∧ z ≤ l.length ∧ 2 ≤ z ∧ N ≤ 65535 ∧ Hid (Below w1.heap.size w1 wx))
        case first =>
          as_aux_lemma =>
            by_cases h6 : 126 ≤ sh
            · have g6 : (126 : Int) ≤ (sh : Int) := by omega
              by_cases h7 : sh = 126
              · have g7 : (sh : Int) = 126 := by omega
                by_cases h4 : l.length < 4
                · have g4 : (l.length : Int) < 4 := by omega
                  have HF := Lib.hid (show frameN mk k t.size l = .no 0 by
                    unfold frameN
                    rw [if_neg H2.out, ← HA8.out, ← HB8.out, if_neg HWN.out]
                    rw [← HSH.out, h7]
                    unfold lngN
                    rw [if_pos rfl, if_pos (by rw [List.length_drop]; omega)])
                  have HE := Lib.hid (show D = L by rw [← HR.out, runL_no HF.out, if_pos rfl, List.append_nil])
                  go_wp2_with fail
                  go_ret
                  rw [← HE.out]
                  exact ⟨_, rfl, HO1.out, HB1.out⟩
                · have g4 : ¬ (l.length : Int) < 4 := by omega
                  have hs2 : Seg w1 (some ⟨g, off + 2, none⟩) (u8s ((l.drop 2).take 2)) := by
                    rw [← u8s_cut]
                    exact (HS.out.sub 2 2 (by rw [u8s_length]; omega)).bel HB1.out
                  obtain ⟨x, y, hxy⟩ : ∃ x y, (l.drop 2).take 2 = [x, y] := by
                    have h : ((l.drop 2).take 2).length = 2 := by rw [List.length_take, List.length_drop]; omega
                    generalize (l.drop 2).take 2 = u at h
                    match u, h with
                    | [x, y], _ => exact ⟨x, y, rfl⟩
                  have hxl : ∀ u ∈ [x, y], u < 256 := fun u hu => HXl.out u (List.mem_of_mem_drop (List.mem_of_mem_take (by rw [hxy]; exact hu)))
                  rw [hxy] at hs2
                  have hx8 := hxl x (by simp)
                  have hy8 := hxl y (by simp)
                  have hbe : beN [x, y] = 256 * x + y := by show (0 * 256 + x) * 256 + y = _; omega
                  have HLQ := Lib.hid (show lngN sh (l.drop 2) = if 256 * x + y < 126 then .no 1002 else .ok (256 * x + y) (l.drop 4) by
                    rw [h7]
                    unfold lngN
                    rw [if_pos rfl, if_neg (by rw [List.length_drop]; omega), hxy, hbe, List.drop_drop])
                  have CL := Lib.hid (rlength2 (some ⟨g, off + 2, none⟩) (d - 2) x y hx8 hy8 w1 hs2)
                  have hC : lngC [x, y] = if 256 * x + y < 126 then (0, 1002) else (256 * x + y, 0) := by
                    rw [← hbe]
                    rfl
                  rw [hC] at CL
                  clear hs2 hxl hxy hbe hC
                  by_cases hV : 256 * x + y < 126
                  · rw [if_pos hV] at CL HLQ
                    dsimp only at CL
                    have HF := Lib.hid (show frameN mk k t.size l = .no 1002 by
                      unfold frameN
                      rw [if_neg H2.out, ← HA8.out, ← HB8.out, if_neg HWN.out]
                      rw [← HSH.out, HLQ.out])
                    have HE := Lib.hid (show D ++ [⟨0, ⟨#[]⟩, 1002⟩] = L by rw [← HR.out, runL_no HF.out]; rfl)
                    go_wp2_with fail
                    refine CL.out.mono ?_
                    rintro e w2 ⟨rfl, b2⟩
                    have HO2 := Lib.hid (own_belS HO1.out b2)
                    have HB2 := Lib.hid (HB1.out.trans (b2.mono HB1.out.size))
                    clear b2 CL
                    obtain ⟨w9, hw9⟩ : ∃ x, x = w2.alloc (.cells #[.int .i64 0, .string ⟨#[]⟩, .int .i64 1002] 46) := ⟨_, rfl⟩
                    have b9 : Below w2.heap.size w2 w9 := by rw [hw9]; exact (Below.refl _ _).alloc (Nat.le_refl _) _
                    obtain ⟨q, hq⟩ : ∃ x, x = w2.heap.size := ⟨_, rfl⟩
                    have HNW := Lib.hid (show ∀ j u, ([.int .i64 0, .string ⟨#[]⟩, .int .i64 1002] : List Value)[j]? = some u → w9.cell? ((⟨q, 0, none⟩ : Addr).add j) = some u by
                      rw [hw9, hq]
                      exact World.news_of_block (cs := #[.int .i64 0, .string ⟨#[]⟩, .int .i64 1002]) (t := 46) (fr := (0, 0)) (Bk.new w2 _ _))
                    have HOW := Lib.hid (own_belS HO2.out b9)
                    have HBW := Lib.hid (Below.trans HB2.out (b9.mono (Below.size HB2.out)))
                    have HW9 := Lib.hid hw9
                    have HQ := Lib.hid hq
                    clear hw9 b9 hq
                    go_wp2_with (at_builtin; rw [← HW9.out, ← HQ.out]; refine wpList_append_lies _ rfl _ _ _ rfl w.heap.size 46 j0 _ 3 32 Tryd.underlying40 HJ0.out HZ0.out HZ1.out HZ2.out rfl (by omega) _ D.length (itsL D) rfl HOW.out ⟨q, 0, none⟩ 1 1 [.int .i64 0, .string ⟨#[]⟩, .int .i64 1002] rfl rfl HNW.out (it_one _ _ _) (by omega) (by unfold maxLen; omega) (by omega) HBW.out.size _ rfl ?_; intro g2 cap w5 hown hgrow hat hlt3; have HO5 := Lib.hid hown; have HB5 := Lib.hid (HBW.out.grown hgrow HBW.out.size (fun b hb => (HOW.out.lt b hb).1)); clear hown hgrow hat hlt3)
                    go_ret
                    rw [← HE.out]
                    exact ⟨_, rfl, by rw [itsL_one, List.length_append]; exact HO5.out, HB5.out⟩
                  · rw [if_neg hV] at CL HLQ
                    dsimp only at CL
                    obtain ⟨V, hV2⟩ : ∃ V, V = 256 * x + y := ⟨_, rfl⟩
                    have hV3 : V ≤ 65535 := by omega
                    rw [← hV2] at CL HLQ
                    clear hV2 hV
                    go_wp2_with fail
                    refine CL.out.mono ?_
                    rintro e w2 ⟨rfl, b2⟩
                    have HB2 := Lib.hid b2
                    clear b2 CL
                    go_wp2_with fail
                    go_meet
                    exact ⟨V, 4, rfl, rfl, HLQ, by omega, by decide, hV3, HB2⟩
              · have g7 : ¬ (sh : Int) = 126 := by omega
                have g77 : ((sh : Int) == 126) = false := by simp; omega
                by_cases h4 : l.length < 10
                · have g4 : (l.length : Int) < 10 := by omega
                  have HF := Lib.hid (show frameN mk k t.size l = .no 0 by
                    unfold frameN
                    rw [if_neg H2.out, ← HA8.out, ← HB8.out, if_neg HWN.out]
                    rw [← HSH.out]
                    unfold lngN
                    rw [if_neg h7, if_pos (by omega), if_pos (by rw [List.length_drop]; omega)])
                  have HE := Lib.hid (show D = L by rw [← HR.out, runL_no HF.out, if_pos rfl, List.append_nil])
                  go_wp2_with fail
                  go_ret
                  rw [← HE.out]
                  exact ⟨_, rfl, HO1.out, HB1.out⟩
                · have g4 : ¬ (l.length : Int) < 10 := by omega
                  have hs2 : Seg w1 (some ⟨g, off + 2, none⟩) (u8s ((l.drop 2).take 8)) := by
                    rw [← u8s_cut]
                    exact (HS.out.sub 2 8 (by rw [u8s_length]; omega)).bel HB1.out
                  have hl8 : ((l.drop 2).take 8).length = 8 := by rw [List.length_take, List.length_drop]; omega
                  have hxl : ∀ u ∈ (l.drop 2).take 8, u < 256 := fun u hu => HXl.out u (List.mem_of_mem_drop (List.mem_of_mem_take hu))
                  have HLQ := Lib.hid (show lngN sh (l.drop 2) = if beN ((l.drop 2).take 8) ≤ 65535 ∨ 9223372036854775808 ≤ beN ((l.drop 2).take 8) then .no 1002 else .no 1009 by
                    unfold lngN
                    rw [if_neg h7, if_pos (by omega), if_neg (by rw [List.length_drop]; omega)])
                  have CL := Lib.hid (rlength8 (some ⟨g, off + 2, none⟩) (d - 2) _ hl8 hxl w1 hs2)
                  have hC : lngC ((l.drop 2).take 8) = if beN ((l.drop 2).take 8) ≤ 65535 ∨ 9223372036854775808 ≤ beN ((l.drop 2).take 8) then (0, 1002) else (0, 1009) := by
                    unfold lngC
                    rw [if_neg (by rw [hl8]; decide)]
                  rw [hC] at CL
                  clear hs2 hxl hl8 hC
                  by_cases hV : beN ((l.drop 2).take 8) ≤ 65535 ∨ 9223372036854775808 ≤ beN ((l.drop 2).take 8)
                  · rw [if_pos hV] at CL HLQ
                    dsimp only at CL
                    clear hV
                    have HF := Lib.hid (show frameN mk k t.size l = .no 1002 by
                      unfold frameN
                      rw [if_neg H2.out, ← HA8.out, ← HB8.out, if_neg HWN.out]
                      rw [← HSH.out, HLQ.out])
                    have HE := Lib.hid (show D ++ [⟨0, ⟨#[]⟩, 1002⟩] = L by rw [← HR.out, runL_no HF.out]; rfl)
                    go_wp2_with fail
                    refine CL.out.mono ?_
                    rintro e w2 ⟨rfl, b2⟩
                    have HO2 := Lib.hid (own_belS HO1.out b2)
                    have HB2 := Lib.hid (HB1.out.trans (b2.mono HB1.out.size))
                    clear b2 CL
                    obtain ⟨w9, hw9⟩ : ∃ x, x = w2.alloc (.cells #[.int .i64 0, .string ⟨#[]⟩, .int .i64 1002] 46) := ⟨_, rfl⟩
                    have b9 : Below w2.heap.size w2 w9 := by rw [hw9]; exact (Below.refl _ _).alloc (Nat.le_refl _) _
                    obtain ⟨q, hq⟩ : ∃ x, x = w2.heap.size := ⟨_, rfl⟩
                    have HNW := Lib.hid (show ∀ j u, ([.int .i64 0, .string ⟨#[]⟩, .int .i64 1002] : List Value)[j]? = some u → w9.cell? ((⟨q, 0, none⟩ : Addr).add j) = some u by
                      rw [hw9, hq]
                      exact World.news_of_block (cs := #[.int .i64 0, .string ⟨#[]⟩, .int .i64 1002]) (t := 46) (fr := (0, 0)) (Bk.new w2 _ _))
                    have HOW := Lib.hid (own_belS HO2.out b9)
                    have HBW := Lib.hid (Below.trans HB2.out (b9.mono (Below.size HB2.out)))
                    have HW9 := Lib.hid hw9
                    have HQ := Lib.hid hq
                    clear hw9 b9 hq
                    go_wp2_with (at_builtin; rw [← HW9.out, ← HQ.out]; refine wpList_append_lies _ rfl _ _ _ rfl w.heap.size 46 j0 _ 3 32 Tryd.underlying40 HJ0.out HZ0.out HZ1.out HZ2.out rfl (by omega) _ D.length (itsL D) rfl HOW.out ⟨q, 0, none⟩ 1 1 [.int .i64 0, .string ⟨#[]⟩, .int .i64 1002] rfl rfl HNW.out (it_one _ _ _) (by omega) (by unfold maxLen; omega) (by omega) HBW.out.size _ rfl ?_; intro g2 cap w5 hown hgrow hat hlt3; have HO5 := Lib.hid hown; have HB5 := Lib.hid (HBW.out.grown hgrow HBW.out.size (fun b hb => (HOW.out.lt b hb).1)); clear hown hgrow hat hlt3)
                    go_ret
                    rw [← HE.out]
                    exact ⟨_, rfl, by rw [itsL_one, List.length_append]; exact HO5.out, HB5.out⟩
                  · rw [if_neg hV] at CL HLQ
                    dsimp only at CL
                    clear hV
                    have HF := Lib.hid (show frameN mk k t.size l = .no 1009 by
                      unfold frameN
                      rw [if_neg H2.out, ← HA8.out, ← HB8.out, if_neg HWN.out]
                      rw [← HSH.out, HLQ.out])
                    have HE := Lib.hid (show D ++ [⟨0, ⟨#[]⟩, 1009⟩] = L by rw [← HR.out, runL_no HF.out]; rfl)
                    go_wp2_with fail
                    refine CL.out.mono ?_
                    rintro e w2 ⟨rfl, b2⟩
                    have HO2 := Lib.hid (own_belS HO1.out b2)
                    have HB2 := Lib.hid (HB1.out.trans (b2.mono HB1.out.size))
                    clear b2 CL
                    obtain ⟨w9, hw9⟩ : ∃ x, x = w2.alloc (.cells #[.int .i64 0, .string ⟨#[]⟩, .int .i64 1009] 46) := ⟨_, rfl⟩
                    have b9 : Below w2.heap.size w2 w9 := by rw [hw9]; exact (Below.refl _ _).alloc (Nat.le_refl _) _
                    obtain ⟨q, hq⟩ : ∃ x, x = w2.heap.size := ⟨_, rfl⟩
                    have HNW := Lib.hid (show ∀ j u, ([.int .i64 0, .string ⟨#[]⟩, .int .i64 1009] : List Value)[j]? = some u → w9.cell? ((⟨q, 0, none⟩ : Addr).add j) = some u by
                      rw [hw9, hq]
                      exact World.news_of_block (cs := #[.int .i64 0, .string ⟨#[]⟩, .int .i64 1009]) (t := 46) (fr := (0, 0)) (Bk.new w2 _ _))
                    have HOW := Lib.hid (own_belS HO2.out b9)
                    have HBW := Lib.hid (Below.trans HB2.out (b9.mono (Below.size HB2.out)))
                    have HW9 := Lib.hid hw9
                    have HQ := Lib.hid hq
                    clear hw9 b9 hq
                    go_wp2_with (at_builtin; rw [← HW9.out, ← HQ.out]; refine wpList_append_lies _ rfl _ _ _ rfl w.heap.size 46 j0 _ 3 32 Tryd.underlying40 HJ0.out HZ0.out HZ1.out HZ2.out rfl (by omega) _ D.length (itsL D) rfl HOW.out ⟨q, 0, none⟩ 1 1 [.int .i64 0, .string ⟨#[]⟩, .int .i64 1009] rfl rfl HNW.out (it_one _ _ _) (by omega) (by unfold maxLen; omega) (by omega) HBW.out.size _ rfl ?_; intro g2 cap w5 hown hgrow hat hlt3; have HO5 := Lib.hid hown; have HB5 := Lib.hid (HBW.out.grown hgrow HBW.out.size (fun b hb => (HOW.out.lt b hb).1)); clear hown hgrow hat hlt3)
                    go_ret
                    rw [← HE.out]
                    exact ⟨_, rfl, by rw [itsL_one, List.length_append]; exact HO5.out, HB5.out⟩
            · have g6 : ¬ (126 : Int) ≤ (sh : Int) := by omega
              have HLN := Lib.hid (show lngN sh (l.drop 2) = .ok sh (l.drop 2) by
                unfold lngN
                rw [if_neg (by omega), if_neg (by omega)])
              go_wp2_with fail
              go_meet
              exact ⟨sh, 2, rfl, rfl, HLN, by have := H2.out; omega, by decide, by omega, Lib.hid (Below.refl _ _)⟩
        case rest =>
          obtain ⟨N, z, rfl, rfl, HLN, hz1, hz2, hN, HBX⟩ := hcut
          obtain ⟨w2, hw2⟩ : ∃ x, x = wc := ⟨_, rfl⟩
          rw [← hw2] at HBX ⊢
          clear hw2
          have HO2 := Lib.hid (own_belS HO1.out HBX.out)
          have HB2 := Lib.hid (HB1.out.trans (HBX.out.mono HB1.out.size))
          have HR2 := Lib.hid (HR1.out.trans (HBX.out.mono HR1.out.size))
          clear HO1 HB1 HR1 HBX
          obtain ⟨op, hop⟩ : ∃ x, x = a % 16 := ⟨_, rfl⟩
          have r1 : (a : Int) % 16 = (op : Int) := by omega
          have HOP := Lib.hid hop
          have hop16 : op < 16 := by omega
          clear hop
          rw [r1]
          -- B
          go_upto_region 19 with fail
          go_cut [74] (fun v wx => v = .bool (decide (op < 8 ∧ 4096 < t.size + N)) ∧ wx = w2)
          case first =>
            as_aux_lemma =>
              by_cases h8 : op < 8
              · have k1 : (op : Int) < 8 := by omega
                by_cases h9 : 4096 < t.size + N
                · have k2 : (4096 : Int) < (t.size : Int) + (N : Int) := by omega
                  go_wp2_with fail
                  go_meet
                  exact ⟨by rw [decide_eq_true (show op < 8 ∧ 4096 < t.size + N from ⟨h8, h9⟩)], rfl⟩
                · have k2 : ¬ (4096 : Int) < (t.size : Int) + (N : Int) := by omega
                  go_wp2_with fail
                  go_meet
                  exact ⟨by rw [decide_eq_false (show ¬ (op < 8 ∧ 4096 < t.size + N) from fun h => h9 h.2)], rfl⟩
              · have k1 : ¬ (op : Int) < 8 := by omega
                go_wp2_with fail
                go_meet
                exact ⟨by rw [decide_eq_false (show ¬ (op < 8 ∧ 4096 < t.size + N) from fun h => h8 h.1)], rfl⟩
          case rest =>
            obtain ⟨rfl, hwc⟩ := hcut
            rw [hwc]
            clear hwc
            obtain ⟨Z, hZ⟩ : ∃ Z, Z = decide (op < 8 ∧ 4096 < t.size + N) := ⟨_, rfl⟩
            rw [← hZ]
            have HZZ := Lib.hid hZ
            clear hZ
            cases Z
            · -- C
              have HN9 := Lib.hid (show ¬ (op < 8 ∧ 4096 < t.size + N) from of_decide_eq_false HZZ.out.symm)
              clear HZZ
              obtain ⟨w3, hw3⟩ : ∃ x, x = w2.alloc (.cells #[.int .u8 0, .int .u8 0, .int .u8 0, .int .u8 0] 5) := ⟨_, rfl⟩
              have b3 : Below w2.heap.size w2 w3 := by rw [hw3]; exact (Below.refl _ _).alloc (Nat.le_refl _) _
              obtain ⟨n3, hn3⟩ : ∃ x, x = w2.heap.size := ⟨_, rfl⟩
              have HS3 := Lib.hid (show Seg w3 (some ⟨n3, 0, none⟩) (u8s [0, 0, 0, 0]) by rw [hw3, hn3]; exact seg_litP rfl)
              have HO3 := Lib.hid (own_belS HO2.out b3)
              have HB3 := Lib.hid (HB2.out.trans (b3.mono HB2.out.size))
              have HR3 := Lib.hid (HR2.out.trans (b3.mono HR2.out.size))
              have HW3 := Lib.hid hw3
              have HN3 := Lib.hid hn3
              clear hw3 b3 hn3
              have HF0 := Lib.hid (show frameN mk k t.size l = if mk = true then (if (l.drop z).length < 4 then .no 0 else if ((l.drop z).drop 4).length < N then .no 0 else .ok (⟨decide (128 ≤ a), op, mk, txt (xorN (maskF (l.drop z)) (((l.drop z).drop 4).take N))⟩, maskF (l.drop z)) (((l.drop z).drop 4).drop N)) else (if (l.drop z).length < N then .no 0 else .ok (⟨decide (128 ≤ a), op, mk, txt (xorN (fun _ => 0) ((l.drop z).take N))⟩, fun _ => 0) ((l.drop z).drop N)) by
                unfold frameN
                rw [if_neg H2.out, ← HA8.out, ← HB8.out, if_neg HWN.out, ← HSH.out, HLN.out, ← HOP.out]
                dsimp only
                rw [if_neg HN9.out])
              have HFT := Lib.hid (show fitsB k op (decide (128 ≤ a)) sh = true by
                rw [HOP.out, HSH.out]
                rcases Bool.eq_false_or_eq_true (fitsB k (a % 16) (decide (128 ≤ a)) (b % 128)) with h | h
                · exact h
                · exact absurd (Or.inr (Or.inr h)) HWN.out)
              clear HLN HWN HSH
              go_upto_region 22 with fail
              rw [← HW3.out, ← HN3.out]
              go_upto_if 80 with fail
              have HLS := Lib.hid (show Seg w3 (some ⟨g, off, none⟩) (u8s l) from HS.out.bel HB3.out)
              have hzd : z ≤ d := by omega
              have hlz : l.length ≤ 100000 := by omega
              go_cut [12, 14] (fun v12 v14 wx => ∃ (y mb mo mc : Nat) (M : Nat → Nat), v12 = .int .i64 (y : Nat) ∧ v14 = .slice (some ⟨mb, mo, none⟩) 4 mc ∧ 4 ≤ mc ∧ Hid (Seg w3 (some ⟨mb, mo, none⟩) (u8s [M 0, M 1, M 2, M 3])) ∧ Hid (∀ i, i < 4 → M i < 256) ∧ y ≤ l.length ∧ 2 ≤ y ∧ Hid (frameN mk k t.size l = if (l.drop y).length < N then .no 0 else .ok (⟨decide (128 ≤ a), op, mk, txt (xorN M ((l.drop y).take N))⟩, M) ((l.drop y).drop N)) ∧ wx = w3)
              case first =>
                as_aux_lemma =>
                  cases mk
                  · go_wp2_with fail
                    go_meet
                    exact ⟨z, n3, 0, 4, fun _ => 0, rfl, rfl, Nat.le_refl _, HS3, Lib.hid (fun _ _ => (by decide : (0 : Nat) < 256)), hz1, hz2, HF0, rfl⟩
                  · by_cases h4 : l.length < z + 4
                    · have g4 : (l.length : Int) < (z : Int) + 4 := by omega
                      have HF := Lib.hid (show frameN true k t.size l = .no 0 by rw [HF0.out, if_pos rfl, if_pos (by rw [List.length_drop]; omega)])
                      have HE := Lib.hid (show D = L by rw [← HR.out, runL_no HF.out, if_pos rfl, List.append_nil])
                      go_wp2_with fail
                      go_ret
                      rw [← HE.out]
                      exact ⟨_, rfl, HO3.out, HB3.out⟩
                    · have g4 : ¬ (l.length : Int) < (z : Int) + 4 := by omega
                      have hz4 : z + 4 ≤ d := by omega
                      have hz5 : (z : Int) ≤ (z : Int) + 4 := by omega
                      have hz6 : (z : Int) + 4 ≤ (d : Int) := by omega
                      have hz7 : ((z : Int) + 4).toNat = z + 4 := by omega
                      have hz8 : ((z : Int) + 4 - (z : Int)) = 4 := by omega
                      have hsg : Seg w3 (some ⟨g, off + z, none⟩) (u8s [maskF (l.drop z) 0, maskF (l.drop z) 1, maskF (l.drop z) 2, maskF (l.drop z) 3]) := by
                        have h := HLS.out.sub z 4 (by rw [u8s_length]; omega)
                        rw [u8s_cut] at h
                        rw [show (l.drop z).take 4 = [maskF (l.drop z) 0, maskF (l.drop z) 1, maskF (l.drop z) 2, maskF (l.drop z) 3] from take_four _ (by rw [List.length_drop]; omega)] at h
                        exact h
                      have HSG := Lib.hid hsg
                      have HMM := Lib.hid (show ∀ i, i < 4 → maskF (l.drop z) i < 256 from fun i hi => by
                        unfold maskF
                        have hh : i < (l.drop z).length := by rw [List.length_drop]; omega
                        rw [List.getD_eq_getElem?_getD, List.getElem?_eq_getElem hh]
                        exact HXl.out _ (List.mem_of_mem_drop (List.getElem_mem hh)))
                      have HF := Lib.hid (show frameN true k t.size l = if (l.drop (z + 4)).length < N then .no 0 else .ok (⟨decide (128 ≤ a), op, true, txt (xorN (maskF (l.drop z)) ((l.drop (z + 4)).take N))⟩, maskF (l.drop z)) ((l.drop (z + 4)).drop N) by
                        rw [HF0.out, if_pos rfl, if_neg (by rw [List.length_drop]; omega), List.drop_drop])
                      clear hsg
                      go_wp2_with fail
                      go_meet
                      exact ⟨z + 4, g, off + z, d - z, maskF (l.drop z), rfl, rfl, by omega, HSG, HMM, by omega, by omega, HF, rfl⟩
              case rest =>
                obtain ⟨y, mb, mo, mc, M, rfl, rfl, hmc, HSM, HM, hy1, hy2, HFY, hwc⟩ := hcut
                rw [hwc]
                clear hwc HF0 HS3
                by_cases h5 : l.length < y + N
                · have g5 : (l.length : Int) < (y : Int) + (N : Int) := by omega
                  have HF := Lib.hid (show frameN mk k t.size l = .no 0 by rw [HFY.out, if_pos (by rw [List.length_drop]; omega)])
                  have HE := Lib.hid (show D = L by rw [← HR.out, runL_no HF.out, if_pos rfl, List.append_nil])
                  go_wp2_with fail
                  go_ret
                  rw [← HE.out]
                  exact ⟨_, rfl, HO3.out, HB3.out⟩
                · have g5 : ¬ (l.length : Int) < (y : Int) + (N : Int) := by omega
                  obtain ⟨P, hP⟩ : ∃ P, P = xorN M ((l.drop y).take N) := ⟨_, rfl⟩
                  have hPN : P.length = N := by rw [hP, xorN_length, List.length_take, List.length_drop]; omega
                  have HPN := Lib.hid hPN
                  have HPB := Lib.hid (show ∀ u ∈ P, u < 256 from by rw [hP]; exact xorFrom_lt HM.out 0 _ (fun u hu => HXl.out u (List.mem_of_mem_drop (List.mem_of_mem_take hu))))
                  have HPX := Lib.hid (show ∀ i, i < N → P[i]? = some (l.getD (y + i) 0 ^^^ M (i % 4)) from fun i hi => by
                    have hh : i < ((l.drop y).take N).length := by rw [List.length_take, List.length_drop]; omega
                    rw [hP]
                    refine (xorFrom_at M 0 _ i hh).trans ?_
                    have hy3 : y + i < l.length := by omega
                    rw [List.getElem_take, List.getElem_drop, Nat.zero_add, List.getD_eq_getElem?_getD, List.getElem?_eq_getElem hy3]
                    rfl)
                  have HF := Lib.hid (show frameN mk k t.size l = .ok (⟨decide (128 ≤ a), op, mk, txt P⟩, M) ((l.drop y).drop N) by rw [HFY.out, if_neg (by rw [List.length_drop]; omega), hP])
                  clear hP hPN HFY
                  have HAT3 := Lib.hid (show ∀ w7, Below w3.heap.size w3 w7 → ∀ j, j < l.length → w7.cell? ⟨g, off + j, none⟩ = some (.int .u8 ((l.getD j 0 : Nat) : Int)) from fun w7 hb j hj => by
                    obtain ⟨b7, o7, e7, hb7, hc7⟩ := (HLS.out.bel hb) (by intro e; have := congrArg List.length e; rw [u8s_length] at this; simp only [List.length_nil] at this; omega)
                    injection e7 with e7
                    injection e7 with e1 e2
                    subst e1
                    subst e2
                    rw [hc7 j (by rw [u8s_length]; exact hj), List.getElem?_eq_getElem (by rw [u8s_length]; exact hj), u8s_get _ _ hj]
                    simp [List.getD, hj])
                  have HMK3 := Lib.hid (show ∀ w7, Below w3.heap.size w3 w7 → ∀ j, j < 4 → w7.cell? ⟨mb, mo + j, none⟩ = some (.int .u8 ((M j : Nat) : Int)) from fun w7 hb j hj => by
                    obtain ⟨b7, o7, e7, hb7, hc7⟩ := (HSM.out.bel hb) (by simp [u8s])
                    injection e7 with e7
                    injection e7 with e1 e2
                    subst e1
                    subst e2
                    rw [hc7 j (by simpa [u8s] using hj)]
                    match j, hj with
                    | 0, _ => rfl
                    | 1, _ => rfl
                    | 2, _ => rfl
                    | 3, _ => rfl)
                  go_wp2_with fail
                  go_loopw [15, 16] (fun v15 v16 w7 => ∃ i : Nat, i ≤ N ∧ v15 = .string (txt (P.take i)) ∧ v16 = .int .i64 (i : Nat) ∧ Hid (Below w3.heap.size w3 w7)) (fun _ v _ => N - (intOf v).toNat)
                  case atStart => exact ⟨0, Nat.zero_le _, rfl, rfl, Lib.hid (Below.refl _ _)⟩
                  case round =>
                    obtain ⟨i, hi, rfl, rfl, HBi⟩ := hrel
                    obtain ⟨w4, hw4⟩ : ∃ x, x = wr := ⟨_, rfl⟩
                    rw [← hw4] at HBi ⊢
                    clear hw4
                    by_cases hiN : i < N
                    · have i1 : (i : Int) < (N : Int) := by omega
                      obtain ⟨x, hx⟩ : ∃ x, x = l.getD (y + i) 0 := ⟨_, rfl⟩
                      obtain ⟨m, hm⟩ : ∃ m, m = M (i % 4) := ⟨_, rfl⟩
                      obtain ⟨yi, hyi⟩ : ∃ q, q = y + i := ⟨_, rfl⟩
                      obtain ⟨i4, hi4⟩ : ∃ q, q = i % 4 := ⟨_, rfl⟩
                      have hx8 : x < 256 := by
                        rw [hx, List.getD_eq_getElem?_getD, List.getElem?_eq_getElem (by omega : y + i < l.length)]
                        exact HXl.out _ (List.getElem_mem _)
                      have hm8 : m < 256 := by rw [hm]; exact HM.out _ (Nat.mod_lt _ (by decide))
                      have HCX := Lib.hid (show ∀ w7, Below w3.heap.size w3 w7 → w7.cell? ⟨g, off + yi, none⟩ = some (.int .u8 (x : Int)) from fun w7 hb => by rw [hx, hyi]; exact HAT3.out w7 hb (y + i) (by omega))
                      have HCM := Lib.hid (show ∀ w7, Below w3.heap.size w3 w7 → w7.cell? ⟨mb, mo + i4, none⟩ = some (.int .u8 (m : Int)) from fun w7 hb => by rw [hm, hi4]; exact HMK3.out w7 hb (i % 4) (Nat.mod_lt _ (by decide)))
                      have e1 : (y : Int) + (i : Int) = (yi : Int) := by omega
                      have e2 : (i : Int).tmod 4 = (i4 : Int) := by rw [Int.tmod_eq_emod_of_nonneg (by omega)]; omega
                      have e3 : (i : Int) % 4 = (i4 : Int) := by omega
                      have i2 : (yi : Int) < (l.length : Int) := by omega
                      have i3 : (i4 : Int) < 4 := by omega
                      have HI4 := Lib.hid (show i4 < 4 by omega)
                      have HYI := Lib.hid (show yi < l.length by omega)
                      have hxm : x ^^^ m < 256 := xor_lt hx8 hm8
                      have hxo : bits .xor .u8 (x : Int) (m : Int) = ((x ^^^ m : Nat) : Int) := u8_xor_nat x m hx8 hm8
                      obtain ⟨z9, hz9⟩ : ∃ q, q = x ^^^ m := ⟨_, rfl⟩
                      rw [← hz9] at hxm hxo
                      have HTK := Lib.hid (show txt (P.take i) ++ txt [z9] = txt (P.take (i + 1)) by
                        have h := HPX.out i hiN
                        rw [← hx, ← hm, ← hz9] at h
                        rw [← txt_appendP, List.take_add_one, h]
                        rfl)
                      have HADD := Lib.hid (show ∀ w7 : World, (Op.stringOp .add (txt (P.take i)) (txt [z9])).run Tryd.prog w7 = .ok (.string (txt (P.take (i + 1)))) w7 from fun w7 => by
                        rw [← HTK.out]
                        exact run_string_add_sum (P := Tryd.prog) w7 _ _ (by rw [txt_sizeP, txt_sizeP, List.length_take]; have := HPN.out; simp only [List.length_cons, List.length_nil]; omega))
                      have HXO := Lib.hid hxo
                      have HYW := Lib.hid (show IntKind.i64.wrap (yi : Int) = (yi : Int) by rw [IntKind.wrap_i64]; omega)
                      have HX9 := Lib.hid hxm
                      clear hx hm hyi hi4 hz9 hxo hxm hx8 hm8 HAT3 HMK3
                      go_wp2_with fail
                      refine wp_region_was [some 106, some 107, some 108, some 109, some 110, some 111, some 112, some 113, some 114, some 115, some 116, some 117, some 118, some 119, some 120, some 121, some 15] (fun _ => 0) (paF g off d yi mb mo mc i i4 z9 x m y l.length w4.heap.size (txt (P.take i)) (txt (P.take (i + 1)))) (fun w1 => Below w4.heap.size w4 w1) (by kernel_rfl) (Below.refl _ _).drew rfl (by kernel_rfl) (by kernel_rfl) (by kernel_rfl) (by kernel_rfl) (fun T hT => ?_)
                      simp only [List.filterMap_cons, List.filterMap_nil, id, putsS, Act.put, List.setIfInBounds_toArray, List.set_cons_zero, List.set_cons_succ] at hT
                      subst hT
                      refine ⟨⟨?_, ?_, ?_, ?_, ?_, ?_, ?_, ?_, ?_, ?_, ?_, ?_, ?_, ?_, ?_, ?_, ?_, trivial⟩, ?_⟩
                      · -- 0: Op.move t15
                        intro f w1 hG hO hF K hK
                        have o15 : f 15 = .string (txt (P.take i)) := hO 15 (by kernel_rfl)
                        clear hO
                        clear hF
                        dsimp only at hK ⊢
                        generalize f 15 = y15 at *
                        subst o15
                        go_simp
                        exact hK.out _ _ hG rfl (fun _ _ _ h => h)
                      · -- 1: Op.move t0
                        refine StepA.was ?_
                        refine StepL.act ?_
                        intro f w1 hG hF K hK
                        clear hF
                        dsimp only at hK ⊢
                        go_simp
                        exact hK.out _ _ hG rfl (fun _ _ _ _ h => h)
                      · -- 2: Op.move t12
                        refine StepA.was ?_
                        refine StepL.act ?_
                        intro f w1 hG hF K hK
                        clear hF
                        dsimp only at hK ⊢
                        go_simp
                        exact hK.out _ _ hG rfl (fun _ _ _ _ h => h)
                      · -- 3: Op.move t16
                        refine StepA.was ?_
                        refine StepL.act ?_
                        intro f w1 hG hF K hK
                        clear hF
                        dsimp only at hK ⊢
                        go_simp
                        exact hK.out _ _ hG rfl (fun _ _ _ _ h => h)
                      · -- 4: Op.binOp BinOp.add 3 t108 t109 3
                        refine StepA.was ?_
                        refine StepL.act ?_
                        intro f w1 hG hF K hK
                        have d2 : (paF g off d yi mb mo mc i i4 z9 x m y l.length w4.heap.size (txt (P.take i)) (txt (P.take (i + 1)))) 2 (f 108) (f 0) w1 := hF 2 (by kernel_rfl)
                        have d3 : (paF g off d yi mb mo mc i i4 z9 x m y l.length w4.heap.size (txt (P.take i)) (txt (P.take (i + 1)))) 3 (f 109) (f 0) w1 := hF 3 (by kernel_rfl)
                        clear hF
                        dsimp only at hK ⊢
                        generalize f 108 = v108 at *
                        generalize f 109 = v109 at *
                        subst d2
                        subst d3
                        have yw := HYW.out
                        go_simp
                        exact hK.out _ _ hG rfl (fun _ _ _ _ h => h)
                      · -- 5: Op.indexAddr 25 t107 t110
                        refine StepA.was ?_
                        refine StepL.act ?_
                        intro f w1 hG hF K hK
                        have d1 : (paF g off d yi mb mo mc i i4 z9 x m y l.length w4.heap.size (txt (P.take i)) (txt (P.take (i + 1)))) 1 (f 107) (f 0) w1 := hF 1 (by kernel_rfl)
                        have d4 : (paF g off d yi mb mo mc i i4 z9 x m y l.length w4.heap.size (txt (P.take i)) (txt (P.take (i + 1)))) 4 (f 110) (f 0) w1 := hF 4 (by kernel_rfl)
                        clear hF
                        dsimp only at hK ⊢
                        generalize f 107 = v107 at *
                        generalize f 110 = v110 at *
                        subst d1
                        subst d4
                        go_simp
                        exact hK.out _ _ hG rfl (fun _ _ _ _ h => h)
                      · -- 6: Op.load 5 t111
                        refine StepA.was ?_
                        refine StepL.act ?_
                        intro f w1 hG hF K hK
                        have d5 : (paF g off d yi mb mo mc i i4 z9 x m y l.length w4.heap.size (txt (P.take i)) (txt (P.take (i + 1)))) 5 (f 111) (f 0) w1 := hF 5 (by kernel_rfl)
                        clear hF
                        dsimp only at hK ⊢
                        generalize f 111 = v111 at *
                        subst d5
                        have y9 := HCX.out w1 (HBi.out.trans (hG.mono HBi.out.size))
                        go_simp
                        exact hK.out _ _ hG rfl (fun _ _ _ _ h => h)
                      · -- 7: Op.move t14
                        refine StepA.was ?_
                        refine StepL.act ?_
                        intro f w1 hG hF K hK
                        clear hF
                        dsimp only at hK ⊢
                        go_simp
                        exact hK.out _ _ hG rfl (fun _ _ _ _ h => h)
                      · -- 8: Op.move t16
                        refine StepA.was ?_
                        refine StepL.act ?_
                        intro f w1 hG hF K hK
                        clear hF
                        dsimp only at hK ⊢
                        go_simp
                        exact hK.out _ _ hG rfl (fun _ _ _ _ h => h)
                      · -- 9: Op.binOp BinOp.rem 3 t114 (const (4:i64)) 3
                        refine StepA.was ?_
                        refine StepL.act ?_
                        intro f w1 hG hF K hK
                        have d8 : (paF g off d yi mb mo mc i i4 z9 x m y l.length w4.heap.size (txt (P.take i)) (txt (P.take (i + 1)))) 8 (f 114) (f 0) w1 := hF 8 (by kernel_rfl)
                        clear hF
                        dsimp only at hK ⊢
                        generalize f 114 = v114 at *
                        subst d8
                        go_simp
                        exact hK.out _ _ hG rfl (fun _ _ _ _ h => h)
                      · -- 10: Op.indexAddr 25 t113 t115
                        refine StepA.was ?_
                        refine StepL.act ?_
                        intro f w1 hG hF K hK
                        have d7 : (paF g off d yi mb mo mc i i4 z9 x m y l.length w4.heap.size (txt (P.take i)) (txt (P.take (i + 1)))) 7 (f 113) (f 0) w1 := hF 7 (by kernel_rfl)
                        have d9 : (paF g off d yi mb mo mc i i4 z9 x m y l.length w4.heap.size (txt (P.take i)) (txt (P.take (i + 1)))) 9 (f 115) (f 0) w1 := hF 9 (by kernel_rfl)
                        clear hF
                        dsimp only at hK ⊢
                        generalize f 113 = v113 at *
                        generalize f 115 = v115 at *
                        subst d7
                        subst d9
                        go_simp
                        exact hK.out _ _ hG rfl (fun _ _ _ _ h => h)
                      · -- 11: Op.load 5 t116
                        refine StepA.was ?_
                        refine StepL.act ?_
                        intro f w1 hG hF K hK
                        have d10 : (paF g off d yi mb mo mc i i4 z9 x m y l.length w4.heap.size (txt (P.take i)) (txt (P.take (i + 1)))) 10 (f 116) (f 0) w1 := hF 10 (by kernel_rfl)
                        clear hF
                        dsimp only at hK ⊢
                        generalize f 116 = v116 at *
                        subst d10
                        have y9 := HCM.out w1 (HBi.out.trans (hG.mono HBi.out.size))
                        go_simp
                        exact hK.out _ _ hG rfl (fun _ _ _ _ h => h)
                      · -- 12: Op.binOp BinOp.xor 5 t112 t117 5
                        refine StepA.was ?_
                        refine StepL.act ?_
                        intro f w1 hG hF K hK
                        have d6 : (paF g off d yi mb mo mc i i4 z9 x m y l.length w4.heap.size (txt (P.take i)) (txt (P.take (i + 1)))) 6 (f 112) (f 0) w1 := hF 6 (by kernel_rfl)
                        have d11 : (paF g off d yi mb mo mc i i4 z9 x m y l.length w4.heap.size (txt (P.take i)) (txt (P.take (i + 1)))) 11 (f 117) (f 0) w1 := hF 11 (by kernel_rfl)
                        clear hF
                        dsimp only at hK ⊢
                        generalize f 112 = v112 at *
                        generalize f 117 = v117 at *
                        subst d6
                        subst d11
                        have hr := HXO.out
                        go_simp
                        exact hK.out _ _ hG rfl (fun _ _ _ _ h => h)
                      · -- 13: Op.buildSlice 25 1 #[(0, t118)]
                        refine StepA.was ?_
                        refine StepL.act ?_
                        intro f w1 hG hF K hK
                        have d12 : (paF g off d yi mb mo mc i i4 z9 x m y l.length w4.heap.size (txt (P.take i)) (txt (P.take (i + 1)))) 12 (f 118) (f 0) w1 := hF 12 (by kernel_rfl)
                        clear hF
                        dsimp only at hK ⊢
                        generalize f 118 = v118 at *
                        subst d12
                        go_simp
                        exact hK.out _ _ ((hG : Below w4.heap.size w4 w1).alloc hG.size _) ⟨w1.heap.size, rfl, hG.size, Bk.new w1 _ _⟩ (fun j _ _ _ h => paF_bel ((Below.refl _ _).alloc (Nat.le_refl _) _) j _ _ h)
                      · -- 14: Op.convert 25 9 t119
                        refine StepA.was ?_
                        refine StepL.act ?_
                        intro f w1 hG hF K hK
                        have d13 : (paF g off d yi mb mo mc i i4 z9 x m y l.length w4.heap.size (txt (P.take i)) (txt (P.take (i + 1)))) 13 (f 119) (f 0) w1 := hF 13 (by kernel_rfl)
                        clear hF
                        dsimp only at hK ⊢
                        generalize f 119 = v119 at *
                        obtain ⟨q7, rfl, hq7, hk7⟩ := d13
                        have hr := run_txt w1 (some ⟨q7, 0, none⟩) 1 1 [z9] rfl (Seg.of_block hk7 (fun j _ => by simp [u8s])) (fun u hu => by simp only [List.mem_singleton] at hu; rw [hu]; exact HX9.out)
                        go_simp
                        exact hK.out _ _ hG rfl (fun _ _ _ _ h => h)
                      · -- 15: Op.binOp BinOp.add 9 t106 t120 9
                        refine StepA.was ?_
                        refine StepL.act ?_
                        intro f w1 hG hF K hK
                        have d0 : (paF g off d yi mb mo mc i i4 z9 x m y l.length w4.heap.size (txt (P.take i)) (txt (P.take (i + 1)))) 0 (f 106) (f 0) w1 := hF 0 (by kernel_rfl)
                        have d14 : (paF g off d yi mb mo mc i i4 z9 x m y l.length w4.heap.size (txt (P.take i)) (txt (P.take (i + 1)))) 14 (f 120) (f 0) w1 := hF 14 (by kernel_rfl)
                        clear hF
                        dsimp only at hK ⊢
                        generalize f 106 = v106 at *
                        generalize f 120 = v120 at *
                        subst d0
                        subst d14
                        have hr := HADD.out w1
                        go_simp
                        exact hK.out _ _ hG rfl (fun _ _ _ _ h => h)
                      · -- 16: Op.assign t121
                        refine StepA.was ?_
                        refine StepL.act ?_
                        intro f w1 hG hF K hK
                        have d15 : (paF g off d yi mb mo mc i i4 z9 x m y l.length w4.heap.size (txt (P.take i)) (txt (P.take (i + 1)))) 15 (f 121) (f 0) w1 := hF 15 (by kernel_rfl)
                        clear hF
                        dsimp only at hK ⊢
                        generalize f 121 = v121 at *
                        subst d15
                        go_simp
                        exact hK.out _ _ hG rfl (fun _ _ _ _ h => h)
                      · intro f w5 hG hF
                        have f16 : f 15 = .string (txt (P.take (i + 1))) := hF 16 (by decide)
                        have HB5 := Lib.hid (HBi.out.trans ((hG : Below w4.heap.size w4 w5).mono HBi.out.size))
                        clear hF hG
                        dsimp only
                        generalize f 106 = v106
                        generalize f 107 = v107
                        generalize f 108 = v108
                        generalize f 109 = v109
                        generalize f 110 = v110
                        generalize f 111 = v111
                        generalize f 112 = v112
                        generalize f 113 = v113
                        generalize f 114 = v114
                        generalize f 115 = v115
                        generalize f 116 = v116
                        generalize f 117 = v117
                        generalize f 118 = v118
                        generalize f 119 = v119
                        generalize f 120 = v120
                        generalize f 121 = v121
                        generalize f 15 = v15 at *
                        subst f16
                        go_wp2_with fail
                        go_roundw
                        case rel => exact ⟨i + 1, by omega, rfl, by go_num, HB5⟩
                        case measure => simp [intOf]; omega
                    · have hiE : N = i := by omega
                      subst hiE
                      have i5 : ¬ (N : Int) < (N : Int) := by omega
                      rw [List.take_of_length_le (Nat.le_of_eq HPN.out)]
                      obtain ⟨p, hp⟩ : ∃ p, p = txt P := ⟨_, rfl⟩
                      rw [← hp] at HF ⊢
                      have hpz : p.size = N := by rw [hp, txt_sizeP]; exact HPN.out
                      have HO4 := Lib.hid (own_belS HO3.out HBi.out)
                      have HB4 := Lib.hid (HB3.out.trans (HBi.out.mono HB3.out.size))
                      obtain ⟨yN, hyN⟩ : ∃ q, q = y + N := ⟨_, rfl⟩
                      obtain ⟨l2, hl2⟩ : ∃ q, q = (l.drop y).drop N := ⟨_, rfl⟩
                      rw [← hl2] at HF
                      rw [List.drop_drop, ← hyN] at hl2
                      have e1 : (y : Int) + (N : Int) = (yN : Int) := by omega
                      have hyl : yN ≤ l.length := by omega
                      have hyd : yN ≤ d := by omega
                      have hyl2 : (yN : Int) ≤ (l.length : Int) := by omega
                      have hln2 : l2.length = l.length - yN := by rw [hl2, List.length_drop]
                      have HL2 := Lib.hid hln2
                      have HS4 := Lib.hid (show Seg w (some ⟨g, off + yN, none⟩) (u8s l2) from by rw [hl2]; exact seg_rest HS.out yN hyl)
                      have HX4 := Lib.hid (show ∀ u ∈ l2, u < 256 from fun u hu => HXl.out u (List.mem_of_mem_drop (by rw [← hl2]; exact hu)))
                      have HOPS := Lib.hid (fits_op HFT.out)
                      have hN9 := HN9.out
                      clear hp hyN hl2 hln2 HPN HPB HPX HAT3 HMK3 HBi HO3 HB3 HR3 HLS HSM HM HFT HN9 HO2 HB2 HR2 HW3 HN3 HAT HA8 HB8 H2 HXX
                      have hl20 : d = yN → l2 = [] := fun h => List.eq_nil_of_length_eq_zero (by have := HL2.out; omega)
                      go_upto_region 34 with fail
                      go_cut [0] (fun v wx => ∃ (B2 : Option Addr) (c2 : Nat), v = .slice B2 (l.length - yN) c2 ∧ l.length - yN ≤ c2 ∧ Hid (Seg w B2 (u8s l2)) ∧ wx = w4)
                      case first =>
                        by_cases hdy : d = yN
                        · have h0 := Lib.hid (hl20 hdy)
                          go_wp2_with fail
                          go_meet
                          exact ⟨_, _, rfl, by omega, Lib.hid (by rw [h0.out]; exact Seg.nil _ _), rfl⟩
                        · go_wp2_with fail
                          go_meet
                          exact ⟨_, _, rfl, by omega, HS4, rfl⟩
                      case rest =>
                        obtain ⟨B2, c2, rfl, hc2, HS4, hwc⟩ := hcut
                        rw [hwc]
                        clear hwc hl20
                        go_upto_region 35 with fail
                        by_cases h8 : op = 8
                        · have o1 : (op : Int) = 8 := by omega
                          have HE := Lib.hid (show D ++ [endI (closedN p)] = L by rw [← HR.out, runL_close HF.out h8])
                          have CL := rclosed_any p (by omega) w4
                          obtain ⟨I, hI⟩ : ∃ I, I = endI (closedN p) := ⟨_, rfl⟩
                          rw [← hI] at CL HE
                          obtain ⟨i1, i2, i3⟩ := I
                          have CL := Lib.hid (show Calls Tryd.prog 33 #[.string p] w4 fun e w' => e = .returned (.agg #[.int .i64 (i1 : Nat), .string i2, .int .i64 (i3 : Nat)]) ∧ Below w4.heap.size w4 w' from CL)
                          clear hI h8
                          go_wp2_with fail
                          refine CL.out.mono ?_
                          rintro e w5 ⟨rfl, b5⟩
                          have HO6 := Lib.hid (own_belS HO4.out b5)
                          have HB6 := Lib.hid (HB4.out.trans (b5.mono HB4.out.size))
                          clear b5 CL
                          obtain ⟨w9, hw9⟩ : ∃ x, x = w5.alloc (.cells #[.int .i64 (i1 : Nat), .string i2, .int .i64 (i3 : Nat)] 46) := ⟨_, rfl⟩
                          have b9 : Below w5.heap.size w5 w9 := by rw [hw9]; exact (Below.refl _ _).alloc (Nat.le_refl _) _
                          obtain ⟨q, hq⟩ : ∃ x, x = w5.heap.size := ⟨_, rfl⟩
                          have HNW := Lib.hid (show ∀ j u, ([.int .i64 (i1 : Nat), .string i2, .int .i64 (i3 : Nat)] : List Value)[j]? = some u → w9.cell? ((⟨q, 0, none⟩ : Addr).add j) = some u by
                            rw [hw9, hq]
                            exact World.news_of_block (cs := #[.int .i64 (i1 : Nat), .string i2, .int .i64 (i3 : Nat)]) (t := 46) (fr := (0, 0)) (Bk.new w5 _ _))
                          have HOW := Lib.hid (own_belS HO6.out b9)
                          have HBW := Lib.hid (Below.trans HB6.out (b9.mono (Below.size HB6.out)))
                          have HW9 := Lib.hid hw9
                          have HQ := Lib.hid hq
                          clear hw9 b9 hq
                          go_wp2_with (at_builtin; rw [← HW9.out, ← HQ.out]; refine wpList_append_lies _ rfl _ _ _ rfl w.heap.size 46 j0 _ 3 32 Tryd.underlying40 HJ0.out HZ0.out HZ1.out HZ2.out rfl (by omega) _ D.length (itsL D) rfl HOW.out ⟨q, 0, none⟩ 1 1 [.int .i64 (i1 : Nat), .string i2, .int .i64 (i3 : Nat)] rfl rfl HNW.out (it_one _ _ _) (by omega) (by unfold maxLen; omega) (by omega) HBW.out.size _ rfl ?_; intro g2 cap w5 hown hgrow hat hlt3; have HO5 := Lib.hid hown; have HB5 := Lib.hid (HBW.out.grown hgrow HBW.out.size (fun b hb => (HOW.out.lt b hb).1)); clear hown hgrow hat hlt3)
                          go_ret
                          rw [← HE.out]
                          exact ⟨_, rfl, by rw [itsL_one, List.length_append]; exact HO5.out, HB5.out⟩
                        · have o1 : ¬ (op : Int) = 8 := by omega
                          have o2 : ((op : Int) == 8) = false := by simp; omega
                          by_cases h9 : 8 < op
                          · have o3 : (8 : Int) < (op : Int) := by omega
                            have HRN := Lib.hid (show (D ++ [⟨op, p, 0⟩]) ++ runL mk k t l2 = L by rw [← HR.out, runL_ctl HF.out (by have := HOPS.out; omega)]; simp)
                            obtain ⟨w9, hw9⟩ : ∃ x, x = w4.alloc (.cells #[.int .i64 (op : Nat), .string p, .int .i64 0] 46) := ⟨_, rfl⟩
                            have b9 : Below w4.heap.size w4 w9 := by rw [hw9]; exact (Below.refl _ _).alloc (Nat.le_refl _) _
                            obtain ⟨q, hq⟩ : ∃ x, x = w4.heap.size := ⟨_, rfl⟩
                            have HNW := Lib.hid (show ∀ j u, ([.int .i64 (op : Nat), .string p, .int .i64 0] : List Value)[j]? = some u → w9.cell? ((⟨q, 0, none⟩ : Addr).add j) = some u by
                              rw [hw9, hq]
                              exact World.news_of_block (cs := #[.int .i64 (op : Nat), .string p, .int .i64 0]) (t := 46) (fr := (0, 0)) (Bk.new w4 _ _))
                            have HOW := Lib.hid (own_belS HO4.out b9)
                            have HBW := Lib.hid (Below.trans HB4.out (b9.mono (Below.size HB4.out)))
                            have HW9 := Lib.hid hw9
                            have HQ := Lib.hid hq
                            clear hw9 b9 hq
                            go_wp2_with (at_builtin; rw [← HW9.out, ← HQ.out]; refine wpList_append_lies _ rfl _ _ _ rfl w.heap.size 46 j0 _ 3 32 Tryd.underlying40 HJ0.out HZ0.out HZ1.out HZ2.out rfl (by omega) _ D.length (itsL D) rfl HOW.out ⟨q, 0, none⟩ 1 1 [.int .i64 (op : Nat), .string p, .int .i64 0] rfl rfl HNW.out (it_one _ _ _) (by omega) (by unfold maxLen; omega) (by omega) HBW.out.size _ rfl ?_; intro g2 cap w5 hown hgrow hat hlt3; have HO5 := Lib.hid hown; have HB5 := Lib.hid (HBW.out.grown hgrow HBW.out.size (fun b hb => (HOW.out.lt b hb).1)); clear hown hgrow hat hlt3)
                            go_roundw
                            case rel => exact ⟨B2, c2, l2, k, t, D ++ [⟨op, p, 0⟩], by rw [HL2.out], by rw [HL2.out]; omega, by rw [HL2.out]; omega, rfl, rfl, hk, ht, HKT, HS4, HX4, Lib.hid (by rw [itsL_one, List.length_append]; exact HO5.out), HB5, HRN⟩
                            case measure => simp [lenOf]; omega
                          · have o3 : ¬ (8 : Int) < (op : Int) := by omega
                            have ho3 : op < 3 := by have := HOPS.out; omega
                            obtain ⟨k1, hk1⟩ : ∃ q, q = kdN k op := ⟨_, rfl⟩
                            have hk12 : k1 ≤ 2 ∧ k1 ≠ 0 := by
                              rcases HOPS.out with ⟨h, h0⟩ | ⟨h, h0⟩ | h | h | h
                              · rw [hk1, h, kdN_0]; exact ⟨hk, h0⟩
                              · rw [hk1, kdN_12 h]; omega
                              · omega
                              · omega
                              · omega
                            obtain ⟨hk1a, hk1b⟩ := hk12
                            have HK1 := Lib.hid hk1
                            have htz : t.size + N ≤ 4096 := by omega
                            go_upto_if 143 with fail
                            go_cut [6, 7] (fun v6 v7 wx => v6 = .int .i64 (k1 : Nat) ∧ v7 = .string t ∧ wx = w4)
                            case first =>
                              by_cases h0 : op = 0
                              · have o5 : ((op : Int) != 0) = false := by simp; omega
                                have HKK := Lib.hid (show k1 = k by rw [hk1, h0, kdN_0])
                                clear h0 hk1
                                go_wp2_with fail
                                go_meet
                                exact ⟨by rw [HKK.out], rfl, rfl⟩
                              · have o5 : ¬ (op : Int) = 0 := by omega
                                have o6 : ((op : Int) != 0) = true := by simp; omega
                                have HKK := Lib.hid (show k1 = op by rw [hk1, kdN_12 (by omega)])
                                have HTE := Lib.hid (show t = ⟨#[]⟩ from HKT.out (by have := HOPS.out; omega))
                                clear h0 hk1
                                go_wp2_with fail
                                go_meet
                                exact ⟨by rw [HKK.out], by rw [HTE.out], rfl⟩
                            case rest =>
                              obtain ⟨rfl, rfl, hwc⟩ := hcut
                              rw [hwc]
                              clear hwc hk1
                              have HADT := Lib.hid (show ∀ w7 : World, (Op.stringOp .add t p).run Tryd.prog w7 = .ok (.string (t ++ p)) w7 from fun w7 => run_string_add_sum (P := Tryd.prog) w7 _ _ (by omega))
                              have had := HADT.out
                              obtain ⟨t1, ht1⟩ : ∃ q, q = t ++ p := ⟨_, rfl⟩
                              have htz1 : t1.size ≤ 4096 := by rw [ht1, ByteArray.size_append]; omega
                              rw [← ht1] at had
                              have HT1 := Lib.hid ht1
                              clear ht1
                              by_cases h128 : 128 ≤ a
                              · have o7 : ¬ (a : Int) < 128 := by omega
                                have HF3 := Lib.hid (show frameN mk k t.size l = .ok (⟨true, op, mk, p⟩, M) l2 by rw [HF.out, decide_eq_true h128])
                                obtain ⟨V, hV⟩ : ∃ V, V = decide (k1 = 1 ∧ Lib.validD t1.data.toList = false) := ⟨_, rfl⟩
                                have CU := Lib.hid (utf8_any t1 (by omega) w4)
                                go_upto_region 44 with fail
                                go_cut [156] (fun v wx => v = .bool V ∧ wx = w4)
                                case first =>
                                  by_cases hk1o : k1 = 1
                                  · have o9 : ((k1 : Int) == 1) = true := by simp; omega
                                    have HVV := Lib.hid (show V = !(Lib.validD t1.data.toList) by rw [hV]; cases Lib.validD t1.data.toList <;> simp [hk1o])
                                    clear hV hk1o
                                    go_wp2_with fail
                                    refine CU.out.mono ?_
                                    rintro e w5 ⟨rfl, hw5⟩
                                    rw [hw5]
                                    clear hw5
                                    go_wp2_with fail
                                    go_meet
                                    exact ⟨by rw [HVV.out], rfl⟩
                                  · have o8 : ¬ (k1 : Int) = 1 := by omega
                                    have o9 : ((k1 : Int) == 1) = false := by simp; omega
                                    have HVV := Lib.hid (show V = false by rw [hV]; exact decide_eq_false (fun h => hk1o h.1))
                                    clear hV hk1o
                                    go_wp2_with fail
                                    go_meet
                                    exact ⟨by rw [HVV.out], rfl⟩
                                case rest =>
                                  obtain ⟨rfl, hwc⟩ := hcut
                                  rw [hwc]
                                  clear hwc CU
                                  have HVV := Lib.hid hV
                                  clear hV
                                  cases V
                                  · have HRN := Lib.hid (show (D ++ [⟨k1, t1, 0⟩]) ++ runL mk 0 ⟨#[]⟩ l2 = L by
                                      rw [← HR.out, runL_item HF3.out ho3 (by rw [← HK1.out, ← HT1.out]; exact of_decide_eq_false HVV.out.symm), ← HK1.out, ← HT1.out]
                                      simp)
                                    obtain ⟨w9, hw9⟩ : ∃ x, x = w4.alloc (.cells #[.int .i64 (k1 : Nat), .string t1, .int .i64 0] 46) := ⟨_, rfl⟩
                                    have b9 : Below w4.heap.size w4 w9 := by rw [hw9]; exact (Below.refl _ _).alloc (Nat.le_refl _) _
                                    obtain ⟨q, hq⟩ : ∃ x, x = w4.heap.size := ⟨_, rfl⟩
                                    have HNW := Lib.hid (show ∀ j u, ([.int .i64 (k1 : Nat), .string t1, .int .i64 0] : List Value)[j]? = some u → w9.cell? ((⟨q, 0, none⟩ : Addr).add j) = some u by
                                      rw [hw9, hq]
                                      exact World.news_of_block (cs := #[.int .i64 (k1 : Nat), .string t1, .int .i64 0]) (t := 46) (fr := (0, 0)) (Bk.new w4 _ _))
                                    have HOW := Lib.hid (own_belS HO4.out b9)
                                    have HBW := Lib.hid (Below.trans HB4.out (b9.mono (Below.size HB4.out)))
                                    have HW9 := Lib.hid hw9
                                    have HQ := Lib.hid hq
                                    clear hw9 b9 hq
                                    go_wp2_with (at_builtin; rw [← HW9.out, ← HQ.out]; refine wpList_append_lies _ rfl _ _ _ rfl w.heap.size 46 j0 _ 3 32 Tryd.underlying40 HJ0.out HZ0.out HZ1.out HZ2.out rfl (by omega) _ D.length (itsL D) rfl HOW.out ⟨q, 0, none⟩ 1 1 [.int .i64 (k1 : Nat), .string t1, .int .i64 0] rfl rfl HNW.out (it_one _ _ _) (by omega) (by unfold maxLen; omega) (by omega) HBW.out.size _ rfl ?_; intro g2 cap w5 hown hgrow hat hlt3; have HO5 := Lib.hid hown; have HB5 := Lib.hid (HBW.out.grown hgrow HBW.out.size (fun b hb => (HOW.out.lt b hb).1)); clear hown hgrow hat hlt3)
                                    go_roundw
                                    case rel => exact ⟨B2, c2, l2, 0, ⟨#[]⟩, D ++ [⟨k1, t1, 0⟩], by rw [HL2.out], by rw [HL2.out]; omega, by rw [HL2.out]; omega, rfl, rfl, by decide, by decide, Lib.hid (fun _ => rfl), HS4, HX4, Lib.hid (by rw [itsL_one, List.length_append]; exact HO5.out), HB5, HRN⟩
                                    case measure => simp [lenOf]; omega
                                  · have HE := Lib.hid (show D ++ [⟨0, ⟨#[]⟩, 1007⟩] = L by
                                      rw [← HR.out, runL_bad7 HF3.out ho3 (by rw [← HK1.out, ← HT1.out]; exact of_decide_eq_true HVV.out.symm)])
                                    obtain ⟨w9, hw9⟩ : ∃ x, x = w4.alloc (.cells #[.int .i64 0, .string ⟨#[]⟩, .int .i64 1007] 46) := ⟨_, rfl⟩
                                    have b9 : Below w4.heap.size w4 w9 := by rw [hw9]; exact (Below.refl _ _).alloc (Nat.le_refl _) _
                                    obtain ⟨q, hq⟩ : ∃ x, x = w4.heap.size := ⟨_, rfl⟩
                                    have HNW := Lib.hid (show ∀ j u, ([.int .i64 0, .string ⟨#[]⟩, .int .i64 1007] : List Value)[j]? = some u → w9.cell? ((⟨q, 0, none⟩ : Addr).add j) = some u by
                                      rw [hw9, hq]
                                      exact World.news_of_block (cs := #[.int .i64 0, .string ⟨#[]⟩, .int .i64 1007]) (t := 46) (fr := (0, 0)) (Bk.new w4 _ _))
                                    have HOW := Lib.hid (own_belS HO4.out b9)
                                    have HBW := Lib.hid (Below.trans HB4.out (b9.mono (Below.size HB4.out)))
                                    have HW9 := Lib.hid hw9
                                    have HQ := Lib.hid hq
                                    clear hw9 b9 hq
                                    go_wp2_with (at_builtin; rw [← HW9.out, ← HQ.out]; refine wpList_append_lies _ rfl _ _ _ rfl w.heap.size 46 j0 _ 3 32 Tryd.underlying40 HJ0.out HZ0.out HZ1.out HZ2.out rfl (by omega) _ D.length (itsL D) rfl HOW.out ⟨q, 0, none⟩ 1 1 [.int .i64 0, .string ⟨#[]⟩, .int .i64 1007] rfl rfl HNW.out (it_one _ _ _) (by omega) (by unfold maxLen; omega) (by omega) HBW.out.size _ rfl ?_; intro g2 cap w5 hown hgrow hat hlt3; have HO5 := Lib.hid hown; have HB5 := Lib.hid (HBW.out.grown hgrow HBW.out.size (fun b hb => (HOW.out.lt b hb).1)); clear hown hgrow hat hlt3)
                                    go_ret
                                    rw [← HE.out]
                                    exact ⟨_, rfl, by rw [itsL_one, List.length_append]; exact HO5.out, HB5.out⟩
                              · have o7 : (a : Int) < 128 := by omega
                                have HRN := Lib.hid (show D ++ runL mk k1 t1 l2 = L by
                                  have h3 : frameN mk k t.size l = .ok (⟨false, op, mk, p⟩, M) l2 := by rw [HF.out, decide_eq_false h128]
                                  rw [← HR.out, runL_part h3 ho3, ← HK1.out, ← HT1.out])
                                go_wp2_with fail
                                go_roundw
                                case rel => exact ⟨B2, c2, l2, k1, t1, D, by rw [HL2.out], by rw [HL2.out]; omega, by rw [HL2.out]; omega, rfl, rfl, hk1a, htz1, Lib.hid (fun h => absurd h hk1b), HS4, HX4, HO4, HB4, HRN⟩
                                case measure => simp [lenOf]; omega
            · have HF := Lib.hid (show frameN mk k t.size l = .no 1009 by
                unfold frameN
                rw [if_neg H2.out, ← HA8.out, ← HB8.out, if_neg HWN.out]
                rw [← HSH.out, HLN.out]
                dsimp only
                rw [← HOP.out, if_pos (of_decide_eq_true HZZ.out.symm)])
              have HE := Lib.hid (show D ++ [⟨0, ⟨#[]⟩, 1009⟩] = L by rw [← HR.out, runL_no HF.out]; rfl)
              obtain ⟨w9, hw9⟩ : ∃ x, x = w2.alloc (.cells #[.int .i64 0, .string ⟨#[]⟩, .int .i64 1009] 46) := ⟨_, rfl⟩
              have b9 : Below w2.heap.size w2 w9 := by rw [hw9]; exact (Below.refl _ _).alloc (Nat.le_refl _) _
              obtain ⟨q, hq⟩ : ∃ x, x = w2.heap.size := ⟨_, rfl⟩
              have HNW := Lib.hid (show ∀ j u, ([.int .i64 0, .string ⟨#[]⟩, .int .i64 1009] : List Value)[j]? = some u → w9.cell? ((⟨q, 0, none⟩ : Addr).add j) = some u by
                rw [hw9, hq]
                exact World.news_of_block (cs := #[.int .i64 0, .string ⟨#[]⟩, .int .i64 1009]) (t := 46) (fr := (0, 0)) (Bk.new w2 _ _))
              have HOW := Lib.hid (own_belS HO2.out b9)
              have HBW := Lib.hid (Below.trans HB2.out (b9.mono (Below.size HB2.out)))
              have HW9 := Lib.hid hw9
              have HQ := Lib.hid hq
              clear hw9 b9 hq
              go_wp2_with (at_builtin; rw [← HW9.out, ← HQ.out]; refine wpList_append_lies _ rfl _ _ _ rfl w.heap.size 46 j0 _ 3 32 Tryd.underlying40 HJ0.out HZ0.out HZ1.out HZ2.out rfl (by omega) _ D.length (itsL D) rfl HOW.out ⟨q, 0, none⟩ 1 1 [.int .i64 0, .string ⟨#[]⟩, .int .i64 1009] rfl rfl HNW.out (it_one _ _ _) (by omega) (by unfold maxLen; omega) (by omega) HBW.out.size _ rfl ?_; intro g2 cap w5 hown hgrow hat hlt3; have HO5 := Lib.hid hown; have HB5 := Lib.hid (HBW.out.grown hgrow HBW.out.size (fun b hb => (HOW.out.lt b hb).1)); clear hown hgrow hat hlt3)
              go_ret
              rw [← HE.out]
              exact ⟨_, rfl, by rw [itsL_one, List.length_append]; exact HO5.out, HB5.out⟩
      · have HE := Lib.hid (show D ++ [⟨0, ⟨#[]⟩, 1002⟩] = L by
          rw [← HR.out, runL_no (c := 1002) (by
            have h := HXX.out
            unfold wrongB at h
            have h := of_decide_eq_true h.symm
            unfold frameN
            rw [if_neg H2.out, ← HA8.out, ← HB8.out, if_pos h])]
          rfl)
        obtain ⟨w2, hw2⟩ : ∃ x, x = w1.alloc (.cells #[.int .i64 0, .string ⟨#[]⟩, .int .i64 1002] 46) := ⟨_, rfl⟩
        have b2 : Below w1.heap.size w1 w2 := by rw [hw2]; exact (Below.refl _ _).alloc (Nat.le_refl _) _
        obtain ⟨q, hq⟩ : ∃ x, x = w1.heap.size := ⟨_, rfl⟩
        have HNW := Lib.hid (show ∀ j u, ([.int .i64 0, .string ⟨#[]⟩, .int .i64 1002] : List Value)[j]? = some u → w2.cell? ((⟨q, 0, none⟩ : Addr).add j) = some u by
          rw [hw2, hq]
          exact World.news_of_block (cs := #[.int .i64 0, .string ⟨#[]⟩, .int .i64 1002]) (t := 46) (fr := (0, 0)) (Bk.new w1 _ _))
        have HOW := Lib.hid (own_belS HO1.out b2)
        have HBW := Lib.hid (HB1.out.trans (b2.mono HB1.out.size))
        have HW2 := Lib.hid hw2
        have HQ := Lib.hid hq
        clear hw2 b2 hq
        go_wp2_with (at_builtin; rw [← HW2.out, ← HQ.out]; refine wpList_append_lies _ rfl _ _ _ rfl w.heap.size 46 j0 _ 3 32 Tryd.underlying40 HJ0.out HZ0.out HZ1.out HZ2.out rfl (by omega) _ D.length (itsL D) rfl HOW.out ⟨q, 0, none⟩ 1 1 [.int .i64 0, .string ⟨#[]⟩, .int .i64 1002] rfl rfl HNW.out (it_one _ _ _) (by omega) (by unfold maxLen; omega) (by omega) HBW.out.size _ rfl ?_; intro g2 cap w5 hown hgrow hat hlt3; have HO5 := Lib.hid hown; have HB5 := Lib.hid (HBW.out.grown hgrow HBW.out.size (fun b hb => (HOW.out.lt b hb).1)); clear hown hgrow hat hlt3)
        go_ret
        rw [← HE.out]
        exact ⟨_, rfl, by rw [itsL_one, List.length_append]; exact HO5.out, HB5.out⟩
end Go.Proofs.YtnbhgjionpidnaaDoor
