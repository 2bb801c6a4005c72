/- The walk of the statement that a run is found just if one is long enough. Condition: the bytes lie in memory. -/
import Derived.Test.YtpkajmgfechhhaaMapG
import Derived.Test.YtpkajmgfechhhaaTxt
namespace Go.Proofs.Ytpkajmgfechhhaa
open Go.RowKit

def hasR (m : Nat) (l : List (Nat × Nat)) : Bool := l.any fun r => decide (m ≤ r.2)
theorem hasR_snoc (m : Nat) (l : List (Nat × Nat)) (r : Nat × Nat) : hasR m (l ++ [r]) = (hasR m l || decide (m ≤ r.2)) := by simp [hasR]
theorem ints_int (l : List Nat) : ints l = intL (l.map fun (x : Nat) => (x : Int)) := by simp [ints, intL]
theorem giveE_first (T b m : Nat) (f : Nat → Bool) (hb : b < T) (hf : f b = false) (hm : 1 ≤ m) : giveE T f ((runL b m).map fun (x : Nat) => (x : Int)) = 6 := by
  obtain ⟨k, rfl⟩ : ∃ k, m = k + 1 := ⟨m - 1, by omega⟩
  have e : runL b (k + 1) = b :: (List.range k).map (fun i => b + (i + 1)) := by
    simp [runL, List.range_succ_eq_map]
  rw [e]
  simp only [List.map_cons, giveE, Int.toNat_natCast]
  rw [if_neg (by omega), if_pos hf]
set_option maxRecDepth 100000 in
set_option maxHeartbeats 4000000 in
theorem fits_any (T num : Int) (A : Option Addr) (n c : Nat) (l : List Nat) (hn : n = l.length) (hz : n ≤ 140737488355000) (w : World) (hA : Seg w A (u8s l)) (hl : ∀ x ∈ l, x < 256) :
    Calls Try.prog 7 #[.int .i64 T, .slice A n c, .int .i64 num] w fun e w' => e = .returned (.bool true) ∧ Below w.heap.size w w' := by
  obtain ⟨i0, hi0, hz0, hz1, hz2⟩ := info_parts info_int
  have HN := Lib.hid hn
  have HL := Lib.hid hl
  have HA := Lib.hid hA
  clear hn hl hA
  go_enter Try.func7, Try.ntmps7
  go_wp2_with fail
  refine (of_map T A n c l HN.out hz _ HA.out).mono ?_
  rintro e w1 ⟨A1, c1, rfl, hc1, s1, b1⟩
  have a1 : Below w1.heap.size w1 (w1.alloc (.cells #[.int .i64 T, .slice A1 n c1] 27)) := (Below.refl _ _).alloc (Nat.le_refl _) _
  have B1 := Lib.hid (below_step b1 a1)
  have S1 := Lib.hid (s1.bel a1)
  have X1 := Lib.hid (Bk.new w1 27 #[.int .i64 T, .slice A1 n c1])
  clear s1 b1 a1
  go_wp2_with fail
  generalize w1.alloc (.cells #[.int .i64 T, .slice A1 n c1] 27) = w2 at *
  by_cases hE : chk T l = 0
  · obtain ⟨hM, hT⟩ := MapIn.of_chk HN.out hc1 HL.out S1.out hE
    obtain ⟨_, _, _, hpk⟩ := chk_pk T l HL.out hE
    obtain ⟨t, rfl⟩ : ∃ t : Nat, T = (t : Int) := ⟨T.toNat, hT.symm⟩
    rw [Int.toNat_natCast] at hM hpk
    have ht := hM.le
    clear hT hE
    generalize fOf t l = f at *
    have HM := Lib.hid hM
    have HPk := Lib.hid hpk
    clear hM hpk
    refine (runs_ok t f A1 n c1 _ HM.out).mono ?_
    rintro e w4 ⟨v, rfl, o4, b4⟩
    obtain ⟨A4, c4, rfl, hc4⟩ := own_slice o4
    have M4 := Lib.hid (HM.out.bel b4)
    have X4 := Lib.hid (X1.out.bel b4)
    have B4 := Lib.hid (below_step B1.out b4)
    have O4 := Lib.hid o4
    have hlen := runsN_length f t
    have HOk := Lib.hid (runsN_ok f t)
    clear b4 o4
    by_cases hnum : num < 1
    · go_wp2_with (go_at_call 13; refine (awake_map _).mono ?_; rintro e w5 ⟨rfl, b5⟩; have B5 := Lib.hid (below_step B4.out b5); clear b5)
      go_ret
      exact ⟨rfl, B5.out⟩
    · obtain ⟨m, rfl⟩ : ∃ m : Nat, num = (m : Int) := ⟨num.toNat, by omega⟩
      have hm1 : 1 ≤ m := by omega
      have hm2 : ¬ (m : Int) < 1 := hnum
      clear hnum
      have HBest := Lib.hid (best_ok m hm1 (runsN f t))
      obtain ⟨R, hR⟩ : ∃ R, R = runsN f t := ⟨_, rfl⟩
      rw [← hR] at O4 hlen HOk HBest
      have HRR := Lib.hid hR
      clear hR
      go_wp2_with fail
      rw [← HRR.out]
      go_loopw [10, 39] (fun b i wr => ∃ k : Nat, k ≤ R.length ∧ i = .int .i64 k ∧ b = .bool (hasR m (R.take k)) ∧ Below w4.heap.size w4 wr) (fun _ i _ => R.length - (intOf i).toNat)
      case atStart => exact ⟨0, by omega, rfl, rfl, Below.refl _ _⟩
      case round =>
        obtain ⟨k, hk, rfl, rfl, hb⟩ := hrel
        by_cases hlt : k < R.length
        · obtain ⟨g, rfl, hg1, hg2, hc0, hc1⟩ := own_pair (own_bel' O4.out hb) k hlt
          obtain ⟨p1, p2, p3⟩ := HOk.out.1 R[k] (List.getElem_mem hlt)
          have hs := hasR_snoc m (R.take k) R[k]
          rw [← List.take_succ_eq_append_getElem hlt] at hs
          have HS := Lib.hid hs
          have HB := Lib.hid hb
          clear p3 hs hb
          generalize hr : R[k] = r at *
          clear hr
          generalize hasR m (R.take k) = b at *
          rcases b with _ | _
          · by_cases h1 : m ≤ r.2
            · have h1' : (m : Int) ≤ ((r.2 : Nat) : Int) := by omega
              have HT := Lib.hid (show hasR m (R.take (k + 1)) = true by rw [HS.out]; simp [h1])
              clear HS
              go_wp2_with fail
              go_roundw
              case rel => exact ⟨k + 1, by omega, by go_num, by rw [HT.out], HB.out.alloc HB.out.size _⟩
              case measure => simp [intOf]; omega
            · have h1' : ¬ (m : Int) ≤ ((r.2 : Nat) : Int) := by omega
              have HT := Lib.hid (show hasR m (R.take (k + 1)) = false by rw [HS.out]; simp [h1])
              clear HS
              go_wp2_with fail
              go_roundw
              case rel => exact ⟨k + 1, by omega, by go_num, by rw [HT.out], HB.out.alloc HB.out.size _⟩
              case measure => simp [intOf]; omega
          · have HT := Lib.hid (show hasR m (R.take (k + 1)) = true by rw [HS.out]; simp)
            clear HS
            go_wp2_with fail
            go_roundw
            case rel => exact ⟨k + 1, by omega, by go_num, by rw [HT.out], HB.out.alloc HB.out.size _⟩
            case measure => simp [intOf]; omega
        · have hkl : k = R.length := by omega
          subst hkl
          rw [List.take_length]
          have B5 := Lib.hid (below_step B4.out hb)
          have M5 := Lib.hid (M4.out.bel hb)
          have X5 := Lib.hid (X4.out.bel hb)
          have y0 := X5.out.cell 0
          have y1 := X5.out.cell 1
          clear hb
          go_wp2_with fail
          refine (extent_any t f A1 n c1 (m : Int) _ M5.out).mono ?_
          rintro e w6 (⟨h, _⟩ | ⟨_, h0, rfl, b6⟩ | ⟨_, h0, A6, c6, rfl, m6, b6⟩)
          · omega
          · rw [Int.toNat_natCast, ← HRR.out] at h0
            have hno : hasR m R = false := by
              unfold hasR
              rw [List.any_eq_false]
              intro r hr
              have := (HBest.out.1 h0).2 r hr
              simp; omega
            rw [hno]
            have B6 := Lib.hid (below_step B5.out b6)
            have B7 := Lib.hid (B6.out.alloc B6.out.size (.cells #[.int .i64 0, .slice none 0 0] 27))
            clear b6 y0 y1 h0 hno
            go_wp2_with (go_at_call 13; refine (awake_map _).mono ?_; rintro e w8 ⟨rfl, b8⟩; have B8 := Lib.hid (below_step B7.out b8); clear b8)
            go_ret
            exact ⟨rfl, B8.out⟩
          · rw [Int.toNat_natCast, ← HRR.out] at h0 m6 ⊢
            have hyes : hasR m R = true := by
              unfold hasR
              rw [List.any_eq_true]
              have := HBest.out.2 h0
              exact ⟨_, this.1, by simpa using this.2⟩
            rw [hyes]
            obtain ⟨hbm, hbn⟩ := HBest.out.2 h0
            obtain ⟨p1, p2, p3⟩ := HOk.out.1 _ hbm
            have a7 : Below w6.heap.size w6 (w6.alloc (.cells #[.int .i64 (t : Int), .slice A6 n c6] 27)) := (Below.refl _ _).alloc (Nat.le_refl _) _
            have B7 := Lib.hid (below_step (below_step B5.out b6) a7)
            have M7 := Lib.hid ((M5.out.bel b6).bel a7)
            have N7 := Lib.hid (m6.bel a7)
            have X7 := Lib.hid ((X5.out.bel b6).bel a7)
            have Y7 := Lib.hid (Bk.new w6 27 #[.int .i64 (t : Int), .slice A6 n c6])
            have Z7 := Lib.hid (show (w6.alloc (.cells #[.int .i64 (t : Int), .slice A6 n c6] 27)).heap.size = w6.heap.size + 1 by simp)
            clear b6 y0 y1 h0 hyes hbm a7 m6 HRR HOk HBest
            generalize best m R = b at *
            have HFr := Lib.hid (show ∀ j, b.1 ≤ j → j < b.1 + m → f j = false from fun j h1 h2 => p3 j h1 (by omega))
            clear p3
            go_wp2_with fail
            generalize w6.alloc (.cells #[.int .i64 (t : Int), .slice A6 n c6] 27) = w7 at *
            rw [show w6.heap.size + 1 = w7.heap.size from Z7.out.symm]
            have O8 := Lib.hid (World.ownsRow_lit (base := w7.heap.size) (e := 3) (size := 1) w7 #[] 0 (Nat.le_refl _) (by decide) rfl)
            have A8 := Lib.hid ((Below.refl w7.heap.size w7).alloc (Nat.le_refl _) (.cells #[] 3))
            have hm20 : m ≤ 2048 := by omega
            have hb20 : b.1 + m ≤ 2048 := by omega
            go_loopw [16, 17] (fun v i wr => ∃ k : Nat, k ≤ m ∧ i = .int .i64 k ∧ wr.ownsRow w7.heap.size 3 1 v k (ints (runL b.1 k)) ∧ Below w7.heap.size w7 wr) (fun _ i _ => m - (intOf i).toNat)
            case atStart => exact ⟨0, by omega, rfl, O8.out, A8.out⟩
            case round =>
              obtain ⟨k, hk, rfl, ho, hb⟩ := hrel
              obtain ⟨A9, c9, rfl, hc9⟩ := own_slice ho
              by_cases hlt : k < m
              · have HO := Lib.hid ho
                have HB := Lib.hid hb
                have HS := Lib.hid (show ints (runL b.1 (k + 1)) = ints (runL b.1 k) ++ [.int .i64 (((b.1 : Nat) : Int) + (k : Int))] by rw [runL_snoc, ints_append]; simp [ints])
                clear ho hb
                generalize ints (runL b.1 k) = P at *
                go_wp2_with (at_builtin; refine wpList_append_els _ rfl _ _ _ rfl w7.heap.size 3 i0 _ 1 8 Try.underlying43 hi0 hz0 hz1 hz2 rfl (by omega) _ k P rfl (HO.out.alloc _) _ 0 1 1 [.int .i64 (((b.1 : Nat) : Int) + (k : Int))] rfl rfl (fun j u hj => lit_at _ _ _ j u hj) (one_one _ _) (by simp only [maxLen]; omega) (by omega) (by have := HB.out.size; simp; omega) ?_; intro v10 w10 hown hb10; have Q8 := Lib.hid hown; have G8 := Lib.hid ((HB.out.alloc HB.out.size _).trans hb10); clear hown hb10)
                go_roundw
                case rel => exact ⟨k + 1, by omega, by go_num, by rw [HS.out]; exact Q8.out, G8.out⟩
                case measure => simp [intOf]; omega
              · obtain rfl : k = m := by omega
                obtain ⟨_, _, hv, _, s9⟩ := own_shape ho
                injection hv with hv1 hv2 hv3
                subst hv1
                rw [ints_int] at s9
                have B9 := Lib.hid (below_step B7.out hb)
                have M9 := Lib.hid (M7.out.bel hb)
                have N9 := Lib.hid (N7.out.bel hb)
                have X9 := Lib.hid (X7.out.bel hb)
                have Y9 := Lib.hid (Y7.out.bel hb)
                have S9 := Lib.hid s9
                have hk17 : k ≤ 17592186044416 := by omega
                have hll : k = ((runL b.1 k).map fun (x : Nat) => (x : Int)).length := by simp [runL]
                have HLL := Lib.hid hll
                have y0 := Y9.out.cell 0
                have y1 := Y9.out.cell 1
                clear ho hb s9 hv3 hll
                go_wp2_with fail
                refine (give_any t (fillRun f b.1 k) A6 A9 n c6 k c9 _ _ N9.out HLL.out hk17 S9.out).mono ?_
                have hg0 : giveE t (fillRun f b.1 k) ((runL b.1 k).map fun (x : Nat) => (x : Int)) = 0 := giveE_ok t _ _ (runL_nodup _ _) (fun x hx => by
                  rw [runL_mem] at hx
                  exact ⟨by omega, by unfold fillRun; rw [show decide (b.1 ≤ x ∧ x < b.1 + k) = true by simpa using hx, Bool.or_true]⟩)
                have hg1 := giveF_run f b.1 k HFr.out
                have hg2 := giveE_first t b.1 k f (by omega) (HFr.out b.1 (Nat.le_refl _) (by omega)) hm1
                rintro e w11 (⟨_, A11, c11, rfl, m11, b11⟩ | ⟨hne, _⟩)
                rotate_left
                · exact absurd hg0 hne
                rw [hg1] at m11
                have a12 : Below w11.heap.size w11 (w11.alloc (.cells #[.int .i64 (t : Int), .slice A11 n c11] 27)) := (Below.refl _ _).alloc (Nat.le_refl _) _
                have B12 := Lib.hid (below_step (below_step B9.out b11) a12)
                have M12 := Lib.hid ((M9.out.bel b11).bel a12)
                have X12 := Lib.hid ((X9.out.bel b11).bel a12)
                have S12 := Lib.hid ((S9.out.bel b11).bel a12)
                have T12 := Lib.hid (m11.bel a12)
                have Y12 := Lib.hid (Bk.new w11 27 #[.int .i64 (t : Int), .slice A11 n c11])
                have x0 := X12.out.cell 0
                have x1 := X12.out.cell 1
                have HG2 := Lib.hid hg2
                clear b11 a12 m11 y0 y1 hg0 hg1 hg2
                go_wp2_with fail
                generalize w11.alloc (.cells #[.int .i64 (t : Int), .slice A11 n c11] 27) = w12 at *
                refine (give_any t f A1 A9 n c1 k c9 _ _ M12.out HLL.out hk17 S12.out).mono ?_
                rintro e w13 (⟨h0, _⟩ | ⟨hne, rfl, b13⟩)
                · exact absurd (h0.symm.trans HG2.out) (by omega)
                rw [HG2.out]
                have B13 := Lib.hid (below_step B12.out b13)
                have T13 := Lib.hid (T12.out.bel b13)
                have Y13 := Lib.hid (Y12.out.bel b13)
                have B14 := Lib.hid (B13.out.alloc B13.out.size (.cells #[.int .i64 0, .slice none 0 0] 27))
                have a14 : Below w13.heap.size w13 (w13.alloc (.cells #[.int .i64 0, .slice none 0 0] 27)) := (Below.refl _ _).alloc (Nat.le_refl _) _
                have T14 := Lib.hid (T13.out.bel a14)
                have Y14 := Lib.hid (Y13.out.bel a14)
                clear b13 x0 x1 a14 hne
                go_wp2_with fail
                refine (awake_map _).mono ?_
                rintro e w15 ⟨rfl, b15⟩
                have B15 := Lib.hid (below_step B14.out b15)
                have s15 := T14.out.seg.bel b15
                have z0 := (Y14.out.bel b15).cell 0
                have z1 := (Y14.out.bel b15).cell 1
                rw [HN.out, ← HPk.out] at s15
                have hc1 := run_txt w15 A11 n c11 l HN.out s15 HL.out
                have hc2 := run_txt w15 A n c l HN.out (HA.out.bel B15.out) HL.out
                clear b15 s15
                generalize txt l = X at *
                go_wp2_with fail
                go_ret
                exact ⟨rfl, B15.out⟩
  · have H0 := Lib.hid hE
    refine (runs_no T A1 n c1 _ l HN.out hz HL.out _ S1.out rfl hE).mono ?_
    rintro e w3 ⟨rfl, b3⟩
    have hne : (((chk T l : Nat) : Int) != 0) = true := by rw [bne_iff_ne]; omega
    have hle := chk_le T l
    have B3 := Lib.hid (below_step B1.out b3)
    clear b3 hE
    generalize chk T l = E at *
    go_wp2_with (go_at_call 13; refine (awake_map _).mono ?_; rintro e w4 ⟨rfl, b4⟩; have B4 := Lib.hid (below_step B3.out b4); clear b4)
    go_ret
    exact ⟨rfl, B4.out⟩
end Go.Proofs.Ytpkajmgfechhhaa
