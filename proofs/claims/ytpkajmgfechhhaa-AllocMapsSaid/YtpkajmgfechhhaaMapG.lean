/- The walk of taking the best run. Conditions: a map in form lies in memory. -/
import Derived.Test.YtpkajmgfechhhaaMapF
namespace Go.Proofs.Ytpkajmgfechhhaa
open Go.RowKit

set_option maxRecDepth 100000 in
theorem extent_no (T : Int) (A : Option Addr) (n c E : Nat) (num : Int) (l : List Nat) (hn : n = l.length) (hz : n ≤ 140737488355000) (hl : ∀ x ∈ l, x < 256) (w : World) (hS : Seg w A (u8s l)) (hE : chk T l = E) (h0 : E ≠ 0) :
    Calls Try.prog 21 #[.agg #[.int .i64 T, .slice A n c], .int .i64 num] w fun e w' => e = .returned (.tuple #[.int .i64 0, .agg #[.int .i64 0, .slice none 0 0], .int .i64 (E : Int)]) ∧ Below w.heap.size w w' := by
  have hb := (((Below.refl w.heap.size w).alloc (Nat.le_refl _) (.cells #[.int .i64 T, .slice A n c] 27)).alloc (by simp) (.cells #[.int .i64 0, .slice none 0 0] 27))
  have HB := Lib.hid hb
  have HC := Lib.hid (check_any T A n c l hn hz hl _ (hS.bel hb))
  rw [hE] at HC
  have hle := chk_le T l
  rw [hE] at hle
  have hne : ((E : Int) != 0) = true := by rw [bne_iff_ne]; omega
  have BR := Lib.hid (show Bk ((w.alloc (.cells #[.int .i64 T, .slice A n c] 27)).alloc (.cells #[.int .i64 0, .slice none 0 0] 27)) (w.heap.size + 1) 27 #[.int .i64 0, .slice none 0 0] by
    have h1 := Bk.new (w.alloc (.cells #[.int .i64 T, .slice A n c] 27)) 27 #[.int .i64 0, .slice none 0 0]
    rwa [World.size_alloc] at h1)
  clear hb hn hl hS hE
  go_enter Try.func21, Try.ntmps21
  go_wp2_with fail
  refine (HC.out).mono ?_
  rintro e w2 ⟨rfl, b2⟩
  have B2 := Lib.hid (below_step HB.out b2)
  have r2 := BR.out.bel b2
  have y0 := r2.cell 0
  have y1 := r2.cell 1
  have f0 := r2.frozen 0
  have f1 := r2.frozen 1
  clear b2 r2
  go_wp2_with fail
  exact bodyPost_ret (v := .tuple #[.int .i64 0, .agg #[.int .i64 0, .slice none 0 0], .int .i64 (E : Int)]) (by simp [results, Try.results21, go_sem, y0, y1]) rfl
    ⟨rfl, (B2.out.setCell (p := ⟨w.heap.size + 1, 0, none⟩) (by show w.heap.size ≤ w.heap.size + 1; omega) _).setCell (p := ⟨w.heap.size + 1, 1, none⟩) (by show w.heap.size ≤ w.heap.size + 1; omega) _⟩
/-- What taking a run answers. -/
def Ran (w : World) (T : Nat) (f : Nat → Bool) (n : Nat) (num : Int) (e : Ending) (w' : World) : Prop :=
  (num < 1 ∧ e = .returned (.tuple #[.int .i64 0, .agg #[.int .i64 0, .slice none 0 0], .int .i64 1]) ∧ Below w.heap.size w w') ∨
  (1 ≤ num ∧ (best num.toNat (runsN f T)).2 = 0 ∧ e = .returned (.tuple #[.int .i64 0, .agg #[.int .i64 0, .slice none 0 0], .int .i64 5]) ∧ Below w.heap.size w w') ∨
  (1 ≤ num ∧ (best num.toNat (runsN f T)).2 ≠ 0 ∧ ∃ A' c', e = .returned (.tuple #[.int .i64 ((best num.toNat (runsN f T)).1 : Int), .agg #[.int .i64 (T : Int), .slice A' n c'], .int .i64 0]) ∧ MapIn w' T (fillRun f (best num.toNat (runsN f T)).1 num.toNat) A' n c' ∧ Below w.heap.size w w')
theorem flat_run {f : Nat → Bool} {T b k : Nat} (hf : flat f T) (hk : b + k ≤ T) : flat (fillRun f b k) T := fun i hi => by
  unfold fillRun
  rw [hf i hi, show decide (b ≤ i ∧ i < b + k) = false by rw [decide_eq_false_iff_not]; omega]
  rfl
set_option maxRecDepth 100000 in
set_option maxHeartbeats 4000000 in
theorem extent_any (T : Nat) (f : Nat → Bool) (A : Option Addr) (n c : Nat) (num : Int) (w : World) (h : MapIn w T f A n c) :
    Calls Try.prog 21 #[.agg #[.int .i64 (T : Int), .slice A n c], .int .i64 num] w (Ran w T f n num) := by
  obtain ⟨i0, hi0, hz0, hz1, hz2⟩ := info_parts info_pair
  have hb := (((Below.refl w.heap.size w).alloc (Nat.le_refl _) (.cells #[.int .i64 (T : Int), .slice A n c] 27)).alloc (by simp) (.cells #[.int .i64 0, .slice none 0 0] 27))
  have HB := Lib.hid hb
  have HM := Lib.hid (h.bel hb)
  have BX := Lib.hid ((Bk.new w 27 #[.int .i64 (T : Int), .slice A n c]).alloc (.cells #[.int .i64 0, .slice none 0 0] 27))
  have BR := Lib.hid (show Bk ((w.alloc (.cells #[.int .i64 (T : Int), .slice A n c] 27)).alloc (.cells #[.int .i64 0, .slice none 0 0] 27)) (w.heap.size + 1) 27 #[.int .i64 0, .slice none 0 0] by
    have h1 := Bk.new (w.alloc (.cells #[.int .i64 (T : Int), .slice A n c] 27)) 27 #[.int .i64 0, .slice none 0 0]
    rwa [World.size_alloc] at h1)
  have HZ := Lib.hid (show ((w.alloc (.cells #[.int .i64 (T : Int), .slice A n c] 27)).alloc (.cells #[.int .i64 0, .slice none 0 0] 27)).heap.size = w.heap.size + 2 by simp)
  have HW := Lib.hid h
  clear hb h
  go_enter Try.func21, Try.ntmps21
  go_wp2_with fail
  generalize (w.alloc (.cells #[.int .i64 (T : Int), .slice A n c] 27)).alloc (.cells #[.int .i64 0, .slice none 0 0] 27) = w1 at *
  refine (HM.out.check).mono ?_
  rintro e w2 ⟨rfl, b2⟩
  have B2 := Lib.hid (below_step HB.out b2)
  have M2 := Lib.hid (HM.out.bel b2)
  have X2 := Lib.hid (BX.out.bel b2)
  have R2 := Lib.hid (BR.out.bel b2)
  have Z2 := Lib.hid (show w.heap.size + 2 ≤ w2.heap.size by have := HZ.out; have := b2.size; omega)
  clear b2 HM HZ BX BR HB
  by_cases hnum : num < 1
  · have r0 := R2.out.cell 0
    have r1 := R2.out.cell 1
    have f0 := R2.out.frozen 0
    have f1 := R2.out.frozen 1
    go_wp2_with fail
    exact bodyPost_ret (v := .tuple #[.int .i64 0, .agg #[.int .i64 0, .slice none 0 0], .int .i64 1]) (by simp [results, Try.results21, go_sem, r0, r1]) rfl
      (.inl ⟨hnum, rfl, (B2.out.setCell (p := ⟨w.heap.size + 1, 0, none⟩) (by show w.heap.size ≤ w.heap.size + 1; omega) _).setCell (p := ⟨w.heap.size + 1, 1, none⟩) (by show w.heap.size ≤ w.heap.size + 1; omega) _⟩)
  · obtain ⟨m, rfl⟩ : ∃ m : Nat, num = (m : Int) := ⟨num.toNat, by omega⟩
    have hm1 : 1 ≤ m := by omega
    clear hnum
    have a3 : Below w2.heap.size w2 (w2.alloc (.cells #[.int .i64 0, .int .i64 0] 45)) := (Below.refl _ _).alloc (Nat.le_refl _) _
    have M3 := Lib.hid (M2.out.bel a3)
    have X3 := Lib.hid (X2.out.bel a3)
    have R3 := Lib.hid (R2.out.bel a3)
    have B3 := Lib.hid (below_step B2.out a3)
    have G3 := Lib.hid (Bk.new w2 45 #[.int .i64 0, .int .i64 0])
    have Z3 := Lib.hid (show (w2.alloc (.cells #[.int .i64 0, .int .i64 0] 45)).heap.size = w2.heap.size + 1 by simp)
    have x0 := X3.out.cell 0
    have x1 := X3.out.cell 1
    clear a3
    go_wp2_with fail
    generalize w2.alloc (.cells #[.int .i64 0, .int .i64 0] 45) = w3 at *
    clear X2 R2 B2 M2 x0 x1
    refine (mruns_any T f A n c _ M3.out).mono ?_
    rintro e w4 ⟨v, rfl, o4, b4⟩
    obtain ⟨A4, c4, rfl, hc4⟩ := own_slice o4
    have hok := runsN_ok f T
    have hlen := runsN_length f T
    have hT := M3.out.le
    have O4 := Lib.hid o4
    have M4 := Lib.hid (M3.out.bel b4)
    have X4 := Lib.hid (X3.out.bel b4)
    have R4 := Lib.hid (R3.out.bel b4)
    have G4 := Lib.hid (G3.out.bel b4)
    have B4 := Lib.hid (below_step B3.out b4)
    have Z4 := Lib.hid (show w2.heap.size < w3.heap.size ∧ w3.heap.size ≤ w4.heap.size by have := Z3.out; have := b4.size; omega)
    have HBest := Lib.hid (best_ok m hm1 (runsN f T))
    have HRan := Lib.hid (show ∀ e w', ((best m (runsN f T)).2 = 0 ∧ e = .returned (.tuple #[.int .i64 0, .agg #[.int .i64 0, .slice none 0 0], .int .i64 5]) ∧ Below w.heap.size w w') ∨ ((best m (runsN f T)).2 ≠ 0 ∧ ∃ A' c', e = .returned (.tuple #[.int .i64 ((best m (runsN f T)).1 : Int), .agg #[.int .i64 (T : Int), .slice A' n c'], .int .i64 0]) ∧ MapIn w' T (fillRun f (best m (runsN f T)).1 m) A' n c' ∧ Below w.heap.size w w') → Ran w T f n (m : Int) e w' from fun e w' h => by
      unfold Ran
      rw [Int.toNat_natCast]
      right
      rcases h with ⟨h1, h2⟩ | ⟨h1, h2⟩
      · exact .inl ⟨by omega, h1, h2⟩
      · exact .inr ⟨by omega, h1, h2⟩)
    clear b4 o4 M3 X3 R3 G3 B3
    generalize runsN f T = R at *
    have HOk := Lib.hid hok
    clear hok
    go_wp2_with fail
    go_loopw [26] (fun i wr => ∃ k : Nat, k ≤ R.length ∧ i = .int .i64 k ∧ Bk wr w2.heap.size 45 #[.int .i64 ((best m (R.take k)).1 : Int), .int .i64 ((best m (R.take k)).2 : Int)] ∧ w4.grownBy wr (some w2.heap.size)) (fun i _ => R.length - (intOf i).toNat)
    case atStart => exact ⟨0, by omega, rfl, G4.out, only_refl _ _⟩
    case round =>
      obtain ⟨k, hk, rfl, hbk, hg⟩ := hrel
      by_cases hlt : k < R.length
      · have ho6 := O4.out.kept hg (by right; intro e; have := (O4.out.lt _ e).1; have := Z4.out.1; omega)
        obtain ⟨g, rfl, hg1, hg2, hc0, hc1⟩ := own_pair ho6 k hlt
        obtain ⟨p1, p2, p3⟩ := HOk.out.1 R[k] (List.getElem_mem hlt)
        have hs := best_snoc m (R.take k) R[k]
        rw [← List.take_succ_eq_append_getElem hlt] at hs
        have HS := Lib.hid hs
        have HG := Lib.hid hg
        have HK := Lib.hid hbk
        have g0 := hbk.cell 0
        have g1 := hbk.cell 1
        have gf0 := hbk.frozen 0
        have gf1 := hbk.frozen 1
        have gne : g ≠ w2.heap.size := by have := Z4.out; omega
        have gw := hbk.lt
        clear p3 hs hg hbk
        generalize hq : R[k] = q at *
        clear hq
        generalize best m (R.take k) = b at *
        by_cases h1 : m ≤ q.2
        · have h1' : (m : Int) ≤ ((q.2 : Nat) : Int) := by omega
          by_cases h2 : b.2 = 0
          · have h2' : (((b.2 : Nat) : Int) == 0) = true := by rw [beq_iff_eq]; omega
            have HT := Lib.hid (show best m (R.take (k + 1)) = q by rw [HS.out]; unfold bstep; rw [if_pos ⟨h1, .inl h2⟩])
            clear HS h2
            go_wp2_with fail
            go_roundw
            case rel => exact ⟨k + 1, by omega, by go_num, by rw [HT.out]; exact ((HK.out.put 0 (.int .i64 ((q.1 : Nat) : Int))).put 1 (.int .i64 ((q.2 : Nat) : Int))).alloc _, only_alloc (only_setCell (p := ⟨w2.heap.size, 1, none⟩) (only_setCell (p := ⟨w2.heap.size, 0, none⟩) HG.out (.inl rfl) _) (.inl rfl) _) _⟩
            case measure => simp [intOf]; omega
          · have h2' : (((b.2 : Nat) : Int) == 0) = false := by rw [beq_eq_false_iff_ne]; omega
            by_cases h3 : q.2 < b.2
            · have h3' : ((q.2 : Nat) : Int) < ((b.2 : Nat) : Int) := by omega
              have HT := Lib.hid (show best m (R.take (k + 1)) = q by rw [HS.out]; unfold bstep; rw [if_pos ⟨h1, .inr h3⟩])
              clear HS h2
              go_wp2_with fail
              go_roundw
              case rel => exact ⟨k + 1, by omega, by go_num, by rw [HT.out]; exact ((HK.out.put 0 (.int .i64 ((q.1 : Nat) : Int))).put 1 (.int .i64 ((q.2 : Nat) : Int))).alloc _, only_alloc (only_setCell (p := ⟨w2.heap.size, 1, none⟩) (only_setCell (p := ⟨w2.heap.size, 0, none⟩) HG.out (.inl rfl) _) (.inl rfl) _) _⟩
              case measure => simp [intOf]; omega
            · have h3' : ¬ ((q.2 : Nat) : Int) < ((b.2 : Nat) : Int) := by omega
              have HT := Lib.hid (show best m (R.take (k + 1)) = b by rw [HS.out]; unfold bstep; rw [if_neg (by omega)])
              clear HS h2
              go_wp2_with fail
              go_roundw
              case rel => exact ⟨k + 1, by omega, by go_num, by rw [HT.out]; exact HK.out.alloc _, only_alloc HG.out _⟩
              case measure => simp [intOf]; omega
        · have h1' : ¬ (m : Int) ≤ ((q.2 : Nat) : Int) := by omega
          have HT := Lib.hid (show best m (R.take (k + 1)) = b by rw [HS.out]; unfold bstep; rw [if_neg (by omega)])
          clear HS
          go_wp2_with fail
          go_roundw
          case rel => exact ⟨k + 1, by omega, by go_num, by rw [HT.out]; exact HK.out.alloc _, only_alloc HG.out _⟩
          case measure => simp [intOf]; omega
      · have hkl : k = R.length := by omega
        subst hkl
        rw [List.take_length] at hbk
        have HBO := HBest.out
        have HK := Lib.hid hbk
        have B6 := Lib.hid (show Below w.heap.size w wr from B4.out.trans ⟨hg.os, hg.tape, hg.output, hg.size, fun i hi => hg.block i (Nat.lt_of_lt_of_le hi B4.out.size) (fun e => by have := Z2.out; injection e; omega)⟩)
        have R6 := Lib.hid (only_bk hg R4.out (by have := Z2.out; omega))
        have X6 := Lib.hid (only_bk hg X4.out (by have := Z2.out; omega))
        have g0 := hbk.cell 0
        have g1 := hbk.cell 1
        by_cases hb0 : (best m R).2 = 0
        · have hb1 : ((((best m R).2 : Nat) : Int) == 0) = true := by rw [beq_iff_eq]; omega
          have HR := Lib.hid (HRan.out (.returned (.tuple #[.int .i64 0, .agg #[.int .i64 0, .slice none 0 0], .int .i64 5])) _ (.inl ⟨hb0, rfl, (B6.out.setCell (p := ⟨w.heap.size + 1, 0, none⟩) (by show w.heap.size ≤ w.heap.size + 1; omega) (.int .i64 0)).setCell (p := ⟨w.heap.size + 1, 1, none⟩) (by show w.heap.size ≤ w.heap.size + 1; omega) (.slice none 0 0)⟩))
          have r0 := R6.out.cell 0
          have r1 := R6.out.cell 1
          have f0 := R6.out.frozen 0
          have f1 := R6.out.frozen 1
          clear HBO hb0 hbk hg
          generalize best m R = b at *
          go_wp2_with fail
          exact bodyPost_ret (v := .tuple #[.int .i64 0, .agg #[.int .i64 0, .slice none 0 0], .int .i64 5]) (by simp [results, Try.results21, go_sem, r0, r1]) rfl HR.out
        · obtain ⟨hbm, hbn⟩ := HBO.2 hb0
          obtain ⟨p1, p2, p3⟩ := HOk.out.1 _ hbm
          have hb1 : ((((best m R).2 : Nat) : Int) == 0) = false := by rw [beq_eq_false_iff_ne]; omega
          have M6 := Lib.hid (HW.out.bel B6.out)
          have HR := Lib.hid (fun e w' h => HRan.out e w' (.inr ⟨hb0, h⟩))
          have x0 := X6.out.cell 0
          have x1 := X6.out.cell 1
          clear HBO hb0 hbk hg HRan HBest hbm p3
          generalize best m R = b at *
          go_wp2_with fail
          refine (mclone_any (T : Int) A n c (pk f n) (pk_length f n).symm (by have := M6.out.len; have := M6.out.le; omega) _ M6.out.seg).mono ?_
          rintro e w7 ⟨A7, c7, rfl, hc7, o7, b7⟩
          have O7 := Lib.hid o7
          have B7 := Lib.hid (below_step B6.out b7)
          have R7 := Lib.hid (R6.out.bel b7)
          have K7 := Lib.hid (HK.out.bel b7)
          have Z7 := Lib.hid (show w2.heap.size < wr.heap.size ∧ wr.heap.size ≤ w7.heap.size from ⟨HK.out.lt, b7.size⟩)
          have ML := Lib.hid M6.out.len
          have MF := Lib.hid M6.out.flat
          clear b7 o7 x0 x1 g0 g1 M6 B6 X6 R6 HK HW
          go_wp2_with fail
          have XN' := Bk.new w7 27 #[.int .i64 (T : Int), .slice A7 n c7]
          have HS8 := Lib.hid (show (w7.alloc (.cells #[.int .i64 (T : Int), .slice A7 n c7] 27)).heap.size = w7.heap.size + 1 by simp)
          have O8' := O7.out.alloc (.cells #[.int .i64 (T : Int), .slice A7 n c7] 27)
          have B8 := Lib.hid (B7.out.alloc B7.out.size (.cells #[.int .i64 (T : Int), .slice A7 n c7] 27))
          have R8 := Lib.hid (R7.out.alloc (.cells #[.int .i64 (T : Int), .slice A7 n c7] 27))
          have K8 := Lib.hid (K7.out.alloc (.cells #[.int .i64 (T : Int), .slice A7 n c7] 27))
          generalize w7.alloc (.cells #[.int .i64 (T : Int), .slice A7 n c7] 27) = w8 at *
          have O8 := Lib.hid O8'
          have XN := Lib.hid XN'
          have hn0 : 0 < n := by rw [ML.out]; omega
          obtain ⟨g, rfl, hg1, hg2⟩ := own_at O7.out hn0
          clear O8' XN' O7 R7 B7 K7
          go_loopw [55] (fun i wq => ∃ k : Nat, k ≤ m ∧ i = .int .i64 k ∧ wq.ownsRow wr.heap.size 5 1 (.slice (some ⟨g, 0, none⟩) n c7) n (u8s (pk (fillRun f b.1 k) n)) ∧ w8.grownBy wq (some g)) (fun i _ => m - (intOf i).toNat)
          case atStart => exact ⟨0, by omega, rfl, by rw [fillRun_zero]; exact O8.out, only_refl _ _⟩
          case round =>
            obtain ⟨k, hk, rfl, ho, hg⟩ := hrel
            have K9 := Lib.hid (only_bk hg K8.out (by have := Z7.out; omega))
            have XA9 := Lib.hid (only_bk hg XN.out (by omega))
            have g0 := K9.out.cell 0
            have y0 := XA9.out.cell 0
            have y1 := XA9.out.cell 1
            by_cases hlt : k < m
            · have hk8 : b.1 + k < 8 * n := by rw [ML.out]; omega
              have hn3 : n ≤ 1000000 := by rw [ML.out]; omega
              have HS := Lib.hid (fillRun_succ f b.1 k)
              have HO := Lib.hid ho
              have HG := Lib.hid hg
              have hbk : ((b.1 : Nat) : Int) ≤ 2048 := by omega
              clear ho hg
              go_wp2_with fail
              refine (use_any (T : Int) g n c7 (b.1 + k) _ (fillRun f b.1 k) hk8 hn3 _ HO.out).mono ?_
              rintro e w10 ⟨rfl, o10, b10⟩
              have Q2 := Lib.hid o10
              have G3 := Lib.hid (only_then HG.out b10)
              clear b10 o10 g0 y0 y1
              go_wp2_with fail
              go_roundw
              case rel => exact ⟨k + 1, by omega, by go_num, by rw [← HS.out]; exact Q2.out, G3.out⟩
              case measure => simp [intOf]; omega
            · obtain rfl : k = m := by omega
              have R9 := Lib.hid (only_bk hg R8.out (by have := Z7.out; have := Z2.out; omega))
              have B9 := Lib.hid (show Below w.heap.size w _ from B8.out.trans (only_below hg B8.out.size (by have := Z7.out; have := Z2.out; omega)))
              have M9 := Lib.hid (show MapIn _ T (fillRun f b.1 k) (some ⟨g, 0, none⟩) n c7 from ⟨hT, ML.out, flat_run MF.out (by omega), Seg.of_own ho, hc7⟩)
              have HFA := Lib.hid (show ∀ a, (some ⟨g, 0, none⟩ : Option Addr) = some a → w.heap.size + 1 < a.block from fun a ha => by cases ha; show w.heap.size + 1 < g; have := Z7.out; have := Z2.out; omega)
              have r0 := R9.out.cell 0
              have r1 := R9.out.cell 1
              have f0 := R9.out.frozen 0
              have f1 := R9.out.frozen 1
              clear ho hg
              go_wp2_with fail
              go_region
              all_goals
                go_wp2_with fail
                exact bodyPost_ret (v := .tuple #[.int .i64 ((b.1 : Nat) : Int), .agg #[.int .i64 (T : Int), .slice (some ⟨g, 0, none⟩) n c7], .int .i64 0]) (by simp [results, Try.results21, go_sem, r0, r1]) rfl
                  (HR.out _ _ ⟨some ⟨g, 0, none⟩, c7, rfl, (M9.out.drew.far HFA.out 0 _).far HFA.out 1 _, (B9.out.drew.setCell (p := ⟨w.heap.size + 1, 0, none⟩) (by show w.heap.size ≤ w.heap.size + 1; omega) _).setCell (p := ⟨w.heap.size + 1, 1, none⟩) (by show w.heap.size ≤ w.heap.size + 1; omega) _⟩)
end Go.Proofs.Ytpkajmgfechhhaa
