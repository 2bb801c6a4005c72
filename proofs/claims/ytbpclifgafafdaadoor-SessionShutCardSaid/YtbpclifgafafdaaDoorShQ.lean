/- An event put into a feed. Condition: the feed lies in memory. -/
import Derived.Test.YtbpclifgafafdaaDoorShP
namespace Go.Proofs.YtbpclifgafafdaaDoor
open Go.RowKit Go.Shelf

set_option maxRecDepth 100000 in
set_option maxHeartbeats 1000000 in
/-- A closed feed takes nothing. -/
theorem push_shut (B q : Nat) (ps ch : Int) (s : ByteArray) (w : World) (h : Fd B q (.slice none 0 0) 0 [] true w) :
    Calls Tryd.prog 13 #[.pointer (some ⟨q, 0, none⟩), .agg #[.int .i64 ps, .int .i64 ch, .string s]] w fun e w' => e = .returned (.tuple #[]) ∧ Fd B q (.slice none 0 0) 0 [] true w' ∧ Below B w w' := by
  have ba := (Below.refl w.heap.size w).alloc (Nat.le_refl _) (.cells #[.int .i64 ps, .int .i64 ch, .string s] 38)
  have h1 := h.bel ba
  have HB := Lib.hid (ba.mono h.big)
  have c2 := fd2 h1.bk
  have c3 := fd3 h1.bk
  have H1 := Lib.hid h1
  have HE : Hid (w.alloc (.cells #[.int .i64 ps, .int .i64 ch, .string s] 38) = w.alloc (.cells #[.int .i64 ps, .int .i64 ch, .string s] 38)) := Lib.hid rfl
  clear h h1 ba
  go_enter Tryd.func13, Tryd.ntmps13
  go_wp2_with fail
  refine bodyPost_ret (results_none rfl _ _ _) rfl ?_
  exact ⟨rfl, H1.out, HB.out⟩
set_option maxRecDepth 100000 in
set_option maxHeartbeats 1000000 in
/-- A full feed is closed. -/
theorem push_full (B q n : Nat) (K : Value) (xs : List Value) (hn : 16 ≤ n) (hn2 : n ≤ 100) (ps ch : Int) (s : ByteArray) (w : World) (h : Fd B q K n xs false w) :
    Calls Tryd.prog 13 #[.pointer (some ⟨q, 0, none⟩), .agg #[.int .i64 ps, .int .i64 ch, .string s]] w fun e w' => e = .returned (.tuple #[]) ∧ Fd B q (.slice none 0 0) 0 [] true w' ∧ Below B w w' := by
  have ba := (Below.refl w.heap.size w).alloc (Nat.le_refl _) (.cells #[.int .i64 ps, .int .i64 ch, .string s] 38)
  have h1 := h.bel ba
  have HB := Lib.hid (ba.mono h.big)
  obtain ⟨A, c, rfl, hnc, _, _⟩ := rowz_shape h.own
  have c2 := fd2 h1.bk
  have c3 := fd3 h1.bk
  have f2 := h1.bk.frozen 2
  have f3 := h1.bk.frozen 3
  have b2 := h1.bk.put 2 (.slice none 0 0)
  have d3 : ((w.alloc (.cells #[.int .i64 ps, .int .i64 ch, .string s] 38)).setCell ⟨q, 2, none⟩ (.slice none 0 0)).cell? ⟨q, 3, none⟩ = some (.bool false) := b2.cell 3
  have g3 := b2.frozen 3
  have b3 := b2.put 3 (.bool true)
  have e3 : (((w.alloc (.cells #[.int .i64 ps, .int .i64 ch, .string s] 38)).setCell ⟨q, 2, none⟩ (.slice none 0 0)).setCell ⟨q, 3, none⟩ (.bool true)).cell? ⟨q, 3, none⟩ = some (.bool true) := b3.cell 3
  have i1 : (16 : Int) ≤ (n : Int) := by omega
  have HF := Lib.hid (show Fd B q (.slice none 0 0) 0 [] true (((w.alloc (.cells #[.int .i64 ps, .int .i64 ch, .string s] 38)).setCell ⟨q, 2, none⟩ (.slice none 0 0)).setCell ⟨q, 3, none⟩ (.bool true)) from ⟨b3, ⟨rfl, Or.inl ⟨rfl, rfl⟩⟩, h.lo⟩)
  have HB2 := Lib.hid (show Below B w (((w.alloc (.cells #[.int .i64 ps, .int .i64 ch, .string s] 38)).setCell ⟨q, 2, none⟩ (.slice none 0 0)).setCell ⟨q, 3, none⟩ (.bool true)) from (HB.out.setCell (p := ⟨q, 2, none⟩) h.lo _).setCell (p := ⟨q, 3, none⟩) h.lo _)
  clear h h1 ba b2 b3 hnc
  go_enter Tryd.func13, Tryd.ntmps13
  go_wp2_with fail
  refine bodyPost_ret (results_none rfl _ _ _) rfl ?_
  exact ⟨rfl, HF.out, HB2.out⟩
set_option maxRecDepth 100000 in
set_option maxHeartbeats 4000000 in
/-- A feed with room takes the event. -/
theorem push_room (B q n : Nat) (K : Value) (xs : List Value) (hn : n < 16) (ps ch : Int) (s : ByteArray) (hs : s.size ≤ 281474976710656) (w : World) (h : Fd B q K n xs false w) :
    Calls Tryd.prog 13 #[.pointer (some ⟨q, 0, none⟩), .agg #[.int .i64 ps, .int .i64 ch, .string s]] w fun e w' => e = .returned (.tuple #[]) ∧ (∃ K', Fd B q K' (n + 1) (xs ++ [.int .i64 ps, .int .i64 ch, .string s]) false w') ∧ Below B w w' := by
  have ba := (Below.refl w.heap.size w).alloc (Nat.le_refl _) (.cells #[.int .i64 ps, .int .i64 ch, .string s] 38)
  have h1 := h.bel ba
  obtain ⟨A, c, hKe, hnc, _, _⟩ := rowz_shape h.own
  have HQ : Hid (q < w.heap.size) := Lib.hid h.bk.lt
  have HLO := Lib.hid h.lo
  have HKL : Hid (∀ b, K.ownBlock = some b → B ≤ b ∧ b < w.heap.size) := Lib.hid (fun b e => h.own.lt b e)
  have HX := Lib.hid (Bk.new w 38 #[.int .i64 ps, .int .i64 ch, .string s])
  have c2 : (w.alloc (.cells #[.int .i64 ps, .int .i64 ch, .string s] 38)).cell? ⟨q, 2, none⟩ = some (.slice A n c) := by rw [← hKe]; exact fd2 h1.bk
  have c3 := fd3 h1.bk
  have y2 : (w.alloc (.cells #[.int .i64 ps, .int .i64 ch, .string s] 38)).cell? ⟨w.heap.size, 2, none⟩ = some (.string s) := HX.out.cell 2
  have H1 := Lib.hid h1
  have HBA := Lib.hid ba
  have hlt : ¬ (16 : Int) ≤ (n : Int) := by omega
  have HNC := Lib.hid hnc
  have HS := Lib.hid hs
  have HK := Lib.hid hKe
  obtain ⟨j0, hj0, hj1, hj2, hj3⟩ := info_parts info_ev
  clear h h1 ba hnc hs hKe
  go_enter Tryd.func13, Tryd.ntmps13
  go_wp2_with fail
  refine (sclone_any s HS.out _).mono ?_
  rintro e wc ⟨rfl, bc⟩
  have F1 := H1.out.bel bc
  have X1 := HX.out.bel bc
  have B1 := HBA.out.trans (bc.mono (by simp))
  have d2 : wc.cell? ⟨w.heap.size, 2, none⟩ = some (.string s) := X1.cell 2
  have z2 := X1.frozen 2
  have HF1 := Lib.hid F1
  have HX1 := Lib.hid X1
  have HB1 := Lib.hid B1
  clear F1 X1 B1 bc c2 c3 y2
  go_wp2_with fail
  have HX2 := Lib.hid (show Bk (wc.setCell ⟨w.heap.size, 2, none⟩ (.string s)) w.heap.size 38 #[.int .i64 ps, .int .i64 ch, .string s] from HX1.out.put 2 (.string s))
  have HF2 := Lib.hid (show Fd B q K n xs false (wc.setCell ⟨w.heap.size, 2, none⟩ (.string s)) from ⟨bk_kept HF1.out.bk (by have := HQ.out; omega) (Kept1.set wc w.heap.size 2 _), rowz_kept HF1.out.own (Kept1.set wc w.heap.size 2 _) (fun e => absurd (HKL.out _ e).2 (Nat.lt_irrefl _)), HF1.out.lo⟩)
  have HB2 := Lib.hid (show Below B w (wc.setCell ⟨w.heap.size, 2, none⟩ (.string s)) from (HB1.out.mono (Nat.le_trans HLO.out (Nat.le_of_lt HQ.out))).setCell (p := ⟨w.heap.size, 2, none⟩) (Nat.le_trans HLO.out (Nat.le_of_lt HQ.out)) _)
  have HSZ : Hid (w.heap.size < (wc.setCell ⟨w.heap.size, 2, none⟩ (.string s)).heap.size) := Lib.hid HX2.out.lt
  clear d2 z2 HF1 HX1 HB1
  generalize wc.setCell ⟨w.heap.size, 2, none⟩ (.string s) = wr at *
  obtain ⟨w0, hw0⟩ : ∃ w0, w0 = w := ⟨_, rfl⟩
  have G0 := Lib.hid (show EvG B q w.heap.size w0 #[.int .i64 ps, .int .i64 ch, .string s] (Value.ownBlock K) wr.drew from ⟨by rw [hw0]; exact HB2.out.drew, HX2.out.drew, fun b e => ⟨(HKL.out b e).1, Nat.lt_trans (HKL.out b e).2 HSZ.out⟩, fun e => absurd (HKL.out _ e).2 (Nat.lt_irrefl _), Nat.lt_trans HQ.out HSZ.out, HLO.out, by have := HQ.out; omega⟩)
  have HW0 := Lib.hid hw0
  clear hw0
  have H0 := Lib.hid (show ∀ m, m < 11 → evH B q K n xs m wr.drew from fun m _ => by
    unfold evH
    split
    · exact own_belS HF2.out.own (Below.refl _ _).drew
    · exact HF2.out.bk.drew
    · trivial)
  clear HF2 HX2 HB2 HSZ H1 HX HBA
  refine wp_region_late [some 24, some 25, some 26, some 27, some 28, some 29, some 30, some 31, some 32, some 33, none] (fun _ => 0) (evF B q w.heap.size ps ch s K n xs) (EvG B q w.heap.size w0 #[.int .i64 ps, .int .i64 ch, .string s] (Value.ownBlock K)) (evH B q K n xs) (by kernel_rfl) G0.out H0.out rfl (by kernel_rfl) (by kernel_rfl) (by kernel_rfl) (by kernel_rfl) (fun T hT => ?_)
  simp only [List.filterMap_cons, List.filterMap_nil, id, putsS, Act.put, List.setIfInBounds_toArray, List.set_cons_zero, List.set_cons_succ] at hT
  subst hT
  refine ⟨⟨?_, ?_, ?_, ?_, ?_, ?_, ?_, ?_, ?_, ?_, ?_, trivial⟩, ?_⟩
  · -- 0
    intro f w1 hG hO hL hF K0 hK
    clear hF hO hL
    dsimp only at hK ⊢
    go_simp
    exact hK.out _ _ hG rfl (fun _ _ _ h => h) (fun _ _ h => h)
  · -- 1
    intro f w1 hG hO hL hF K0 hK
    clear hF hO hL
    dsimp only at hK ⊢
    go_simp
    exact hK.out _ _ hG rfl (fun _ _ _ h => h) (fun _ _ h => h)
  · -- 2
    intro f w1 hG hO hL hF K0 hK
    have d1 : (evF B q w.heap.size ps ch s K n xs) 1 (f 25) (f 0) w1 := hF 1 (by kernel_rfl)
    clear hF hO hL
    dsimp only at hK ⊢
    generalize hf25 : f 25 = v25 at *
    subst d1
    go_simp
    exact hK.out _ _ hG rfl (fun _ _ _ h => h) (fun _ _ h => h)
  · -- 3
    intro f w1 hG hO hL hF K0 hK
    have d2 : (evF B q w.heap.size ps ch s K n xs) 2 (f 26) (f 0) w1 := hF 2 (by kernel_rfl)
    clear hF hO hL
    dsimp only at hK ⊢
    generalize hf26 : f 26 = v26 at *
    subst d2
    go_simp
    exact hK.out _ _ hG rfl (fun _ _ _ h => h) (fun _ _ h => h)
  · -- 4
    intro f w1 hG hO hL hF K0 hK
    have l10 : (evH B q K n xs) 10 w1 := hL 10 (Nat.le_of_ble_eq_true (by kernel_rfl)) (by kernel_rfl)
    have d3 : (evF B q w.heap.size ps ch s K n xs) 3 (f 27) (f 0) w1 := hF 3 (by kernel_rfl)
    clear hF hO hL
    dsimp only at hK ⊢
    generalize hf27 : f 27 = v27 at *
    subst d3
    have y : w1.cell? ⟨q, 2, none⟩ = some K := Bk.cell l10 2
    clear l10
    go_simp
    exact hK.out _ _ hG rfl (fun _ _ _ h => h) (fun _ _ h => h)
  · -- 5
    intro f w1 hG hO hL hF K0 hK
    clear hF hO hL
    dsimp only at hK ⊢
    have y0 : w1.cell? ⟨w.heap.size, 0, none⟩ = some (.int .i64 ps) := hG.e.cell 0
    have y1 : w1.cell? ⟨w.heap.size, 1, none⟩ = some (.int .i64 ch) := hG.e.cell 1
    have y2 : w1.cell? ⟨w.heap.size, 2, none⟩ = some (.string s) := hG.e.cell 2
    go_simp
    exact hK.out _ _ hG rfl (fun _ _ _ h => h) (fun _ _ h => h)
  · -- 6
    intro f w1 hG hO hL hF K0 hK
    have d5 : (evF B q w.heap.size ps ch s K n xs) 5 (f 29) (f 0) w1 := hF 5 (by kernel_rfl)
    clear hF hO hL
    dsimp only at hK ⊢
    generalize hf29 : f 29 = v29 at *
    subst d5
    go_simp
    exact hK.out _ _ (hG.next ((Below.refl _ _).alloc (Nat.le_refl _) _)) ⟨w1.heap.size, rfl, hG.big, (by have := hG.lt; omega), (fun e => absurd (hG.kl _ e).2 (Nat.lt_irrefl _)), Bk.new w1 _ _⟩ (fun j _ _ h => evF_bel ((Below.refl _ _).alloc (Nat.le_refl _) _) j _ _ h) (fun m _ h => evH_bel ((Below.refl _ _).alloc (Nat.le_refl _) _) m h)
  · -- 7
    intro f w1 hG hO hL hF K0 hK
    have l7 : (evH B q K n xs) 7 w1 := hL 7 (Nat.le_of_ble_eq_true (by kernel_rfl)) (by kernel_rfl)
    have l10 : (evH B q K n xs) 10 w1 := hL 10 (Nat.le_of_ble_eq_true (by kernel_rfl)) (by kernel_rfl)
    have d4 : (evF B q w.heap.size ps ch s K n xs) 4 (f 28) (f 0) w1 := hF 4 (by kernel_rfl)
    have d6 : (evF B q w.heap.size ps ch s K n xs) 6 (f 30) (f 0) w1 := hF 6 (by kernel_rfl)
    clear hF hO hL
    dsimp only at hK ⊢
    generalize hf28 : f 28 = v28 at *
    generalize hf30 : f 30 = v30 at *
    have d4 : v28 = K := d4
    subst d4
    obtain ⟨g, rfl, h0, h1, h2, h3⟩ := d6
    have hcb : ∀ j u, [.int .i64 ps, .int .i64 ch, .string s][j]? = some u → w1.cell? ((⟨g, 0, none⟩ : Addr).add j) = some u := fun j u hu => by
      rw [show ((⟨g, 0, none⟩ : Addr).add j) = ⟨g, j, none⟩ by unfold Addr.add; split <;> simp_all, h3.cell j]; simpa using hu
    obtain ⟨v', w2', hrun, hown, hgr, _, hat⟩ := run_append_own_at (P := Tryd.prog) (w := w1) B 39 39 38 j0 _ 3 32 Tryd.underlying39 hj0 hj1 hj2 hj3 rfl (by decide) v28 n xs l7 ⟨g, 0, none⟩ 1 1 [.int .i64 ps, .int .i64 ch, .string s] rfl hcb (by intro u hu; simp only [List.mem_cons, List.not_mem_nil, or_false] at hu; rcases hu with rfl | rfl | rfl <;> rfl) (by simp only [maxLen]; omega) (by omega) hG.big
    have nk3 : Value.ownBlock v28 ≠ some q := rowz_tyne l7 l10 (by decide)
    refine Lib.wp_append_run w1 _ _ _ _ rfl _ _ rfl rfl _ w2' hrun (hK.out v' w2' (hG.app hgr) hown ?_ (fun m hm h => evH_app hgr nk3 m hm h))
    intro j hj hdep h
    by_cases h7 : j = 10
    · subst h7
      exact absurd hdep (by rw [show depS _ 10 7 = true by kernel_rfl]; decide)
    · exact evF_app rfl hgr j hj h7 _ _ h
  · -- 8
    intro f w1 hG hO hL hF K0 hK
    have d0 : (evF B q w.heap.size ps ch s K n xs) 0 (f 24) (f 0) w1 := hF 0 (by kernel_rfl)
    clear hF hO hL
    dsimp only at hK ⊢
    generalize hf24 : f 24 = v24 at *
    subst d0
    go_simp
    exact hK.out _ _ hG rfl (fun _ _ _ h => h) (fun _ _ h => h)
  · -- 9
    intro f w1 hG hO hL hF K0 hK
    have d8 : (evF B q w.heap.size ps ch s K n xs) 8 (f 32) (f 0) w1 := hF 8 (by kernel_rfl)
    clear hF hO hL
    dsimp only at hK ⊢
    generalize hf32 : f 32 = v32 at *
    subst d8
    go_simp
    exact hK.out _ _ hG rfl (fun _ _ _ h => h) (fun _ _ h => h)
  · -- 10
    intro f w1 hG hO hL hF K0 hK
    have l10 : (evH B q K n xs) 10 w1 := hL 10 (Nat.le_of_ble_eq_true (by kernel_rfl)) (by kernel_rfl)
    have d9 : (evF B q w.heap.size ps ch s K n xs) 9 (f 33) (f 0) w1 := hF 9 (by kernel_rfl)
    have d7 : (evF B q w.heap.size ps ch s K n xs) 7 (f 31) (f 0) w1 := hF 7 (by kernel_rfl)
    clear hF hO hL
    dsimp only at hK ⊢
    generalize hf33 : f 33 = v33 at *
    generalize hf31 : f 31 = v31 at *
    subst d9
    have hd5 : w1.ownsRow B 38 3 v31 (n + 1) (xs ++ [.int .i64 ps, .int .i64 ch, .string s]) := d7
    clear d7
    obtain ⟨A5, c5, rfl, _, _, _⟩ := rowz_shape hd5
    have hl7 : Bk w1 q 50 (fdC K false) := l10
    have y0 : w1.cell? ⟨q, 2, none⟩ = some K := Bk.cell hl7 2
    have f0 := Bk.frozen hl7 2
    have HD5 := Lib.hid hd5
    have HL7 := Lib.hid hl7
    have HG := Lib.hid hG
    clear hd5 hl7 l10 hG
    go_simp
    refine hK.out undef _ (HG.out.set 2 (.slice A5 (n + 1) c5)) ⟨_, HL7.out.put 2 (.slice A5 (n + 1) c5), rowz_kept HD5.out (Kept1.set w1 q 2 _) (rowz_tyne HD5.out HL7.out (by decide))⟩ (fun j hj _ h => evF_set HL7.out 2 _ j hj _ _ h) (fun m hm h => evH_set HL7.out 2 _ m hm h)
  intro f w6 hG hF
  obtain ⟨V', g1, g2'⟩ : (evF B q w.heap.size ps ch s K n xs) 10 undef undef w6 := hF 10 (by decide)
  have HG := Lib.hid hG
  have HV1 := Lib.hid g1
  have HV2 := Lib.hid g2'
  clear hF hG g1 g2'
  dsimp only
  generalize f 24 = v24
  generalize f 25 = v25
  generalize f 26 = v26
  generalize f 27 = v27
  generalize f 28 = v28
  generalize f 29 = v29
  generalize f 30 = v30
  generalize f 31 = v31
  generalize f 32 = v32
  generalize f 33 = v33
  go_wp2_with fail
  go_end0
  exact ⟨rfl, ⟨V', HV1.out, HV2.out, HLO.out⟩, by have := HG.out.bel; rw [HW0.out] at this; exact this⟩
end Go.Proofs.YtbpclifgafafdaaDoor
