/- The pager's pin: one that is not at hand, and another goes out. Condition: as GPin. -/
import Derived.Test.YtopkkolcimmedaaGB
namespace Go.Proofs.Ytopkkolcimmedaa
open Go.RowKit

set_option maxRecDepth 100000 in
set_option maxHeartbeats 8000000 in
theorem pin_free (B gp : Nat) (room : Int) (l : List HeldM) (v : Value) (w : World) (h : PgA B gp room l v w) (hl : l.length ≤ 1000000) (page : Int) (i : Nat) (hi : i < l.length) (hz : findZ (isP page) l = -1) (hr : room ≤ (l.length : Int)) (hy : findZ isF l = (i : Int)) (qa : Int) (qb : Nat) (qc : Bool) (hs : l[i] = ⟨qa, qb, qc⟩) (ws : List Int) (hws : ws = if qc = true then [qa] else []) :
    Calls Try.prog 25 #[.pointer (some ⟨gp, 0, none⟩), .int .i64 page] w (DoP B gp room v w (l.eraseIdx i ++ [⟨page, 1, false⟩], ⟨0, false, qa, ws⟩)) := by
  obtain ⟨i0, hi0, hz0, hz1, hz2⟩ := info_parts info_held
  have HWS := Lib.hid hws
  clear hws
  have hl := hl
  have al : Below w.heap.size w (((w.alloc (.cells #[.int .i64 0, .bool false, .int .i64 0, .slice none 0 0] 40)).alloc (.cells #[.int .i64 0, .bool false, .int .i64 (-1), .slice none 0 0] 40)).alloc (.cells #[.int .i64 page, .int .i64 0, .bool false] 82)) := (((Below.refl _ _).alloc (Nat.le_refl _) _).alloc (by simp) _).alloc (by simp; omega) _
  obtain ⟨W3, hW3⟩ : ∃ W3, W3 = ((w.alloc (.cells #[.int .i64 0, .bool false, .int .i64 0, .slice none 0 0] 40)).alloc (.cells #[.int .i64 0, .bool false, .int .i64 (-1), .slice none 0 0] 40)).alloc (.cells #[.int .i64 page, .int .i64 0, .bool false] 82) := ⟨_, rfl⟩
  rw [← hW3] at al
  have HS3 := Lib.hid (show PnS B gp room l v v ⟨page, 0, false⟩ false (-1) (.slice none 0 0) [] w W3 by
    refine ⟨h.bel al, Kp.of_bel al _, ?_, ?_, ?_, World.ownsRow_nil _ _ _ _, h.bk.lt, fun k hk => ?_, h.base⟩
    · rw [hW3]; exact ((Bk.new w _ _).alloc _).alloc _
    · rw [hW3]
      have k1 := Bk.new (w.alloc (.cells #[.int .i64 0, .bool false, .int .i64 0, .slice none 0 0] 40)) 40 #[.int .i64 0, .bool false, .int .i64 (-1), .slice none 0 0]
      rw [World.size_alloc] at k1
      exact k1.alloc _
    · rw [hW3]
      have k2 := Bk.new ((w.alloc (.cells #[.int .i64 0, .bool false, .int .i64 0, .slice none 0 0] 40)).alloc (.cells #[.int .i64 0, .bool false, .int .i64 (-1), .slice none 0 0] 40)) 82 #[.int .i64 page, .int .i64 0, .bool false]
      rw [World.size_alloc, World.size_alloc] at k2
      exact k2
    · rcases own_shapeH h.row with ⟨h1, _⟩ | ⟨g, cap, h1, h2, h3, _⟩
      · rw [h1] at hk; cases hk
      · rw [h1] at hk
        have : g = k := by simpa [Value.ownBlock] using hk
        subst this
        exact h3)
  have HW3 := Lib.hid hW3
  have CF0 := gfind_any B gp room l v W3 HS3.out.pg (by omega) page
  have CF1 : Calls Try.prog 41 #[.pointer (some ⟨gp, 0, none⟩), .int .i64 page] W3 fun e w' => e = .returned (.int .i64 (findZ (isP page) l)) ∧ Below W3.heap.size W3 w' := CF0
  rw [hz] at CF1
  have CF := Lib.hid CF1
  clear h al hW3 CF0 CF1
  go_enter Try.func25, Try.ntmps25
  go_upto_region 3 with fail
  rw [← HW3.out]
  go_wp2_with fail
  refine CF.out.mono ?_
  rintro e w1 ⟨rfl, b1⟩
  have HS1 := Lib.hid (HS3.out.bel b1)
  clear b1 HS3 HW3 CF
  have y1 := HS1.out.pg.bk.cell 1
  have y0 := HS1.out.pg.bk.cell 0
  have hr1 : decide (room ≤ (l.length : Int)) = true := decide_eq_true hr
  rcases own_shapeH HS1.out.pg.row with ⟨_, h2⟩ | ⟨g, cap, h1, _⟩
  · have h3 := congrArg List.length h2
    simp only [List.length_nil] at h3
    omega
  subst h1
  go_wp2_with fail
  go_quiet (fail)
  have HS := Lib.hid (HS1.out.bel (below_drewN (Below.refl _ w1) nq))
  obtain ⟨wq, hwq⟩ : ∃ wq, wq = w1.drewN nq := ⟨_, rfl⟩
  rw [← hwq] at HS ⊢
  clear hwq y0 y1 HS1
  have y1 := HS.out.pg.bk.cell 1
  have CI1 := index_any 44 #[] isF (enters_of Try.func44 (by kernel_rfl) rfl) B l.length _ l wq HS.out.pg.row (by omega) (fun W x hb => (isFree_any x W).mono (fun e w' h => ⟨h.1, hb.trans (h.2.mono hb.size)⟩))
  rw [hy] at CI1
  have CI := Lib.hid CI1
  clear CI1
  go_wp2_with fail
  refine CI.out.mono ?_
  rintro e w5 ⟨rfl, b5⟩
  have HS5 := Lib.hid (HS.out.bel b5)
  clear b5 HS CI y1
  have i1 : ¬ (i : Int) < 0 := by omega
  have i2 : decide ((i : Int) < 0) = false := decide_eq_false i1
  have CR := Lib.hid (remove_any B gp room l _ w5 HS5.out.pg i hi hl)
  rw [hs] at CR
  dsimp only at CR
  clear hs
  go_wp2_with fail
  refine CR.out.mono ?_
  rintro e w6 ⟨rfl, v', hp, hk, hbk⟩
  have HS6 := Lib.hid (HS5.out.turn hp hk hbk rfl)
  obtain ⟨w7, hw7⟩ : ∃ w7, w7 = w6.alloc (.cells #[.int .i64 qa, .int .i64 (qb : Int), .bool qc] 82) := ⟨_, rfl⟩
  have HS7 := Lib.hid (show PnS B gp room (l.eraseIdx i) _ v' ⟨page, 0, false⟩ false (-1) (.slice none 0 0) [] w w7 by rw [hw7]; exact HS6.out.bel ((Below.refl _ _).alloc (Nat.le_refl _) _))
  have HX := Lib.hid (show Bk w7 w6.heap.size 82 #[.int .i64 qa, .int .i64 (qb : Int), .bool qc] by rw [hw7]; exact Bk.new w6 _ _)
  have hsz : w.heap.size + 3 ≤ w6.heap.size := by have := HS6.out.hb.lt; omega
  have HW7 := Lib.hid hw7
  clear hp hk hbk hw7 HS6 HS5 CR
  go_upto_region 12 with fail
  rw [← HW7.out]
  have q0 := HX.out.cell 0
  have q2 := HX.out.cell 2
  have a2 := HS7.out.act.cell 2
  have af := HS7.out.act.frozen 2
  obtain ⟨w8, hw8⟩ : ∃ w8, w8 = w7.setCell ⟨w.heap.size + 1, 2, none⟩ (.int .i64 qa) := ⟨_, rfl⟩
  have HS8 := Lib.hid (show PnS B gp room (l.eraseIdx i) _ v' ⟨page, 0, false⟩ false qa (.slice none 0 0) [] w w8 by rw [hw8]; exact HS7.out.act2 2 (.int .i64 qa) rfl (World.ownsRow_nil _ _ _ _))
  have HX8 := Lib.hid (show Bk w8 w6.heap.size 82 #[.int .i64 qa, .int .i64 (qb : Int), .bool qc] by rw [hw8]; exact bk_set2 HX.out (by omega))
  have HW8 := Lib.hid hw8
  clear hw8 HS7 HX
  go_upto_region 13 with fail
  rw [← HW8.out]
  clear q0 q2 a2 af HW7 HW8
  have q0 := HX8.out.cell 0
  have q2 := HX8.out.cell 2
  have hl : (l.eraseIdx i).length ≤ 1000000 := by rw [List.length_eraseIdx]; split <;> omega
  obtain ⟨l3, hl3⟩ : ∃ l3, l3 = l.eraseIdx i := ⟨_, rfl⟩
  rw [← hl3] at HS8 hl
  have HL3 := Lib.hid hl3
  clear hl3 hi
  obtain ⟨pa, hpa⟩ : ∃ x, x = page := ⟨_, rfl⟩
  obtain ⟨pb, hpb⟩ : ∃ x : Nat, x = 0 := ⟨_, rfl⟩
  have HPN := Lib.hid (show pb ≤ 4611686018427387904 by omega)
  cases qc
  · have HS := Lib.hid (show PnS B gp room l3 (.slice (some ⟨g, 0, none⟩) l.length cap) v' ⟨pa, pb, false⟩ false qa (.slice none 0 0) [] w w8 by rw [hpa, hpb]; exact HS8.out)
    have HR := Lib.hid (show (l3 ++ [(⟨pa, pb + 1, false⟩ : HeldM)], (⟨0, false, qa, []⟩ : ActM)) = (l.eraseIdx i ++ [⟨page, 1, false⟩], ⟨0, false, qa, ws⟩) by rw [hpa, hpb, HL3.out, HWS.out]; rfl)
    clear hpa hpb
    obtain ⟨wr, hwr⟩ : ∃ wr, wr = w8 := ⟨_, rfl⟩
    rw [← hwr] at HS q0 q2 ⊢
    clear hwr HS8 HX8
    rcases own_shapeH HS.out.pg.row with ⟨h1, h2⟩ | ⟨g9, cap9, h1, h2⟩
    all_goals subst h1
    all_goals clear h2
    · have HP := Lib.hid HS.out.pg
      have hh0 := HS.out.hb.cell 0
      have hh1 := HS.out.hb.cell 1
      have hh2 := HS.out.hb.cell 2
      have hf1 := HS.out.hb.frozen 1
      have pw : IntKind.i64.wrap ((pb : Int) + 1) = (pb : Int) + 1 := by rw [IntKind.wrap_i64]; have := HPN.out; omega
      have pw2 : wrap64 ((pb : Int) + 1) = (pb : Int) + 1 := by unfold wrap64; have := HPN.out; omega
      obtain ⟨W5, hW5⟩ : ∃ W5, W5 = wr.setCell ⟨w.heap.size + 2, 1, none⟩ (.int .i64 ((pb : Int) + 1)) := ⟨_, rfl⟩
      have HS5 := Lib.hid (show PnS B gp room l3 (.slice (some ⟨g, 0, none⟩) l.length cap) (.slice none 0 0) (⟨pa, pb + 1, false⟩ : HeldM) false qa (.slice none 0 0) [] w W5 by
        rw [hW5]
        have s := HS.out
        have hlt := s.lt
        have n1 : ¬ gp = w.heap.size + 2 := by omega
        have nv : Value.ownBlock (.slice none 0 0) ≠ some (w.heap.size + 2) := fun e => by have := s.low _ e; omega
        exact ⟨⟨bk_set2 s.pg.bk n1, own_setB s.pg.row nv, s.pg.ge, by simpa [World.setCell] using s.pg.base⟩, s.kp.setCell (p := ⟨w.heap.size + 2, 1, none⟩) (Or.inr (by show w.heap.size ≤ w.heap.size + 2; omega)) _, bk_set2 s.res (by omega), bk_set2 s.act (by omega), s.hb.put 1 (.int .i64 ((pb : Int) + 1)), own_setB s.wrote (own_block_ne s.wrote s.hb (by decide)), s.lt, s.low, s.base⟩)
      have HW5 := Lib.hid hW5
      have HLL := Lib.hid (show (l3).length ≤ 1000000 by first | exact hl | (rw [List.length_eraseIdx]; split <;> omega))
      clear hW5
      go_upto_region 16 with fail
      rw [← HW5.out]
      have HH5 := Lib.hid (show ∀ w1, Kp (pS gp (.slice none 0 0)) (pS gp (.slice none 0 0)) W5 w1 → Bk w1 (w.heap.size + 2) 82 #[.int .i64 pa, .int .i64 ((pb : Int) + 1), .bool false] from fun w1 k => k.bk HS5.out.hb (fun e => by
        rcases e with e | e
        · have := HS5.out.lt; omega
        · have := HS5.out.low _ e; omega))
      have G0 := Lib.hid (show puG B gp (.slice none 0 0) W5 W5.drew from ⟨(Kp.refl _ W5).drew, HS5.out.pg.bk.lt, fun b e => by
        rcases own_shapeH HS5.out.pg.row with ⟨h1, _⟩ | ⟨g, cap, h1, h2, h3, _⟩
        · rw [h1] at e; cases e
        · rw [h1] at e
          have : g = b := by simpa [Value.ownBlock] using e
          subst this
          exact ⟨h2, h3⟩, HS5.out.pg.base⟩)
      have H0 := Lib.hid (show ∀ m', m' < 11 → puH B gp room l3 (.slice none 0 0) m' W5.drew from fun m' _ => by
        unfold puH
        split
        · exact kept_bel HS5.out.pg.row (Below.refl _ _).drew
        · exact HS5.out.pg.bk
        · trivial)
      clear hh0 hh1 hh2 hf1 pw pw2 HS
      go_wp2_with fail
      refine wp_region_late [some 56, some 57, some 58, some 59, some 60, some 61, some 62, some 63, some 64, some 65, none] (fun _ => 0) (puF B gp room l3 (⟨pa, pb + 1, false⟩ : HeldM) (.slice none 0 0) W5) (puG B gp (.slice none 0 0) W5) (puH B gp room l3 (.slice none 0 0)) (by kernel_rfl) G0.out H0.out rfl (by kernel_rfl) (by kernel_rfl) (by kernel_rfl) (by kernel_rfl) (fun T hT => ?_)
      simp only [List.filterMap_cons, List.filterMap_nil, id, putsS, Act.put, List.setIfInBounds_toArray, List.set_cons_zero, List.set_cons_succ] at hT
      subst hT
      refine ⟨⟨?_, ?_, ?_, ?_, ?_, ?_, ?_, ?_, ?_, ?_, ?_, trivial⟩, ?_⟩
      · -- 0: Op.move t0
        intro f w1 hG hO hL hF K hK
        clear hF hO hL
        dsimp only at hK ⊢
        go_simp
        exact hK.out _ _ hG rfl (fun _ _ _ h => h) (fun _ _ h => h)
      · -- 1: Op.move t0
        intro f w1 hG hO hL hF K hK
        clear hF hO hL
        dsimp only at hK ⊢
        go_simp
        exact hK.out _ _ hG rfl (fun _ _ _ h => h) (fun _ _ h => h)
      · -- 2: Op.nilCheck t57
        intro f w1 hG hO hL hF K hK
        have d1 : (puF B gp room l3 (⟨pa, pb + 1, false⟩ : HeldM) (.slice none 0 0) W5) 1 (f 57) (f 0) w1 := hF 1 (by kernel_rfl)
        clear hF hO hL
        dsimp only at hK ⊢
        generalize hf57 : f 57 = v57 at *
        subst d1
        go_simp
        exact hK.out _ _ hG rfl (fun _ _ _ h => h) (fun _ _ h => h)
      · -- 3: Op.fieldAddr 56 t58 1
        intro f w1 hG hO hL hF K hK
        have d2 : (puF B gp room l3 (⟨pa, pb + 1, false⟩ : HeldM) (.slice none 0 0) W5) 2 (f 58) (f 0) w1 := hF 2 (by kernel_rfl)
        clear hF hO hL
        dsimp only at hK ⊢
        generalize hf58 : f 58 = v58 at *
        subst d2
        go_simp
        exact hK.out _ _ hG rfl (fun _ _ _ h => h) (fun _ _ h => h)
      · -- 4: Op.load 54 t59
        intro f w1 hG hO hL hF K hK
        have l10 : (puH B gp room l3 (.slice none 0 0)) 10 w1 := hL 10 (Nat.le_of_ble_eq_true (by kernel_rfl)) (by kernel_rfl)
        have d3 : (puF B gp room l3 (⟨pa, pb + 1, false⟩ : HeldM) (.slice none 0 0) W5) 3 (f 59) (f 0) w1 := hF 3 (by kernel_rfl)
        clear hF hO hL
        dsimp only at hK ⊢
        generalize hf59 : f 59 = v59 at *
        subst d3
        have y : w1.cell? ⟨gp, 1, none⟩ = some (.slice none 0 0) := Bk.cell l10 1
        go_simp
        exact hK.out _ _ hG rfl (fun _ _ _ h => h) (fun _ _ h => h)
      · -- 5: Op.load 61 t6
        intro f w1 hG hO hL hF K hK
        clear hF hO hL
        dsimp only at hK ⊢
        have HX := HH5.out w1 hG.kp
        have y0 := HX.cell 0
        have y1 := HX.cell 1
        have y2 := HX.cell 2
        go_simp
        exact hK.out _ _ hG rfl (fun _ _ _ h => h) (fun _ _ h => h)
      · -- 6: Op.buildSlice 54 1 #[(0, t61)]
        intro f w1 hG hO hL hF K hK
        have d5 : (puF B gp room l3 (⟨pa, pb + 1, false⟩ : HeldM) (.slice none 0 0) W5) 5 (f 61) (f 0) w1 := hF 5 (by kernel_rfl)
        clear hF hO hL
        dsimp only at hK ⊢
        generalize hf61 : f 61 = v61 at *
        subst d5
        go_simp
        exact hK.out _ _ (hG.next ((Below.refl _ _).alloc (Nat.le_refl _) _)) ⟨w1.heap.size, rfl, hG.base, (fun e => absurd hG.lt (by omega)), (fun e => absurd (hG.kl _ e).2 (Nat.lt_irrefl _)), Bk.new w1 _ _⟩ (fun j _ _ h => puF_bel ((Below.refl _ _).alloc (Nat.le_refl _) _) j _ _ h) (fun m _ h => puH_bel ((Below.refl _ _).alloc (Nat.le_refl _) _) m h)
      · -- 7: Op.call ( builtin append, args := #[t60, t62], argTypes := #[54, 54] )
        intro f w1 hG hO hL hF K hK
        have l7 : (puH B gp room l3 (.slice none 0 0)) 7 w1 := hL 7 (Nat.le_of_ble_eq_true (by kernel_rfl)) (by kernel_rfl)
        have l10 : (puH B gp room l3 (.slice none 0 0)) 10 w1 := hL 10 (Nat.le_of_ble_eq_true (by kernel_rfl)) (by kernel_rfl)
        have d4 : (puF B gp room l3 (⟨pa, pb + 1, false⟩ : HeldM) (.slice none 0 0) W5) 4 (f 60) (f 0) w1 := hF 4 (by kernel_rfl)
        have d6 : (puF B gp room l3 (⟨pa, pb + 1, false⟩ : HeldM) (.slice none 0 0) W5) 6 (f 62) (f 0) w1 := hF 6 (by kernel_rfl)
        clear hF hO hL
        dsimp only at hK ⊢
        generalize hf60 : f 60 = v60 at *
        generalize hf62 : f 62 = v62 at *
        have d4 : v60 = (.slice none 0 0) := d4
        subst d4
        obtain ⟨gq, rfl, h0, h1, h2, h3⟩ := d6
        have hcb : ∀ j u, (heldV (⟨pa, pb + 1, false⟩ : HeldM))[j]? = some u → w1.cell? ((⟨gq, 0, none⟩ : Addr).add j) = some u := fun j u hu => by
          rw [show ((⟨gq, 0, none⟩ : Addr).add j) = ⟨gq, j, none⟩ by unfold Addr.add; split <;> simp_all, h3.cell j]; simpa [heldV] using hu
        obtain ⟨v', w2', hrun, hown, hgr, _, hat⟩ := run_append_own_at (P := Try.prog) (w := w1) B 51 51 82 i0 _ 3 24 Try.underlying51 hi0 hz0 hz1 hz2 rfl (by decide) (.slice none 0 0) (l3).length (rowH l3) l7 ⟨gq, 0, none⟩ 1 1 (heldV (⟨pa, pb + 1, false⟩ : HeldM)) rfl hcb (by intro u hu; simp only [heldV, List.mem_cons, List.not_mem_nil, or_false] at hu; rcases hu with rfl | rfl | rfl <;> rfl) (by have := HLL.out; simp only [maxLen]; omega) (by have := HLL.out; omega) hG.base
        have nkg : Value.ownBlock (.slice none 0 0) ≠ some gp := own_block_ne l7 l10 (by decide)
        refine Lib.wp_append_run w1 _ _ _ _ rfl _ _ rfl rfl _ w2' hrun (hK.out v' w2' (hG.app hgr) ⟨hown, hat.imp id (fun e => ⟨_, e, hG.kp.size⟩)⟩ ?_ (fun m hm h => puH_app hgr nkg m hm h))
        intro j hj hdep h
        by_cases h10 : j = 10
        · subst h10
          exact absurd hdep (by rw [show depS _ 10 7 = true by kernel_rfl]; decide)
        · exact puF_app hgr j hj h10 _ _ h
      · -- 8: Op.nilCheck t56
        intro f w1 hG hO hL hF K hK
        have d0 : (puF B gp room l3 (⟨pa, pb + 1, false⟩ : HeldM) (.slice none 0 0) W5) 0 (f 56) (f 0) w1 := hF 0 (by kernel_rfl)
        clear hF hO hL
        dsimp only at hK ⊢
        generalize hf56 : f 56 = v56 at *
        subst d0
        go_simp
        exact hK.out _ _ hG rfl (fun _ _ _ h => h) (fun _ _ h => h)
      · -- 9: Op.fieldAddr 56 t64 1
        intro f w1 hG hO hL hF K hK
        have d8 : (puF B gp room l3 (⟨pa, pb + 1, false⟩ : HeldM) (.slice none 0 0) W5) 8 (f 64) (f 0) w1 := hF 8 (by kernel_rfl)
        clear hF hO hL
        dsimp only at hK ⊢
        generalize hf64 : f 64 = v64 at *
        subst d8
        go_simp
        exact hK.out _ _ hG rfl (fun _ _ _ h => h) (fun _ _ h => h)
      · -- 10: Op.store 54 t65 t63
        intro f w1 hG hO hL hF K hK
        have l10 : (puH B gp room l3 (.slice none 0 0)) 10 w1 := hL 10 (Nat.le_of_ble_eq_true (by kernel_rfl)) (by kernel_rfl)
        have d9 : (puF B gp room l3 (⟨pa, pb + 1, false⟩ : HeldM) (.slice none 0 0) W5) 9 (f 65) (f 0) w1 := hF 9 (by kernel_rfl)
        have d7 : (puF B gp room l3 (⟨pa, pb + 1, false⟩ : HeldM) (.slice none 0 0) W5) 7 (f 63) (f 0) w1 := hF 7 (by kernel_rfl)
        clear hF hO hL
        dsimp only at hK ⊢
        generalize hf65 : f 65 = v65 at *
        generalize hf63 : f 63 = v63 at *
        subst d9
        have hd7 : w1.ownsRow B 82 3 v63 ((l3).length + 1) (rowH l3 ++ heldV (⟨pa, pb + 1, false⟩ : HeldM)) ∧ (v63.ownBlock = Value.ownBlock (.slice none 0 0) ∨ ∃ g, v63.ownBlock = some g ∧ W5.heap.size ≤ g) := d7
        clear d7
        obtain ⟨A5, c5, rfl, _⟩ := own_shapeS hd7.1
        have hl10 : Bk w1 gp 53 #[.int .i64 room, (.slice none 0 0)] := l10
        have y0 : w1.cell? ⟨gp, 1, none⟩ = some (.slice none 0 0) := Bk.cell hl10 1
        have f0 := Bk.frozen hl10 1
        have HD7 := Lib.hid hd7
        have HL10 := Lib.hid hl10
        have HG := Lib.hid hG
        clear hd7 hl10 l10 hG
        go_simp
        refine hK.out undef _ (HG.out.set 1 (.slice A5 ((l3).length + 1) c5)) ⟨_, HL10.out.put 1 (.slice A5 ((l3).length + 1) c5), own_setB HD7.out.1 (own_block_ne HD7.out.1 HL10.out (by decide)), HD7.out.2⟩ (fun j hj _ h => puF_set HL10.out 1 _ j hj _ _ h) (fun m hm h => puH_set HL10.out 1 _ m hm h)
      · intro f w6 hG hF
        obtain ⟨V', g1, g2', g3'⟩ : (puF B gp room l3 (⟨pa, pb + 1, false⟩ : HeldM) (.slice none 0 0) W5) 10 undef undef w6 := hF 10 (by decide)
        have HG6 := Lib.hid hG
        clear hF hG
        dsimp only
        generalize f 56 = v56
        generalize f 57 = v57
        generalize f 58 = v58
        generalize f 59 = v59
        generalize f 60 = v60
        generalize f 61 = v61
        generalize f 62 = v62
        generalize f 63 = v63
        generalize f 64 = v64
        generalize f 65 = v65
        have FA := HG6.out.kp.bk HS5.out.act (fun e => by
          rcases e with e | e
          · have := HS5.out.lt; omega
          · have := HS5.out.low _ e; omega)
        have FR := HG6.out.kp.bk HS5.out.res (fun e => by
          rcases e with e | e
          · have := HS5.out.lt; omega
          · have := HS5.out.low _ e; omega)
        have FW := HG6.out.kp.own HS5.out.wrote (fun k hk1 hk2 => by
          rcases hk2 with e | e
          · subst e; exact own_block_ne HS5.out.wrote HS5.out.pg.bk (by decide) hk1
          · exact own_types_ne HS5.out.wrote HS5.out.pg.row (by decide) hk1 e)
        have z0 := FA.cell 0
        have z1 := FA.cell 1
        have z2 := FA.cell 2
        have z3 := FA.cell 3
        have r0 := FR.cell 0
        have r1 := FR.cell 1
        have r2 := FR.cell 2
        have r3 := FR.cell 3
        have k0 := FR.frozen 0
        have k1 := FR.frozen 1
        have k2 := FR.frozen 2
        have k3 := FR.frozen 3
        have hlt := HS5.out.lt
        have FK : Kp (pS gp (.slice (some ⟨g, 0, none⟩) l.length cap)) (pS gp V') w w6 := HS5.out.kp.trans (HG6.out.kp.mono (fun _ h => h) (fun i hi => by
          rcases hi with hi | hi
          · exact Or.inl (Or.inl hi)
          · rcases g3' with h | ⟨g, h, hg⟩
            · exact Or.inl (Or.inr (h ▸ hi))
            · rw [h] at hi; injection hi with hi; subst hi; exact Or.inr (Or.inr hg)))
        have nV : V'.ownBlock ≠ some w.heap.size := fun e => by
          rcases g3' with h | ⟨g, h, hg⟩
          · have := HS5.out.low _ (h ▸ e); omega
          · rw [h] at e; injection e with e
            have := HS5.out.res.lt
            omega
        have FIN := Lib.hid (show DoP B gp room (.slice (some ⟨g, 0, none⟩) l.length cap) w (l3 ++ [(⟨pa, pb + 1, false⟩ : HeldM)], ⟨0, false, qa, []⟩) (.returned (.agg #[.int .i64 0, .bool false, .int .i64 qa, .slice none 0 0])) ((((w6.setCell ⟨w.heap.size, 0, none⟩ (.int .i64 0)).setCell ⟨w.heap.size, 1, none⟩ (.bool false)).setCell ⟨w.heap.size, 2, none⟩ (.int .i64 qa)).setCell ⟨w.heap.size, 3, none⟩ (.slice none 0 0)) from
          ⟨_, V', rfl, own_setB (own_setB (own_setB (own_setB FW (own_block_ne FW FR (by decide))) (own_block_ne FW FR (by decide))) (own_block_ne FW FR (by decide))) (own_block_ne FW FR (by decide)),
            ⟨bk_set2 (bk_set2 (bk_set2 (bk_set2 g1 (by omega)) (by omega)) (by omega)) (by omega), by
              rw [rowH_append, List.length_append]
              exact own_setB (own_setB (own_setB (own_setB (by simpa [rowH] using g2') nV) nV) nV) nV, HS5.out.pg.ge, by simpa [World.setCell] using HG6.out.base⟩,
            (((FK.setCell (p := ⟨w.heap.size, 0, none⟩) (Or.inr (Nat.le_refl _)) _).setCell (p := ⟨w.heap.size, 1, none⟩) (Or.inr (Nat.le_refl _)) _).setCell (p := ⟨w.heap.size, 2, none⟩) (Or.inr (Nat.le_refl _)) _).setCell (p := ⟨w.heap.size, 3, none⟩) (Or.inr (Nat.le_refl _)) _⟩)
        clear FA FR FW FK nV g1 g2' g3' HS5 G0 H0 HG6 HH5
        go_wp2_with fail
        exact bodyPost_ret (v := .agg #[.int .i64 0, .bool false, .int .i64 qa, .slice none 0 0]) (by simp [results, Try.results25, go_sem, r0, r1, r2, r3]) rfl (by rw [← HR.out]; exact FIN.out)
    · have HP := Lib.hid HS.out.pg
      have hh0 := HS.out.hb.cell 0
      have hh1 := HS.out.hb.cell 1
      have hh2 := HS.out.hb.cell 2
      have hf1 := HS.out.hb.frozen 1
      have pw : IntKind.i64.wrap ((pb : Int) + 1) = (pb : Int) + 1 := by rw [IntKind.wrap_i64]; have := HPN.out; omega
      have pw2 : wrap64 ((pb : Int) + 1) = (pb : Int) + 1 := by unfold wrap64; have := HPN.out; omega
      obtain ⟨W5, hW5⟩ : ∃ W5, W5 = wr.setCell ⟨w.heap.size + 2, 1, none⟩ (.int .i64 ((pb : Int) + 1)) := ⟨_, rfl⟩
      have HS5 := Lib.hid (show PnS B gp room l3 (.slice (some ⟨g, 0, none⟩) l.length cap) (.slice (some ⟨g9, 0, none⟩) l3.length cap9) (⟨pa, pb + 1, false⟩ : HeldM) false qa (.slice none 0 0) [] w W5 by
        rw [hW5]
        have s := HS.out
        have hlt := s.lt
        have n1 : ¬ gp = w.heap.size + 2 := by omega
        have nv : Value.ownBlock (.slice (some ⟨g9, 0, none⟩) l3.length cap9) ≠ some (w.heap.size + 2) := fun e => by have := s.low _ e; omega
        exact ⟨⟨bk_set2 s.pg.bk n1, own_setB s.pg.row nv, s.pg.ge, by simpa [World.setCell] using s.pg.base⟩, s.kp.setCell (p := ⟨w.heap.size + 2, 1, none⟩) (Or.inr (by show w.heap.size ≤ w.heap.size + 2; omega)) _, bk_set2 s.res (by omega), bk_set2 s.act (by omega), s.hb.put 1 (.int .i64 ((pb : Int) + 1)), own_setB s.wrote (own_block_ne s.wrote s.hb (by decide)), s.lt, s.low, s.base⟩)
      have HW5 := Lib.hid hW5
      have HLL := Lib.hid (show (l3).length ≤ 1000000 by first | exact hl | (rw [List.length_eraseIdx]; split <;> omega))
      clear hW5
      go_upto_region 16 with fail
      rw [← HW5.out]
      have HH5 := Lib.hid (show ∀ w1, Kp (pS gp (.slice (some ⟨g9, 0, none⟩) l3.length cap9)) (pS gp (.slice (some ⟨g9, 0, none⟩) l3.length cap9)) W5 w1 → Bk w1 (w.heap.size + 2) 82 #[.int .i64 pa, .int .i64 ((pb : Int) + 1), .bool false] from fun w1 k => k.bk HS5.out.hb (fun e => by
        rcases e with e | e
        · have := HS5.out.lt; omega
        · have := HS5.out.low _ e; omega))
      have G0 := Lib.hid (show puG B gp (.slice (some ⟨g9, 0, none⟩) l3.length cap9) W5 W5.drew from ⟨(Kp.refl _ W5).drew, HS5.out.pg.bk.lt, fun b e => by
        rcases own_shapeH HS5.out.pg.row with ⟨h1, _⟩ | ⟨g, cap, h1, h2, h3, _⟩
        · rw [h1] at e; cases e
        · rw [h1] at e
          have : g = b := by simpa [Value.ownBlock] using e
          subst this
          exact ⟨h2, h3⟩, HS5.out.pg.base⟩)
      have H0 := Lib.hid (show ∀ m', m' < 11 → puH B gp room l3 (.slice (some ⟨g9, 0, none⟩) l3.length cap9) m' W5.drew from fun m' _ => by
        unfold puH
        split
        · exact kept_bel HS5.out.pg.row (Below.refl _ _).drew
        · exact HS5.out.pg.bk
        · trivial)
      clear hh0 hh1 hh2 hf1 pw pw2 HS
      go_wp2_with fail
      refine wp_region_late [some 56, some 57, some 58, some 59, some 60, some 61, some 62, some 63, some 64, some 65, none] (fun _ => 0) (puF B gp room l3 (⟨pa, pb + 1, false⟩ : HeldM) (.slice (some ⟨g9, 0, none⟩) l3.length cap9) W5) (puG B gp (.slice (some ⟨g9, 0, none⟩) l3.length cap9) W5) (puH B gp room l3 (.slice (some ⟨g9, 0, none⟩) l3.length cap9)) (by kernel_rfl) G0.out H0.out rfl (by kernel_rfl) (by kernel_rfl) (by kernel_rfl) (by kernel_rfl) (fun T hT => ?_)
      simp only [List.filterMap_cons, List.filterMap_nil, id, putsS, Act.put, List.setIfInBounds_toArray, List.set_cons_zero, List.set_cons_succ] at hT
      subst hT
      refine ⟨⟨?_, ?_, ?_, ?_, ?_, ?_, ?_, ?_, ?_, ?_, ?_, trivial⟩, ?_⟩
      · -- 0: Op.move t0
        intro f w1 hG hO hL hF K hK
        clear hF hO hL
        dsimp only at hK ⊢
        go_simp
        exact hK.out _ _ hG rfl (fun _ _ _ h => h) (fun _ _ h => h)
      · -- 1: Op.move t0
        intro f w1 hG hO hL hF K hK
        clear hF hO hL
        dsimp only at hK ⊢
        go_simp
        exact hK.out _ _ hG rfl (fun _ _ _ h => h) (fun _ _ h => h)
      · -- 2: Op.nilCheck t57
        intro f w1 hG hO hL hF K hK
        have d1 : (puF B gp room l3 (⟨pa, pb + 1, false⟩ : HeldM) (.slice (some ⟨g9, 0, none⟩) l3.length cap9) W5) 1 (f 57) (f 0) w1 := hF 1 (by kernel_rfl)
        clear hF hO hL
        dsimp only at hK ⊢
        generalize hf57 : f 57 = v57 at *
        subst d1
        go_simp
        exact hK.out _ _ hG rfl (fun _ _ _ h => h) (fun _ _ h => h)
      · -- 3: Op.fieldAddr 56 t58 1
        intro f w1 hG hO hL hF K hK
        have d2 : (puF B gp room l3 (⟨pa, pb + 1, false⟩ : HeldM) (.slice (some ⟨g9, 0, none⟩) l3.length cap9) W5) 2 (f 58) (f 0) w1 := hF 2 (by kernel_rfl)
        clear hF hO hL
        dsimp only at hK ⊢
        generalize hf58 : f 58 = v58 at *
        subst d2
        go_simp
        exact hK.out _ _ hG rfl (fun _ _ _ h => h) (fun _ _ h => h)
      · -- 4: Op.load 54 t59
        intro f w1 hG hO hL hF K hK
        have l10 : (puH B gp room l3 (.slice (some ⟨g9, 0, none⟩) l3.length cap9)) 10 w1 := hL 10 (Nat.le_of_ble_eq_true (by kernel_rfl)) (by kernel_rfl)
        have d3 : (puF B gp room l3 (⟨pa, pb + 1, false⟩ : HeldM) (.slice (some ⟨g9, 0, none⟩) l3.length cap9) W5) 3 (f 59) (f 0) w1 := hF 3 (by kernel_rfl)
        clear hF hO hL
        dsimp only at hK ⊢
        generalize hf59 : f 59 = v59 at *
        subst d3
        have y : w1.cell? ⟨gp, 1, none⟩ = some (.slice (some ⟨g9, 0, none⟩) l3.length cap9) := Bk.cell l10 1
        go_simp
        exact hK.out _ _ hG rfl (fun _ _ _ h => h) (fun _ _ h => h)
      · -- 5: Op.load 61 t6
        intro f w1 hG hO hL hF K hK
        clear hF hO hL
        dsimp only at hK ⊢
        have HX := HH5.out w1 hG.kp
        have y0 := HX.cell 0
        have y1 := HX.cell 1
        have y2 := HX.cell 2
        go_simp
        exact hK.out _ _ hG rfl (fun _ _ _ h => h) (fun _ _ h => h)
      · -- 6: Op.buildSlice 54 1 #[(0, t61)]
        intro f w1 hG hO hL hF K hK
        have d5 : (puF B gp room l3 (⟨pa, pb + 1, false⟩ : HeldM) (.slice (some ⟨g9, 0, none⟩) l3.length cap9) W5) 5 (f 61) (f 0) w1 := hF 5 (by kernel_rfl)
        clear hF hO hL
        dsimp only at hK ⊢
        generalize hf61 : f 61 = v61 at *
        subst d5
        go_simp
        exact hK.out _ _ (hG.next ((Below.refl _ _).alloc (Nat.le_refl _) _)) ⟨w1.heap.size, rfl, hG.base, (fun e => absurd hG.lt (by omega)), (fun e => absurd (hG.kl _ e).2 (Nat.lt_irrefl _)), Bk.new w1 _ _⟩ (fun j _ _ h => puF_bel ((Below.refl _ _).alloc (Nat.le_refl _) _) j _ _ h) (fun m _ h => puH_bel ((Below.refl _ _).alloc (Nat.le_refl _) _) m h)
      · -- 7: Op.call ( builtin append, args := #[t60, t62], argTypes := #[54, 54] )
        intro f w1 hG hO hL hF K hK
        have l7 : (puH B gp room l3 (.slice (some ⟨g9, 0, none⟩) l3.length cap9)) 7 w1 := hL 7 (Nat.le_of_ble_eq_true (by kernel_rfl)) (by kernel_rfl)
        have l10 : (puH B gp room l3 (.slice (some ⟨g9, 0, none⟩) l3.length cap9)) 10 w1 := hL 10 (Nat.le_of_ble_eq_true (by kernel_rfl)) (by kernel_rfl)
        have d4 : (puF B gp room l3 (⟨pa, pb + 1, false⟩ : HeldM) (.slice (some ⟨g9, 0, none⟩) l3.length cap9) W5) 4 (f 60) (f 0) w1 := hF 4 (by kernel_rfl)
        have d6 : (puF B gp room l3 (⟨pa, pb + 1, false⟩ : HeldM) (.slice (some ⟨g9, 0, none⟩) l3.length cap9) W5) 6 (f 62) (f 0) w1 := hF 6 (by kernel_rfl)
        clear hF hO hL
        dsimp only at hK ⊢
        generalize hf60 : f 60 = v60 at *
        generalize hf62 : f 62 = v62 at *
        have d4 : v60 = (.slice (some ⟨g9, 0, none⟩) l3.length cap9) := d4
        subst d4
        obtain ⟨gq, rfl, h0, h1, h2, h3⟩ := d6
        have hcb : ∀ j u, (heldV (⟨pa, pb + 1, false⟩ : HeldM))[j]? = some u → w1.cell? ((⟨gq, 0, none⟩ : Addr).add j) = some u := fun j u hu => by
          rw [show ((⟨gq, 0, none⟩ : Addr).add j) = ⟨gq, j, none⟩ by unfold Addr.add; split <;> simp_all, h3.cell j]; simpa [heldV] using hu
        obtain ⟨v', w2', hrun, hown, hgr, _, hat⟩ := run_append_own_at (P := Try.prog) (w := w1) B 51 51 82 i0 _ 3 24 Try.underlying51 hi0 hz0 hz1 hz2 rfl (by decide) (.slice (some ⟨g9, 0, none⟩) l3.length cap9) (l3).length (rowH l3) l7 ⟨gq, 0, none⟩ 1 1 (heldV (⟨pa, pb + 1, false⟩ : HeldM)) rfl hcb (by intro u hu; simp only [heldV, List.mem_cons, List.not_mem_nil, or_false] at hu; rcases hu with rfl | rfl | rfl <;> rfl) (by have := HLL.out; simp only [maxLen]; omega) (by have := HLL.out; omega) hG.base
        have nkg : Value.ownBlock (.slice (some ⟨g9, 0, none⟩) l3.length cap9) ≠ some gp := own_block_ne l7 l10 (by decide)
        refine Lib.wp_append_run w1 _ _ _ _ rfl _ _ rfl rfl _ w2' hrun (hK.out v' w2' (hG.app hgr) ⟨hown, hat.imp id (fun e => ⟨_, e, hG.kp.size⟩)⟩ ?_ (fun m hm h => puH_app hgr nkg m hm h))
        intro j hj hdep h
        by_cases h10 : j = 10
        · subst h10
          exact absurd hdep (by rw [show depS _ 10 7 = true by kernel_rfl]; decide)
        · exact puF_app hgr j hj h10 _ _ h
      · -- 8: Op.nilCheck t56
        intro f w1 hG hO hL hF K hK
        have d0 : (puF B gp room l3 (⟨pa, pb + 1, false⟩ : HeldM) (.slice (some ⟨g9, 0, none⟩) l3.length cap9) W5) 0 (f 56) (f 0) w1 := hF 0 (by kernel_rfl)
        clear hF hO hL
        dsimp only at hK ⊢
        generalize hf56 : f 56 = v56 at *
        subst d0
        go_simp
        exact hK.out _ _ hG rfl (fun _ _ _ h => h) (fun _ _ h => h)
      · -- 9: Op.fieldAddr 56 t64 1
        intro f w1 hG hO hL hF K hK
        have d8 : (puF B gp room l3 (⟨pa, pb + 1, false⟩ : HeldM) (.slice (some ⟨g9, 0, none⟩) l3.length cap9) W5) 8 (f 64) (f 0) w1 := hF 8 (by kernel_rfl)
        clear hF hO hL
        dsimp only at hK ⊢
        generalize hf64 : f 64 = v64 at *
        subst d8
        go_simp
        exact hK.out _ _ hG rfl (fun _ _ _ h => h) (fun _ _ h => h)
      · -- 10: Op.store 54 t65 t63
        intro f w1 hG hO hL hF K hK
        have l10 : (puH B gp room l3 (.slice (some ⟨g9, 0, none⟩) l3.length cap9)) 10 w1 := hL 10 (Nat.le_of_ble_eq_true (by kernel_rfl)) (by kernel_rfl)
        have d9 : (puF B gp room l3 (⟨pa, pb + 1, false⟩ : HeldM) (.slice (some ⟨g9, 0, none⟩) l3.length cap9) W5) 9 (f 65) (f 0) w1 := hF 9 (by kernel_rfl)
        have d7 : (puF B gp room l3 (⟨pa, pb + 1, false⟩ : HeldM) (.slice (some ⟨g9, 0, none⟩) l3.length cap9) W5) 7 (f 63) (f 0) w1 := hF 7 (by kernel_rfl)
        clear hF hO hL
        dsimp only at hK ⊢
        generalize hf65 : f 65 = v65 at *
        generalize hf63 : f 63 = v63 at *
        subst d9
        have hd7 : w1.ownsRow B 82 3 v63 ((l3).length + 1) (rowH l3 ++ heldV (⟨pa, pb + 1, false⟩ : HeldM)) ∧ (v63.ownBlock = Value.ownBlock (.slice (some ⟨g9, 0, none⟩) l3.length cap9) ∨ ∃ g, v63.ownBlock = some g ∧ W5.heap.size ≤ g) := d7
        clear d7
        obtain ⟨A5, c5, rfl, _⟩ := own_shapeS hd7.1
        have hl10 : Bk w1 gp 53 #[.int .i64 room, (.slice (some ⟨g9, 0, none⟩) l3.length cap9)] := l10
        have y0 : w1.cell? ⟨gp, 1, none⟩ = some (.slice (some ⟨g9, 0, none⟩) l3.length cap9) := Bk.cell hl10 1
        have f0 := Bk.frozen hl10 1
        have HD7 := Lib.hid hd7
        have HL10 := Lib.hid hl10
        have HG := Lib.hid hG
        clear hd7 hl10 l10 hG
        go_simp
        refine hK.out undef _ (HG.out.set 1 (.slice A5 ((l3).length + 1) c5)) ⟨_, HL10.out.put 1 (.slice A5 ((l3).length + 1) c5), own_setB HD7.out.1 (own_block_ne HD7.out.1 HL10.out (by decide)), HD7.out.2⟩ (fun j hj _ h => puF_set HL10.out 1 _ j hj _ _ h) (fun m hm h => puH_set HL10.out 1 _ m hm h)
      · intro f w6 hG hF
        obtain ⟨V', g1, g2', g3'⟩ : (puF B gp room l3 (⟨pa, pb + 1, false⟩ : HeldM) (.slice (some ⟨g9, 0, none⟩) l3.length cap9) W5) 10 undef undef w6 := hF 10 (by decide)
        have HG6 := Lib.hid hG
        clear hF hG
        dsimp only
        generalize f 56 = v56
        generalize f 57 = v57
        generalize f 58 = v58
        generalize f 59 = v59
        generalize f 60 = v60
        generalize f 61 = v61
        generalize f 62 = v62
        generalize f 63 = v63
        generalize f 64 = v64
        generalize f 65 = v65
        have FA := HG6.out.kp.bk HS5.out.act (fun e => by
          rcases e with e | e
          · have := HS5.out.lt; omega
          · have := HS5.out.low _ e; omega)
        have FR := HG6.out.kp.bk HS5.out.res (fun e => by
          rcases e with e | e
          · have := HS5.out.lt; omega
          · have := HS5.out.low _ e; omega)
        have FW := HG6.out.kp.own HS5.out.wrote (fun k hk1 hk2 => by
          rcases hk2 with e | e
          · subst e; exact own_block_ne HS5.out.wrote HS5.out.pg.bk (by decide) hk1
          · exact own_types_ne HS5.out.wrote HS5.out.pg.row (by decide) hk1 e)
        have z0 := FA.cell 0
        have z1 := FA.cell 1
        have z2 := FA.cell 2
        have z3 := FA.cell 3
        have r0 := FR.cell 0
        have r1 := FR.cell 1
        have r2 := FR.cell 2
        have r3 := FR.cell 3
        have k0 := FR.frozen 0
        have k1 := FR.frozen 1
        have k2 := FR.frozen 2
        have k3 := FR.frozen 3
        have hlt := HS5.out.lt
        have FK : Kp (pS gp (.slice (some ⟨g, 0, none⟩) l.length cap)) (pS gp V') w w6 := HS5.out.kp.trans (HG6.out.kp.mono (fun _ h => h) (fun i hi => by
          rcases hi with hi | hi
          · exact Or.inl (Or.inl hi)
          · rcases g3' with h | ⟨g, h, hg⟩
            · exact Or.inl (Or.inr (h ▸ hi))
            · rw [h] at hi; injection hi with hi; subst hi; exact Or.inr (Or.inr hg)))
        have nV : V'.ownBlock ≠ some w.heap.size := fun e => by
          rcases g3' with h | ⟨g, h, hg⟩
          · have := HS5.out.low _ (h ▸ e); omega
          · rw [h] at e; injection e with e
            have := HS5.out.res.lt
            omega
        have FIN := Lib.hid (show DoP B gp room (.slice (some ⟨g, 0, none⟩) l.length cap) w (l3 ++ [(⟨pa, pb + 1, false⟩ : HeldM)], ⟨0, false, qa, []⟩) (.returned (.agg #[.int .i64 0, .bool false, .int .i64 qa, .slice none 0 0])) ((((w6.setCell ⟨w.heap.size, 0, none⟩ (.int .i64 0)).setCell ⟨w.heap.size, 1, none⟩ (.bool false)).setCell ⟨w.heap.size, 2, none⟩ (.int .i64 qa)).setCell ⟨w.heap.size, 3, none⟩ (.slice none 0 0)) from
          ⟨_, V', rfl, own_setB (own_setB (own_setB (own_setB FW (own_block_ne FW FR (by decide))) (own_block_ne FW FR (by decide))) (own_block_ne FW FR (by decide))) (own_block_ne FW FR (by decide)),
            ⟨bk_set2 (bk_set2 (bk_set2 (bk_set2 g1 (by omega)) (by omega)) (by omega)) (by omega), by
              rw [rowH_append, List.length_append]
              exact own_setB (own_setB (own_setB (own_setB (by simpa [rowH] using g2') nV) nV) nV) nV, HS5.out.pg.ge, by simpa [World.setCell] using HG6.out.base⟩,
            (((FK.setCell (p := ⟨w.heap.size, 0, none⟩) (Or.inr (Nat.le_refl _)) _).setCell (p := ⟨w.heap.size, 1, none⟩) (Or.inr (Nat.le_refl _)) _).setCell (p := ⟨w.heap.size, 2, none⟩) (Or.inr (Nat.le_refl _)) _).setCell (p := ⟨w.heap.size, 3, none⟩) (Or.inr (Nat.le_refl _)) _⟩)
        clear FA FR FW FK nV g1 g2' g3' HS5 G0 H0 HG6 HH5
        go_wp2_with fail
        exact bodyPost_ret (v := .agg #[.int .i64 0, .bool false, .int .i64 qa, .slice none 0 0]) (by simp [results, Try.results25, go_sem, r0, r1, r2, r3]) rfl (by rw [← HR.out]; exact FIN.out)
  · have a3 := HS8.out.act.cell 3
    have af := HS8.out.act.frozen 3
    obtain ⟨wr, hwr⟩ : ∃ wr, wr = (w8.setCell ⟨w.heap.size + 1, 3, none⟩ (.slice (some ⟨w8.heap.size, 0, none⟩) 1 1)).alloc (.cells #[.int .i64 qa] 3) := ⟨_, rfl⟩
    have HS := Lib.hid (show PnS B gp room l3 (.slice (some ⟨g, 0, none⟩) l.length cap) v' ⟨pa, pb, false⟩ false qa (.slice (some ⟨w8.heap.size, 0, none⟩) 1 1) [qa] w wr by
      rw [hwr, hpa, hpb, ← World.setCell_alloc_past _ _ _ _ HS8.out.act.lt]
      have al := (Below.refl w8.heap.size w8).alloc (Nat.le_refl _) (.cells #[.int .i64 qa] 3)
      have hw := HS8.out.act.lt
      exact (HS8.out.bel al).act2 3 (.slice (some ⟨w8.heap.size, 0, none⟩) 1 1) rfl ⟨rfl, Or.inr ⟨w8.heap.size, 1, #[.int .i64 qa], rfl, by omega, Bk.new w8 _ _, Nat.le_refl _, by decide, rfl, rfl⟩⟩)
    have HR := Lib.hid (show (l3 ++ [(⟨pa, pb + 1, false⟩ : HeldM)], (⟨0, false, qa, [qa]⟩ : ActM)) = (l.eraseIdx i ++ [⟨page, 1, false⟩], ⟨0, false, qa, ws⟩) by rw [hpa, hpb, HL3.out, HWS.out]; rfl)
    have HWR := Lib.hid hwr
    have hlt8 := HS8.out.act.lt
    clear hpa hpb hwr HS8 HX8
    go_upto_region 15 with fail
    rw [← HWR.out]
    obtain ⟨g8, hg8⟩ : ∃ g8, g8 = w8.heap.size := ⟨_, rfl⟩
    rw [← hg8] at HS ⊢
    clear hg8 HWR q0 q2 a3 af
    rcases own_shapeH HS.out.pg.row with ⟨h1, h2⟩ | ⟨g9, cap9, h1, h2⟩
    all_goals subst h1
    all_goals clear h2
    · have HP := Lib.hid HS.out.pg
      have hh0 := HS.out.hb.cell 0
      have hh1 := HS.out.hb.cell 1
      have hh2 := HS.out.hb.cell 2
      have hf1 := HS.out.hb.frozen 1
      have pw : IntKind.i64.wrap ((pb : Int) + 1) = (pb : Int) + 1 := by rw [IntKind.wrap_i64]; have := HPN.out; omega
      have pw2 : wrap64 ((pb : Int) + 1) = (pb : Int) + 1 := by unfold wrap64; have := HPN.out; omega
      obtain ⟨W5, hW5⟩ : ∃ W5, W5 = wr.setCell ⟨w.heap.size + 2, 1, none⟩ (.int .i64 ((pb : Int) + 1)) := ⟨_, rfl⟩
      have HS5 := Lib.hid (show PnS B gp room l3 (.slice (some ⟨g, 0, none⟩) l.length cap) (.slice none 0 0) (⟨pa, pb + 1, false⟩ : HeldM) false qa (.slice (some ⟨g8, 0, none⟩) 1 1) [qa] w W5 by
        rw [hW5]
        have s := HS.out
        have hlt := s.lt
        have n1 : ¬ gp = w.heap.size + 2 := by omega
        have nv : Value.ownBlock (.slice none 0 0) ≠ some (w.heap.size + 2) := fun e => by have := s.low _ e; omega
        exact ⟨⟨bk_set2 s.pg.bk n1, own_setB s.pg.row nv, s.pg.ge, by simpa [World.setCell] using s.pg.base⟩, s.kp.setCell (p := ⟨w.heap.size + 2, 1, none⟩) (Or.inr (by show w.heap.size ≤ w.heap.size + 2; omega)) _, bk_set2 s.res (by omega), bk_set2 s.act (by omega), s.hb.put 1 (.int .i64 ((pb : Int) + 1)), own_setB s.wrote (own_block_ne s.wrote s.hb (by decide)), s.lt, s.low, s.base⟩)
      have HW5 := Lib.hid hW5
      have HLL := Lib.hid (show (l3).length ≤ 1000000 by first | exact hl | (rw [List.length_eraseIdx]; split <;> omega))
      clear hW5
      go_upto_region 16 with fail
      rw [← HW5.out]
      have HH5 := Lib.hid (show ∀ w1, Kp (pS gp (.slice none 0 0)) (pS gp (.slice none 0 0)) W5 w1 → Bk w1 (w.heap.size + 2) 82 #[.int .i64 pa, .int .i64 ((pb : Int) + 1), .bool false] from fun w1 k => k.bk HS5.out.hb (fun e => by
        rcases e with e | e
        · have := HS5.out.lt; omega
        · have := HS5.out.low _ e; omega))
      have G0 := Lib.hid (show puG B gp (.slice none 0 0) W5 W5.drew from ⟨(Kp.refl _ W5).drew, HS5.out.pg.bk.lt, fun b e => by
        rcases own_shapeH HS5.out.pg.row with ⟨h1, _⟩ | ⟨g, cap, h1, h2, h3, _⟩
        · rw [h1] at e; cases e
        · rw [h1] at e
          have : g = b := by simpa [Value.ownBlock] using e
          subst this
          exact ⟨h2, h3⟩, HS5.out.pg.base⟩)
      have H0 := Lib.hid (show ∀ m', m' < 11 → puH B gp room l3 (.slice none 0 0) m' W5.drew from fun m' _ => by
        unfold puH
        split
        · exact kept_bel HS5.out.pg.row (Below.refl _ _).drew
        · exact HS5.out.pg.bk
        · trivial)
      clear hh0 hh1 hh2 hf1 pw pw2 HS
      go_wp2_with fail
      refine wp_region_late [some 56, some 57, some 58, some 59, some 60, some 61, some 62, some 63, some 64, some 65, none] (fun _ => 0) (puF B gp room l3 (⟨pa, pb + 1, false⟩ : HeldM) (.slice none 0 0) W5) (puG B gp (.slice none 0 0) W5) (puH B gp room l3 (.slice none 0 0)) (by kernel_rfl) G0.out H0.out rfl (by kernel_rfl) (by kernel_rfl) (by kernel_rfl) (by kernel_rfl) (fun T hT => ?_)
      simp only [List.filterMap_cons, List.filterMap_nil, id, putsS, Act.put, List.setIfInBounds_toArray, List.set_cons_zero, List.set_cons_succ] at hT
      subst hT
      refine ⟨⟨?_, ?_, ?_, ?_, ?_, ?_, ?_, ?_, ?_, ?_, ?_, trivial⟩, ?_⟩
      · -- 0: Op.move t0
        intro f w1 hG hO hL hF K hK
        clear hF hO hL
        dsimp only at hK ⊢
        go_simp
        exact hK.out _ _ hG rfl (fun _ _ _ h => h) (fun _ _ h => h)
      · -- 1: Op.move t0
        intro f w1 hG hO hL hF K hK
        clear hF hO hL
        dsimp only at hK ⊢
        go_simp
        exact hK.out _ _ hG rfl (fun _ _ _ h => h) (fun _ _ h => h)
      · -- 2: Op.nilCheck t57
        intro f w1 hG hO hL hF K hK
        have d1 : (puF B gp room l3 (⟨pa, pb + 1, false⟩ : HeldM) (.slice none 0 0) W5) 1 (f 57) (f 0) w1 := hF 1 (by kernel_rfl)
        clear hF hO hL
        dsimp only at hK ⊢
        generalize hf57 : f 57 = v57 at *
        subst d1
        go_simp
        exact hK.out _ _ hG rfl (fun _ _ _ h => h) (fun _ _ h => h)
      · -- 3: Op.fieldAddr 56 t58 1
        intro f w1 hG hO hL hF K hK
        have d2 : (puF B gp room l3 (⟨pa, pb + 1, false⟩ : HeldM) (.slice none 0 0) W5) 2 (f 58) (f 0) w1 := hF 2 (by kernel_rfl)
        clear hF hO hL
        dsimp only at hK ⊢
        generalize hf58 : f 58 = v58 at *
        subst d2
        go_simp
        exact hK.out _ _ hG rfl (fun _ _ _ h => h) (fun _ _ h => h)
      · -- 4: Op.load 54 t59
        intro f w1 hG hO hL hF K hK
        have l10 : (puH B gp room l3 (.slice none 0 0)) 10 w1 := hL 10 (Nat.le_of_ble_eq_true (by kernel_rfl)) (by kernel_rfl)
        have d3 : (puF B gp room l3 (⟨pa, pb + 1, false⟩ : HeldM) (.slice none 0 0) W5) 3 (f 59) (f 0) w1 := hF 3 (by kernel_rfl)
        clear hF hO hL
        dsimp only at hK ⊢
        generalize hf59 : f 59 = v59 at *
        subst d3
        have y : w1.cell? ⟨gp, 1, none⟩ = some (.slice none 0 0) := Bk.cell l10 1
        go_simp
        exact hK.out _ _ hG rfl (fun _ _ _ h => h) (fun _ _ h => h)
      · -- 5: Op.load 61 t6
        intro f w1 hG hO hL hF K hK
        clear hF hO hL
        dsimp only at hK ⊢
        have HX := HH5.out w1 hG.kp
        have y0 := HX.cell 0
        have y1 := HX.cell 1
        have y2 := HX.cell 2
        go_simp
        exact hK.out _ _ hG rfl (fun _ _ _ h => h) (fun _ _ h => h)
      · -- 6: Op.buildSlice 54 1 #[(0, t61)]
        intro f w1 hG hO hL hF K hK
        have d5 : (puF B gp room l3 (⟨pa, pb + 1, false⟩ : HeldM) (.slice none 0 0) W5) 5 (f 61) (f 0) w1 := hF 5 (by kernel_rfl)
        clear hF hO hL
        dsimp only at hK ⊢
        generalize hf61 : f 61 = v61 at *
        subst d5
        go_simp
        exact hK.out _ _ (hG.next ((Below.refl _ _).alloc (Nat.le_refl _) _)) ⟨w1.heap.size, rfl, hG.base, (fun e => absurd hG.lt (by omega)), (fun e => absurd (hG.kl _ e).2 (Nat.lt_irrefl _)), Bk.new w1 _ _⟩ (fun j _ _ h => puF_bel ((Below.refl _ _).alloc (Nat.le_refl _) _) j _ _ h) (fun m _ h => puH_bel ((Below.refl _ _).alloc (Nat.le_refl _) _) m h)
      · -- 7: Op.call ( builtin append, args := #[t60, t62], argTypes := #[54, 54] )
        intro f w1 hG hO hL hF K hK
        have l7 : (puH B gp room l3 (.slice none 0 0)) 7 w1 := hL 7 (Nat.le_of_ble_eq_true (by kernel_rfl)) (by kernel_rfl)
        have l10 : (puH B gp room l3 (.slice none 0 0)) 10 w1 := hL 10 (Nat.le_of_ble_eq_true (by kernel_rfl)) (by kernel_rfl)
        have d4 : (puF B gp room l3 (⟨pa, pb + 1, false⟩ : HeldM) (.slice none 0 0) W5) 4 (f 60) (f 0) w1 := hF 4 (by kernel_rfl)
        have d6 : (puF B gp room l3 (⟨pa, pb + 1, false⟩ : HeldM) (.slice none 0 0) W5) 6 (f 62) (f 0) w1 := hF 6 (by kernel_rfl)
        clear hF hO hL
        dsimp only at hK ⊢
        generalize hf60 : f 60 = v60 at *
        generalize hf62 : f 62 = v62 at *
        have d4 : v60 = (.slice none 0 0) := d4
        subst d4
        obtain ⟨gq, rfl, h0, h1, h2, h3⟩ := d6
        have hcb : ∀ j u, (heldV (⟨pa, pb + 1, false⟩ : HeldM))[j]? = some u → w1.cell? ((⟨gq, 0, none⟩ : Addr).add j) = some u := fun j u hu => by
          rw [show ((⟨gq, 0, none⟩ : Addr).add j) = ⟨gq, j, none⟩ by unfold Addr.add; split <;> simp_all, h3.cell j]; simpa [heldV] using hu
        obtain ⟨v', w2', hrun, hown, hgr, _, hat⟩ := run_append_own_at (P := Try.prog) (w := w1) B 51 51 82 i0 _ 3 24 Try.underlying51 hi0 hz0 hz1 hz2 rfl (by decide) (.slice none 0 0) (l3).length (rowH l3) l7 ⟨gq, 0, none⟩ 1 1 (heldV (⟨pa, pb + 1, false⟩ : HeldM)) rfl hcb (by intro u hu; simp only [heldV, List.mem_cons, List.not_mem_nil, or_false] at hu; rcases hu with rfl | rfl | rfl <;> rfl) (by have := HLL.out; simp only [maxLen]; omega) (by have := HLL.out; omega) hG.base
        have nkg : Value.ownBlock (.slice none 0 0) ≠ some gp := own_block_ne l7 l10 (by decide)
        refine Lib.wp_append_run w1 _ _ _ _ rfl _ _ rfl rfl _ w2' hrun (hK.out v' w2' (hG.app hgr) ⟨hown, hat.imp id (fun e => ⟨_, e, hG.kp.size⟩)⟩ ?_ (fun m hm h => puH_app hgr nkg m hm h))
        intro j hj hdep h
        by_cases h10 : j = 10
        · subst h10
          exact absurd hdep (by rw [show depS _ 10 7 = true by kernel_rfl]; decide)
        · exact puF_app hgr j hj h10 _ _ h
      · -- 8: Op.nilCheck t56
        intro f w1 hG hO hL hF K hK
        have d0 : (puF B gp room l3 (⟨pa, pb + 1, false⟩ : HeldM) (.slice none 0 0) W5) 0 (f 56) (f 0) w1 := hF 0 (by kernel_rfl)
        clear hF hO hL
        dsimp only at hK ⊢
        generalize hf56 : f 56 = v56 at *
        subst d0
        go_simp
        exact hK.out _ _ hG rfl (fun _ _ _ h => h) (fun _ _ h => h)
      · -- 9: Op.fieldAddr 56 t64 1
        intro f w1 hG hO hL hF K hK
        have d8 : (puF B gp room l3 (⟨pa, pb + 1, false⟩ : HeldM) (.slice none 0 0) W5) 8 (f 64) (f 0) w1 := hF 8 (by kernel_rfl)
        clear hF hO hL
        dsimp only at hK ⊢
        generalize hf64 : f 64 = v64 at *
        subst d8
        go_simp
        exact hK.out _ _ hG rfl (fun _ _ _ h => h) (fun _ _ h => h)
      · -- 10: Op.store 54 t65 t63
        intro f w1 hG hO hL hF K hK
        have l10 : (puH B gp room l3 (.slice none 0 0)) 10 w1 := hL 10 (Nat.le_of_ble_eq_true (by kernel_rfl)) (by kernel_rfl)
        have d9 : (puF B gp room l3 (⟨pa, pb + 1, false⟩ : HeldM) (.slice none 0 0) W5) 9 (f 65) (f 0) w1 := hF 9 (by kernel_rfl)
        have d7 : (puF B gp room l3 (⟨pa, pb + 1, false⟩ : HeldM) (.slice none 0 0) W5) 7 (f 63) (f 0) w1 := hF 7 (by kernel_rfl)
        clear hF hO hL
        dsimp only at hK ⊢
        generalize hf65 : f 65 = v65 at *
        generalize hf63 : f 63 = v63 at *
        subst d9
        have hd7 : w1.ownsRow B 82 3 v63 ((l3).length + 1) (rowH l3 ++ heldV (⟨pa, pb + 1, false⟩ : HeldM)) ∧ (v63.ownBlock = Value.ownBlock (.slice none 0 0) ∨ ∃ g, v63.ownBlock = some g ∧ W5.heap.size ≤ g) := d7
        clear d7
        obtain ⟨A5, c5, rfl, _⟩ := own_shapeS hd7.1
        have hl10 : Bk w1 gp 53 #[.int .i64 room, (.slice none 0 0)] := l10
        have y0 : w1.cell? ⟨gp, 1, none⟩ = some (.slice none 0 0) := Bk.cell hl10 1
        have f0 := Bk.frozen hl10 1
        have HD7 := Lib.hid hd7
        have HL10 := Lib.hid hl10
        have HG := Lib.hid hG
        clear hd7 hl10 l10 hG
        go_simp
        refine hK.out undef _ (HG.out.set 1 (.slice A5 ((l3).length + 1) c5)) ⟨_, HL10.out.put 1 (.slice A5 ((l3).length + 1) c5), own_setB HD7.out.1 (own_block_ne HD7.out.1 HL10.out (by decide)), HD7.out.2⟩ (fun j hj _ h => puF_set HL10.out 1 _ j hj _ _ h) (fun m hm h => puH_set HL10.out 1 _ m hm h)
      · intro f w6 hG hF
        obtain ⟨V', g1, g2', g3'⟩ : (puF B gp room l3 (⟨pa, pb + 1, false⟩ : HeldM) (.slice none 0 0) W5) 10 undef undef w6 := hF 10 (by decide)
        have HG6 := Lib.hid hG
        clear hF hG
        dsimp only
        generalize f 56 = v56
        generalize f 57 = v57
        generalize f 58 = v58
        generalize f 59 = v59
        generalize f 60 = v60
        generalize f 61 = v61
        generalize f 62 = v62
        generalize f 63 = v63
        generalize f 64 = v64
        generalize f 65 = v65
        have FA := HG6.out.kp.bk HS5.out.act (fun e => by
          rcases e with e | e
          · have := HS5.out.lt; omega
          · have := HS5.out.low _ e; omega)
        have FR := HG6.out.kp.bk HS5.out.res (fun e => by
          rcases e with e | e
          · have := HS5.out.lt; omega
          · have := HS5.out.low _ e; omega)
        have FW := HG6.out.kp.own HS5.out.wrote (fun k hk1 hk2 => by
          rcases hk2 with e | e
          · subst e; exact own_block_ne HS5.out.wrote HS5.out.pg.bk (by decide) hk1
          · exact own_types_ne HS5.out.wrote HS5.out.pg.row (by decide) hk1 e)
        have z0 := FA.cell 0
        have z1 := FA.cell 1
        have z2 := FA.cell 2
        have z3 := FA.cell 3
        have r0 := FR.cell 0
        have r1 := FR.cell 1
        have r2 := FR.cell 2
        have r3 := FR.cell 3
        have k0 := FR.frozen 0
        have k1 := FR.frozen 1
        have k2 := FR.frozen 2
        have k3 := FR.frozen 3
        have hlt := HS5.out.lt
        have FK : Kp (pS gp (.slice (some ⟨g, 0, none⟩) l.length cap)) (pS gp V') w w6 := HS5.out.kp.trans (HG6.out.kp.mono (fun _ h => h) (fun i hi => by
          rcases hi with hi | hi
          · exact Or.inl (Or.inl hi)
          · rcases g3' with h | ⟨g, h, hg⟩
            · exact Or.inl (Or.inr (h ▸ hi))
            · rw [h] at hi; injection hi with hi; subst hi; exact Or.inr (Or.inr hg)))
        have nV : V'.ownBlock ≠ some w.heap.size := fun e => by
          rcases g3' with h | ⟨g, h, hg⟩
          · have := HS5.out.low _ (h ▸ e); omega
          · rw [h] at e; injection e with e
            have := HS5.out.res.lt
            omega
        have FIN := Lib.hid (show DoP B gp room (.slice (some ⟨g, 0, none⟩) l.length cap) w (l3 ++ [(⟨pa, pb + 1, false⟩ : HeldM)], ⟨0, false, qa, [qa]⟩) (.returned (.agg #[.int .i64 0, .bool false, .int .i64 qa, .slice (some ⟨g8, 0, none⟩) 1 1])) ((((w6.setCell ⟨w.heap.size, 0, none⟩ (.int .i64 0)).setCell ⟨w.heap.size, 1, none⟩ (.bool false)).setCell ⟨w.heap.size, 2, none⟩ (.int .i64 qa)).setCell ⟨w.heap.size, 3, none⟩ (.slice (some ⟨g8, 0, none⟩) 1 1)) from
          ⟨_, V', rfl, own_setB (own_setB (own_setB (own_setB FW (own_block_ne FW FR (by decide))) (own_block_ne FW FR (by decide))) (own_block_ne FW FR (by decide))) (own_block_ne FW FR (by decide)),
            ⟨bk_set2 (bk_set2 (bk_set2 (bk_set2 g1 (by omega)) (by omega)) (by omega)) (by omega), by
              rw [rowH_append, List.length_append]
              exact own_setB (own_setB (own_setB (own_setB (by simpa [rowH] using g2') nV) nV) nV) nV, HS5.out.pg.ge, by simpa [World.setCell] using HG6.out.base⟩,
            (((FK.setCell (p := ⟨w.heap.size, 0, none⟩) (Or.inr (Nat.le_refl _)) _).setCell (p := ⟨w.heap.size, 1, none⟩) (Or.inr (Nat.le_refl _)) _).setCell (p := ⟨w.heap.size, 2, none⟩) (Or.inr (Nat.le_refl _)) _).setCell (p := ⟨w.heap.size, 3, none⟩) (Or.inr (Nat.le_refl _)) _⟩)
        clear FA FR FW FK nV g1 g2' g3' HS5 G0 H0 HG6 HH5
        go_wp2_with fail
        exact bodyPost_ret (v := .agg #[.int .i64 0, .bool false, .int .i64 qa, .slice (some ⟨g8, 0, none⟩) 1 1]) (by simp [results, Try.results25, go_sem, r0, r1, r2, r3]) rfl (by rw [← HR.out]; exact FIN.out)
    · have HP := Lib.hid HS.out.pg
      have hh0 := HS.out.hb.cell 0
      have hh1 := HS.out.hb.cell 1
      have hh2 := HS.out.hb.cell 2
      have hf1 := HS.out.hb.frozen 1
      have pw : IntKind.i64.wrap ((pb : Int) + 1) = (pb : Int) + 1 := by rw [IntKind.wrap_i64]; have := HPN.out; omega
      have pw2 : wrap64 ((pb : Int) + 1) = (pb : Int) + 1 := by unfold wrap64; have := HPN.out; omega
      obtain ⟨W5, hW5⟩ : ∃ W5, W5 = wr.setCell ⟨w.heap.size + 2, 1, none⟩ (.int .i64 ((pb : Int) + 1)) := ⟨_, rfl⟩
      have HS5 := Lib.hid (show PnS B gp room l3 (.slice (some ⟨g, 0, none⟩) l.length cap) (.slice (some ⟨g9, 0, none⟩) l3.length cap9) (⟨pa, pb + 1, false⟩ : HeldM) false qa (.slice (some ⟨g8, 0, none⟩) 1 1) [qa] w W5 by
        rw [hW5]
        have s := HS.out
        have hlt := s.lt
        have n1 : ¬ gp = w.heap.size + 2 := by omega
        have nv : Value.ownBlock (.slice (some ⟨g9, 0, none⟩) l3.length cap9) ≠ some (w.heap.size + 2) := fun e => by have := s.low _ e; omega
        exact ⟨⟨bk_set2 s.pg.bk n1, own_setB s.pg.row nv, s.pg.ge, by simpa [World.setCell] using s.pg.base⟩, s.kp.setCell (p := ⟨w.heap.size + 2, 1, none⟩) (Or.inr (by show w.heap.size ≤ w.heap.size + 2; omega)) _, bk_set2 s.res (by omega), bk_set2 s.act (by omega), s.hb.put 1 (.int .i64 ((pb : Int) + 1)), own_setB s.wrote (own_block_ne s.wrote s.hb (by decide)), s.lt, s.low, s.base⟩)
      have HW5 := Lib.hid hW5
      have HLL := Lib.hid (show (l3).length ≤ 1000000 by first | exact hl | (rw [List.length_eraseIdx]; split <;> omega))
      clear hW5
      go_upto_region 16 with fail
      rw [← HW5.out]
      have HH5 := Lib.hid (show ∀ w1, Kp (pS gp (.slice (some ⟨g9, 0, none⟩) l3.length cap9)) (pS gp (.slice (some ⟨g9, 0, none⟩) l3.length cap9)) W5 w1 → Bk w1 (w.heap.size + 2) 82 #[.int .i64 pa, .int .i64 ((pb : Int) + 1), .bool false] from fun w1 k => k.bk HS5.out.hb (fun e => by
        rcases e with e | e
        · have := HS5.out.lt; omega
        · have := HS5.out.low _ e; omega))
      have G0 := Lib.hid (show puG B gp (.slice (some ⟨g9, 0, none⟩) l3.length cap9) W5 W5.drew from ⟨(Kp.refl _ W5).drew, HS5.out.pg.bk.lt, fun b e => by
        rcases own_shapeH HS5.out.pg.row with ⟨h1, _⟩ | ⟨g, cap, h1, h2, h3, _⟩
        · rw [h1] at e; cases e
        · rw [h1] at e
          have : g = b := by simpa [Value.ownBlock] using e
          subst this
          exact ⟨h2, h3⟩, HS5.out.pg.base⟩)
      have H0 := Lib.hid (show ∀ m', m' < 11 → puH B gp room l3 (.slice (some ⟨g9, 0, none⟩) l3.length cap9) m' W5.drew from fun m' _ => by
        unfold puH
        split
        · exact kept_bel HS5.out.pg.row (Below.refl _ _).drew
        · exact HS5.out.pg.bk
        · trivial)
      clear hh0 hh1 hh2 hf1 pw pw2 HS
      go_wp2_with fail
      refine wp_region_late [some 56, some 57, some 58, some 59, some 60, some 61, some 62, some 63, some 64, some 65, none] (fun _ => 0) (puF B gp room l3 (⟨pa, pb + 1, false⟩ : HeldM) (.slice (some ⟨g9, 0, none⟩) l3.length cap9) W5) (puG B gp (.slice (some ⟨g9, 0, none⟩) l3.length cap9) W5) (puH B gp room l3 (.slice (some ⟨g9, 0, none⟩) l3.length cap9)) (by kernel_rfl) G0.out H0.out rfl (by kernel_rfl) (by kernel_rfl) (by kernel_rfl) (by kernel_rfl) (fun T hT => ?_)
      simp only [List.filterMap_cons, List.filterMap_nil, id, putsS, Act.put, List.setIfInBounds_toArray, List.set_cons_zero, List.set_cons_succ] at hT
      subst hT
      refine ⟨⟨?_, ?_, ?_, ?_, ?_, ?_, ?_, ?_, ?_, ?_, ?_, trivial⟩, ?_⟩
      · -- 0: Op.move t0
        intro f w1 hG hO hL hF K hK
        clear hF hO hL
        dsimp only at hK ⊢
        go_simp
        exact hK.out _ _ hG rfl (fun _ _ _ h => h) (fun _ _ h => h)
      · -- 1: Op.move t0
        intro f w1 hG hO hL hF K hK
        clear hF hO hL
        dsimp only at hK ⊢
        go_simp
        exact hK.out _ _ hG rfl (fun _ _ _ h => h) (fun _ _ h => h)
      · -- 2: Op.nilCheck t57
        intro f w1 hG hO hL hF K hK
        have d1 : (puF B gp room l3 (⟨pa, pb + 1, false⟩ : HeldM) (.slice (some ⟨g9, 0, none⟩) l3.length cap9) W5) 1 (f 57) (f 0) w1 := hF 1 (by kernel_rfl)
        clear hF hO hL
        dsimp only at hK ⊢
        generalize hf57 : f 57 = v57 at *
        subst d1
        go_simp
        exact hK.out _ _ hG rfl (fun _ _ _ h => h) (fun _ _ h => h)
      · -- 3: Op.fieldAddr 56 t58 1
        intro f w1 hG hO hL hF K hK
        have d2 : (puF B gp room l3 (⟨pa, pb + 1, false⟩ : HeldM) (.slice (some ⟨g9, 0, none⟩) l3.length cap9) W5) 2 (f 58) (f 0) w1 := hF 2 (by kernel_rfl)
        clear hF hO hL
        dsimp only at hK ⊢
        generalize hf58 : f 58 = v58 at *
        subst d2
        go_simp
        exact hK.out _ _ hG rfl (fun _ _ _ h => h) (fun _ _ h => h)
      · -- 4: Op.load 54 t59
        intro f w1 hG hO hL hF K hK
        have l10 : (puH B gp room l3 (.slice (some ⟨g9, 0, none⟩) l3.length cap9)) 10 w1 := hL 10 (Nat.le_of_ble_eq_true (by kernel_rfl)) (by kernel_rfl)
        have d3 : (puF B gp room l3 (⟨pa, pb + 1, false⟩ : HeldM) (.slice (some ⟨g9, 0, none⟩) l3.length cap9) W5) 3 (f 59) (f 0) w1 := hF 3 (by kernel_rfl)
        clear hF hO hL
        dsimp only at hK ⊢
        generalize hf59 : f 59 = v59 at *
        subst d3
        have y : w1.cell? ⟨gp, 1, none⟩ = some (.slice (some ⟨g9, 0, none⟩) l3.length cap9) := Bk.cell l10 1
        go_simp
        exact hK.out _ _ hG rfl (fun _ _ _ h => h) (fun _ _ h => h)
      · -- 5: Op.load 61 t6
        intro f w1 hG hO hL hF K hK
        clear hF hO hL
        dsimp only at hK ⊢
        have HX := HH5.out w1 hG.kp
        have y0 := HX.cell 0
        have y1 := HX.cell 1
        have y2 := HX.cell 2
        go_simp
        exact hK.out _ _ hG rfl (fun _ _ _ h => h) (fun _ _ h => h)
      · -- 6: Op.buildSlice 54 1 #[(0, t61)]
        intro f w1 hG hO hL hF K hK
        have d5 : (puF B gp room l3 (⟨pa, pb + 1, false⟩ : HeldM) (.slice (some ⟨g9, 0, none⟩) l3.length cap9) W5) 5 (f 61) (f 0) w1 := hF 5 (by kernel_rfl)
        clear hF hO hL
        dsimp only at hK ⊢
        generalize hf61 : f 61 = v61 at *
        subst d5
        go_simp
        exact hK.out _ _ (hG.next ((Below.refl _ _).alloc (Nat.le_refl _) _)) ⟨w1.heap.size, rfl, hG.base, (fun e => absurd hG.lt (by omega)), (fun e => absurd (hG.kl _ e).2 (Nat.lt_irrefl _)), Bk.new w1 _ _⟩ (fun j _ _ h => puF_bel ((Below.refl _ _).alloc (Nat.le_refl _) _) j _ _ h) (fun m _ h => puH_bel ((Below.refl _ _).alloc (Nat.le_refl _) _) m h)
      · -- 7: Op.call ( builtin append, args := #[t60, t62], argTypes := #[54, 54] )
        intro f w1 hG hO hL hF K hK
        have l7 : (puH B gp room l3 (.slice (some ⟨g9, 0, none⟩) l3.length cap9)) 7 w1 := hL 7 (Nat.le_of_ble_eq_true (by kernel_rfl)) (by kernel_rfl)
        have l10 : (puH B gp room l3 (.slice (some ⟨g9, 0, none⟩) l3.length cap9)) 10 w1 := hL 10 (Nat.le_of_ble_eq_true (by kernel_rfl)) (by kernel_rfl)
        have d4 : (puF B gp room l3 (⟨pa, pb + 1, false⟩ : HeldM) (.slice (some ⟨g9, 0, none⟩) l3.length cap9) W5) 4 (f 60) (f 0) w1 := hF 4 (by kernel_rfl)
        have d6 : (puF B gp room l3 (⟨pa, pb + 1, false⟩ : HeldM) (.slice (some ⟨g9, 0, none⟩) l3.length cap9) W5) 6 (f 62) (f 0) w1 := hF 6 (by kernel_rfl)
        clear hF hO hL
        dsimp only at hK ⊢
        generalize hf60 : f 60 = v60 at *
        generalize hf62 : f 62 = v62 at *
        have d4 : v60 = (.slice (some ⟨g9, 0, none⟩) l3.length cap9) := d4
        subst d4
        obtain ⟨gq, rfl, h0, h1, h2, h3⟩ := d6
        have hcb : ∀ j u, (heldV (⟨pa, pb + 1, false⟩ : HeldM))[j]? = some u → w1.cell? ((⟨gq, 0, none⟩ : Addr).add j) = some u := fun j u hu => by
          rw [show ((⟨gq, 0, none⟩ : Addr).add j) = ⟨gq, j, none⟩ by unfold Addr.add; split <;> simp_all, h3.cell j]; simpa [heldV] using hu
        obtain ⟨v', w2', hrun, hown, hgr, _, hat⟩ := run_append_own_at (P := Try.prog) (w := w1) B 51 51 82 i0 _ 3 24 Try.underlying51 hi0 hz0 hz1 hz2 rfl (by decide) (.slice (some ⟨g9, 0, none⟩) l3.length cap9) (l3).length (rowH l3) l7 ⟨gq, 0, none⟩ 1 1 (heldV (⟨pa, pb + 1, false⟩ : HeldM)) rfl hcb (by intro u hu; simp only [heldV, List.mem_cons, List.not_mem_nil, or_false] at hu; rcases hu with rfl | rfl | rfl <;> rfl) (by have := HLL.out; simp only [maxLen]; omega) (by have := HLL.out; omega) hG.base
        have nkg : Value.ownBlock (.slice (some ⟨g9, 0, none⟩) l3.length cap9) ≠ some gp := own_block_ne l7 l10 (by decide)
        refine Lib.wp_append_run w1 _ _ _ _ rfl _ _ rfl rfl _ w2' hrun (hK.out v' w2' (hG.app hgr) ⟨hown, hat.imp id (fun e => ⟨_, e, hG.kp.size⟩)⟩ ?_ (fun m hm h => puH_app hgr nkg m hm h))
        intro j hj hdep h
        by_cases h10 : j = 10
        · subst h10
          exact absurd hdep (by rw [show depS _ 10 7 = true by kernel_rfl]; decide)
        · exact puF_app hgr j hj h10 _ _ h
      · -- 8: Op.nilCheck t56
        intro f w1 hG hO hL hF K hK
        have d0 : (puF B gp room l3 (⟨pa, pb + 1, false⟩ : HeldM) (.slice (some ⟨g9, 0, none⟩) l3.length cap9) W5) 0 (f 56) (f 0) w1 := hF 0 (by kernel_rfl)
        clear hF hO hL
        dsimp only at hK ⊢
        generalize hf56 : f 56 = v56 at *
        subst d0
        go_simp
        exact hK.out _ _ hG rfl (fun _ _ _ h => h) (fun _ _ h => h)
      · -- 9: Op.fieldAddr 56 t64 1
        intro f w1 hG hO hL hF K hK
        have d8 : (puF B gp room l3 (⟨pa, pb + 1, false⟩ : HeldM) (.slice (some ⟨g9, 0, none⟩) l3.length cap9) W5) 8 (f 64) (f 0) w1 := hF 8 (by kernel_rfl)
        clear hF hO hL
        dsimp only at hK ⊢
        generalize hf64 : f 64 = v64 at *
        subst d8
        go_simp
        exact hK.out _ _ hG rfl (fun _ _ _ h => h) (fun _ _ h => h)
      · -- 10: Op.store 54 t65 t63
        intro f w1 hG hO hL hF K hK
        have l10 : (puH B gp room l3 (.slice (some ⟨g9, 0, none⟩) l3.length cap9)) 10 w1 := hL 10 (Nat.le_of_ble_eq_true (by kernel_rfl)) (by kernel_rfl)
        have d9 : (puF B gp room l3 (⟨pa, pb + 1, false⟩ : HeldM) (.slice (some ⟨g9, 0, none⟩) l3.length cap9) W5) 9 (f 65) (f 0) w1 := hF 9 (by kernel_rfl)
        have d7 : (puF B gp room l3 (⟨pa, pb + 1, false⟩ : HeldM) (.slice (some ⟨g9, 0, none⟩) l3.length cap9) W5) 7 (f 63) (f 0) w1 := hF 7 (by kernel_rfl)
        clear hF hO hL
        dsimp only at hK ⊢
        generalize hf65 : f 65 = v65 at *
        generalize hf63 : f 63 = v63 at *
        subst d9
        have hd7 : w1.ownsRow B 82 3 v63 ((l3).length + 1) (rowH l3 ++ heldV (⟨pa, pb + 1, false⟩ : HeldM)) ∧ (v63.ownBlock = Value.ownBlock (.slice (some ⟨g9, 0, none⟩) l3.length cap9) ∨ ∃ g, v63.ownBlock = some g ∧ W5.heap.size ≤ g) := d7
        clear d7
        obtain ⟨A5, c5, rfl, _⟩ := own_shapeS hd7.1
        have hl10 : Bk w1 gp 53 #[.int .i64 room, (.slice (some ⟨g9, 0, none⟩) l3.length cap9)] := l10
        have y0 : w1.cell? ⟨gp, 1, none⟩ = some (.slice (some ⟨g9, 0, none⟩) l3.length cap9) := Bk.cell hl10 1
        have f0 := Bk.frozen hl10 1
        have HD7 := Lib.hid hd7
        have HL10 := Lib.hid hl10
        have HG := Lib.hid hG
        clear hd7 hl10 l10 hG
        go_simp
        refine hK.out undef _ (HG.out.set 1 (.slice A5 ((l3).length + 1) c5)) ⟨_, HL10.out.put 1 (.slice A5 ((l3).length + 1) c5), own_setB HD7.out.1 (own_block_ne HD7.out.1 HL10.out (by decide)), HD7.out.2⟩ (fun j hj _ h => puF_set HL10.out 1 _ j hj _ _ h) (fun m hm h => puH_set HL10.out 1 _ m hm h)
      · intro f w6 hG hF
        obtain ⟨V', g1, g2', g3'⟩ : (puF B gp room l3 (⟨pa, pb + 1, false⟩ : HeldM) (.slice (some ⟨g9, 0, none⟩) l3.length cap9) W5) 10 undef undef w6 := hF 10 (by decide)
        have HG6 := Lib.hid hG
        clear hF hG
        dsimp only
        generalize f 56 = v56
        generalize f 57 = v57
        generalize f 58 = v58
        generalize f 59 = v59
        generalize f 60 = v60
        generalize f 61 = v61
        generalize f 62 = v62
        generalize f 63 = v63
        generalize f 64 = v64
        generalize f 65 = v65
        have FA := HG6.out.kp.bk HS5.out.act (fun e => by
          rcases e with e | e
          · have := HS5.out.lt; omega
          · have := HS5.out.low _ e; omega)
        have FR := HG6.out.kp.bk HS5.out.res (fun e => by
          rcases e with e | e
          · have := HS5.out.lt; omega
          · have := HS5.out.low _ e; omega)
        have FW := HG6.out.kp.own HS5.out.wrote (fun k hk1 hk2 => by
          rcases hk2 with e | e
          · subst e; exact own_block_ne HS5.out.wrote HS5.out.pg.bk (by decide) hk1
          · exact own_types_ne HS5.out.wrote HS5.out.pg.row (by decide) hk1 e)
        have z0 := FA.cell 0
        have z1 := FA.cell 1
        have z2 := FA.cell 2
        have z3 := FA.cell 3
        have r0 := FR.cell 0
        have r1 := FR.cell 1
        have r2 := FR.cell 2
        have r3 := FR.cell 3
        have k0 := FR.frozen 0
        have k1 := FR.frozen 1
        have k2 := FR.frozen 2
        have k3 := FR.frozen 3
        have hlt := HS5.out.lt
        have FK : Kp (pS gp (.slice (some ⟨g, 0, none⟩) l.length cap)) (pS gp V') w w6 := HS5.out.kp.trans (HG6.out.kp.mono (fun _ h => h) (fun i hi => by
          rcases hi with hi | hi
          · exact Or.inl (Or.inl hi)
          · rcases g3' with h | ⟨g, h, hg⟩
            · exact Or.inl (Or.inr (h ▸ hi))
            · rw [h] at hi; injection hi with hi; subst hi; exact Or.inr (Or.inr hg)))
        have nV : V'.ownBlock ≠ some w.heap.size := fun e => by
          rcases g3' with h | ⟨g, h, hg⟩
          · have := HS5.out.low _ (h ▸ e); omega
          · rw [h] at e; injection e with e
            have := HS5.out.res.lt
            omega
        have FIN := Lib.hid (show DoP B gp room (.slice (some ⟨g, 0, none⟩) l.length cap) w (l3 ++ [(⟨pa, pb + 1, false⟩ : HeldM)], ⟨0, false, qa, [qa]⟩) (.returned (.agg #[.int .i64 0, .bool false, .int .i64 qa, .slice (some ⟨g8, 0, none⟩) 1 1])) ((((w6.setCell ⟨w.heap.size, 0, none⟩ (.int .i64 0)).setCell ⟨w.heap.size, 1, none⟩ (.bool false)).setCell ⟨w.heap.size, 2, none⟩ (.int .i64 qa)).setCell ⟨w.heap.size, 3, none⟩ (.slice (some ⟨g8, 0, none⟩) 1 1)) from
          ⟨_, V', rfl, own_setB (own_setB (own_setB (own_setB FW (own_block_ne FW FR (by decide))) (own_block_ne FW FR (by decide))) (own_block_ne FW FR (by decide))) (own_block_ne FW FR (by decide)),
            ⟨bk_set2 (bk_set2 (bk_set2 (bk_set2 g1 (by omega)) (by omega)) (by omega)) (by omega), by
              rw [rowH_append, List.length_append]
              exact own_setB (own_setB (own_setB (own_setB (by simpa [rowH] using g2') nV) nV) nV) nV, HS5.out.pg.ge, by simpa [World.setCell] using HG6.out.base⟩,
            (((FK.setCell (p := ⟨w.heap.size, 0, none⟩) (Or.inr (Nat.le_refl _)) _).setCell (p := ⟨w.heap.size, 1, none⟩) (Or.inr (Nat.le_refl _)) _).setCell (p := ⟨w.heap.size, 2, none⟩) (Or.inr (Nat.le_refl _)) _).setCell (p := ⟨w.heap.size, 3, none⟩) (Or.inr (Nat.le_refl _)) _⟩)
        clear FA FR FW FK nV g1 g2' g3' HS5 G0 H0 HG6 HH5
        go_wp2_with fail
        exact bodyPost_ret (v := .agg #[.int .i64 0, .bool false, .int .i64 qa, .slice (some ⟨g8, 0, none⟩) 1 1]) (by simp [results, Try.results25, go_sem, r0, r1, r2, r3]) rfl (by rw [← HR.out]; exact FIN.out)
end Go.Proofs.Ytopkkolcimmedaa
