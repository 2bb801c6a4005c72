/- The pager's pin. Condition: the pager lies in memory, has few pages, and none of them is pinned too often. The pager's pin: one that is not at hand, and no room. Condition: as GPin. The pager's Unpin and Dirty. Condition: the pager lies in memory and has few pages. The pager's flush. Condition: the pager lies in memory and has few pages. -/
import Derived.Test.YtopkkolcimmedaaGA
import Derived.LoopTactic
import Derived.Deep.LoopGhost
import Derived.Lib.AppendZeros
namespace Go.Proofs.Ytopkkolcimmedaa
open Go.RowKit

theorem own_types_ne {w : World} {B C n m s1 s2 : Nat} {e t : TypeId} {v u : Value} {xs ys : List Value} (h : w.ownsRow B e s1 v n xs) (k : w.ownsRow C t s2 u m ys) (hte : e ≠ t) {b : Nat} (h1 : v.ownBlock = some b) (h2 : u.ownBlock = some b) : False := by
  rcases k.2 with ⟨h3, _⟩ | ⟨g, cap, cur, h3, _, hc, _⟩
  · subst h3; cases h2
  · subst h3
    have : g = b := by simpa [Value.ownBlock] using h2
    subst this
    exact own_block_ne h (show Bk w g t cur from hc) hte h1
set_option maxRecDepth 100000 in
set_option maxHeartbeats 8000000 in
theorem pin_room (B gp : Nat) (room : Int) (l : List HeldM) (v : Value) (w : World) (h : PgA B gp room l v w) (hl : l.length ≤ 1000000) (page : Int) (hz : findZ (isP page) l = -1) (hr : (l.length : Int) < room) :
    Calls Try.prog 25 #[.pointer (some ⟨gp, 0, none⟩), .int .i64 page] w (DoP B gp room v w (l ++ [⟨page, 1, false⟩], ⟨0, false, -1, []⟩)) := by
  obtain ⟨i0, hi0, hz0, hz1, hz2⟩ := info_parts info_held
  have hl := hl
  have al : Below w.heap.size w (((w.alloc (.cells #[.int .i64 0, .bool false, .int .i64 0, .slice none 0 0] 40)).alloc (.cells #[.int .i64 0, .bool false, .int .i64 (-1), .slice none 0 0] 40)).alloc (.cells #[.int .i64 page, .int .i64 0, .bool false] 82)) := (((Below.refl _ _).alloc (Nat.le_refl _) _).alloc (by simp) _).alloc (by simp; omega) _
  obtain ⟨W3, hW3⟩ : ∃ W3, W3 = ((w.alloc (.cells #[.int .i64 0, .bool false, .int .i64 0, .slice none 0 0] 40)).alloc (.cells #[.int .i64 0, .bool false, .int .i64 (-1), .slice none 0 0] 40)).alloc (.cells #[.int .i64 page, .int .i64 0, .bool false] 82) := ⟨_, rfl⟩
  rw [← hW3] at al
  have HS3 := Lib.hid (show PnS B gp room l v v ⟨page, 0, false⟩ false (-1) (.slice none 0 0) [] w W3 by
    refine ⟨h.bel al, Kp.of_bel al _, ?_, ?_, ?_, World.ownsRow_nil _ _ _ _, h.bk.lt, fun k hk => ?_, h.base⟩
    · rw [hW3]; exact ((Bk.new w _ _).alloc _).alloc _
    · rw [hW3]
      have k1 := Bk.new (w.alloc (.cells #[.int .i64 0, .bool false, .int .i64 0, .slice none 0 0] 40)) 40 #[.int .i64 0, .bool false, .int .i64 (-1), .slice none 0 0]
      rw [World.size_alloc] at k1
      exact k1.alloc _
    · rw [hW3]
      have k2 := Bk.new ((w.alloc (.cells #[.int .i64 0, .bool false, .int .i64 0, .slice none 0 0] 40)).alloc (.cells #[.int .i64 0, .bool false, .int .i64 (-1), .slice none 0 0] 40)) 82 #[.int .i64 page, .int .i64 0, .bool false]
      rw [World.size_alloc, World.size_alloc] at k2
      exact k2
    · rcases own_shapeH h.row with ⟨h1, _⟩ | ⟨g, cap, h1, h2, h3, _⟩
      · rw [h1] at hk; cases hk
      · rw [h1] at hk
        have : g = k := by simpa [Value.ownBlock] using hk
        subst this
        exact h3)
  have HW3 := Lib.hid hW3
  have CF0 := gfind_any B gp room l v W3 HS3.out.pg (by omega) page
  have CF1 : Calls Try.prog 41 #[.pointer (some ⟨gp, 0, none⟩), .int .i64 page] W3 fun e w' => e = .returned (.int .i64 (findZ (isP page) l)) ∧ Below W3.heap.size W3 w' := CF0
  rw [hz] at CF1
  have CF := Lib.hid CF1
  clear h al hW3 CF0 CF1
  go_enter Try.func25, Try.ntmps25
  go_upto_region 3 with fail
  rw [← HW3.out]
  go_wp2_with fail
  refine CF.out.mono ?_
  rintro e w1 ⟨rfl, b1⟩
  have HS1 := Lib.hid (HS3.out.bel b1)
  clear b1 HS3 HW3 CF
  have y1 := HS1.out.pg.bk.cell 1
  have y0 := HS1.out.pg.bk.cell 0
  have hr1 : decide (room ≤ (l.length : Int)) = false := decide_eq_false (by omega)
  obtain ⟨pa, hpa⟩ : ∃ x, x = page := ⟨_, rfl⟩
  obtain ⟨pb, hpb⟩ : ∃ x : Nat, x = 0 := ⟨_, rfl⟩
  have HS := Lib.hid (show PnS B gp room l v v ⟨pa, pb, false⟩ false (-1) (.slice none 0 0) [] w w1 by rw [hpa, hpb]; exact HS1.out)
  have HPN := Lib.hid (show pb ≤ 4611686018427387904 by omega)
  have HR := Lib.hid (show (l ++ [(⟨pa, pb + 1, false⟩ : HeldM)], (⟨0, false, -1, []⟩ : ActM)) = (l ++ [⟨page, 1, false⟩], ⟨0, false, -1, []⟩) by rw [hpa, hpb])
  clear HS1 hpa hpb
  rcases own_shapeH HS.out.pg.row with ⟨h1, h2⟩ | ⟨g, cap, h1, _⟩
  all_goals subst h1
  · have hr2 : ¬ room ≤ 0 := by rw [h2] at hr; simp at hr; omega
    have hr3 : decide (room ≤ 0) = false := decide_eq_false hr2
    clear h2
    go_wp2_with fail
    go_quiet (fail)
    obtain ⟨wr, hwr⟩ : ∃ wr, wr = w1.drewN nq := ⟨_, rfl⟩
    have HS := Lib.hid (HS.out.bel (below_drewN (Below.refl _ w1) nq))
    rw [← hwr] at HS ⊢
    clear hwr y0 y1
    have HP := Lib.hid HS.out.pg
    have hh0 := HS.out.hb.cell 0
    have hh1 := HS.out.hb.cell 1
    have hh2 := HS.out.hb.cell 2
    have hf1 := HS.out.hb.frozen 1
    have pw : IntKind.i64.wrap ((pb : Int) + 1) = (pb : Int) + 1 := by rw [IntKind.wrap_i64]; have := HPN.out; omega
    have pw2 : wrap64 ((pb : Int) + 1) = (pb : Int) + 1 := by unfold wrap64; have := HPN.out; omega
    obtain ⟨W5, hW5⟩ : ∃ W5, W5 = wr.setCell ⟨w.heap.size + 2, 1, none⟩ (.int .i64 ((pb : Int) + 1)) := ⟨_, rfl⟩
    have HS5 := Lib.hid (show PnS B gp room l (.slice none 0 0) (.slice none 0 0) (⟨pa, pb + 1, false⟩ : HeldM) false (-1) (.slice none 0 0) [] w W5 by
      rw [hW5]
      have s := HS.out
      have hlt := s.lt
      have n1 : ¬ gp = w.heap.size + 2 := by omega
      have nv : Value.ownBlock (.slice none 0 0) ≠ some (w.heap.size + 2) := fun e => by have := s.low _ e; omega
      exact ⟨⟨bk_set2 s.pg.bk n1, own_setB s.pg.row nv, s.pg.ge, by simpa [World.setCell] using s.pg.base⟩, s.kp.setCell (p := ⟨w.heap.size + 2, 1, none⟩) (Or.inr (by show w.heap.size ≤ w.heap.size + 2; omega)) _, bk_set2 s.res (by omega), bk_set2 s.act (by omega), s.hb.put 1 (.int .i64 ((pb : Int) + 1)), own_setB s.wrote (own_block_ne s.wrote s.hb (by decide)), s.lt, s.low, s.base⟩)
    have HW5 := Lib.hid hW5
    have HLL := Lib.hid (show (l).length ≤ 1000000 by first | exact hl | (rw [List.length_eraseIdx]; split <;> omega))
    clear hW5
    go_upto_region 16 with fail
    rw [← HW5.out]
    have HH5 := Lib.hid (show ∀ w1, Kp (pS gp (.slice none 0 0)) (pS gp (.slice none 0 0)) W5 w1 → Bk w1 (w.heap.size + 2) 82 #[.int .i64 pa, .int .i64 ((pb : Int) + 1), .bool false] from fun w1 k => k.bk HS5.out.hb (fun e => by
      rcases e with e | e
      · have := HS5.out.lt; omega
      · have := HS5.out.low _ e; omega))
    have G0 := Lib.hid (show puG B gp (.slice none 0 0) W5 W5.drew from ⟨(Kp.refl _ W5).drew, HS5.out.pg.bk.lt, fun b e => by
      rcases own_shapeH HS5.out.pg.row with ⟨h1, _⟩ | ⟨g, cap, h1, h2, h3, _⟩
      · rw [h1] at e; cases e
      · rw [h1] at e
        have : g = b := by simpa [Value.ownBlock] using e
        subst this
        exact ⟨h2, h3⟩, HS5.out.pg.base⟩)
    have H0 := Lib.hid (show ∀ m', m' < 11 → puH B gp room l (.slice none 0 0) m' W5.drew from fun m' _ => by
      unfold puH
      split
      · exact kept_bel HS5.out.pg.row (Below.refl _ _).drew
      · exact HS5.out.pg.bk
      · trivial)
    clear hh0 hh1 hh2 hf1 pw pw2 HS
    go_wp2_with fail
    refine wp_region_late [some 56, some 57, some 58, some 59, some 60, some 61, some 62, some 63, some 64, some 65, none] (fun _ => 0) (puF B gp room l (⟨pa, pb + 1, false⟩ : HeldM) (.slice none 0 0) W5) (puG B gp (.slice none 0 0) W5) (puH B gp room l (.slice none 0 0)) (by kernel_rfl) G0.out H0.out rfl (by kernel_rfl) (by kernel_rfl) (by kernel_rfl) (by kernel_rfl) (fun T hT => ?_)
    simp only [List.filterMap_cons, List.filterMap_nil, id, putsS, Act.put, List.setIfInBounds_toArray, List.set_cons_zero, List.set_cons_succ] at hT
    subst hT
    refine ⟨⟨?_, ?_, ?_, ?_, ?_, ?_, ?_, ?_, ?_, ?_, ?_, trivial⟩, ?_⟩
    · -- 0: Op.move t0
      intro f w1 hG hO hL hF K hK
      clear hF hO hL
      dsimp only at hK ⊢
      go_simp
      exact hK.out _ _ hG rfl (fun _ _ _ h => h) (fun _ _ h => h)
    · -- 1: Op.move t0
      intro f w1 hG hO hL hF K hK
      clear hF hO hL
      dsimp only at hK ⊢
      go_simp
      exact hK.out _ _ hG rfl (fun _ _ _ h => h) (fun _ _ h => h)
    · -- 2: Op.nilCheck t57
      intro f w1 hG hO hL hF K hK
      have d1 : (puF B gp room l (⟨pa, pb + 1, false⟩ : HeldM) (.slice none 0 0) W5) 1 (f 57) (f 0) w1 := hF 1 (by kernel_rfl)
      clear hF hO hL
      dsimp only at hK ⊢
      generalize hf57 : f 57 = v57 at *
      subst d1
      go_simp
      exact hK.out _ _ hG rfl (fun _ _ _ h => h) (fun _ _ h => h)
    · -- 3: Op.fieldAddr 56 t58 1
      intro f w1 hG hO hL hF K hK
      have d2 : (puF B gp room l (⟨pa, pb + 1, false⟩ : HeldM) (.slice none 0 0) W5) 2 (f 58) (f 0) w1 := hF 2 (by kernel_rfl)
      clear hF hO hL
      dsimp only at hK ⊢
      generalize hf58 : f 58 = v58 at *
      subst d2
      go_simp
      exact hK.out _ _ hG rfl (fun _ _ _ h => h) (fun _ _ h => h)
    · -- 4: Op.load 54 t59
      intro f w1 hG hO hL hF K hK
      have l10 : (puH B gp room l (.slice none 0 0)) 10 w1 := hL 10 (Nat.le_of_ble_eq_true (by kernel_rfl)) (by kernel_rfl)
      have d3 : (puF B gp room l (⟨pa, pb + 1, false⟩ : HeldM) (.slice none 0 0) W5) 3 (f 59) (f 0) w1 := hF 3 (by kernel_rfl)
      clear hF hO hL
      dsimp only at hK ⊢
      generalize hf59 : f 59 = v59 at *
      subst d3
      have y : w1.cell? ⟨gp, 1, none⟩ = some (.slice none 0 0) := Bk.cell l10 1
      go_simp
      exact hK.out _ _ hG rfl (fun _ _ _ h => h) (fun _ _ h => h)
    · -- 5: Op.load 61 t6
      intro f w1 hG hO hL hF K hK
      clear hF hO hL
      dsimp only at hK ⊢
      have HX := HH5.out w1 hG.kp
      have y0 := HX.cell 0
      have y1 := HX.cell 1
      have y2 := HX.cell 2
      go_simp
      exact hK.out _ _ hG rfl (fun _ _ _ h => h) (fun _ _ h => h)
    · -- 6: Op.buildSlice 54 1 #[(0, t61)]
      intro f w1 hG hO hL hF K hK
      have d5 : (puF B gp room l (⟨pa, pb + 1, false⟩ : HeldM) (.slice none 0 0) W5) 5 (f 61) (f 0) w1 := hF 5 (by kernel_rfl)
      clear hF hO hL
      dsimp only at hK ⊢
      generalize hf61 : f 61 = v61 at *
      subst d5
      go_simp
      exact hK.out _ _ (hG.next ((Below.refl _ _).alloc (Nat.le_refl _) _)) ⟨w1.heap.size, rfl, hG.base, (fun e => absurd hG.lt (by omega)), (fun e => absurd (hG.kl _ e).2 (Nat.lt_irrefl _)), Bk.new w1 _ _⟩ (fun j _ _ h => puF_bel ((Below.refl _ _).alloc (Nat.le_refl _) _) j _ _ h) (fun m _ h => puH_bel ((Below.refl _ _).alloc (Nat.le_refl _) _) m h)
    · -- 7: Op.call ( builtin append, args := #[t60, t62], argTypes := #[54, 54] )
      intro f w1 hG hO hL hF K hK
      have l7 : (puH B gp room l (.slice none 0 0)) 7 w1 := hL 7 (Nat.le_of_ble_eq_true (by kernel_rfl)) (by kernel_rfl)
      have l10 : (puH B gp room l (.slice none 0 0)) 10 w1 := hL 10 (Nat.le_of_ble_eq_true (by kernel_rfl)) (by kernel_rfl)
      have d4 : (puF B gp room l (⟨pa, pb + 1, false⟩ : HeldM) (.slice none 0 0) W5) 4 (f 60) (f 0) w1 := hF 4 (by kernel_rfl)
      have d6 : (puF B gp room l (⟨pa, pb + 1, false⟩ : HeldM) (.slice none 0 0) W5) 6 (f 62) (f 0) w1 := hF 6 (by kernel_rfl)
      clear hF hO hL
      dsimp only at hK ⊢
      generalize hf60 : f 60 = v60 at *
      generalize hf62 : f 62 = v62 at *
      have d4 : v60 = (.slice none 0 0) := d4
      subst d4
      obtain ⟨gq, rfl, h0, h1, h2, h3⟩ := d6
      have hcb : ∀ j u, (heldV (⟨pa, pb + 1, false⟩ : HeldM))[j]? = some u → w1.cell? ((⟨gq, 0, none⟩ : Addr).add j) = some u := fun j u hu => by
        rw [show ((⟨gq, 0, none⟩ : Addr).add j) = ⟨gq, j, none⟩ by unfold Addr.add; split <;> simp_all, h3.cell j]; simpa [heldV] using hu
      obtain ⟨v', w2', hrun, hown, hgr, _, hat⟩ := run_append_own_at (P := Try.prog) (w := w1) B 51 51 82 i0 _ 3 24 Try.underlying51 hi0 hz0 hz1 hz2 rfl (by decide) (.slice none 0 0) (l).length (rowH l) l7 ⟨gq, 0, none⟩ 1 1 (heldV (⟨pa, pb + 1, false⟩ : HeldM)) rfl hcb (by intro u hu; simp only [heldV, List.mem_cons, List.not_mem_nil, or_false] at hu; rcases hu with rfl | rfl | rfl <;> rfl) (by have := HLL.out; simp only [maxLen]; omega) (by have := HLL.out; omega) hG.base
      have nkg : Value.ownBlock (.slice none 0 0) ≠ some gp := own_block_ne l7 l10 (by decide)
      refine Lib.wp_append_run w1 _ _ _ _ rfl _ _ rfl rfl _ w2' hrun (hK.out v' w2' (hG.app hgr) ⟨hown, hat.imp id (fun e => ⟨_, e, hG.kp.size⟩)⟩ ?_ (fun m hm h => puH_app hgr nkg m hm h))
      intro j hj hdep h
      by_cases h10 : j = 10
      · subst h10
        exact absurd hdep (by rw [show depS _ 10 7 = true by kernel_rfl]; decide)
      · exact puF_app hgr j hj h10 _ _ h
    · -- 8: Op.nilCheck t56
      intro f w1 hG hO hL hF K hK
      have d0 : (puF B gp room l (⟨pa, pb + 1, false⟩ : HeldM) (.slice none 0 0) W5) 0 (f 56) (f 0) w1 := hF 0 (by kernel_rfl)
      clear hF hO hL
      dsimp only at hK ⊢
      generalize hf56 : f 56 = v56 at *
      subst d0
      go_simp
      exact hK.out _ _ hG rfl (fun _ _ _ h => h) (fun _ _ h => h)
    · -- 9: Op.fieldAddr 56 t64 1
      intro f w1 hG hO hL hF K hK
      have d8 : (puF B gp room l (⟨pa, pb + 1, false⟩ : HeldM) (.slice none 0 0) W5) 8 (f 64) (f 0) w1 := hF 8 (by kernel_rfl)
      clear hF hO hL
      dsimp only at hK ⊢
      generalize hf64 : f 64 = v64 at *
      subst d8
      go_simp
      exact hK.out _ _ hG rfl (fun _ _ _ h => h) (fun _ _ h => h)
    · -- 10: Op.store 54 t65 t63
      intro f w1 hG hO hL hF K hK
      have l10 : (puH B gp room l (.slice none 0 0)) 10 w1 := hL 10 (Nat.le_of_ble_eq_true (by kernel_rfl)) (by kernel_rfl)
      have d9 : (puF B gp room l (⟨pa, pb + 1, false⟩ : HeldM) (.slice none 0 0) W5) 9 (f 65) (f 0) w1 := hF 9 (by kernel_rfl)
      have d7 : (puF B gp room l (⟨pa, pb + 1, false⟩ : HeldM) (.slice none 0 0) W5) 7 (f 63) (f 0) w1 := hF 7 (by kernel_rfl)
      clear hF hO hL
      dsimp only at hK ⊢
      generalize hf65 : f 65 = v65 at *
      generalize hf63 : f 63 = v63 at *
      subst d9
      have hd7 : w1.ownsRow B 82 3 v63 ((l).length + 1) (rowH l ++ heldV (⟨pa, pb + 1, false⟩ : HeldM)) ∧ (v63.ownBlock = Value.ownBlock (.slice none 0 0) ∨ ∃ g, v63.ownBlock = some g ∧ W5.heap.size ≤ g) := d7
      clear d7
      obtain ⟨A5, c5, rfl, _⟩ := own_shapeS hd7.1
      have hl10 : Bk w1 gp 53 #[.int .i64 room, (.slice none 0 0)] := l10
      have y0 : w1.cell? ⟨gp, 1, none⟩ = some (.slice none 0 0) := Bk.cell hl10 1
      have f0 := Bk.frozen hl10 1
      have HD7 := Lib.hid hd7
      have HL10 := Lib.hid hl10
      have HG := Lib.hid hG
      clear hd7 hl10 l10 hG
      go_simp
      refine hK.out undef _ (HG.out.set 1 (.slice A5 ((l).length + 1) c5)) ⟨_, HL10.out.put 1 (.slice A5 ((l).length + 1) c5), own_setB HD7.out.1 (own_block_ne HD7.out.1 HL10.out (by decide)), HD7.out.2⟩ (fun j hj _ h => puF_set HL10.out 1 _ j hj _ _ h) (fun m hm h => puH_set HL10.out 1 _ m hm h)
    · intro f w6 hG hF
      obtain ⟨V', g1, g2', g3'⟩ : (puF B gp room l (⟨pa, pb + 1, false⟩ : HeldM) (.slice none 0 0) W5) 10 undef undef w6 := hF 10 (by decide)
      have HG6 := Lib.hid hG
      clear hF hG
      dsimp only
      generalize f 56 = v56
      generalize f 57 = v57
      generalize f 58 = v58
      generalize f 59 = v59
      generalize f 60 = v60
      generalize f 61 = v61
      generalize f 62 = v62
      generalize f 63 = v63
      generalize f 64 = v64
      generalize f 65 = v65
      have FA := HG6.out.kp.bk HS5.out.act (fun e => by
        rcases e with e | e
        · have := HS5.out.lt; omega
        · have := HS5.out.low _ e; omega)
      have FR := HG6.out.kp.bk HS5.out.res (fun e => by
        rcases e with e | e
        · have := HS5.out.lt; omega
        · have := HS5.out.low _ e; omega)
      have FW := HG6.out.kp.own HS5.out.wrote (fun k hk1 hk2 => by
        rcases hk2 with e | e
        · subst e; exact own_block_ne HS5.out.wrote HS5.out.pg.bk (by decide) hk1
        · exact own_types_ne HS5.out.wrote HS5.out.pg.row (by decide) hk1 e)
      have z0 := FA.cell 0
      have z1 := FA.cell 1
      have z2 := FA.cell 2
      have z3 := FA.cell 3
      have r0 := FR.cell 0
      have r1 := FR.cell 1
      have r2 := FR.cell 2
      have r3 := FR.cell 3
      have k0 := FR.frozen 0
      have k1 := FR.frozen 1
      have k2 := FR.frozen 2
      have k3 := FR.frozen 3
      have hlt := HS5.out.lt
      have FK : Kp (pS gp (.slice none 0 0)) (pS gp V') w w6 := HS5.out.kp.trans (HG6.out.kp.mono (fun _ h => h) (fun i hi => by
        rcases hi with hi | hi
        · exact Or.inl (Or.inl hi)
        · rcases g3' with h | ⟨g, h, hg⟩
          · exact Or.inl (Or.inr (h ▸ hi))
          · rw [h] at hi; injection hi with hi; subst hi; exact Or.inr (Or.inr hg)))
      have nV : V'.ownBlock ≠ some w.heap.size := fun e => by
        rcases g3' with h | ⟨g, h, hg⟩
        · have := HS5.out.low _ (h ▸ e); omega
        · rw [h] at e; injection e with e
          have := HS5.out.res.lt
          omega
      have FIN := Lib.hid (show DoP B gp room (.slice none 0 0) w (l ++ [(⟨pa, pb + 1, false⟩ : HeldM)], ⟨0, false, (-1), []⟩) (.returned (.agg #[.int .i64 0, .bool false, .int .i64 (-1), .slice none 0 0])) ((((w6.setCell ⟨w.heap.size, 0, none⟩ (.int .i64 0)).setCell ⟨w.heap.size, 1, none⟩ (.bool false)).setCell ⟨w.heap.size, 2, none⟩ (.int .i64 (-1))).setCell ⟨w.heap.size, 3, none⟩ (.slice none 0 0)) from
        ⟨_, V', rfl, own_setB (own_setB (own_setB (own_setB FW (own_block_ne FW FR (by decide))) (own_block_ne FW FR (by decide))) (own_block_ne FW FR (by decide))) (own_block_ne FW FR (by decide)),
          ⟨bk_set2 (bk_set2 (bk_set2 (bk_set2 g1 (by omega)) (by omega)) (by omega)) (by omega), by
            rw [rowH_append, List.length_append]
            exact own_setB (own_setB (own_setB (own_setB (by simpa [rowH] using g2') nV) nV) nV) nV, HS5.out.pg.ge, by simpa [World.setCell] using HG6.out.base⟩,
          (((FK.setCell (p := ⟨w.heap.size, 0, none⟩) (Or.inr (Nat.le_refl _)) _).setCell (p := ⟨w.heap.size, 1, none⟩) (Or.inr (Nat.le_refl _)) _).setCell (p := ⟨w.heap.size, 2, none⟩) (Or.inr (Nat.le_refl _)) _).setCell (p := ⟨w.heap.size, 3, none⟩) (Or.inr (Nat.le_refl _)) _⟩)
      clear FA FR FW FK nV g1 g2' g3' HS5 G0 H0 HG6 HH5
      go_wp2_with fail
      exact bodyPost_ret (v := .agg #[.int .i64 0, .bool false, .int .i64 (-1), .slice none 0 0]) (by simp [results, Try.results25, go_sem, r0, r1, r2, r3]) rfl (by rw [← HR.out]; exact FIN.out)
  · go_wp2_with fail
    go_quiet (fail)
    obtain ⟨wr, hwr⟩ : ∃ wr, wr = w1.drewN nq := ⟨_, rfl⟩
    have HS := Lib.hid (HS.out.bel (below_drewN (Below.refl _ w1) nq))
    rw [← hwr] at HS ⊢
    clear hwr y0 y1
    have HP := Lib.hid HS.out.pg
    have hh0 := HS.out.hb.cell 0
    have hh1 := HS.out.hb.cell 1
    have hh2 := HS.out.hb.cell 2
    have hf1 := HS.out.hb.frozen 1
    have pw : IntKind.i64.wrap ((pb : Int) + 1) = (pb : Int) + 1 := by rw [IntKind.wrap_i64]; have := HPN.out; omega
    have pw2 : wrap64 ((pb : Int) + 1) = (pb : Int) + 1 := by unfold wrap64; have := HPN.out; omega
    obtain ⟨W5, hW5⟩ : ∃ W5, W5 = wr.setCell ⟨w.heap.size + 2, 1, none⟩ (.int .i64 ((pb : Int) + 1)) := ⟨_, rfl⟩
    have HS5 := Lib.hid (show PnS B gp room l (.slice (some ⟨g, 0, none⟩) l.length cap) (.slice (some ⟨g, 0, none⟩) l.length cap) (⟨pa, pb + 1, false⟩ : HeldM) false (-1) (.slice none 0 0) [] w W5 by
      rw [hW5]
      have s := HS.out
      have hlt := s.lt
      have n1 : ¬ gp = w.heap.size + 2 := by omega
      have nv : Value.ownBlock (.slice (some ⟨g, 0, none⟩) l.length cap) ≠ some (w.heap.size + 2) := fun e => by have := s.low _ e; omega
      exact ⟨⟨bk_set2 s.pg.bk n1, own_setB s.pg.row nv, s.pg.ge, by simpa [World.setCell] using s.pg.base⟩, s.kp.setCell (p := ⟨w.heap.size + 2, 1, none⟩) (Or.inr (by show w.heap.size ≤ w.heap.size + 2; omega)) _, bk_set2 s.res (by omega), bk_set2 s.act (by omega), s.hb.put 1 (.int .i64 ((pb : Int) + 1)), own_setB s.wrote (own_block_ne s.wrote s.hb (by decide)), s.lt, s.low, s.base⟩)
    have HW5 := Lib.hid hW5
    have HLL := Lib.hid (show (l).length ≤ 1000000 by first | exact hl | (rw [List.length_eraseIdx]; split <;> omega))
    clear hW5
    go_upto_region 16 with fail
    rw [← HW5.out]
    have HH5 := Lib.hid (show ∀ w1, Kp (pS gp (.slice (some ⟨g, 0, none⟩) l.length cap)) (pS gp (.slice (some ⟨g, 0, none⟩) l.length cap)) W5 w1 → Bk w1 (w.heap.size + 2) 82 #[.int .i64 pa, .int .i64 ((pb : Int) + 1), .bool false] from fun w1 k => k.bk HS5.out.hb (fun e => by
      rcases e with e | e
      · have := HS5.out.lt; omega
      · have := HS5.out.low _ e; omega))
    have G0 := Lib.hid (show puG B gp (.slice (some ⟨g, 0, none⟩) l.length cap) W5 W5.drew from ⟨(Kp.refl _ W5).drew, HS5.out.pg.bk.lt, fun b e => by
      rcases own_shapeH HS5.out.pg.row with ⟨h1, _⟩ | ⟨g, cap, h1, h2, h3, _⟩
      · rw [h1] at e; cases e
      · rw [h1] at e
        have : g = b := by simpa [Value.ownBlock] using e
        subst this
        exact ⟨h2, h3⟩, HS5.out.pg.base⟩)
    have H0 := Lib.hid (show ∀ m', m' < 11 → puH B gp room l (.slice (some ⟨g, 0, none⟩) l.length cap) m' W5.drew from fun m' _ => by
      unfold puH
      split
      · exact kept_bel HS5.out.pg.row (Below.refl _ _).drew
      · exact HS5.out.pg.bk
      · trivial)
    clear hh0 hh1 hh2 hf1 pw pw2 HS
    go_wp2_with fail
    refine wp_region_late [some 56, some 57, some 58, some 59, some 60, some 61, some 62, some 63, some 64, some 65, none] (fun _ => 0) (puF B gp room l (⟨pa, pb + 1, false⟩ : HeldM) (.slice (some ⟨g, 0, none⟩) l.length cap) W5) (puG B gp (.slice (some ⟨g, 0, none⟩) l.length cap) W5) (puH B gp room l (.slice (some ⟨g, 0, none⟩) l.length cap)) (by kernel_rfl) G0.out H0.out rfl (by kernel_rfl) (by kernel_rfl) (by kernel_rfl) (by kernel_rfl) (fun T hT => ?_)
    simp only [List.filterMap_cons, List.filterMap_nil, id, putsS, Act.put, List.setIfInBounds_toArray, List.set_cons_zero, List.set_cons_succ] at hT
    subst hT
    refine ⟨⟨?_, ?_, ?_, ?_, ?_, ?_, ?_, ?_, ?_, ?_, ?_, trivial⟩, ?_⟩
    · -- 0: Op.move t0
      intro f w1 hG hO hL hF K hK
      clear hF hO hL
      dsimp only at hK ⊢
      go_simp
      exact hK.out _ _ hG rfl (fun _ _ _ h => h) (fun _ _ h => h)
    · -- 1: Op.move t0
      intro f w1 hG hO hL hF K hK
      clear hF hO hL
      dsimp only at hK ⊢
      go_simp
      exact hK.out _ _ hG rfl (fun _ _ _ h => h) (fun _ _ h => h)
    · -- 2: Op.nilCheck t57
      intro f w1 hG hO hL hF K hK
      have d1 : (puF B gp room l (⟨pa, pb + 1, false⟩ : HeldM) (.slice (some ⟨g, 0, none⟩) l.length cap) W5) 1 (f 57) (f 0) w1 := hF 1 (by kernel_rfl)
      clear hF hO hL
      dsimp only at hK ⊢
      generalize hf57 : f 57 = v57 at *
      subst d1
      go_simp
      exact hK.out _ _ hG rfl (fun _ _ _ h => h) (fun _ _ h => h)
    · -- 3: Op.fieldAddr 56 t58 1
      intro f w1 hG hO hL hF K hK
      have d2 : (puF B gp room l (⟨pa, pb + 1, false⟩ : HeldM) (.slice (some ⟨g, 0, none⟩) l.length cap) W5) 2 (f 58) (f 0) w1 := hF 2 (by kernel_rfl)
      clear hF hO hL
      dsimp only at hK ⊢
      generalize hf58 : f 58 = v58 at *
      subst d2
      go_simp
      exact hK.out _ _ hG rfl (fun _ _ _ h => h) (fun _ _ h => h)
    · -- 4: Op.load 54 t59
      intro f w1 hG hO hL hF K hK
      have l10 : (puH B gp room l (.slice (some ⟨g, 0, none⟩) l.length cap)) 10 w1 := hL 10 (Nat.le_of_ble_eq_true (by kernel_rfl)) (by kernel_rfl)
      have d3 : (puF B gp room l (⟨pa, pb + 1, false⟩ : HeldM) (.slice (some ⟨g, 0, none⟩) l.length cap) W5) 3 (f 59) (f 0) w1 := hF 3 (by kernel_rfl)
      clear hF hO hL
      dsimp only at hK ⊢
      generalize hf59 : f 59 = v59 at *
      subst d3
      have y : w1.cell? ⟨gp, 1, none⟩ = some (.slice (some ⟨g, 0, none⟩) l.length cap) := Bk.cell l10 1
      go_simp
      exact hK.out _ _ hG rfl (fun _ _ _ h => h) (fun _ _ h => h)
    · -- 5: Op.load 61 t6
      intro f w1 hG hO hL hF K hK
      clear hF hO hL
      dsimp only at hK ⊢
      have HX := HH5.out w1 hG.kp
      have y0 := HX.cell 0
      have y1 := HX.cell 1
      have y2 := HX.cell 2
      go_simp
      exact hK.out _ _ hG rfl (fun _ _ _ h => h) (fun _ _ h => h)
    · -- 6: Op.buildSlice 54 1 #[(0, t61)]
      intro f w1 hG hO hL hF K hK
      have d5 : (puF B gp room l (⟨pa, pb + 1, false⟩ : HeldM) (.slice (some ⟨g, 0, none⟩) l.length cap) W5) 5 (f 61) (f 0) w1 := hF 5 (by kernel_rfl)
      clear hF hO hL
      dsimp only at hK ⊢
      generalize hf61 : f 61 = v61 at *
      subst d5
      go_simp
      exact hK.out _ _ (hG.next ((Below.refl _ _).alloc (Nat.le_refl _) _)) ⟨w1.heap.size, rfl, hG.base, (fun e => absurd hG.lt (by omega)), (fun e => absurd (hG.kl _ e).2 (Nat.lt_irrefl _)), Bk.new w1 _ _⟩ (fun j _ _ h => puF_bel ((Below.refl _ _).alloc (Nat.le_refl _) _) j _ _ h) (fun m _ h => puH_bel ((Below.refl _ _).alloc (Nat.le_refl _) _) m h)
    · -- 7: Op.call ( builtin append, args := #[t60, t62], argTypes := #[54, 54] )
      intro f w1 hG hO hL hF K hK
      have l7 : (puH B gp room l (.slice (some ⟨g, 0, none⟩) l.length cap)) 7 w1 := hL 7 (Nat.le_of_ble_eq_true (by kernel_rfl)) (by kernel_rfl)
      have l10 : (puH B gp room l (.slice (some ⟨g, 0, none⟩) l.length cap)) 10 w1 := hL 10 (Nat.le_of_ble_eq_true (by kernel_rfl)) (by kernel_rfl)
      have d4 : (puF B gp room l (⟨pa, pb + 1, false⟩ : HeldM) (.slice (some ⟨g, 0, none⟩) l.length cap) W5) 4 (f 60) (f 0) w1 := hF 4 (by kernel_rfl)
      have d6 : (puF B gp room l (⟨pa, pb + 1, false⟩ : HeldM) (.slice (some ⟨g, 0, none⟩) l.length cap) W5) 6 (f 62) (f 0) w1 := hF 6 (by kernel_rfl)
      clear hF hO hL
      dsimp only at hK ⊢
      generalize hf60 : f 60 = v60 at *
      generalize hf62 : f 62 = v62 at *
      have d4 : v60 = (.slice (some ⟨g, 0, none⟩) l.length cap) := d4
      subst d4
      obtain ⟨gq, rfl, h0, h1, h2, h3⟩ := d6
      have hcb : ∀ j u, (heldV (⟨pa, pb + 1, false⟩ : HeldM))[j]? = some u → w1.cell? ((⟨gq, 0, none⟩ : Addr).add j) = some u := fun j u hu => by
        rw [show ((⟨gq, 0, none⟩ : Addr).add j) = ⟨gq, j, none⟩ by unfold Addr.add; split <;> simp_all, h3.cell j]; simpa [heldV] using hu
      obtain ⟨v', w2', hrun, hown, hgr, _, hat⟩ := run_append_own_at (P := Try.prog) (w := w1) B 51 51 82 i0 _ 3 24 Try.underlying51 hi0 hz0 hz1 hz2 rfl (by decide) (.slice (some ⟨g, 0, none⟩) l.length cap) (l).length (rowH l) l7 ⟨gq, 0, none⟩ 1 1 (heldV (⟨pa, pb + 1, false⟩ : HeldM)) rfl hcb (by intro u hu; simp only [heldV, List.mem_cons, List.not_mem_nil, or_false] at hu; rcases hu with rfl | rfl | rfl <;> rfl) (by have := HLL.out; simp only [maxLen]; omega) (by have := HLL.out; omega) hG.base
      have nkg : Value.ownBlock (.slice (some ⟨g, 0, none⟩) l.length cap) ≠ some gp := own_block_ne l7 l10 (by decide)
      refine Lib.wp_append_run w1 _ _ _ _ rfl _ _ rfl rfl _ w2' hrun (hK.out v' w2' (hG.app hgr) ⟨hown, hat.imp id (fun e => ⟨_, e, hG.kp.size⟩)⟩ ?_ (fun m hm h => puH_app hgr nkg m hm h))
      intro j hj hdep h
      by_cases h10 : j = 10
      · subst h10
        exact absurd hdep (by rw [show depS _ 10 7 = true by kernel_rfl]; decide)
      · exact puF_app hgr j hj h10 _ _ h
    · -- 8: Op.nilCheck t56
      intro f w1 hG hO hL hF K hK
      have d0 : (puF B gp room l (⟨pa, pb + 1, false⟩ : HeldM) (.slice (some ⟨g, 0, none⟩) l.length cap) W5) 0 (f 56) (f 0) w1 := hF 0 (by kernel_rfl)
      clear hF hO hL
      dsimp only at hK ⊢
      generalize hf56 : f 56 = v56 at *
      subst d0
      go_simp
      exact hK.out _ _ hG rfl (fun _ _ _ h => h) (fun _ _ h => h)
    · -- 9: Op.fieldAddr 56 t64 1
      intro f w1 hG hO hL hF K hK
      have d8 : (puF B gp room l (⟨pa, pb + 1, false⟩ : HeldM) (.slice (some ⟨g, 0, none⟩) l.length cap) W5) 8 (f 64) (f 0) w1 := hF 8 (by kernel_rfl)
      clear hF hO hL
      dsimp only at hK ⊢
      generalize hf64 : f 64 = v64 at *
      subst d8
      go_simp
      exact hK.out _ _ hG rfl (fun _ _ _ h => h) (fun _ _ h => h)
    · -- 10: Op.store 54 t65 t63
      intro f w1 hG hO hL hF K hK
      have l10 : (puH B gp room l (.slice (some ⟨g, 0, none⟩) l.length cap)) 10 w1 := hL 10 (Nat.le_of_ble_eq_true (by kernel_rfl)) (by kernel_rfl)
      have d9 : (puF B gp room l (⟨pa, pb + 1, false⟩ : HeldM) (.slice (some ⟨g, 0, none⟩) l.length cap) W5) 9 (f 65) (f 0) w1 := hF 9 (by kernel_rfl)
      have d7 : (puF B gp room l (⟨pa, pb + 1, false⟩ : HeldM) (.slice (some ⟨g, 0, none⟩) l.length cap) W5) 7 (f 63) (f 0) w1 := hF 7 (by kernel_rfl)
      clear hF hO hL
      dsimp only at hK ⊢
      generalize hf65 : f 65 = v65 at *
      generalize hf63 : f 63 = v63 at *
      subst d9
      have hd7 : w1.ownsRow B 82 3 v63 ((l).length + 1) (rowH l ++ heldV (⟨pa, pb + 1, false⟩ : HeldM)) ∧ (v63.ownBlock = Value.ownBlock (.slice (some ⟨g, 0, none⟩) l.length cap) ∨ ∃ g, v63.ownBlock = some g ∧ W5.heap.size ≤ g) := d7
      clear d7
      obtain ⟨A5, c5, rfl, _⟩ := own_shapeS hd7.1
      have hl10 : Bk w1 gp 53 #[.int .i64 room, (.slice (some ⟨g, 0, none⟩) l.length cap)] := l10
      have y0 : w1.cell? ⟨gp, 1, none⟩ = some (.slice (some ⟨g, 0, none⟩) l.length cap) := Bk.cell hl10 1
      have f0 := Bk.frozen hl10 1
      have HD7 := Lib.hid hd7
      have HL10 := Lib.hid hl10
      have HG := Lib.hid hG
      clear hd7 hl10 l10 hG
      go_simp
      refine hK.out undef _ (HG.out.set 1 (.slice A5 ((l).length + 1) c5)) ⟨_, HL10.out.put 1 (.slice A5 ((l).length + 1) c5), own_setB HD7.out.1 (own_block_ne HD7.out.1 HL10.out (by decide)), HD7.out.2⟩ (fun j hj _ h => puF_set HL10.out 1 _ j hj _ _ h) (fun m hm h => puH_set HL10.out 1 _ m hm h)
    · intro f w6 hG hF
      obtain ⟨V', g1, g2', g3'⟩ : (puF B gp room l (⟨pa, pb + 1, false⟩ : HeldM) (.slice (some ⟨g, 0, none⟩) l.length cap) W5) 10 undef undef w6 := hF 10 (by decide)
      have HG6 := Lib.hid hG
      clear hF hG
      dsimp only
      generalize f 56 = v56
      generalize f 57 = v57
      generalize f 58 = v58
      generalize f 59 = v59
      generalize f 60 = v60
      generalize f 61 = v61
      generalize f 62 = v62
      generalize f 63 = v63
      generalize f 64 = v64
      generalize f 65 = v65
      have FA := HG6.out.kp.bk HS5.out.act (fun e => by
        rcases e with e | e
        · have := HS5.out.lt; omega
        · have := HS5.out.low _ e; omega)
      have FR := HG6.out.kp.bk HS5.out.res (fun e => by
        rcases e with e | e
        · have := HS5.out.lt; omega
        · have := HS5.out.low _ e; omega)
      have FW := HG6.out.kp.own HS5.out.wrote (fun k hk1 hk2 => by
        rcases hk2 with e | e
        · subst e; exact own_block_ne HS5.out.wrote HS5.out.pg.bk (by decide) hk1
        · exact own_types_ne HS5.out.wrote HS5.out.pg.row (by decide) hk1 e)
      have z0 := FA.cell 0
      have z1 := FA.cell 1
      have z2 := FA.cell 2
      have z3 := FA.cell 3
      have r0 := FR.cell 0
      have r1 := FR.cell 1
      have r2 := FR.cell 2
      have r3 := FR.cell 3
      have k0 := FR.frozen 0
      have k1 := FR.frozen 1
      have k2 := FR.frozen 2
      have k3 := FR.frozen 3
      have hlt := HS5.out.lt
      have FK : Kp (pS gp (.slice (some ⟨g, 0, none⟩) l.length cap)) (pS gp V') w w6 := HS5.out.kp.trans (HG6.out.kp.mono (fun _ h => h) (fun i hi => by
        rcases hi with hi | hi
        · exact Or.inl (Or.inl hi)
        · rcases g3' with h | ⟨g, h, hg⟩
          · exact Or.inl (Or.inr (h ▸ hi))
          · rw [h] at hi; injection hi with hi; subst hi; exact Or.inr (Or.inr hg)))
      have nV : V'.ownBlock ≠ some w.heap.size := fun e => by
        rcases g3' with h | ⟨g, h, hg⟩
        · have := HS5.out.low _ (h ▸ e); omega
        · rw [h] at e; injection e with e
          have := HS5.out.res.lt
          omega
      have FIN := Lib.hid (show DoP B gp room (.slice (some ⟨g, 0, none⟩) l.length cap) w (l ++ [(⟨pa, pb + 1, false⟩ : HeldM)], ⟨0, false, (-1), []⟩) (.returned (.agg #[.int .i64 0, .bool false, .int .i64 (-1), .slice none 0 0])) ((((w6.setCell ⟨w.heap.size, 0, none⟩ (.int .i64 0)).setCell ⟨w.heap.size, 1, none⟩ (.bool false)).setCell ⟨w.heap.size, 2, none⟩ (.int .i64 (-1))).setCell ⟨w.heap.size, 3, none⟩ (.slice none 0 0)) from
        ⟨_, V', rfl, own_setB (own_setB (own_setB (own_setB FW (own_block_ne FW FR (by decide))) (own_block_ne FW FR (by decide))) (own_block_ne FW FR (by decide))) (own_block_ne FW FR (by decide)),
          ⟨bk_set2 (bk_set2 (bk_set2 (bk_set2 g1 (by omega)) (by omega)) (by omega)) (by omega), by
            rw [rowH_append, List.length_append]
            exact own_setB (own_setB (own_setB (own_setB (by simpa [rowH] using g2') nV) nV) nV) nV, HS5.out.pg.ge, by simpa [World.setCell] using HG6.out.base⟩,
          (((FK.setCell (p := ⟨w.heap.size, 0, none⟩) (Or.inr (Nat.le_refl _)) _).setCell (p := ⟨w.heap.size, 1, none⟩) (Or.inr (Nat.le_refl _)) _).setCell (p := ⟨w.heap.size, 2, none⟩) (Or.inr (Nat.le_refl _)) _).setCell (p := ⟨w.heap.size, 3, none⟩) (Or.inr (Nat.le_refl _)) _⟩)
      clear FA FR FW FK nV g1 g2' g3' HS5 G0 H0 HG6 HH5
      go_wp2_with fail
      exact bodyPost_ret (v := .agg #[.int .i64 0, .bool false, .int .i64 (-1), .slice none 0 0]) (by simp [results, Try.results25, go_sem, r0, r1, r2, r3]) rfl (by rw [← HR.out]; exact FIN.out)
end Go.Proofs.Ytopkkolcimmedaa
namespace Go.Proofs.Ytopkkolcimmedaa
open Go.RowKit

theorem refused_any (x : Int) (w : World) : Calls Try.prog 24 #[.int .i64 x] w fun e w' => e = .returned (.agg #[.int .i64 x, .bool false, .int .i64 (-1), .slice none 0 0]) ∧ Below w.heap.size w w' := by
  have HA := Lib.hid ((Below.refl w.heap.size w).alloc (Nat.le_refl _) (.cells #[.int .i64 0, .bool false, .int .i64 0, .slice none 0 0] 40))
  have R := Bk.new w 40 #[.int .i64 0, .bool false, .int .i64 0, .slice none 0 0]
  have r0 := R.cell 0
  have r1 := R.cell 1
  have r2 := R.cell 2
  have r3 := R.cell 3
  have k0 := R.frozen 0
  have k1 := R.frozen 1
  have k2 := R.frozen 2
  have k3 := R.frozen 3
  have hb := Lib.hid ((Below.refl w.heap.size w).alloc (Nat.le_refl _) (.cells #[.int .i64 x, .bool false, .int .i64 (-1), .slice none 0 0] 40))
  clear R
  go_enter Try.func24, Try.ntmps24
  go_wp2_with fail
  exact bodyPost_ret (v := .agg #[.int .i64 x, .bool false, .int .i64 (-1), .slice none 0 0]) (by simp [results, Try.results24, go_sem, r0, r1, r2, r3]) rfl ⟨rfl, hb.out⟩
set_option maxRecDepth 100000 in
set_option maxHeartbeats 8000000 in
theorem pin_full (B gp : Nat) (room : Int) (l : List HeldM) (v : Value) (w : World) (h : PgA B gp room l v w) (hl : l.length ≤ 1000000) (page : Int) (hz : findZ (isP page) l = -1) (hr : room ≤ (l.length : Int)) (hy : findZ isF l = -1) :
    Calls Try.prog 25 #[.pointer (some ⟨gp, 0, none⟩), .int .i64 page] w (DoP B gp room v w (l, refM 5)) := by
  obtain ⟨i0, hi0, hz0, hz1, hz2⟩ := info_parts info_held
  have hl := hl
  have al : Below w.heap.size w (((w.alloc (.cells #[.int .i64 0, .bool false, .int .i64 0, .slice none 0 0] 40)).alloc (.cells #[.int .i64 0, .bool false, .int .i64 (-1), .slice none 0 0] 40)).alloc (.cells #[.int .i64 page, .int .i64 0, .bool false] 82)) := (((Below.refl _ _).alloc (Nat.le_refl _) _).alloc (by simp) _).alloc (by simp; omega) _
  obtain ⟨W3, hW3⟩ : ∃ W3, W3 = ((w.alloc (.cells #[.int .i64 0, .bool false, .int .i64 0, .slice none 0 0] 40)).alloc (.cells #[.int .i64 0, .bool false, .int .i64 (-1), .slice none 0 0] 40)).alloc (.cells #[.int .i64 page, .int .i64 0, .bool false] 82) := ⟨_, rfl⟩
  rw [← hW3] at al
  have HS3 := Lib.hid (show PnS B gp room l v v ⟨page, 0, false⟩ false (-1) (.slice none 0 0) [] w W3 by
    refine ⟨h.bel al, Kp.of_bel al _, ?_, ?_, ?_, World.ownsRow_nil _ _ _ _, h.bk.lt, fun k hk => ?_, h.base⟩
    · rw [hW3]; exact ((Bk.new w _ _).alloc _).alloc _
    · rw [hW3]
      have k1 := Bk.new (w.alloc (.cells #[.int .i64 0, .bool false, .int .i64 0, .slice none 0 0] 40)) 40 #[.int .i64 0, .bool false, .int .i64 (-1), .slice none 0 0]
      rw [World.size_alloc] at k1
      exact k1.alloc _
    · rw [hW3]
      have k2 := Bk.new ((w.alloc (.cells #[.int .i64 0, .bool false, .int .i64 0, .slice none 0 0] 40)).alloc (.cells #[.int .i64 0, .bool false, .int .i64 (-1), .slice none 0 0] 40)) 82 #[.int .i64 page, .int .i64 0, .bool false]
      rw [World.size_alloc, World.size_alloc] at k2
      exact k2
    · rcases own_shapeH h.row with ⟨h1, _⟩ | ⟨g, cap, h1, h2, h3, _⟩
      · rw [h1] at hk; cases hk
      · rw [h1] at hk
        have : g = k := by simpa [Value.ownBlock] using hk
        subst this
        exact h3)
  have HW3 := Lib.hid hW3
  have CF0 := gfind_any B gp room l v W3 HS3.out.pg (by omega) page
  have CF1 : Calls Try.prog 41 #[.pointer (some ⟨gp, 0, none⟩), .int .i64 page] W3 fun e w' => e = .returned (.int .i64 (findZ (isP page) l)) ∧ Below W3.heap.size W3 w' := CF0
  rw [hz] at CF1
  have CF := Lib.hid CF1
  clear h al hW3 CF0 CF1
  go_enter Try.func25, Try.ntmps25
  go_upto_region 3 with fail
  rw [← HW3.out]
  go_wp2_with fail
  refine CF.out.mono ?_
  rintro e w1 ⟨rfl, b1⟩
  have HS1 := Lib.hid (HS3.out.bel b1)
  clear b1 HS3 HW3 CF
  have y1 := HS1.out.pg.bk.cell 1
  have y0 := HS1.out.pg.bk.cell 0
  have hr1 : decide (room ≤ (l.length : Int)) = true := decide_eq_true hr
  rcases own_shapeH HS1.out.pg.row with ⟨h1, h2⟩ | ⟨g, cap, h1, _⟩
  all_goals subst h1
  · have hr2 : room ≤ 0 := by rw [h2] at hr; simpa using hr
    have hr3 : decide (room ≤ 0) = true := decide_eq_true hr2
    clear h2
    go_wp2_with fail
    go_quiet (fail)
    have HS := Lib.hid (HS1.out.bel (below_drewN (Below.refl _ w1) nq))
    obtain ⟨wq, hwq⟩ : ∃ wq, wq = w1.drewN nq := ⟨_, rfl⟩
    rw [← hwq] at HS ⊢
    clear hwq y0 y1 HS1
    have y1 := HS.out.pg.bk.cell 1
    have CI1 := index_any 44 #[] isF (enters_of Try.func44 (by kernel_rfl) rfl) B l.length _ l wq HS.out.pg.row (by omega) (fun W x hb => (isFree_any x W).mono (fun e w' h => ⟨h.1, hb.trans (h.2.mono hb.size)⟩))
    rw [hy] at CI1
    have CI := Lib.hid CI1
    clear CI1
    go_wp2_with fail
    refine CI.out.mono ?_
    rintro e w5 ⟨rfl, b5⟩
    have HS5 := Lib.hid (HS.out.bel b5)
    clear b5 HS CI y1
    go_wp2_with fail
    refine (refused_any 5 w5).mono ?_
    rintro e w6 ⟨rfl, b6⟩
    have HS6 := Lib.hid (HS5.out.bel b6)
    have FR := HS6.out.res
    have r0 := FR.cell 0
    have r1 := FR.cell 1
    have r2 := FR.cell 2
    have r3 := FR.cell 3
    have k0 := FR.frozen 0
    have k1 := FR.frozen 1
    have k2 := FR.frozen 2
    have k3 := FR.frozen 3
    have hlt := HS6.out.lt
    have nV : (Value.ownBlock (.slice none 0 0)) ≠ some w.heap.size := fun e => by have := HS6.out.low _ e; omega
    have FIN := Lib.hid (show DoP B gp room (.slice none 0 0) w (l, refM 5) (.returned (.agg #[.int .i64 5, .bool false, .int .i64 (-1), .slice none 0 0])) ((((w6.setCell ⟨w.heap.size, 0, none⟩ (.int .i64 5)).setCell ⟨w.heap.size, 1, none⟩ (.bool false)).setCell ⟨w.heap.size, 2, none⟩ (.int .i64 (-1))).setCell ⟨w.heap.size, 3, none⟩ (.slice none 0 0)) from
      ⟨_, _, rfl, World.ownsRow_nil _ _ _ _, ⟨bk_set2 (bk_set2 (bk_set2 (bk_set2 HS6.out.pg.bk (by omega)) (by omega)) (by omega)) (by omega), own_setB (own_setB (own_setB (own_setB HS6.out.pg.row nV) nV) nV) nV, HS6.out.pg.ge, by simpa [World.setCell] using HS6.out.pg.base⟩,
        (((HS6.out.kp.setCell (p := ⟨w.heap.size, 0, none⟩) (Or.inr (Nat.le_refl _)) _).setCell (p := ⟨w.heap.size, 1, none⟩) (Or.inr (Nat.le_refl _)) _).setCell (p := ⟨w.heap.size, 2, none⟩) (Or.inr (Nat.le_refl _)) _).setCell (p := ⟨w.heap.size, 3, none⟩) (Or.inr (Nat.le_refl _)) _⟩)
    clear HS5 HS6 FR nV b6
    go_wp2_with fail
    exact bodyPost_ret (v := .agg #[.int .i64 5, .bool false, .int .i64 (-1), .slice none 0 0]) (by simp [results, Try.results25, go_sem, r0, r1, r2, r3]) rfl FIN.out
  · go_wp2_with fail
    go_quiet (fail)
    have HS := Lib.hid (HS1.out.bel (below_drewN (Below.refl _ w1) nq))
    obtain ⟨wq, hwq⟩ : ∃ wq, wq = w1.drewN nq := ⟨_, rfl⟩
    rw [← hwq] at HS ⊢
    clear hwq y0 y1 HS1
    have y1 := HS.out.pg.bk.cell 1
    have CI1 := index_any 44 #[] isF (enters_of Try.func44 (by kernel_rfl) rfl) B l.length _ l wq HS.out.pg.row (by omega) (fun W x hb => (isFree_any x W).mono (fun e w' h => ⟨h.1, hb.trans (h.2.mono hb.size)⟩))
    rw [hy] at CI1
    have CI := Lib.hid CI1
    clear CI1
    go_wp2_with fail
    refine CI.out.mono ?_
    rintro e w5 ⟨rfl, b5⟩
    have HS5 := Lib.hid (HS.out.bel b5)
    clear b5 HS CI y1
    go_wp2_with fail
    refine (refused_any 5 w5).mono ?_
    rintro e w6 ⟨rfl, b6⟩
    have HS6 := Lib.hid (HS5.out.bel b6)
    have FR := HS6.out.res
    have r0 := FR.cell 0
    have r1 := FR.cell 1
    have r2 := FR.cell 2
    have r3 := FR.cell 3
    have k0 := FR.frozen 0
    have k1 := FR.frozen 1
    have k2 := FR.frozen 2
    have k3 := FR.frozen 3
    have hlt := HS6.out.lt
    have nV : (Value.ownBlock (.slice (some ⟨g, 0, none⟩) l.length cap)) ≠ some w.heap.size := fun e => by have := HS6.out.low _ e; omega
    have FIN := Lib.hid (show DoP B gp room (.slice (some ⟨g, 0, none⟩) l.length cap) w (l, refM 5) (.returned (.agg #[.int .i64 5, .bool false, .int .i64 (-1), .slice none 0 0])) ((((w6.setCell ⟨w.heap.size, 0, none⟩ (.int .i64 5)).setCell ⟨w.heap.size, 1, none⟩ (.bool false)).setCell ⟨w.heap.size, 2, none⟩ (.int .i64 (-1))).setCell ⟨w.heap.size, 3, none⟩ (.slice none 0 0)) from
      ⟨_, _, rfl, World.ownsRow_nil _ _ _ _, ⟨bk_set2 (bk_set2 (bk_set2 (bk_set2 HS6.out.pg.bk (by omega)) (by omega)) (by omega)) (by omega), own_setB (own_setB (own_setB (own_setB HS6.out.pg.row nV) nV) nV) nV, HS6.out.pg.ge, by simpa [World.setCell] using HS6.out.pg.base⟩,
        (((HS6.out.kp.setCell (p := ⟨w.heap.size, 0, none⟩) (Or.inr (Nat.le_refl _)) _).setCell (p := ⟨w.heap.size, 1, none⟩) (Or.inr (Nat.le_refl _)) _).setCell (p := ⟨w.heap.size, 2, none⟩) (Or.inr (Nat.le_refl _)) _).setCell (p := ⟨w.heap.size, 3, none⟩) (Or.inr (Nat.le_refl _)) _⟩)
    clear HS5 HS6 FR nV b6
    go_wp2_with fail
    exact bodyPost_ret (v := .agg #[.int .i64 5, .bool false, .int .i64 (-1), .slice none 0 0]) (by simp [results, Try.results25, go_sem, r0, r1, r2, r3]) rfl FIN.out
end Go.Proofs.Ytopkkolcimmedaa
namespace Go.Proofs.Ytopkkolcimmedaa
open Go.RowKit

/-- A page of the row turned. -/
def chgH (kind : Int) (h : HeldM) : HeldM := if kind = 2 then ⟨h.page, h.pins - 1, h.turned⟩ else ⟨h.page, h.pins, true⟩
def chgM (l : List HeldM) (kind page : Int) : List HeldM × ActM :=
  if findZ (isP page) l < 0 then (l, refM 6)
  else if (l.getD (findZ (isP page) l).toNat default).pins = 0 then (l, refM 4)
  else (l.set (findZ (isP page) l).toNat (chgH kind (l.getD (findZ (isP page) l).toNat default)), ⟨0, false, -1, []⟩)
theorem rowH_set {l : List HeldM} {i : Nat} (hi : i < l.length) (h : HeldM) : rowH (l.set i h) = rowH (l.take i) ++ heldV h ++ rowH (l.drop (i + 1)) := by
  rw [List.set_eq_take_append_cons_drop, if_pos hi, rowH_append, rowH_cons, List.append_assoc]
/-- A cell of a page written. -/
theorem own_setH {B n g cap i k : Nat} {l : List HeldM} {w : World} (h : w.ownsRow B 82 3 (.slice (some ⟨g, 0, none⟩) n cap) n (rowH l)) (hi : i < l.length) (hk : k < 3) (u : Value) (h2 : HeldM) (hu : (heldV l[i]).set k u = heldV h2) :
    (w.setCell ⟨g, i * 3 + k, none⟩ u).ownsRow B 82 3 (.slice (some ⟨g, 0, none⟩) n cap) n (rowH (l.set i h2)) := by
  obtain ⟨cur, hb, hn, hm, hs, ht, hB⟩ := own_cellsH h
  have hl := own_lenH h
  refine ⟨by rw [rowH_length, List.length_set, hl], Or.inr ⟨g, cap, cur.setIfInBounds (i * 3 + k) u, rfl, hB, hb.put (i * 3 + k) u, hn, hm, by simpa using hs, ?_⟩⟩
  rw [Array.toList_setIfInBounds, List.take_set, ht]
  have e : rowH l = rowH (l.take i) ++ heldV l[i] ++ rowH (l.drop (i + 1)) := by
    have := rowH_set hi l[i]
    rw [List.set_getElem_self] at this
    exact this
  have hlen : (rowH (l.take i)).length = i * 3 := by rw [rowH_length, List.length_take]; omega
  rw [rowH_set hi, e, List.append_assoc, List.set_append_right _ _ (by omega), hlen, List.set_append_left _ _ (by rw [heldV_length]; omega), show i * 3 + k - i * 3 = k by omega, hu, List.append_assoc]
/-- What the box of a call holds while it runs. -/
structure CgS (B gp : Nat) (room : Int) (l : List HeldM) (v0 v : Value) (kind page : Int) (w wr : World) : Prop where
  pg : PgA B gp room l v wr
  kp : Kp (pS gp v0) (pS gp v) w wr
  op : Bk wr w.heap.size 43 #[.int .i64 kind, .int .i64 page]
  res : Bk wr (w.heap.size + 1) 40 #[.int .i64 0, .bool false, .int .i64 0, .slice none 0 0]
  lt : gp < w.heap.size
  low : ∀ k, v.ownBlock = some k → k < w.heap.size
theorem CgS.bel {B gp : Nat} {room : Int} {l : List HeldM} {v0 v : Value} {kind page : Int} {w wr w' : World} (s : CgS B gp room l v0 v kind page w wr) (hb : Below wr.heap.size wr w') : CgS B gp room l v0 v kind page w w' :=
  ⟨s.pg.bel hb, s.kp.trans (Kp.of_bel hb _), s.op.bel hb, s.res.bel hb, s.lt, s.low⟩
/-- The answer's box written whole, and the call's end. -/
theorem CgS.fin {B gp : Nat} {room : Int} {l : List HeldM} {v0 v : Value} {kind page : Int} {w wr : World} (s : CgS B gp room l v0 v kind page w wr) (x : Int) : DoP B gp room v0 w (l, refM x) (.returned (.agg #[.int .i64 x, .bool false, .int .i64 (-1), .slice none 0 0])) ((((wr.setCell ⟨w.heap.size + 1, 0, none⟩ (.int .i64 x)).setCell ⟨w.heap.size + 1, 1, none⟩ (.bool false)).setCell ⟨w.heap.size + 1, 2, none⟩ (.int .i64 (-1))).setCell ⟨w.heap.size + 1, 3, none⟩ (.slice none 0 0)) := by
  have hlt := s.lt
  have nV : v.ownBlock ≠ some (w.heap.size + 1) := fun e => by have := s.low _ e; omega
  have g : w.heap.size ≤ w.heap.size + 1 := Nat.le_succ _
  exact ⟨_, v, rfl, World.ownsRow_nil _ _ _ _, ⟨bk_set2 (bk_set2 (bk_set2 (bk_set2 s.pg.bk (by omega)) (by omega)) (by omega)) (by omega), own_setB (own_setB (own_setB (own_setB s.pg.row nV) nV) nV) nV, s.pg.ge, by simpa [World.setCell] using s.pg.base⟩,
    (((s.kp.setCell (p := ⟨w.heap.size + 1, 0, none⟩) (Or.inr g) _).setCell (p := ⟨w.heap.size + 1, 1, none⟩) (Or.inr g) _).setCell (p := ⟨w.heap.size + 1, 2, none⟩) (Or.inr g) _).setCell (p := ⟨w.heap.size + 1, 3, none⟩) (Or.inr g) _⟩
set_option maxRecDepth 100000 in
set_option maxHeartbeats 4000000 in
theorem chg_any (B gp : Nat) (room : Int) (l : List HeldM) (v : Value) (w : World) (h : PgA B gp room l v w) (hl : l.length ≤ 1000000) (kind page : Int) (hpn : ∀ s ∈ l, s.pins ≤ 4611686018427387904) :
    Calls Try.prog 26 #[.pointer (some ⟨gp, 0, none⟩), .agg #[.int .i64 kind, .int .i64 page]] w (DoP B gp room v w (chgM l kind page)) := by
  obtain ⟨W2, hW2⟩ : ∃ W2, W2 = (w.alloc (.cells #[.int .i64 kind, .int .i64 page] 43)).alloc (.cells #[.int .i64 0, .bool false, .int .i64 0, .slice none 0 0] 40) := ⟨_, rfl⟩
  have al : Below w.heap.size w W2 := by rw [hW2]; exact ((Below.refl _ _).alloc (Nat.le_refl _) _).alloc (by simp) _
  have HS2 := Lib.hid (show CgS B gp room l v v kind page w W2 by
    refine ⟨h.bel al, Kp.of_bel al _, ?_, ?_, h.bk.lt, fun k hk => ?_⟩
    · rw [hW2]; exact (Bk.new w _ _).alloc _
    · rw [hW2]
      have k1 := Bk.new (w.alloc (.cells #[.int .i64 kind, .int .i64 page] 43)) 40 #[.int .i64 0, .bool false, .int .i64 0, .slice none 0 0]
      rw [World.size_alloc] at k1
      exact k1
    · rcases own_shapeH h.row with ⟨h1, _⟩ | ⟨g, cap, h1, h2, h3, _⟩
      · rw [h1] at hk; cases hk
      · rw [h1] at hk
        have : g = k := by simpa [Value.ownBlock] using hk
        subst this
        exact h3)
  have HW2 := Lib.hid hW2
  have CF0 := gfind_any B gp room l v W2 HS2.out.pg (by omega) page
  have CF1 : Calls Try.prog 41 #[.pointer (some ⟨gp, 0, none⟩), .int .i64 page] W2 fun e w' => e = .returned (.int .i64 (findZ (isP page) l)) ∧ Below W2.heap.size W2 w' := CF0
  have y1 := HS2.out.op.cell 1
  obtain ⟨z, hz⟩ : ∃ z, z = findZ (isP page) l := ⟨_, rfl⟩
  obtain ⟨r, hr⟩ : ∃ r, r = chgM l kind page := ⟨_, rfl⟩
  rw [← hz] at CF1
  rw [← hr]
  have CF := Lib.hid CF1
  unfold chgM at hr
  rw [← hz] at hr
  clear h al hW2 CF0 CF1
  rcases findZ_cases (isP page) l with ⟨h1, h2⟩ | ⟨i, hi, h1, h2, h3⟩
  · rw [h1] at hz
    subst hz
    rw [if_pos (by decide)] at hr
    subst hr
    clear h1 h2
    go_enter Try.func26, Try.ntmps26
    go_upto_region 1 with fail
    rw [← HW2.out]
    go_wp2_with fail
    refine CF.out.mono ?_
    rintro e w3 ⟨rfl, b3⟩
    have HS3 := Lib.hid (HS2.out.bel b3)
    clear b3 HS2 y1 CF
    go_wp2_with fail
    refine (refused_any 6 w3).mono ?_
    rintro e w4 ⟨rfl, b4⟩
    have HS4 := Lib.hid (HS3.out.bel b4)
    clear b4 HS3
    have FIN := Lib.hid (HS4.out.fin 6)
    have r0 := HS4.out.res.cell 0
    have r1 := HS4.out.res.cell 1
    have r2 := HS4.out.res.cell 2
    have r3 := HS4.out.res.cell 3
    have k0 := HS4.out.res.frozen 0
    have k1 := HS4.out.res.frozen 1
    have k2 := HS4.out.res.frozen 2
    have k3 := HS4.out.res.frozen 3
    go_wp2_with fail
    exact bodyPost_ret (v := .agg #[.int .i64 6, .bool false, .int .i64 (-1), .slice none 0 0]) (by simp [results, Try.results26, go_sem, r0, r1, r2, r3]) rfl FIN.out
  · rw [h1] at hz
    subst hz
    rw [if_neg (by omega), Int.toNat_natCast, show l.getD i default = l[i] by simp [hi]] at hr
    have i1 : ¬ (i : Int) < 0 := by omega
    have i2 : decide ((i : Int) < 0) = false := decide_eq_false i1
    have i3 : (0 : Int) ≤ (i : Int) := by omega
    have i4 : (i : Int) < (l.length : Int) := by omega
    obtain ⟨s, hs⟩ : ∃ s, s = l[i] := ⟨_, rfl⟩
    have hps := hpn l[i] (List.getElem_mem hi)
    rw [← hs] at hr hps
    obtain ⟨pa, pb, pc⟩ := s
    dsimp only at hr hps
    have HSI := Lib.hid hs
    clear h1 h2 h3 hs hpn
    have HI := Lib.hid hi
    have HR := Lib.hid hr
    clear hr
    go_enter Try.func26, Try.ntmps26
    go_upto_region 1 with fail
    rw [← HW2.out]
    go_wp2_with fail
    refine CF.out.mono ?_
    rintro e w3 ⟨rfl, b3⟩
    have HS3 := Lib.hid (HS2.out.bel b3)
    clear b3 HS2 y1 CF
    rcases own_shapeH HS3.out.pg.row with ⟨_, h2⟩ | ⟨g, cap, h1, _⟩
    · have h3 := congrArg List.length h2
      have := HI.out
      simp only [List.length_nil] at h3
      omega
    subst h1
    have y1 := HS3.out.pg.bk.cell 1
    have c1 : w3.cell? ⟨g, i * 3 + 1, none⟩ = some (.int .i64 (pb : Int)) := by have := own_cellH HS3.out.pg.row HI.out 1 (by omega); rw [← HSI.out] at this; exact this
    obtain ⟨cur, hb, _⟩ := own_cellsH HS3.out.pg.row
    have c2 : w3.cell? ⟨g, i * 3 + 2, none⟩ = some (.bool pc) := by have := own_cellH HS3.out.pg.row HI.out 2 (by omega); rw [← HSI.out] at this; exact this
    have f1 := hb.frozen (i * 3 + 1)
    have f2 := hb.frozen (i * 3 + 2)
    have q0 := HS3.out.op.cell 0
    clear hb
    by_cases hp0 : pb = 0
    · have HR4 := Lib.hid (show r = (l, refM 4) by rw [HR.out, if_pos hp0])
      have e1 : ((pb : Int) == 0) = true := by rw [beq_iff_eq]; omega
      clear HR hp0
      go_wp2_with fail
      refine (refused_any 4 w3).mono ?_
      rintro e w4 ⟨rfl, b4⟩
      have HS4 := Lib.hid (HS3.out.bel b4)
      clear b4 HS3 c1 c2 f1 f2 q0 y1
      have FIN := Lib.hid (HS4.out.fin 4)
      have r0 := HS4.out.res.cell 0
      have r1 := HS4.out.res.cell 1
      have r2 := HS4.out.res.cell 2
      have r3 := HS4.out.res.cell 3
      have k0 := HS4.out.res.frozen 0
      have k1 := HS4.out.res.frozen 1
      have k2 := HS4.out.res.frozen 2
      have k3 := HS4.out.res.frozen 3
      go_wp2_with fail
      exact bodyPost_ret (v := .agg #[.int .i64 4, .bool false, .int .i64 (-1), .slice none 0 0]) (by simp [results, Try.results26, go_sem, r0, r1, r2, r3]) rfl (by rw [HR4.out]; exact FIN.out)
    · have e1 : ((pb : Int) == 0) = false := by rw [beq_eq_false_iff_ne]; omega
      have e2 : IntKind.i64.wrap ((pb : Int) - 1) = (pb : Int) - 1 := by rw [IntKind.wrap_i64]; omega
      have e3 : wrap64 ((pb : Int) - 1) = (pb : Int) - 1 := by unfold wrap64; omega
      have hbk := HS3.out.op
      have hrs := HS3.out.res
      have hlt := HS3.out.lt
      have hlow := HS3.out.low g rfl
      have ngp := HS3.out.pg.row
      have hne : ¬ gp = g := fun e => own_tyneH ngp HS3.out.pg.bk e.symm
      clear ngp
      have NEXT : ∀ (k : Nat) (u : Value) (h2 : HeldM), k < 3 → (heldV ⟨pa, pb, pc⟩).set k u = heldV h2 → CgS B gp room (l.set i h2) (.slice (some ⟨g, 0, none⟩) l.length cap) (.slice (some ⟨g, 0, none⟩) l.length cap) kind page w (w3.setCell ⟨g, i * 3 + k, none⟩ u) := fun k u h2 hk hu => by
        refine ⟨⟨bk_set2 HS3.out.pg.bk hne, ?_, HS3.out.pg.ge, by simpa [World.setCell] using HS3.out.pg.base⟩, HS3.out.kp.setCell (p := ⟨g, i * 3 + k, none⟩) (Or.inl (Or.inr rfl)) _, bk_set2 hbk (by omega), bk_set2 hrs (by omega), hlt, HS3.out.low⟩
        rw [List.length_set]
        exact own_setH HS3.out.pg.row HI.out hk u h2 (by rw [← HSI.out]; exact hu)
      have HNX := Lib.hid NEXT
      have HRN := Lib.hid (show r = (l.set i (chgH kind ⟨pa, pb, pc⟩), refM 0) by rw [HR.out, if_neg hp0]; rfl)
      clear NEXT HR hbk hrs hp0
      by_cases hk2 : kind = 2
      · subst hk2
        have HS4 := Lib.hid (show CgS B gp room (l.set i (chgH 2 ⟨pa, pb, pc⟩)) (.slice (some ⟨g, 0, none⟩) l.length cap) (.slice (some ⟨g, 0, none⟩) l.length cap) 2 page w (w3.setCell ⟨g, i * 3 + 1, none⟩ (.int .i64 ((pb : Int) - 1))) from HNX.out 1 _ _ (by omega) (by
          unfold chgH heldV
          rw [if_pos rfl]
          have : ((pb - 1 : Nat) : Int) = (pb : Int) - 1 := by
            have : 0 < pb := by rw [beq_eq_false_iff_ne] at e1; omega
            omega
          simp [this]))
        obtain ⟨w4, hw4⟩ : ∃ w4, w4 = w3.setCell ⟨g, i * 3 + 1, none⟩ (.int .i64 ((pb : Int) - 1)) := ⟨_, rfl⟩
        rw [← hw4] at HS4
        have HW4 := Lib.hid hw4
        clear hw4 HNX
        go_upto_region 10 with fail
        rw [← HW4.out]
        clear c1 c2 f1 f2 q0 y1 HW4 HS3
        have FIN := Lib.hid (HS4.out.fin 0)
        have r0 := HS4.out.res.cell 0
        have r1 := HS4.out.res.cell 1
        have r2 := HS4.out.res.cell 2
        have r3 := HS4.out.res.cell 3
        have k0 := HS4.out.res.frozen 0
        have k1 := HS4.out.res.frozen 1
        have k2 := HS4.out.res.frozen 2
        have k3 := HS4.out.res.frozen 3
        go_wp2_with fail
        exact bodyPost_ret (v := .agg #[.int .i64 0, .bool false, .int .i64 (-1), .slice none 0 0]) (by simp [results, Try.results26, go_sem, r0, r1, r2, r3]) rfl (by rw [HRN.out]; exact FIN.out)
      · have e4 : (kind == 2) = false := by rw [beq_eq_false_iff_ne]; exact hk2
        have HS4 := Lib.hid (show CgS B gp room (l.set i (chgH kind ⟨pa, pb, pc⟩)) (.slice (some ⟨g, 0, none⟩) l.length cap) (.slice (some ⟨g, 0, none⟩) l.length cap) kind page w (w3.setCell ⟨g, i * 3 + 2, none⟩ (.bool true)) from HNX.out 2 _ _ (by omega) (by
          unfold chgH heldV
          rw [if_neg hk2]
          rfl))
        obtain ⟨w4, hw4⟩ : ∃ w4, w4 = w3.setCell ⟨g, i * 3 + 2, none⟩ (.bool true) := ⟨_, rfl⟩
        rw [← hw4] at HS4
        have HW4 := Lib.hid hw4
        clear hw4 HNX
        go_upto_region 10 with fail
        rw [← HW4.out]
        clear c1 c2 f1 f2 q0 y1 HW4 HS3
        have FIN := Lib.hid (HS4.out.fin 0)
        have r0 := HS4.out.res.cell 0
        have r1 := HS4.out.res.cell 1
        have r2 := HS4.out.res.cell 2
        have r3 := HS4.out.res.cell 3
        have k0 := HS4.out.res.frozen 0
        have k1 := HS4.out.res.frozen 1
        have k2 := HS4.out.res.frozen 2
        have k3 := HS4.out.res.frozen 3
        go_wp2_with fail
        exact bodyPost_ret (v := .agg #[.int .i64 0, .bool false, .int .i64 (-1), .slice none 0 0]) (by simp [results, Try.results26, go_sem, r0, r1, r2, r3]) rfl (by rw [HRN.out]; exact FIN.out)
end Go.Proofs.Ytopkkolcimmedaa
namespace Go.Proofs.Ytopkkolcimmedaa
open Go.RowKit

theorem info_intG : (Try.prog.info? 3).map (fun i => (i.zero, i.size, i.bytes)) = some (some (.int .i64 0), 1, 8) := by kernel_rfl
def cleanH (h : HeldM) : HeldM := ⟨h.page, h.pins, false⟩
/-- The row, its first i pages written back. -/
def clT (l : List HeldM) (i : Nat) : List HeldM := (l.take i).map cleanH ++ l.drop i
def dirtyN (l : List HeldM) : List Int := (l.filter (·.turned)).map (·.page)
def flushM (l : List HeldM) : List HeldM × ActM := (l.map cleanH, ⟨0, false, -1, sortI (dirtyN l)⟩)
theorem clT_length (l : List HeldM) (i : Nat) (hi : i ≤ l.length) : (clT l i).length = l.length := by unfold clT; simp; omega
theorem clT_at {l : List HeldM} {i : Nat} (hi : i < l.length) (h : i < (clT l i).length) : (clT l i)[i] = l[i] := by
  have e : (clT l i)[i]? = some l[i] := by
    unfold clT
    rw [List.getElem?_append_right (by simp; omega)]
    simp [List.length_take, Nat.min_eq_left (Nat.le_of_lt hi), hi]
  rw [List.getElem?_eq_getElem h] at e
  exact Option.some.inj e
theorem clT_next {l : List HeldM} {i : Nat} (hi : i < l.length) : clT l (i + 1) = (clT l i).set i (cleanH l[i]) := by
  have hlen : ((l.take i).map cleanH).length = i := by simp; omega
  unfold clT
  rw [List.set_append_right _ _ (by omega), hlen, Nat.sub_self, List.drop_eq_getElem_cons hi, List.set_cons_zero, List.take_succ_eq_append_getElem hi, List.map_append, List.append_assoc]
  rfl
theorem clean_self {h : HeldM} (ht : h.turned = false) : cleanH h = h := by obtain ⟨a, b, c⟩ := h; dsimp only at ht; subst ht; rfl
theorem set_self {l : List HeldM} {i : Nat} {h : i < l.length} {x : HeldM} (hx : l[i] = x) : l.set i x = l := by subst hx; exact List.set_getElem_self _
theorem dirty_next {l : List HeldM} {i : Nat} (hi : i < l.length) : dirtyN (l.take (i + 1)) = dirtyN (l.take i) ++ if l[i].turned then [l[i].page] else [] := by
  unfold dirtyN
  rw [List.take_succ_eq_append_getElem hi, List.filter_append, List.map_append]
  congr 1
  cases h : l[i].turned <;> simp [List.filter, h]
theorem dirty_le (l : List HeldM) (i : Nat) : (dirtyN (l.take i)).length ≤ l.length := by
  unfold dirtyN
  rw [List.length_map]
  exact Nat.le_trans (List.length_filter_le _ _) (by rw [List.length_take]; omega)
theorem intV_snoc (l : List Int) (x : Int) : intG (l ++ [x]) = intG l ++ [.int .i64 x] := by simp [intG]
/-- Each operation's fact. -/
def fuF (B gO : Nat) (ws : List Int) (K : Value) (g o : Nat) (pa : Int) (wr : World) (j : Nat) (v _u : Value) (w : World) : Prop := match j with
  | 0 => v = .pointer (some ⟨gO, 3, none⟩)
  | 1 => v = K
  | 2 => v = .pointer (some ⟨g, o, none⟩)
  | 3 => v = .pointer (some ⟨g, o, none⟩)
  | 4 => v = .pointer (some ⟨g, o, none⟩)
  | 5 => v = .int .i64 pa
  | 6 => ∃ gq, v = .slice (some ⟨gq, 0, none⟩) 1 1 ∧ B ≤ gq ∧ gq ≠ gO ∧ K.ownBlock ≠ some gq ∧ Bk w gq 3 #[.int .i64 pa]
  | 7 => w.ownsRow B 3 1 v (ws.length + 1) (intG ws ++ [.int .i64 pa]) ∧ (v.ownBlock = K.ownBlock ∨ ∃ g, v.ownBlock = some g ∧ wr.heap.size ≤ g)
  | 8 => v = .pointer (some ⟨gO, 3, none⟩)
  | 9 => ∃ v', Bk w gO 40 #[.int .i64 0, .bool false, .int .i64 (-1), v'] ∧ w.ownsRow B 3 1 v' (ws.length + 1) (intG ws ++ [.int .i64 pa]) ∧ (v'.ownBlock = K.ownBlock ∨ ∃ g, v'.ownBlock = some g ∧ wr.heap.size ≤ g)
  | _ => True
def fuH (B gO : Nat) (ws : List Int) (K : Value) (m : Nat) (w : World) : Prop := match m with
  | 7 => w.ownsRow B 3 1 K ws.length (intG ws)
  | 9 => Bk w gO 40 #[.int .i64 0, .bool false, .int .i64 (-1), K]
  | _ => True
section
variable {B gO g o : Nat} {ws : List Int} {K : Value} {pa : Int} {wr w w' : World}
theorem fuF_bel (hb : Below w.heap.size w w') : ∀ j u u', fuF B gO ws K g o pa wr j u u' w → fuF B gO ws K g o pa wr j u u' w' := by
  intro j u u' s
  unfold fuF at *
  split at s <;> first | exact s | exact ⟨kept_bel s.1 hb, s.2⟩ | skip
  · obtain ⟨g, hv, h0, h1, h2, h3⟩ := s
    exact ⟨g, hv, h0, h1, h2, h3.bel hb⟩
  · obtain ⟨v', h1, h2, h3⟩ := s
    exact ⟨v', h1.bel hb, kept_bel h2 hb, h3⟩
theorem fuH_bel (hb : Below w.heap.size w w') : ∀ m, fuH B gO ws K m w → fuH B gO ws K m w' := by
  intro m s
  unfold fuH at *
  split at s <;> first | exact s | exact s.bel hb | exact kept_bel s hb
theorem fuF_app (k : w.grownBy w' K.ownBlock) : ∀ j, j ≠ 7 → j ≠ 9 → ∀ u u', fuF B gO ws K g o pa wr j u u' w → fuF B gO ws K g o pa wr j u u' w' := by
  intro j h7 h10 u u' s
  unfold fuF at *
  split at s <;> first | exact s | exact absurd rfl h7 | exact absurd rfl h10 | skip
  · obtain ⟨g, hv, h0, h1, h2, h3⟩ := s
    exact ⟨g, hv, h0, h1, h2, own_grown k h3 h2⟩
theorem fuH_app (k : w.grownBy w' K.ownBlock) (h3 : K.ownBlock ≠ some gO) : ∀ m, m ≠ 7 → fuH B gO ws K m w → fuH B gO ws K m w' := by
  intro m h7 s
  unfold fuH at *
  split at s <;> first | exact s | exact absurd rfl h7 | exact own_grown k s h3
theorem fuF_set {cs : Array Value} (hb : Bk w gO 40 cs) (i : Nat) (u0 : Value) : ∀ j, j ≠ 9 → ∀ u u', fuF B gO ws K g o pa wr j u u' w → fuF B gO ws K g o pa wr j u u' (w.setCell ⟨gO, i, none⟩ u0) := by
  intro j h10 u u' s
  unfold fuF at *
  split at s <;> first | exact s | exact absurd rfl h10 | skip
  · obtain ⟨g, hv, h0, h1, h2, h3⟩ := s
    exact ⟨g, hv, h0, h1, h2, bk_set2 h3 h1⟩
  · exact ⟨own_setB s.1 (own_block_ne s.1 hb (by decide)), s.2⟩
theorem fuH_set {cs : Array Value} (hb : Bk w gO 40 cs) (i : Nat) (u0 : Value) : ∀ m, m ≠ 9 → fuH B gO ws K m w → fuH B gO ws K m (w.setCell ⟨gO, i, none⟩ u0) := by
  intro m h10 s
  unfold fuH at *
  split at s <;> first | exact s | exact absurd rfl h10 | exact own_setB s (own_block_ne s hb (by decide))
end
/-- Where the loop of flush stands. -/
structure FlS (B gp : Nat) (room : Int) (l : List HeldM) (v W : Value) (k : Nat) (ws : List Int) (w wr : World) : Prop where
  pg : PgA B gp room l v wr
  kp : Kp (pS gp v) (pS gp v) w wr
  res : Bk wr w.heap.size 40 #[.int .i64 0, .bool false, .int .i64 0, .slice none 0 0]
  act : Bk wr (w.heap.size + 1) 40 #[.int .i64 0, .bool false, .int .i64 (-1), W]
  wrote : wr.ownsRow w.heap.size 3 1 W k (intG ws)
  lt : gp < w.heap.size
  low : ∀ k, v.ownBlock = some k → k < w.heap.size
theorem FlS.bel {B gp : Nat} {room : Int} {l : List HeldM} {v W : Value} {k : Nat} {ws : List Int} {w wr w' : World} (s : FlS B gp room l v W k ws w wr) (hb : Below wr.heap.size wr w') : FlS B gp room l v W k ws w w' :=
  ⟨s.pg.bel hb, s.kp.trans (Kp.of_bel hb _), s.res.bel hb, s.act.bel hb, kept_bel s.wrote hb, s.lt, s.low⟩
theorem own_lenI {w : World} {B n : Nat} {v : Value} {l : List Int} (h : w.ownsRow B 3 1 v n (intG l)) : n = l.length := by
  have := h.1
  rw [intG_length] at this
  omega
set_option maxRecDepth 100000 in
set_option maxHeartbeats 8000000 in
theorem flush_any (B gp : Nat) (room : Int) (l : List HeldM) (v : Value) (w : World) (h : PgA B gp room l v w) (hl : l.length ≤ 1000000) :
    Calls Try.prog 23 #[.pointer (some ⟨gp, 0, none⟩)] w (DoP B gp room v w (flushM l)) := by
  obtain ⟨j0, hj0, hj1, hj2, hj3⟩ := info_parts info_intG
  obtain ⟨W2, hW2⟩ : ∃ W2, W2 = (w.alloc (.cells #[.int .i64 0, .bool false, .int .i64 0, .slice none 0 0] 40)).alloc (.cells #[.int .i64 0, .bool false, .int .i64 (-1), .slice none 0 0] 40) := ⟨_, rfl⟩
  have al : Below w.heap.size w W2 := by rw [hW2]; exact ((Below.refl _ _).alloc (Nat.le_refl _) _).alloc (by simp) _
  have HS2 := Lib.hid (show FlS B gp room (clT l 0) v (.slice none 0 0) 0 (dirtyN (l.take 0)) w W2 by
    refine ⟨?_, Kp.of_bel al _, ?_, ?_, World.ownsRow_nil _ _ _ _, h.bk.lt, fun k hk => ?_⟩
    · unfold clT
      simpa using h.bel al
    · rw [hW2]; exact (Bk.new w _ _).alloc _
    · rw [hW2]
      have k1 := Bk.new (w.alloc (.cells #[.int .i64 0, .bool false, .int .i64 0, .slice none 0 0] 40)) 40 #[.int .i64 0, .bool false, .int .i64 (-1), .slice none 0 0]
      rw [World.size_alloc] at k1
      exact k1
    · rcases own_shapeH h.row with ⟨h1, _⟩ | ⟨g, cap, h1, h2, h3, _⟩
      · rw [h1] at hk; cases hk
      · rw [h1] at hk
        have : g = k := by simpa [Value.ownBlock] using hk
        subst this
        exact h3)
  have HW2 := Lib.hid hW2
  have HSH := Lib.hid (own_shapeH h.row)
  obtain ⟨r, hr⟩ : ∃ r, r = flushM l := ⟨_, rfl⟩
  rw [← hr]
  have HR := Lib.hid hr
  have y1 := HS2.out.pg.bk.cell 1
  clear h al hW2 hr
  obtain ⟨Av, nv, cv, hv, hn, hnil⟩ : ∃ A n c, v = .slice A n c ∧ n = l.length ∧ (l ≠ [] → ∃ g, A = some ⟨g, 0, none⟩) := by
    rcases HSH.out with ⟨h1, h2⟩ | ⟨g, cap, h1, _⟩
    · exact ⟨none, 0, 0, h1, by rw [h2]; rfl, fun h => absurd h2 h⟩
    · exact ⟨_, _, _, h1, rfl, fun _ => ⟨g, rfl⟩⟩
  subst hv
  have HN := Lib.hid hn
  have hnb : nv ≤ 1000000 := by omega
  have HNIL := Lib.hid hnil
  clear hn hnil HSH
  go_enter Try.func23, Try.ntmps23
  go_upto_region 2 with fail
  rw [← HW2.out]
  go_wp2_with fail
  go_loopw [12] (fun s wr => ∃ (i k : Nat) (W : Value), i ≤ nv ∧ s = .int .i64 i ∧ Hid (FlS B gp room (clT l i) (.slice Av nv cv) W k (dirtyN (l.take i)) w wr)) (fun s _ => nv - (intOf s).toNat)
  case atStart => exact ⟨0, 0, .slice none 0 0, by omega, rfl, HS2⟩
  case round =>
    clear HS2 y1 HW2
    obtain ⟨i, k, W, hin, rfl, hS⟩ := hrel
    obtain ⟨AW, cW, rfl, hck⟩ := own_shapeS hS.out.wrote
    have y1 := hS.out.pg.bk.cell 1
    by_cases hlt : i < nv
    · have hil : i < l.length := by have := HN.out; omega
      obtain ⟨g, rfl⟩ := HNIL.out (by intro e; rw [e] at hil; simp at hil)
      have hcl : i < (clT l i).length := by rw [clT_length l i (by omega)]; exact hil
      have hlen : (clT l i).length = nv := by rw [clT_length l i (by omega)]; exact HN.out.symm
      have hrow : wr.ownsRow B 82 3 (.slice (some ⟨g, 0, none⟩) nv cv) nv (rowH (clT l i)) := by have := hS.out.pg.row; rwa [hlen] at this
      obtain ⟨cur, hb, hnc, _, hcs, _, _⟩ := own_cellsH hrow
      obtain ⟨s, hs⟩ : ∃ s, s = l[i] := ⟨_, rfl⟩
      have hat : (clT l i)[i] = s := by rw [clT_at hil hcl, hs]
      have c0 : wr.cell? ⟨g, i * 3, none⟩ = some (.int .i64 s.page) := by have := own_cellH hrow hcl 0 (by omega); rw [hat, Nat.add_zero] at this; exact this
      have c2 : wr.cell? ⟨g, i * 3 + 2, none⟩ = some (.bool s.turned) := by have := own_cellH hrow hcl 2 (by omega); rw [hat] at this; exact this
      have f2 := hb.frozen (i * 3 + 2)
      have E1 := Lib.hid (show ((i : Int) + 1) = ((i + 1 : Nat) : Int) by omega)
      have MM := Lib.hid (show nv - (intOf (.int .i64 ((i + 1 : Nat) : Int))).toNat < nv - (intOf (.int .i64 (i : Int))).toNat by simp only [intOf]; omega)
      have CN := Lib.hid (clT_next hil)
      have DN := Lib.hid (dirty_next hil)
      have HAT := Lib.hid hat
      have HCL := Lib.hid hcl
      have HLN := Lib.hid hlen
      rw [← hs] at CN DN
      have i1 : (0 : Int) ≤ (i : Int) := by omega
      have i2 : (i : Int) < (nv : Int) := by omega
      obtain ⟨pa, pb, pc⟩ := s
      dsimp only at c0 c2 CN DN
      clear hb hcs hnc hrow hat hs hlen
      cases pc
      · have CN2 := Lib.hid (show clT l (i + 1) = clT l i by
          rw [CN.out]
          exact set_self HAT.out)
        have DN2 := Lib.hid (show dirtyN (l.take (i + 1)) = dirtyN (l.take i) by rw [DN.out]; simp)
        clear CN DN
        go_wp2_with fail
        rw [E1.out]
        refine ⟨⟨i + 1, k, .slice AW k cW, by omega, rfl, ?_⟩, MM.out⟩
        rw [CN2.out, DN2.out]
        exact hS
      · have DN2 := Lib.hid (show dirtyN (l.take (i + 1)) = dirtyN (l.take i) ++ [pa] by rw [DN.out]; simp)
        clear DN
        obtain ⟨ws, hws⟩ : ∃ ws, ws = dirtyN (l.take i) := ⟨_, rfl⟩
        have HWS := Lib.hid (show ws.length ≤ 1000000 by rw [hws]; exact Nat.le_trans (dirty_le l i) hl)
        rw [← hws] at hS DN2
        clear hws
        obtain rfl : k = ws.length := own_lenI hS.out.wrote
        obtain ⟨W5, hW5⟩ : ∃ W5, W5 = wr := ⟨_, rfl⟩
        rw [← hW5] at hS c0 c2 f2 y1 ⊢
        clear hW5
        have nlow : ¬ g = w.heap.size + 1 := by have := hS.out.low g rfl; omega
        have nW : Value.ownBlock (.slice AW ws.length cW) ≠ some g := fun e => own_types_ne hS.out.wrote hS.out.pg.row (by decide) e rfl
        have nWp : Value.ownBlock (.slice AW ws.length cW) ≠ some gp := own_block_ne hS.out.wrote hS.out.pg.bk (by decide)
        have nWr : Value.ownBlock (.slice AW ws.length cW) ≠ some w.heap.size := own_block_ne hS.out.wrote hS.out.res (by decide)
        have HNS := Lib.hid (show ∀ j, (j = g ∨ j = gp ∨ j = w.heap.size) → ¬ pS (w.heap.size + 1) (.slice AW ws.length cW) j from fun j hj e => by
          have h1 := hS.out.lt
          have h2 := hS.out.low g rfl
          rcases e with e | e
          · rcases hj with hj | hj | hj <;> omega
          · rcases hj with hj | hj | hj
            · subst hj; exact nW e
            · subst hj; exact nWp e
            · subst hj; exact nWr e)
        have HC5 := Lib.hid (show ∀ w1, Kp (pS (w.heap.size + 1) (.slice AW ws.length cW)) (pS (w.heap.size + 1) (.slice AW ws.length cW)) W5 w1 → w1.cell? ⟨g, i * 3, none⟩ = some (.int .i64 pa) from fun w1 kk => by
          rw [kk.cell (o := i * 3) (show g < W5.heap.size from Nat.lt_of_lt_of_le (hS.out.low g rfl) hS.out.kp.size) (HNS.out g (Or.inl rfl))]
          exact c0)
        have G0 := Lib.hid (show puG w.heap.size (w.heap.size + 1) (.slice AW ws.length cW) W5 W5.drew from ⟨(Kp.refl _ W5).drew, hS.out.act.lt, fun b e => by
          rcases hS.out.wrote.2 with ⟨h1, _⟩ | ⟨g', cap, cur, h1, h2, h3, _⟩
          · rw [h1] at e; cases e
          · rw [h1] at e
            have : g' = b := by simpa [Value.ownBlock] using e
            subst this
            exact ⟨h2, Bk.lt (show Bk W5 g' 3 cur from h3)⟩, hS.out.kp.size⟩)
        have H0 := Lib.hid (show ∀ m', m' < 10 → fuH w.heap.size (w.heap.size + 1) ws (.slice AW ws.length cW) m' W5.drew from fun m' _ => by
          unfold fuH
          split
          · exact kept_bel hS.out.wrote (Below.refl _ _).drew
          · exact hS.out.act
          · trivial)
        clear nW nWp nWr
        go_wp2_with fail
        refine wp_region_late [some 25, some 26, some 27, some 28, some 29, some 30, some 31, some 32, some 33, none] (fun _ => 0) (fuF w.heap.size (w.heap.size + 1) ws (.slice AW ws.length cW) g (i * 3) pa W5) (puG w.heap.size (w.heap.size + 1) (.slice AW ws.length cW) W5) (fuH w.heap.size (w.heap.size + 1) ws (.slice AW ws.length cW)) (by kernel_rfl) G0.out H0.out rfl (by kernel_rfl) (by kernel_rfl) (by kernel_rfl) (by kernel_rfl) (fun T hT => ?_)
        simp only [List.filterMap_cons, List.filterMap_nil, id, putsS, Act.put, List.setIfInBounds_toArray, List.set_cons_zero, List.set_cons_succ] at hT
        subst hT
        refine ⟨⟨?_, ?_, ?_, ?_, ?_, ?_, ?_, ?_, ?_, ?_, trivial⟩, ?_⟩
        · -- 0: Op.fieldAddr 38 t3 3
          intro f w1 hG hO hL hF K hK
          clear hF hO hL
          dsimp only at hK ⊢
          go_simp
          exact hK.out _ _ hG rfl (fun _ _ _ h => h) (fun _ _ h => h)
        · -- 1: Op.load 24 t25
          intro f w1 hG hO hL hF K hK
          have l9 : (fuH w.heap.size (w.heap.size + 1) ws (.slice AW ws.length cW)) 9 w1 := hL 9 (Nat.le_of_ble_eq_true (by kernel_rfl)) (by kernel_rfl)
          have d0 : (fuF w.heap.size (w.heap.size + 1) ws (.slice AW ws.length cW) g (i * 3) pa W5) 0 (f 25) (f 0) w1 := hF 0 (by kernel_rfl)
          clear hF hO hL
          dsimp only at hK ⊢
          generalize hf25 : f 25 = v25 at *
          subst d0
          have y : w1.cell? ⟨(w.heap.size + 1), 3, none⟩ = some (.slice AW ws.length cW) := Bk.cell l9 3
          go_simp
          exact hK.out _ _ hG rfl (fun _ _ _ h => h) (fun _ _ h => h)
        · -- 2: Op.move t5
          intro f w1 hG hO hL hF K hK
          clear hF hO hL
          dsimp only at hK ⊢
          go_simp
          exact hK.out _ _ hG rfl (fun _ _ _ h => h) (fun _ _ h => h)
        · -- 3: Op.nilCheck t27
          intro f w1 hG hO hL hF K hK
          have d2 : (fuF w.heap.size (w.heap.size + 1) ws (.slice AW ws.length cW) g (i * 3) pa W5) 2 (f 27) (f 0) w1 := hF 2 (by kernel_rfl)
          clear hF hO hL
          dsimp only at hK ⊢
          generalize hf27 : f 27 = v27 at *
          subst d2
          go_simp
          exact hK.out _ _ hG rfl (fun _ _ _ h => h) (fun _ _ h => h)
        · -- 4: Op.fieldAddr 61 t28 0
          intro f w1 hG hO hL hF K hK
          have d3 : (fuF w.heap.size (w.heap.size + 1) ws (.slice AW ws.length cW) g (i * 3) pa W5) 3 (f 28) (f 0) w1 := hF 3 (by kernel_rfl)
          clear hF hO hL
          dsimp only at hK ⊢
          generalize hf28 : f 28 = v28 at *
          subst d3
          go_simp
          exact hK.out _ _ hG rfl (fun _ _ _ h => h) (fun _ _ h => h)
        · -- 5: Op.load 3 t29
          intro f w1 hG hO hL hF K hK
          have d4 : (fuF w.heap.size (w.heap.size + 1) ws (.slice AW ws.length cW) g (i * 3) pa W5) 4 (f 29) (f 0) w1 := hF 4 (by kernel_rfl)
          clear hF hO hL
          dsimp only at hK ⊢
          generalize hf29 : f 29 = v29 at *
          subst d4
          have y := HC5.out w1 hG.kp
          go_simp
          exact hK.out _ _ hG rfl (fun _ _ _ h => h) (fun _ _ h => h)
        · -- 6: Op.buildSlice 24 1 #[(0, t30)]
          intro f w1 hG hO hL hF K hK
          have d5 : (fuF w.heap.size (w.heap.size + 1) ws (.slice AW ws.length cW) g (i * 3) pa W5) 5 (f 30) (f 0) w1 := hF 5 (by kernel_rfl)
          clear hF hO hL
          dsimp only at hK ⊢
          generalize hf30 : f 30 = v30 at *
          subst d5
          go_simp
          exact hK.out _ _ (hG.next ((Below.refl _ _).alloc (Nat.le_refl _) _)) ⟨w1.heap.size, rfl, hG.base, (fun e => absurd hG.lt (by omega)), (fun e => absurd (hG.kl _ e).2 (Nat.lt_irrefl _)), Bk.new w1 _ _⟩ (fun j _ _ h => fuF_bel ((Below.refl _ _).alloc (Nat.le_refl _) _) j _ _ h) (fun m _ h => fuH_bel ((Below.refl _ _).alloc (Nat.le_refl _) _) m h)
        · -- 7: Op.call ( builtin append, args := #[t26, t31], argTypes := #[24, 24] )
          intro f w1 hG hO hL hF K hK
          have l7 : (fuH w.heap.size (w.heap.size + 1) ws (.slice AW ws.length cW)) 7 w1 := hL 7 (Nat.le_of_ble_eq_true (by kernel_rfl)) (by kernel_rfl)
          have l9 : (fuH w.heap.size (w.heap.size + 1) ws (.slice AW ws.length cW)) 9 w1 := hL 9 (Nat.le_of_ble_eq_true (by kernel_rfl)) (by kernel_rfl)
          have d1 : (fuF w.heap.size (w.heap.size + 1) ws (.slice AW ws.length cW) g (i * 3) pa W5) 1 (f 26) (f 0) w1 := hF 1 (by kernel_rfl)
          have d6 : (fuF w.heap.size (w.heap.size + 1) ws (.slice AW ws.length cW) g (i * 3) pa W5) 6 (f 31) (f 0) w1 := hF 6 (by kernel_rfl)
          clear hF hO hL
          dsimp only at hK ⊢
          generalize hf26 : f 26 = v26 at *
          generalize hf31 : f 31 = v31 at *
          have d1 : v26 = (.slice AW ws.length cW) := d1
          subst d1
          obtain ⟨gq, rfl, h0, h1, h2, h3⟩ := d6
          have hcb : ∀ j u, [Value.int .i64 pa][j]? = some u → w1.cell? ((⟨gq, 0, none⟩ : Addr).add j) = some u := fun j u hu => by
            rw [show ((⟨gq, 0, none⟩ : Addr).add j) = ⟨gq, j, none⟩ by unfold Addr.add; split <;> simp_all, h3.cell j]; simpa using hu
          obtain ⟨v', w2', hrun, hown, hgr, _, hat⟩ := run_append_own_at (P := Try.prog) (w := w1) w.heap.size 28 28 3 j0 _ 1 8 Try.underlying28 hj0 hj1 hj2 hj3 rfl (by decide) (.slice AW ws.length cW) ws.length (intG ws) l7 ⟨gq, 0, none⟩ 1 1 [.int .i64 pa] rfl hcb (by intro u hu; simp only [List.mem_singleton] at hu; subst hu; rfl) (by have := HWS.out; simp only [maxLen]; omega) (by have := HWS.out; omega) hG.base
          have nkg : Value.ownBlock (.slice AW ws.length cW) ≠ some (w.heap.size + 1) := own_block_ne l7 l9 (by decide)
          refine Lib.wp_append_run w1 _ _ _ _ rfl _ _ rfl rfl _ w2' hrun (hK.out v' w2' (hG.app hgr) ⟨hown, hat.imp id (fun e => ⟨_, e, hG.kp.size⟩)⟩ ?_ (fun m hm h => fuH_app hgr nkg m hm h))
          intro j hj hdep h
          by_cases h10 : j = 9
          · subst h10
            exact absurd hdep (by rw [show depS _ 9 7 = true by kernel_rfl]; decide)
          · exact fuF_app hgr j hj h10 _ _ h
        · -- 8: Op.fieldAddr 38 t3 3
          intro f w1 hG hO hL hF K hK
          clear hF hO hL
          dsimp only at hK ⊢
          go_simp
          exact hK.out _ _ hG rfl (fun _ _ _ h => h) (fun _ _ h => h)
        · -- 9: Op.store 24 t33 t32
          intro f w1 hG hO hL hF K hK
          have l9 : (fuH w.heap.size (w.heap.size + 1) ws (.slice AW ws.length cW)) 9 w1 := hL 9 (Nat.le_of_ble_eq_true (by kernel_rfl)) (by kernel_rfl)
          have d8 : (fuF w.heap.size (w.heap.size + 1) ws (.slice AW ws.length cW) g (i * 3) pa W5) 8 (f 33) (f 0) w1 := hF 8 (by kernel_rfl)
          have d7 : (fuF w.heap.size (w.heap.size + 1) ws (.slice AW ws.length cW) g (i * 3) pa W5) 7 (f 32) (f 0) w1 := hF 7 (by kernel_rfl)
          clear hF hO hL
          dsimp only at hK ⊢
          generalize hf33 : f 33 = v33 at *
          generalize hf32 : f 32 = v32 at *
          subst d8
          have hd7 : w1.ownsRow w.heap.size 3 1 v32 (ws.length + 1) (intG ws ++ [.int .i64 pa]) ∧ (v32.ownBlock = Value.ownBlock (.slice AW ws.length cW) ∨ ∃ g, v32.ownBlock = some g ∧ W5.heap.size ≤ g) := d7
          clear d7
          obtain ⟨A5, c5, rfl, _⟩ := own_shapeS hd7.1
          have hl10 : Bk w1 (w.heap.size + 1) 40 #[.int .i64 0, .bool false, .int .i64 (-1), (.slice AW ws.length cW)] := l9
          have y0 : w1.cell? ⟨(w.heap.size + 1), 3, none⟩ = some (.slice AW ws.length cW) := Bk.cell hl10 3
          have f0 := Bk.frozen hl10 3
          have HD7 := Lib.hid hd7
          have HL10 := Lib.hid hl10
          have HG := Lib.hid hG
          clear hd7 hl10 l9 hG
          go_simp
          refine hK.out undef _ (HG.out.set 3 (.slice A5 (ws.length + 1) c5)) ⟨_, HL10.out.put 3 (.slice A5 (ws.length + 1) c5), own_setB HD7.out.1 (own_block_ne HD7.out.1 HL10.out (by decide)), HD7.out.2⟩ (fun j hj _ h => fuF_set HL10.out 3 _ j hj _ _ h) (fun m hm h => fuH_set HL10.out 3 _ m hm h)
        · intro f w6 hG hF
          obtain ⟨V', g1, g2', g3'⟩ : (fuF w.heap.size (w.heap.size + 1) ws (.slice AW ws.length cW) g (i * 3) pa W5) 9 undef undef w6 := hF 9 (by decide)
          have HG6 := Lib.hid hG
          clear hF hG
          dsimp only
          generalize f 25 = v25
          generalize f 26 = v26
          generalize f 27 = v27
          generalize f 28 = v28
          generalize f 29 = v29
          generalize f 30 = v30
          generalize f 31 = v31
          generalize f 32 = v32
          generalize f 33 = v33
          have FR := HG6.out.kp.bk hS.out.res (HNS.out _ (Or.inr (Or.inr rfl)))
          have FP := HG6.out.kp.bk hS.out.pg.bk (HNS.out _ (Or.inr (Or.inl rfl)))
          have FO := HG6.out.kp.own hS.out.pg.row (fun kk hk1 => by
            have : g = kk := by simpa [Value.ownBlock] using hk1
            subst this
            exact HNS.out _ (Or.inl rfl))
          obtain ⟨A6, c6, rfl, _⟩ := own_shapeS g2'
          have HS6 := Lib.hid (show FlS B gp room (clT l i) (.slice (some ⟨g, 0, none⟩) nv cv) (.slice A6 (ws.length + 1) c6) (ws.length + 1) (ws ++ [pa]) w w6 from
            ⟨⟨FP, FO, hS.out.pg.ge, Nat.le_trans hS.out.pg.base HG6.out.kp.size⟩, ⟨HG6.out.kp.os.trans hS.out.kp.os, HG6.out.kp.tape.trans hS.out.kp.tape, HG6.out.kp.output.trans hS.out.kp.output, Nat.le_trans hS.out.kp.size HG6.out.kp.size, fun j hj hn => (HG6.out.kp.block j (Nat.lt_of_lt_of_le hj hS.out.kp.size) (fun e => by
              rcases e with e | e
              · omega
              · rcases hS.out.wrote.2 with ⟨h1, _⟩ | ⟨g', cap, cur, h1, h2, h3, _⟩
                · rw [h1] at e; cases e
                · rw [h1] at e
                  have : g' = j := by simpa [Value.ownBlock] using e
                  omega)).trans (hS.out.kp.block j hj hn), fun _ hh => Or.inl hh⟩, FR, g1, by rw [intV_snoc]; exact g2', hS.out.lt, hS.out.low⟩)
          have hrow6 : w6.ownsRow B 82 3 (.slice (some ⟨g, 0, none⟩) nv cv) nv (rowH (clT l i)) := by have := HS6.out.pg.row; rwa [HLN.out] at this
          have d2 : w6.cell? ⟨g, i * 3 + 2, none⟩ = some (.bool true) := by have := own_cellH hrow6 HCL.out 2 (by omega); rw [HAT.out] at this; exact this
          obtain ⟨cur, hb, _⟩ := own_cellsH hrow6
          have d3 := hb.frozen (i * 3 + 2)
          have hne : ¬ gp = g := fun e => own_tyneH hrow6 HS6.out.pg.bk e.symm
          have HS7 := Lib.hid (show FlS B gp room (clT l (i + 1)) (.slice (some ⟨g, 0, none⟩) nv cv) (.slice A6 (ws.length + 1) c6) (ws.length + 1) (ws ++ [pa]) w (w6.setCell ⟨g, i * 3 + 2, none⟩ (.bool false)) by
            have hlow := HS6.out.low g rfl
            refine ⟨⟨bk_set2 HS6.out.pg.bk hne, ?_, HS6.out.pg.ge, by simpa [World.setCell] using HS6.out.pg.base⟩, HS6.out.kp.setCell (p := ⟨g, i * 3 + 2, none⟩) (Or.inl (Or.inr rfl)) _, bk_set2 HS6.out.res (by omega), bk_set2 HS6.out.act (by omega), own_setB HS6.out.wrote (fun e => own_types_ne HS6.out.wrote HS6.out.pg.row (by decide) e rfl), HS6.out.lt, HS6.out.low⟩
            rw [CN.out, List.length_set, HLN.out]
            exact own_setH hrow6 HCL.out (by omega) (.bool false) (cleanH ⟨pa, pb, true⟩) (by rw [HAT.out]; rfl))
          clear FR FP FO g1 g2' g3' HG6 HS6 hrow6 hb HC5 G0 H0
          go_wp2_with fail
          rw [E1.out]
          refine ⟨⟨i + 1, ws.length + 1, .slice A6 (ws.length + 1) c6, by omega, rfl, ?_⟩, MM.out⟩
          rw [DN2.out]
          exact HS7
    · have hii : i = nv := by omega
      have HF := Lib.hid hS.out
      have e1 : clT l i = l.map cleanH := by unfold clT; rw [hii, HN.out, List.take_length, List.drop_length, List.append_nil]
      have e2 : dirtyN (l.take i) = dirtyN l := by rw [hii, HN.out, List.take_length]
      rw [e1, e2] at HF
      obtain ⟨ws, hws⟩ : ∃ ws, ws = dirtyN l := ⟨_, rfl⟩
      have HWS := Lib.hid (show ws.length ≤ 1000000 by
        rw [hws]
        have := dirty_le l l.length
        rw [List.take_length] at this
        exact Nat.le_trans this hl)
      have HRR := Lib.hid (show r = (l.map cleanH, ⟨0, false, -1, sortI ws⟩) by rw [HR.out, hws]; rfl)
      rw [← hws] at HF
      clear e1 e2 hii hws hS HR y1
      have hkw := own_lenI HF.out.wrote
      subst hkw
      have z3 := HF.out.act.cell 3
      have CS := Lib.hid (sort_any ws w.heap.size ws.length (.slice AW ws.length cW) HWS.out wr HF.out.kp.size HF.out.wrote)
      go_wp2_with fail
      refine CS.out.mono ?_
      rintro e w3 ⟨rfl, ho, hk⟩
      have nA : ¬ (Value.ownBlock (.slice AW ws.length cW) = some (w.heap.size + 1)) := own_block_ne HF.out.wrote HF.out.act (by decide)
      have nR : ¬ (Value.ownBlock (.slice AW ws.length cW) = some w.heap.size) := own_block_ne HF.out.wrote HF.out.res (by decide)
      have nP : ¬ (Value.ownBlock (.slice AW ws.length cW) = some gp) := own_block_ne HF.out.wrote HF.out.pg.bk (by decide)
      have FA := hk.bk HF.out.act nA
      have FR := hk.bk HF.out.res nR
      have FP := hk.bk HF.out.pg.bk nP
      have FO := hk.own HF.out.pg.row (fun b hb1 hb2 => own_types_ne HF.out.wrote HF.out.pg.row (by decide) hb2 hb1)
      have hlt2 := HF.out.lt
      have nV : Value.ownBlock (.slice Av nv cv) ≠ some w.heap.size := fun e => by have := HF.out.low _ e; omega
      have FIN := Lib.hid (show DoP B gp room (.slice Av nv cv) w (l.map cleanH, ⟨0, false, -1, sortI ws⟩) (.returned (.agg #[.int .i64 0, .bool false, .int .i64 (-1), .slice AW ws.length cW])) ((((w3.setCell ⟨w.heap.size, 0, none⟩ (.int .i64 0)).setCell ⟨w.heap.size, 1, none⟩ (.bool false)).setCell ⟨w.heap.size, 2, none⟩ (.int .i64 (-1))).setCell ⟨w.heap.size, 3, none⟩ (.slice AW ws.length cW)) by
        have KK : Kp (pS gp (.slice Av nv cv)) (pS gp (.slice Av nv cv)) w w3 := ⟨hk.os.trans HF.out.kp.os, hk.tape.trans HF.out.kp.tape, hk.output.trans HF.out.kp.output, Nat.le_trans HF.out.kp.size hk.size, fun j hj hn => (hk.block j (Nat.lt_of_lt_of_le hj HF.out.kp.size) (fun e => by
              rcases HF.out.wrote.2 with ⟨h1, _⟩ | ⟨g', cap, cur, h1, h2, h3, _⟩
              · rw [h1] at e; cases e
              · rw [h1] at e
                have : g' = j := by simpa [Value.ownBlock] using e
                omega)).trans (HF.out.kp.block j hj hn), fun _ hh => Or.inl hh⟩
        refine ⟨_, .slice Av nv cv, rfl, ?_, ⟨bk_set2 (bk_set2 (bk_set2 (bk_set2 FP (by omega)) (by omega)) (by omega)) (by omega), own_setB (own_setB (own_setB (own_setB FO nV) nV) nV) nV, HF.out.pg.ge, by simpa [World.setCell] using Nat.le_trans HF.out.pg.base hk.size⟩,
          (((KK.setCell (p := ⟨w.heap.size, 0, none⟩) (Or.inr (Nat.le_refl _)) _).setCell (p := ⟨w.heap.size, 1, none⟩) (Or.inr (Nat.le_refl _)) _).setCell (p := ⟨w.heap.size, 2, none⟩) (Or.inr (Nat.le_refl _)) _).setCell (p := ⟨w.heap.size, 3, none⟩) (Or.inr (Nat.le_refl _)) _⟩
        show World.ownsRow _ _ _ _ _ (sortI ws).length (intG (sortI ws))
        rw [sortI_length]
        exact own_setB (own_setB (own_setB (own_setB ho nR) nR) nR) nR)
      have q0 := FA.cell 0
      have q1 := FA.cell 1
      have q2 := FA.cell 2
      have q3 := FA.cell 3
      have r0 := FR.cell 0
      have r1 := FR.cell 1
      have r2 := FR.cell 2
      have r3 := FR.cell 3
      have k0 := FR.frozen 0
      have k1 := FR.frozen 1
      have k2 := FR.frozen 2
      have k3 := FR.frozen 3
      clear FA FR FP FO nA nR nP nV ho hk z3 CS HF
      go_wp2_with fail
      exact bodyPost_ret (v := .agg #[.int .i64 0, .bool false, .int .i64 (-1), .slice AW ws.length cW]) (by simp [results, Try.results23, go_sem, r0, r1, r2, r3]) rfl (by rw [HRR.out]; exact FIN.out)
end Go.Proofs.Ytopkkolcimmedaa
