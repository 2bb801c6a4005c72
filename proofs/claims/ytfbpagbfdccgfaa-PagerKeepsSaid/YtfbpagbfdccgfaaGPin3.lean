/- The pager's pin: one that is not at hand, and no room. Condition: as GPin. -/
import Derived.Test.YtfbpagbfdccgfaaGPin
namespace Go.Proofs.Ytfbpagbfdccgfaa
open Go.RowKit

theorem refused_any (x : Int) (w : World) : Calls Try.prog 20 #[.int .i64 x] w fun e w' => e = .returned (.agg #[.int .i64 x, .bool false, .int .i64 (-1), .slice none 0 0]) ∧ Below w.heap.size w w' := by
  have HA := Lib.hid ((Below.refl w.heap.size w).alloc (Nat.le_refl _) (.cells #[.int .i64 0, .bool false, .int .i64 0, .slice none 0 0] 38))
  have R := Bk.new w 38 #[.int .i64 0, .bool false, .int .i64 0, .slice none 0 0]
  have r0 := R.cell 0
  have r1 := R.cell 1
  have r2 := R.cell 2
  have r3 := R.cell 3
  have k0 := R.frozen 0
  have k1 := R.frozen 1
  have k2 := R.frozen 2
  have k3 := R.frozen 3
  have hb := Lib.hid ((Below.refl w.heap.size w).alloc (Nat.le_refl _) (.cells #[.int .i64 x, .bool false, .int .i64 (-1), .slice none 0 0] 38))
  clear R
  go_enter Try.func20, Try.ntmps20
  go_wp2_with fail
  exact bodyPost_ret (v := .agg #[.int .i64 x, .bool false, .int .i64 (-1), .slice none 0 0]) (by simp [results, Try.results20, go_sem, r0, r1, r2, r3]) rfl ⟨rfl, hb.out⟩
set_option maxRecDepth 100000 in
set_option maxHeartbeats 8000000 in
theorem pin_full (B gp : Nat) (room : Int) (l : List HeldM) (v : Value) (w : World) (h : PgA B gp room l v w) (hl : l.length ≤ 1000000) (page : Int) (hz : findZ (isP page) l = -1) (hr : room ≤ (l.length : Int)) (hy : findZ isF l = -1) :
    Calls Try.prog 21 #[.pointer (some ⟨gp, 0, none⟩), .int .i64 page] w (DoP B gp room v w (l, refM 5)) := by
  obtain ⟨i0, hi0, hz0, hz1, hz2⟩ := info_parts info_held
  have hl := hl
  have al : Below w.heap.size w (((w.alloc (.cells #[.int .i64 0, .bool false, .int .i64 0, .slice none 0 0] 38)).alloc (.cells #[.int .i64 0, .bool false, .int .i64 (-1), .slice none 0 0] 38)).alloc (.cells #[.int .i64 page, .int .i64 0, .bool false] 61)) := (((Below.refl _ _).alloc (Nat.le_refl _) _).alloc (by simp) _).alloc (by simp; omega) _
  obtain ⟨W3, hW3⟩ : ∃ W3, W3 = ((w.alloc (.cells #[.int .i64 0, .bool false, .int .i64 0, .slice none 0 0] 38)).alloc (.cells #[.int .i64 0, .bool false, .int .i64 (-1), .slice none 0 0] 38)).alloc (.cells #[.int .i64 page, .int .i64 0, .bool false] 61) := ⟨_, rfl⟩
  rw [← hW3] at al
  have HS3 := Lib.hid (show PnS B gp room l v v ⟨page, 0, false⟩ false (-1) (.slice none 0 0) [] w W3 by
    refine ⟨h.bel al, Kp.of_bel al _, ?_, ?_, ?_, World.ownsRow_nil _ _ _ _, h.bk.lt, fun k hk => ?_, h.base⟩
    · rw [hW3]; exact ((Bk.new w _ _).alloc _).alloc _
    · rw [hW3]
      have k1 := Bk.new (w.alloc (.cells #[.int .i64 0, .bool false, .int .i64 0, .slice none 0 0] 38)) 38 #[.int .i64 0, .bool false, .int .i64 (-1), .slice none 0 0]
      rw [World.size_alloc] at k1
      exact k1.alloc _
    · rw [hW3]
      have k2 := Bk.new ((w.alloc (.cells #[.int .i64 0, .bool false, .int .i64 0, .slice none 0 0] 38)).alloc (.cells #[.int .i64 0, .bool false, .int .i64 (-1), .slice none 0 0] 38)) 61 #[.int .i64 page, .int .i64 0, .bool false]
      rw [World.size_alloc, World.size_alloc] at k2
      exact k2
    · rcases own_shapeH h.row with ⟨h1, _⟩ | ⟨g, cap, h1, h2, h3, _⟩
      · rw [h1] at hk; cases hk
      · rw [h1] at hk
        have : g = k := by simpa [Value.ownBlock] using hk
        subst this
        exact h3)
  have HW3 := Lib.hid hW3
  have CF0 := find_any B gp room l v W3 HS3.out.pg (by omega) page
  have CF1 : Calls Try.prog 24 #[.pointer (some ⟨gp, 0, none⟩), .int .i64 page] W3 fun e w' => e = .returned (.int .i64 (findZ (isP page) l)) ∧ Below W3.heap.size W3 w' := CF0
  rw [hz] at CF1
  have CF := Lib.hid CF1
  clear h al hW3 CF0 CF1
  go_enter Try.func21, Try.ntmps21
  go_upto_region 3 with fail
  rw [← HW3.out]
  go_wp2_with fail
  refine CF.out.mono ?_
  rintro e w1 ⟨rfl, b1⟩
  have HS1 := Lib.hid (HS3.out.bel b1)
  clear b1 HS3 HW3 CF
  have y1 := HS1.out.pg.bk.cell 1
  have y0 := HS1.out.pg.bk.cell 0
  have hr1 : decide (room ≤ (l.length : Int)) = true := decide_eq_true hr
  rcases own_shapeH HS1.out.pg.row with ⟨h1, h2⟩ | ⟨g, cap, h1, _⟩
  all_goals subst h1
  · have hr2 : room ≤ 0 := by rw [h2] at hr; simpa using hr
    have hr3 : decide (room ≤ 0) = true := decide_eq_true hr2
    clear h2
    go_wp2_with fail
    go_quiet (fail)
    have HS := Lib.hid (HS1.out.bel (below_drewN (Below.refl _ w1) nq))
    obtain ⟨wq, hwq⟩ : ∃ wq, wq = w1.drewN nq := ⟨_, rfl⟩
    rw [← hwq] at HS ⊢
    clear hwq y0 y1 HS1
    have y1 := HS.out.pg.bk.cell 1
    have CI1 := index_any 27 #[] isF (enters_of Try.func27 (by kernel_rfl) rfl) B l.length _ l wq HS.out.pg.row (by omega) (fun W x hb => (isFree_any x W).mono (fun e w' h => ⟨h.1, hb.trans (h.2.mono hb.size)⟩))
    rw [hy] at CI1
    have CI := Lib.hid CI1
    clear CI1
    go_wp2_with fail
    refine CI.out.mono ?_
    rintro e w5 ⟨rfl, b5⟩
    have HS5 := Lib.hid (HS.out.bel b5)
    clear b5 HS CI y1
    go_wp2_with fail
    refine (refused_any 5 w5).mono ?_
    rintro e w6 ⟨rfl, b6⟩
    have HS6 := Lib.hid (HS5.out.bel b6)
    have FR := HS6.out.res
    have r0 := FR.cell 0
    have r1 := FR.cell 1
    have r2 := FR.cell 2
    have r3 := FR.cell 3
    have k0 := FR.frozen 0
    have k1 := FR.frozen 1
    have k2 := FR.frozen 2
    have k3 := FR.frozen 3
    have hlt := HS6.out.lt
    have nV : (Value.ownBlock (.slice none 0 0)) ≠ some w.heap.size := fun e => by have := HS6.out.low _ e; omega
    have FIN := Lib.hid (show DoP B gp room (.slice none 0 0) w (l, refM 5) (.returned (.agg #[.int .i64 5, .bool false, .int .i64 (-1), .slice none 0 0])) ((((w6.setCell ⟨w.heap.size, 0, none⟩ (.int .i64 5)).setCell ⟨w.heap.size, 1, none⟩ (.bool false)).setCell ⟨w.heap.size, 2, none⟩ (.int .i64 (-1))).setCell ⟨w.heap.size, 3, none⟩ (.slice none 0 0)) from
      ⟨_, _, rfl, World.ownsRow_nil _ _ _ _, ⟨bk_set2 (bk_set2 (bk_set2 (bk_set2 HS6.out.pg.bk (by omega)) (by omega)) (by omega)) (by omega), own_setB (own_setB (own_setB (own_setB HS6.out.pg.row nV) nV) nV) nV, HS6.out.pg.ge, by simpa [World.setCell] using HS6.out.pg.base⟩,
        (((HS6.out.kp.setCell (p := ⟨w.heap.size, 0, none⟩) (Or.inr (Nat.le_refl _)) _).setCell (p := ⟨w.heap.size, 1, none⟩) (Or.inr (Nat.le_refl _)) _).setCell (p := ⟨w.heap.size, 2, none⟩) (Or.inr (Nat.le_refl _)) _).setCell (p := ⟨w.heap.size, 3, none⟩) (Or.inr (Nat.le_refl _)) _⟩)
    clear HS5 HS6 FR nV b6
    go_wp2_with fail
    exact bodyPost_ret (v := .agg #[.int .i64 5, .bool false, .int .i64 (-1), .slice none 0 0]) (by simp [results, Try.results21, go_sem, r0, r1, r2, r3]) rfl FIN.out
  · go_wp2_with fail
    go_quiet (fail)
    have HS := Lib.hid (HS1.out.bel (below_drewN (Below.refl _ w1) nq))
    obtain ⟨wq, hwq⟩ : ∃ wq, wq = w1.drewN nq := ⟨_, rfl⟩
    rw [← hwq] at HS ⊢
    clear hwq y0 y1 HS1
    have y1 := HS.out.pg.bk.cell 1
    have CI1 := index_any 27 #[] isF (enters_of Try.func27 (by kernel_rfl) rfl) B l.length _ l wq HS.out.pg.row (by omega) (fun W x hb => (isFree_any x W).mono (fun e w' h => ⟨h.1, hb.trans (h.2.mono hb.size)⟩))
    rw [hy] at CI1
    have CI := Lib.hid CI1
    clear CI1
    go_wp2_with fail
    refine CI.out.mono ?_
    rintro e w5 ⟨rfl, b5⟩
    have HS5 := Lib.hid (HS.out.bel b5)
    clear b5 HS CI y1
    go_wp2_with fail
    refine (refused_any 5 w5).mono ?_
    rintro e w6 ⟨rfl, b6⟩
    have HS6 := Lib.hid (HS5.out.bel b6)
    have FR := HS6.out.res
    have r0 := FR.cell 0
    have r1 := FR.cell 1
    have r2 := FR.cell 2
    have r3 := FR.cell 3
    have k0 := FR.frozen 0
    have k1 := FR.frozen 1
    have k2 := FR.frozen 2
    have k3 := FR.frozen 3
    have hlt := HS6.out.lt
    have nV : (Value.ownBlock (.slice (some ⟨g, 0, none⟩) l.length cap)) ≠ some w.heap.size := fun e => by have := HS6.out.low _ e; omega
    have FIN := Lib.hid (show DoP B gp room (.slice (some ⟨g, 0, none⟩) l.length cap) w (l, refM 5) (.returned (.agg #[.int .i64 5, .bool false, .int .i64 (-1), .slice none 0 0])) ((((w6.setCell ⟨w.heap.size, 0, none⟩ (.int .i64 5)).setCell ⟨w.heap.size, 1, none⟩ (.bool false)).setCell ⟨w.heap.size, 2, none⟩ (.int .i64 (-1))).setCell ⟨w.heap.size, 3, none⟩ (.slice none 0 0)) from
      ⟨_, _, rfl, World.ownsRow_nil _ _ _ _, ⟨bk_set2 (bk_set2 (bk_set2 (bk_set2 HS6.out.pg.bk (by omega)) (by omega)) (by omega)) (by omega), own_setB (own_setB (own_setB (own_setB HS6.out.pg.row nV) nV) nV) nV, HS6.out.pg.ge, by simpa [World.setCell] using HS6.out.pg.base⟩,
        (((HS6.out.kp.setCell (p := ⟨w.heap.size, 0, none⟩) (Or.inr (Nat.le_refl _)) _).setCell (p := ⟨w.heap.size, 1, none⟩) (Or.inr (Nat.le_refl _)) _).setCell (p := ⟨w.heap.size, 2, none⟩) (Or.inr (Nat.le_refl _)) _).setCell (p := ⟨w.heap.size, 3, none⟩) (Or.inr (Nat.le_refl _)) _⟩)
    clear HS5 HS6 FR nV b6
    go_wp2_with fail
    exact bodyPost_ret (v := .agg #[.int .i64 5, .bool false, .int .i64 (-1), .slice none 0 0]) (by simp [results, Try.results21, go_sem, r0, r1, r2, r3]) rfl FIN.out
end Go.Proofs.Ytfbpagbfdccgfaa
