/- The reference's Do: the calls that mean nothing. Condition: the pages lie in memory. -/
import Derived.Test.YtfbpagbfdccgfaaGRS
import Derived.LoopTactic
import Derived.Lib.AppendZeros
namespace Go.Proofs.Ytfbpagbfdccgfaa
open Go.RowKit

set_option maxRecDepth 100000 in
set_option maxHeartbeats 2000000 in
theorem rdo_bad (A : Option Addr) (n c : Nat) (l : List HeldM) (room kind page : Int) (hn : n = l.length) (hc : n ≤ c) (w : World) (hS : Seg w A (rowH l)) (hA : ∀ a, A = some a → rowH l ≠ [] → a.block ≠ w.heap.size) (hk : kind < 1 ∨ 4 < kind ∨ (kind < 4 ∧ page < 0)) :
    Calls Try.prog 9 #[.slice A n c, .int .i64 room, .int .i64 kind, .int .i64 page] w (RdP w (l, refM 1)) := by
  obtain ⟨W2, hW2⟩ : ∃ W2, W2 = (w.alloc (.cells #[.int .i64 0, .bool false, .int .i64 0, .slice none 0 0] 33)).alloc (.cells #[.int .i64 0, .bool false, .int .i64 (-1), .slice none 0 0] 33) := ⟨_, rfl⟩
  have HS2 := Lib.hid (show RdS w 0 false (-1) (.slice none 0 0) [] W2 by
    refine ⟨by rw [hW2]; exact ((Below.refl _ _).alloc (Nat.le_refl _) _).alloc (by simp) _, ?_, ?_, World.ownsRow_nil _ _ _ _⟩
    · rw [hW2]; exact (Bk.new w _ _).alloc _
    · rw [hW2]
      have k1 := Bk.new (w.alloc (.cells #[.int .i64 0, .bool false, .int .i64 0, .slice none 0 0] 33)) 33 #[.int .i64 0, .bool false, .int .i64 (-1), .slice none 0 0]
      rw [World.size_alloc] at k1
      exact k1)
  have HW2 := Lib.hid hW2
  clear hW2
  have S3 := HS2.out.put 0 (.int .i64 1) (e2 := 1) rfl HS2.out.wrote
  have HS3 := Lib.hid S3
  have HX := Lib.hid (show Seg (W2.setCell ⟨w.heap.size + 1, 0, none⟩ (.int .i64 1)) A (rowH l) from hS.bel S3.bel)
  have HN := Lib.hid hn
  have HA := Lib.hid hA
  have k9 := HS2.out.act.frozen 0
  have y9 := HS2.out.act.cell 0
  obtain ⟨W3, hW3⟩ : ∃ W3, W3 = W2.setCell ⟨w.heap.size + 1, 0, none⟩ (.int .i64 1) := ⟨_, rfl⟩
  rw [← hW3] at HS3 HX
  have HW3 := Lib.hid hW3
  clear S3 hS hn hA hW3
  rcases Int.lt_or_le kind 1 with h1 | h1
  · have g1 : decide (kind < 1) = true := decide_eq_true h1
    clear hk h1
    go_enter Try.func9, Try.ntmps9
    go_upto_region 2 with fail
    rw [← HW2.out]
    go_upto_region 4 with fail
    rw [← HW3.out]
    clear k9 y9 HW2
    have FIN := Lib.hid (HS3.out.fin HN.out hc HX.out HA.out).drew
    have r0 := HS3.out.act.cell 0
    have r1 := HS3.out.act.cell 1
    have r2 := HS3.out.act.cell 2
    have r3 := HS3.out.act.cell 3
    have k0 := HS3.out.res.frozen 0
    have k1 := HS3.out.res.frozen 1
    have k2 := HS3.out.res.frozen 2
    have k3 := HS3.out.res.frozen 3
    have z0 := HS3.out.res.cell 0
    have z1 := HS3.out.res.cell 1
    have z2 := HS3.out.res.cell 2
    have z3 := HS3.out.res.cell 3
    go_region
    all_goals
      go_wp2_with fail
      exact bodyPost_ret (v := .tuple #[.slice A n c, .agg #[.int .i64 1, .bool false, .int .i64 (-1), (.slice none 0 0)]]) (by simp [results, Try.results9, go_sem, r0, r1, r2, r3, k0, k1, k2, k3, z0, z1, z2, z3]) rfl FIN.out
  · have g1 : decide (kind < 1) = false := decide_eq_false (by omega)
    rcases Int.lt_or_le 4 kind with h2 | h2
    · have g2 : decide (kind > 4) = true := decide_eq_true h2
      clear hk h1 h2
      go_enter Try.func9, Try.ntmps9
      go_upto_region 2 with fail
      rw [← HW2.out]
      go_upto_region 4 with fail
      rw [← HW3.out]
      clear k9 y9 HW2
      have FIN := Lib.hid (HS3.out.fin HN.out hc HX.out HA.out).drew
      have r0 := HS3.out.act.cell 0
      have r1 := HS3.out.act.cell 1
      have r2 := HS3.out.act.cell 2
      have r3 := HS3.out.act.cell 3
      have k0 := HS3.out.res.frozen 0
      have k1 := HS3.out.res.frozen 1
      have k2 := HS3.out.res.frozen 2
      have k3 := HS3.out.res.frozen 3
      have z0 := HS3.out.res.cell 0
      have z1 := HS3.out.res.cell 1
      have z2 := HS3.out.res.cell 2
      have z3 := HS3.out.res.cell 3
      go_region
      all_goals
        go_wp2_with fail
        exact bodyPost_ret (v := .tuple #[.slice A n c, .agg #[.int .i64 1, .bool false, .int .i64 (-1), (.slice none 0 0)]]) (by simp [results, Try.results9, go_sem, r0, r1, r2, r3, k0, k1, k2, k3, z0, z1, z2, z3]) rfl FIN.out
    · have g2 : decide (kind > 4) = false := decide_eq_false (by omega)
      have h3 : kind < 4 ∧ page < 0 := by omega
      have g3 : decide (kind < 4) = true := decide_eq_true h3.1
      have g4 : decide (page < 0) = true := decide_eq_true h3.2
      clear hk h1 h2 h3
      go_enter Try.func9, Try.ntmps9
      go_upto_region 2 with fail
      rw [← HW2.out]
      go_upto_region 4 with fail
      rw [← HW3.out]
      clear k9 y9 HW2
      have FIN := Lib.hid (HS3.out.fin HN.out hc HX.out HA.out).drew
      have r0 := HS3.out.act.cell 0
      have r1 := HS3.out.act.cell 1
      have r2 := HS3.out.act.cell 2
      have r3 := HS3.out.act.cell 3
      have k0 := HS3.out.res.frozen 0
      have k1 := HS3.out.res.frozen 1
      have k2 := HS3.out.res.frozen 2
      have k3 := HS3.out.res.frozen 3
      have z0 := HS3.out.res.cell 0
      have z1 := HS3.out.res.cell 1
      have z2 := HS3.out.res.cell 2
      have z3 := HS3.out.res.cell 3
      go_region
      all_goals
        go_wp2_with fail
        exact bodyPost_ret (v := .tuple #[.slice A n c, .agg #[.int .i64 1, .bool false, .int .i64 (-1), (.slice none 0 0)]]) (by simp [results, Try.results9, go_sem, r0, r1, r2, r3, k0, k1, k2, k3, z0, z1, z2, z3]) rfl FIN.out
end Go.Proofs.Ytfbpagbfdccgfaa
