/- The reference's word on where a journal may be. Condition: at most 2048 blocks. -/
import Derived.Test.YtmgbmnbjionapaaJFits
import Derived.IntWalk
namespace Go.Proofs.Ytmgbmnbjionapaa
open Go.RowKit

set_option maxRecDepth 100000 in
set_option maxHeartbeats 2000000 in
theorem placed_any (T : Nat) (b s : Int) (w : World) (hT : T ≤ 2048) : Calls Try.prog 32 #[.int .i64 (T : Int), .int .i64 b, .int .i64 s] w fun e w' => e = .returned (.bool (decide (Fits T b s))) ∧ w = w' := by
  by_cases h1 : 1 ≤ s
  · by_cases h2 : s ≤ 60
    · have e1 : wrap64 (s + 2) = s + 2 := IntWalk.wrap64_in _ ⟨by omega, by omega⟩
      have e1' : IntKind.i64.wrap (s + 2) = s + 2 := IntWalk.i64_in _ ⟨by omega, by omega⟩
      by_cases h3 : 0 ≤ b
      · by_cases h5 : b ≤ (T : Int)
        · have e2 : wrap64 ((T : Int) - b) = (T : Int) - b := IntWalk.wrap64_in _ ⟨by omega, by omega⟩
          have e2' : IntKind.i64.wrap ((T : Int) - b) = (T : Int) - b := IntWalk.i64_in _ ⟨by omega, by omega⟩
          by_cases h4 : s + 2 ≤ (T : Int) - b
          · have hr : decide (Fits T b s) = true := decide_eq_true ⟨h1, h2, h3, by omega⟩
            rw [hr]
            clear hr hT
            go_enter Try.func32, Try.ntmps32
            go_wp2_with fail
            go_ret
            exact ⟨by simp_all, rfl⟩
          · have hr : decide (Fits T b s) = false := decide_eq_false (fun h => h4 (by have := h.2.2.2; omega))
            rw [hr]
            clear hr hT
            go_enter Try.func32, Try.ntmps32
            go_wp2_with fail
            go_ret
            exact ⟨by simp_all, rfl⟩
        · have hr : decide (Fits T b s) = false := decide_eq_false (fun h => h5 (by have := h.2.2.2; omega))
          rw [hr]
          clear hr hT
          go_enter Try.func32, Try.ntmps32
          go_wp2_with fail
          go_ret
          exact ⟨by simp_all, rfl⟩
      · have hr : decide (Fits T b s) = false := decide_eq_false (fun h => h3 h.2.2.1)
        rw [hr]
        clear hr hT
        go_enter Try.func32, Try.ntmps32
        go_wp2_with fail
        go_ret
        exact ⟨by simp_all, rfl⟩
    · have hr : decide (Fits T b s) = false := decide_eq_false (fun h => h2 h.2.1)
      rw [hr]
      clear hr hT
      go_enter Try.func32, Try.ntmps32
      go_wp2_with fail
      go_ret
      exact ⟨by simp_all, rfl⟩
  · have hr : decide (Fits T b s) = false := decide_eq_false (fun h => h1 h.1)
    rw [hr]
    clear hr hT
    go_enter Try.func32, Try.ntmps32
    go_wp2_with fail
    go_ret
    exact ⟨by simp_all, rfl⟩
end Go.Proofs.Ytmgbmnbjionapaa
