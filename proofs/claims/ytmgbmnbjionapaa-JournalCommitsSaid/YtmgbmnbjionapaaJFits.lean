/- Where a journal fits, and a journal made. Conditions: the disk lies in memory; of Format: nothing waits; the disk is not armed. -/
import Derived.Test.YtmgbmnbjionapaaJHead
namespace Go.Proofs.Ytmgbmnbjionapaa
open Go.RowKit

def Fits (T b s : Int) : Prop := 1 ≤ s ∧ s ≤ 60 ∧ 0 ≤ b ∧ b ≤ T - (s + 2)
instance (T b s : Int) : Decidable (Fits T b s) := by unfold Fits; infer_instance
set_option maxRecDepth 100000 in
theorem area_any (s : Int) (h : 0 ≤ s ∧ s ≤ 1000) (w : World) : Calls Try.prog 35 #[.int .i64 s] w fun e w' => e = .returned (.int .i64 (s + 2)) ∧ w = w' := by
  go_enter Try.func35, Try.ntmps35
  go_wp2_with fail
  go_ret
  exact ⟨rfl, rfl⟩
set_option maxRecDepth 100000 in
set_option maxHeartbeats 1000000 in
theorem fits_any (p T : Nat) (S : Nat → Prop) (D : DM) (b s : Int) (w : World) (hD : Dsk w S p T D) : Calls Try.prog 54 #[.pointer (some ⟨p, 0, none⟩), .int .i64 b, .int .i64 s] w fun e w' => e = .returned (.bool (decide (Fits T b s))) ∧ w = w' := by
  have CB := Lib.hid hD.blocks
  have hT := hD.ok.top
  by_cases h1 : 1 ≤ s
  · by_cases h2 : s ≤ 60
    · by_cases h3 : 0 ≤ b
      · have CA := Lib.hid (area_any s (by omega) w)
        clear hD
        by_cases h4 : b ≤ (T : Int) - (s + 2)
        · have hr : decide (Fits T b s) = true := decide_eq_true ⟨h1, h2, h3, h4⟩
          rw [hr]
          clear hr
          go_enter Try.func54, Try.ntmps54
          go_wp2_with fail
          refine CB.out.mono ?_
          rintro e w1 ⟨rfl, rfl⟩
          go_wp2_with fail
          refine CA.out.mono ?_
          rintro e w2 ⟨rfl, rfl⟩
          go_wp2_with fail
          go_ret
          exact ⟨rfl, rfl⟩
        · have hr : decide (Fits T b s) = false := decide_eq_false (fun h => h4 h.2.2.2)
          rw [hr]
          have H4 := Lib.hid (decide_eq_false h4)
          clear hr
          go_enter Try.func54, Try.ntmps54
          go_wp2_with fail
          refine CB.out.mono ?_
          rintro e w1 ⟨rfl, rfl⟩
          go_wp2_with fail
          refine CA.out.mono ?_
          rintro e w2 ⟨rfl, rfl⟩
          go_wp2_with fail
          go_ret
          exact ⟨by rw [← H4.out]; rfl, rfl⟩
      · have hr : decide (Fits T b s) = false := decide_eq_false (fun h => h3 h.2.2.1)
        rw [hr]
        clear hr hD
        go_enter Try.func54, Try.ntmps54
        go_wp2_with fail
        go_ret
        exact ⟨rfl, rfl⟩
    · have hr : decide (Fits T b s) = false := decide_eq_false (fun h => h2 h.2.1)
      rw [hr]
      clear hr hD
      go_enter Try.func54, Try.ntmps54
      go_wp2_with fail
      go_ret
      exact ⟨rfl, rfl⟩
  · have hr : decide (Fits T b s) = false := decide_eq_false (fun h => h1 h.1)
    rw [hr]
    clear hr hD
    go_enter Try.func54, Try.ntmps54
    go_wp2_with fail
    go_ret
    exact ⟨rfl, rfl⟩
set_option maxRecDepth 100000 in
set_option maxHeartbeats 1000000 in
theorem format_no (p T : Nat) (S : Nat → Prop) (D : DM) (b s : Int) (w : World) (hD : Dsk w S p T D) (hf : ¬ Fits T b s) : Calls Try.prog 31 #[.pointer (some ⟨p, 0, none⟩), .int .i64 b, .int .i64 s] w fun e w' => e = .returned (.int .i64 1) ∧ w = w' := by
  have C1 := Lib.hid (fits_any p T S D b s w hD)
  rw [decide_eq_false hf] at C1
  clear hD hf
  go_enter Try.func31, Try.ntmps31
  go_wp2_with fail
  refine C1.out.mono ?_
  rintro e w1 ⟨rfl, rfl⟩
  go_wp2_with fail
  go_ret
  exact ⟨rfl, rfl⟩
set_option maxRecDepth 100000 in
set_option maxHeartbeats 1000000 in
theorem format_ok (p T b s : Nat) (S : Nat → Prop) (D : DM) (w : World) (hD : Dsk w S p T D) (ha : D.arm = false) (hw : D.wts = []) (hf : Fits T b s) : Calls Try.prog 31 #[.pointer (some ⟨p, 0, none⟩), .int .i64 (b : Int), .int .i64 (s : Int)] w fun e w' => e = .returned (.int .i64 0) ∧ ∃ S', Dsk w' S' p T (D.land [(b, headN b s 0 0)]) ∧ Kp S S' w w' := by
  have C1 := Lib.hid (fits_any p T S D b s w hD)
  rw [decide_eq_true hf] at C1
  have hT := hD.ok.top
  have hin := hD.inn
  unfold Fits at hf
  obtain ⟨w1, hw1⟩ : ∃ w1, w1 = w.alloc (.cells (JrC p b s) 101) := ⟨_, rfl⟩
  have B1 : Below w.heap.size w w1 := by rw [hw1]; exact (Below.refl _ _).alloc (Nat.le_refl _) _
  have J1 : Bk w1 w.heap.size 101 (JrC p b s) := by rw [hw1]; exact Bk.new w _ _
  have CP := Lib.hid (puthead_off w.heap.size p b s T 0 0 S D w1 J1 (fun h => by have := hin _ h; omega) (hD.bel B1) ha hw (by omega) (by omega) (by omega) hT (by omega))
  have K1 := Lib.hid (Kp.of_bel B1 S)
  have HW1 := Lib.hid hw1
  clear hD hf ha hw hin B1 J1 hw1
  go_enter Try.func31, Try.ntmps31
  go_wp2_with fail
  refine C1.out.mono ?_
  rintro e w2 ⟨rfl, rfl⟩
  go_upto_region 4 with fail
  rw [show (w.alloc (.cells #[.pointer (some ⟨p, 0, none⟩), .int .i64 (b : Int), .int .i64 (s : Int)] 101)) = w1 from HW1.out.symm]
  go_wp2_with fail
  refine CP.out.mono ?_
  rintro e w3 ⟨rfl, S3, hD3, hK3⟩
  have D3 := Lib.hid hD3
  have K3 := Lib.hid (K1.out.trans hK3)
  clear hD3 hK3
  go_wp2_with fail
  go_ret
  exact ⟨rfl, S3, D3.out, K3.out⟩
end Go.Proofs.Ytmgbmnbjionapaa
