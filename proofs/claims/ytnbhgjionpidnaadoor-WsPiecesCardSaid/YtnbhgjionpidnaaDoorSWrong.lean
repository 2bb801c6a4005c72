/- The reference's wrong: do a frame's first two bytes fail. No condition. -/
import Derived.Test.YtnbhgjionpidnaaDoorSFrame
namespace Go.Proofs.YtnbhgjionpidnaaDoor
open Go.RowKit

/-- Do a frame's first two bytes fail: as the reader has it. -/
def wrongB (kind a b : Nat) (mk : Bool) : Bool := decide (a / 16 % 8 ≠ 0 ∨ decide (128 ≤ b) ≠ mk ∨ fitsB kind (a % 16) (decide (128 ≤ a)) (b % 128) = false)
set_option maxRecDepth 100000 in
set_option maxHeartbeats 2000000 in
theorem rwrong_any (kind a b : Nat) (mk : Bool) (ha : a < 256) (hb : b < 256) (w : World) :
    Calls Tryd.prog 31 #[.int .i64 (a : Nat), .int .i64 (b : Nat), .bool mk, .bool (decide (kind ≠ 0))] w fun e w' => e = .returned (.bool (wrongB kind a b mk)) ∧ Below w.heap.size w w' := by
  obtain ⟨op, hop⟩ : ∃ x, x = a % 16 := ⟨_, rfl⟩
  obtain ⟨h, hh⟩ : ∃ x, x = a / 16 := ⟨_, rfl⟩
  obtain ⟨k, hk⟩ : ∃ x, x = h % 8 := ⟨_, rfl⟩
  obtain ⟨s, hs⟩ : ∃ x, x = b % 128 := ⟨_, rfl⟩
  obtain ⟨o, ho⟩ : ∃ x, x = decide (kind ≠ 0) := ⟨_, rfl⟩
  obtain ⟨R, hR⟩ : ∃ x, x = wrongB kind a b mk := ⟨_, rfl⟩
  rw [← hR, ← ho]
  unfold wrongB at hR
  rw [← hop, ← hh, ← hk, ← hs] at hR
  have r1 : (a : Int) % 16 = (op : Int) := by omega
  have r2 : (a : Int) / 16 = (h : Int) := by omega
  have r3 : (h : Int) % 8 = (k : Int) := by omega
  have r4 : (b : Int) % 128 = (s : Int) := by omega
  have hop2 : op < 16 := by omega
  clear hop hh hk hs
  by_cases hk0 : k = 0
  · subst hk0
    by_cases h2 : 2 < op
    · have i1 : (2 : Int) < (op : Int) := by omega
      by_cases h8 : op < 8
      · have i2 : (op : Int) < 8 := by omega
        obtain rfl : R = true := by
          rw [hR]
          have hf : fitsB kind op (decide (128 ≤ a)) s = false := by
            unfold fitsB
            rw [if_neg (by omega), if_neg (by omega), if_neg (by omega)]
          rw [hf]
          simp
        clear hR
        go_enter Tryd.func31, Tryd.ntmps31
        go_wp2_with fail
        go_ret
        exact ⟨rfl, Below.refl _ _⟩
      · have i2 : ¬ (op : Int) < 8 := by omega
        have i6 : (8 : Int) ≤ (op : Int) := by omega
        by_cases h10 : 10 < op
        · have i3 : (10 : Int) < (op : Int) := by omega
          obtain rfl : R = true := by
            rw [hR]
            have hf : fitsB kind op (decide (128 ≤ a)) s = false := by
              unfold fitsB
              rw [if_neg (by omega), if_neg (by omega), if_neg (by omega)]
            rw [hf]
            simp
          clear hR
          go_enter Tryd.func31, Tryd.ntmps31
          go_wp2_with fail
          go_ret
          exact ⟨rfl, Below.refl _ _⟩
        · have i3 : ¬ (10 : Int) < (op : Int) := by omega
          by_cases hbb : 128 ≤ b
          · have i8 : (128 : Int) ≤ (b : Int) := by omega
            cases mk
            · skip
              obtain rfl : R = true := by
                rw [hR]
                simp [hbb]
              clear hR
              go_enter Tryd.func31, Tryd.ntmps31
              go_wp2_with fail
              go_ret
              exact ⟨rfl, Below.refl _ _⟩
            · skip
              by_cases hf : a < 128
              · have i9 : (a : Int) < 128 := by omega
                obtain rfl : R = true := by
                  rw [hR]
                  have hf2 : fitsB kind op (decide (128 ≤ a)) s = false := by
                    unfold fitsB
                    rw [if_neg (by omega), if_neg (by omega), if_pos (by omega)]
                    simp
                    omega
                  rw [hf2]
                  simp
                clear hR
                go_enter Tryd.func31, Tryd.ntmps31
                go_wp2_with fail
                go_ret
                exact ⟨rfl, Below.refl _ _⟩
              · have i9 : ¬ (a : Int) < 128 := by omega
                by_cases h5 : 125 < s
                · have i10 : (125 : Int) < (s : Int) := by omega
                  obtain rfl : R = true := by
                    rw [hR]
                    have hf2 : fitsB kind op (decide (128 ≤ a)) s = false := by
                      unfold fitsB
                      rw [if_neg (by omega), if_neg (by omega), if_pos (by omega)]
                      simp
                      omega
                    rw [hf2]
                    simp
                  clear hR
                  go_enter Tryd.func31, Tryd.ntmps31
                  go_wp2_with fail
                  go_ret
                  exact ⟨rfl, Below.refl _ _⟩
                · have i10 : ¬ (125 : Int) < (s : Int) := by omega
                  obtain rfl : R = false := by
                    rw [hR]
                    have hf2 : fitsB kind op (decide (128 ≤ a)) s = true := by
                      unfold fitsB
                      rw [if_neg (by omega), if_neg (by omega), if_pos (by omega)]
                      simp
                      omega
                    rw [hf2]
                    simp [hbb]
                  clear hR
                  go_enter Tryd.func31, Tryd.ntmps31
                  go_wp2_with fail
                  go_ret
                  exact ⟨rfl, Below.refl _ _⟩
          · have i8 : ¬ (128 : Int) ≤ (b : Int) := by omega
            cases mk
            · skip
              by_cases hf : a < 128
              · have i9 : (a : Int) < 128 := by omega
                obtain rfl : R = true := by
                  rw [hR]
                  have hf2 : fitsB kind op (decide (128 ≤ a)) s = false := by
                    unfold fitsB
                    rw [if_neg (by omega), if_neg (by omega), if_pos (by omega)]
                    simp
                    omega
                  rw [hf2]
                  simp
                clear hR
                go_enter Tryd.func31, Tryd.ntmps31
                go_wp2_with fail
                go_ret
                exact ⟨rfl, Below.refl _ _⟩
              · have i9 : ¬ (a : Int) < 128 := by omega
                by_cases h5 : 125 < s
                · have i10 : (125 : Int) < (s : Int) := by omega
                  obtain rfl : R = true := by
                    rw [hR]
                    have hf2 : fitsB kind op (decide (128 ≤ a)) s = false := by
                      unfold fitsB
                      rw [if_neg (by omega), if_neg (by omega), if_pos (by omega)]
                      simp
                      omega
                    rw [hf2]
                    simp
                  clear hR
                  go_enter Tryd.func31, Tryd.ntmps31
                  go_wp2_with fail
                  go_ret
                  exact ⟨rfl, Below.refl _ _⟩
                · have i10 : ¬ (125 : Int) < (s : Int) := by omega
                  obtain rfl : R = false := by
                    rw [hR]
                    have hf2 : fitsB kind op (decide (128 ≤ a)) s = true := by
                      unfold fitsB
                      rw [if_neg (by omega), if_neg (by omega), if_pos (by omega)]
                      simp
                      omega
                    rw [hf2]
                    simp [hbb]
                  clear hR
                  go_enter Tryd.func31, Tryd.ntmps31
                  go_wp2_with fail
                  go_ret
                  exact ⟨rfl, Below.refl _ _⟩
            · skip
              obtain rfl : R = true := by
                rw [hR]
                simp [hbb]
              clear hR
              go_enter Tryd.func31, Tryd.ntmps31
              go_wp2_with fail
              go_ret
              exact ⟨rfl, Below.refl _ _⟩
    · have i1 : ¬ (2 : Int) < (op : Int) := by omega
      have i3 : ¬ (10 : Int) < (op : Int) := by omega
      have i6 : ¬ (8 : Int) ≤ (op : Int) := by omega
      by_cases hbb : 128 ≤ b
      · have i8 : (128 : Int) ≤ (b : Int) := by omega
        cases mk
        · skip
          obtain rfl : R = true := by
            rw [hR]
            simp [hbb]
          clear hR
          go_enter Tryd.func31, Tryd.ntmps31
          go_wp2_with fail
          go_ret
          exact ⟨rfl, Below.refl _ _⟩
        · skip
          by_cases h0 : op = 0
          · have i9 : (op : Int) = 0 := by omega
            have hf2 : fitsB kind op (decide (128 ≤ a)) s = o := by
              unfold fitsB
              rw [if_pos h0, ho]
            rw [hf2] at hR
            clear ho hf2
            cases o
            · skip
              obtain rfl : R = true := by
                rw [hR]
                simp
              clear hR
              go_enter Tryd.func31, Tryd.ntmps31
              go_wp2_with fail
              go_ret
              exact ⟨rfl, Below.refl _ _⟩
            · skip
              obtain rfl : R = false := by
                rw [hR]
                simp [hbb]
              clear hR
              go_enter Tryd.func31, Tryd.ntmps31
              go_wp2_with fail
              go_ret
              exact ⟨rfl, Below.refl _ _⟩
          · have i9 : ((op : Int) == 0) = false := by simp; omega
            have hf2 : fitsB kind op (decide (128 ≤ a)) s = !o := by
              unfold fitsB
              rw [if_neg h0, if_pos (by omega), ho]
              simp
            rw [hf2] at hR
            clear ho hf2
            cases o
            · skip
              obtain rfl : R = false := by
                rw [hR]
                simp [hbb]
              clear hR
              go_enter Tryd.func31, Tryd.ntmps31
              go_wp2_with fail
              go_ret
              exact ⟨rfl, Below.refl _ _⟩
            · skip
              obtain rfl : R = true := by
                rw [hR]
                simp
              clear hR
              go_enter Tryd.func31, Tryd.ntmps31
              go_wp2_with fail
              go_ret
              exact ⟨rfl, Below.refl _ _⟩
      · have i8 : ¬ (128 : Int) ≤ (b : Int) := by omega
        cases mk
        · skip
          by_cases h0 : op = 0
          · have i9 : (op : Int) = 0 := by omega
            have hf2 : fitsB kind op (decide (128 ≤ a)) s = o := by
              unfold fitsB
              rw [if_pos h0, ho]
            rw [hf2] at hR
            clear ho hf2
            cases o
            · skip
              obtain rfl : R = true := by
                rw [hR]
                simp
              clear hR
              go_enter Tryd.func31, Tryd.ntmps31
              go_wp2_with fail
              go_ret
              exact ⟨rfl, Below.refl _ _⟩
            · skip
              obtain rfl : R = false := by
                rw [hR]
                simp [hbb]
              clear hR
              go_enter Tryd.func31, Tryd.ntmps31
              go_wp2_with fail
              go_ret
              exact ⟨rfl, Below.refl _ _⟩
          · have i9 : ((op : Int) == 0) = false := by simp; omega
            have hf2 : fitsB kind op (decide (128 ≤ a)) s = !o := by
              unfold fitsB
              rw [if_neg h0, if_pos (by omega), ho]
              simp
            rw [hf2] at hR
            clear ho hf2
            cases o
            · skip
              obtain rfl : R = false := by
                rw [hR]
                simp [hbb]
              clear hR
              go_enter Tryd.func31, Tryd.ntmps31
              go_wp2_with fail
              go_ret
              exact ⟨rfl, Below.refl _ _⟩
            · skip
              obtain rfl : R = true := by
                rw [hR]
                simp
              clear hR
              go_enter Tryd.func31, Tryd.ntmps31
              go_wp2_with fail
              go_ret
              exact ⟨rfl, Below.refl _ _⟩
        · skip
          obtain rfl : R = true := by
            rw [hR]
            simp [hbb]
          clear hR
          go_enter Tryd.func31, Tryd.ntmps31
          go_wp2_with fail
          go_ret
          exact ⟨rfl, Below.refl _ _⟩
  · have g0 : ((k : Int) != 0) = true := by simp; omega
    obtain rfl : R = true := by
      rw [hR]
      simp [hk0]
    clear hR
    go_enter Tryd.func31, Tryd.ntmps31
    go_wp2_with fail
    go_ret
    exact ⟨rfl, Below.refl _ _⟩
end Go.Proofs.YtnbhgjionpidnaaDoor
