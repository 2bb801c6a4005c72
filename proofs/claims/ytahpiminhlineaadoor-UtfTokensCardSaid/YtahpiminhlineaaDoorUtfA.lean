/- Which bytes stand in names; code points' small forms and which are letters: both programs answer the same plain function. No condition. -/
import Derived.Test.YtahpiminhlineaaDoorUShelf
import Derived.IntWalk
import Derived.Lib.Hide
namespace Go.Proofs.YtahpiminhlineaaDoor
open Go.RowKit Go.Shelf

/-- May a byte stand in a name? -/
def partB (b : Int) : Bool := decide (97 ≤ b ∧ b ≤ 122 ∨ 48 ≤ b ∧ b ≤ 57 ∨ b = 95)
/-- The small form of a code point; is it a letter? -/
def lowerZ (r : Int) : Int :=
  if 65 ≤ r ∧ r ≤ 90 ∨ 192 ≤ r ∧ r ≤ 222 ∧ r ≠ 215 ∨ 913 ≤ r ∧ r ≤ 937 ∧ r ≠ 930 ∨ 1040 ≤ r ∧ r ≤ 1071 then r + 32
  else if 1024 ≤ r ∧ r ≤ 1039 then r + 80 else if r = 962 then 963 else r
def letterB (r : Int) : Bool := decide (97 ≤ r ∧ r ≤ 122 ∨ 65 ≤ r ∧ r ≤ 90 ∨ 48 ≤ r ∧ r ≤ 57 ∨
  192 ≤ r ∧ r ≤ 1114111 ∧ r ≠ 215 ∧ r ≠ 247 ∧ ¬ (8192 ≤ r ∧ r ≤ 8303) ∧ ¬ (12288 ≤ r ∧ r ≤ 12351) ∧ ¬ (55296 ≤ r ∧ r ≤ 57343))
theorem ret_bool {x y : Bool} (h : x = true ↔ y = true) : Ending.returned (.bool x) = .returned (.bool y) := by rw [Bool.eq_iff_iff.2 h]
theorem within_any (r a b : Int) (w : World) :
    Calls Tryd.prog 28 #[.int .i32 r, .int .i32 a, .int .i32 b] w fun e w' => e = .returned (.bool (decide (a ≤ r ∧ r ≤ b))) ∧ w' = w := by
  by_cases h : a ≤ r
  · go_enter Tryd.func28, Tryd.ntmps28
    go_wp2
    go_ret
    exact ⟨ret_bool (by simp; omega), rfl⟩
  · go_enter Tryd.func28, Tryd.ntmps28
    go_wp2
    go_ret
    exact ⟨ret_bool (by simp; omega), rfl⟩
theorem ofname_any (b : Int) (w : World) :
    Calls Tryd.prog 47 #[.int .u8 b] w fun e w' => e = .returned (.bool (partB b)) ∧ w' = w := by
  by_cases h1 : 97 ≤ b <;> by_cases h2 : b ≤ 122 <;> by_cases h3 : 48 ≤ b <;> by_cases h4 : b ≤ 57 <;> by_cases h5 : b = 95
  all_goals first
    | omega
    | (go_enter Tryd.func47, Tryd.ntmps47
       go_wp2
       go_ret
       exact ⟨ret_bool (by unfold partB; first | (simp; omega) | (simp; done) | (simp [*]; done)), rfl⟩)
theorem rofname_any (b : Int) (w : World) :
    Calls Tryd.prog 42 #[.int .u8 b] w fun e w' => e = .returned (.bool (partB b)) ∧ w' = w := by
  by_cases h1 : 97 ≤ b <;> by_cases h2 : b ≤ 122 <;> by_cases h3 : 48 ≤ b <;> by_cases h4 : b ≤ 57 <;> by_cases h5 : b = 95
  all_goals first
    | omega
    | (go_enter Tryd.func42, Tryd.ntmps42
       go_wp2
       go_ret
       exact ⟨ret_bool (by unfold partB; first | (simp; omega) | (simp; done) | (simp [*]; done)), rfl⟩)
set_option maxHeartbeats 8000000 in
theorem lower_any (r : Int) (hr : -2147483648 ≤ r ∧ r ≤ 2147483647) (w : World) :
    Calls Tryd.prog 10 #[.int .i32 r] w fun e w' => e = .returned (.int .i32 (lowerZ r)) ∧ w' = w := by
  have hc : r ≤ 64 ∨ (65 ≤ r ∧ r ≤ 90) ∨ (91 ≤ r ∧ r ≤ 191) ∨ (192 ≤ r ∧ r ≤ 214) ∨ r = 215 ∨ (216 ≤ r ∧ r ≤ 222) ∨ (223 ≤ r ∧ r ≤ 912) ∨ (913 ≤ r ∧ r ≤ 929) ∨ r = 930 ∨ (931 ≤ r ∧ r ≤ 937) ∨ (938 ≤ r ∧ r ≤ 961) ∨ r = 962 ∨ (963 ≤ r ∧ r ≤ 1023) ∨ (1024 ≤ r ∧ r ≤ 1039) ∨ (1040 ≤ r ∧ r ≤ 1071) ∨ 1072 ≤ r := by omega
  rcases hc with hc | hc | hc | hc | hc | hc | hc | hc | hc | hc | hc | hc | hc | hc | hc | hc
  · -- None .. 64
    have a0 : ¬ (65 ≤ r) := by omega
    have a1 : r ≤ 90 := by omega
    have a2 : ¬ (192 ≤ r) := by omega
    have a3 : r ≤ 222 := by omega
    have a4 : ¬ (r = 215) := by omega
    have a5 : ¬ (913 ≤ r) := by omega
    have a6 : r ≤ 937 := by omega
    have a7 : ¬ (r = 930) := by omega
    have a8 : ¬ (1040 ≤ r) := by omega
    have a9 : r ≤ 1071 := by omega
    have a10 : ¬ (1024 ≤ r) := by omega
    have a11 : r ≤ 1039 := by omega
    have a12 : ¬ (r = 962) := by omega
    have hL : lowerZ r = r := by unfold lowerZ; first | rw [if_pos (by omega)] | rw [if_neg (by omega), if_pos (by omega)] | rw [if_neg (by omega), if_neg (by omega), if_pos (by omega)] | rw [if_neg (by omega), if_neg (by omega), if_neg (by omega)]
    rw [hL]
    have HL := Lib.hid hL
    clear hL
    go_enter Tryd.func10, Tryd.ntmps10
    go_wp2
    go_ret
    exact ⟨by first | rfl | simp [*], rfl⟩
  · -- 65 .. 90
    have a0 : 65 ≤ r := by omega
    have a1 : r ≤ 90 := by omega
    have a2 : ¬ (192 ≤ r) := by omega
    have a3 : r ≤ 222 := by omega
    have a4 : ¬ (r = 215) := by omega
    have a5 : ¬ (913 ≤ r) := by omega
    have a6 : r ≤ 937 := by omega
    have a7 : ¬ (r = 930) := by omega
    have a8 : ¬ (1040 ≤ r) := by omega
    have a9 : r ≤ 1071 := by omega
    have a10 : ¬ (1024 ≤ r) := by omega
    have a11 : r ≤ 1039 := by omega
    have a12 : ¬ (r = 962) := by omega
    have hL : lowerZ r = r + 32 := by unfold lowerZ; first | rw [if_pos (by omega)] | rw [if_neg (by omega), if_pos (by omega)] | rw [if_neg (by omega), if_neg (by omega), if_pos (by omega)] | rw [if_neg (by omega), if_neg (by omega), if_neg (by omega)]
    have w1 : IntKind.i32.wrap (r + 32) = r + 32 := by rw [IntKind.wrap_i32]; omega
    rw [hL]
    have HL := Lib.hid hL
    clear hL
    go_enter Tryd.func10, Tryd.ntmps10
    go_wp2
    go_ret
    exact ⟨by first | rfl | simp [*], rfl⟩
  · -- 91 .. 191
    have a0 : 65 ≤ r := by omega
    have a1 : ¬ (r ≤ 90) := by omega
    have a2 : ¬ (192 ≤ r) := by omega
    have a3 : r ≤ 222 := by omega
    have a4 : ¬ (r = 215) := by omega
    have a5 : ¬ (913 ≤ r) := by omega
    have a6 : r ≤ 937 := by omega
    have a7 : ¬ (r = 930) := by omega
    have a8 : ¬ (1040 ≤ r) := by omega
    have a9 : r ≤ 1071 := by omega
    have a10 : ¬ (1024 ≤ r) := by omega
    have a11 : r ≤ 1039 := by omega
    have a12 : ¬ (r = 962) := by omega
    have hL : lowerZ r = r := by unfold lowerZ; first | rw [if_pos (by omega)] | rw [if_neg (by omega), if_pos (by omega)] | rw [if_neg (by omega), if_neg (by omega), if_pos (by omega)] | rw [if_neg (by omega), if_neg (by omega), if_neg (by omega)]
    rw [hL]
    have HL := Lib.hid hL
    clear hL
    go_enter Tryd.func10, Tryd.ntmps10
    go_wp2
    go_ret
    exact ⟨by first | rfl | simp [*], rfl⟩
  · -- 192 .. 214
    have a0 : 65 ≤ r := by omega
    have a1 : ¬ (r ≤ 90) := by omega
    have a2 : 192 ≤ r := by omega
    have a3 : r ≤ 222 := by omega
    have a4 : ¬ (r = 215) := by omega
    have a5 : ¬ (913 ≤ r) := by omega
    have a6 : r ≤ 937 := by omega
    have a7 : ¬ (r = 930) := by omega
    have a8 : ¬ (1040 ≤ r) := by omega
    have a9 : r ≤ 1071 := by omega
    have a10 : ¬ (1024 ≤ r) := by omega
    have a11 : r ≤ 1039 := by omega
    have a12 : ¬ (r = 962) := by omega
    have hL : lowerZ r = r + 32 := by unfold lowerZ; first | rw [if_pos (by omega)] | rw [if_neg (by omega), if_pos (by omega)] | rw [if_neg (by omega), if_neg (by omega), if_pos (by omega)] | rw [if_neg (by omega), if_neg (by omega), if_neg (by omega)]
    have w1 : IntKind.i32.wrap (r + 32) = r + 32 := by rw [IntKind.wrap_i32]; omega
    rw [hL]
    have HL := Lib.hid hL
    clear hL
    go_enter Tryd.func10, Tryd.ntmps10
    go_wp2
    go_ret
    exact ⟨by first | rfl | simp [*], rfl⟩
  · -- 215 .. 215
    have a0 : 65 ≤ r := by omega
    have a1 : ¬ (r ≤ 90) := by omega
    have a2 : 192 ≤ r := by omega
    have a3 : r ≤ 222 := by omega
    have a4 : r = 215 := by omega
    have a5 : ¬ (913 ≤ r) := by omega
    have a6 : r ≤ 937 := by omega
    have a7 : ¬ (r = 930) := by omega
    have a8 : ¬ (1040 ≤ r) := by omega
    have a9 : r ≤ 1071 := by omega
    have a10 : ¬ (1024 ≤ r) := by omega
    have a11 : r ≤ 1039 := by omega
    have a12 : ¬ (r = 962) := by omega
    have hL : lowerZ r = r := by unfold lowerZ; first | rw [if_pos (by omega)] | rw [if_neg (by omega), if_pos (by omega)] | rw [if_neg (by omega), if_neg (by omega), if_pos (by omega)] | rw [if_neg (by omega), if_neg (by omega), if_neg (by omega)]
    rw [hL]
    have HL := Lib.hid hL
    clear hL
    go_enter Tryd.func10, Tryd.ntmps10
    go_wp2
    go_ret
    exact ⟨by first | rfl | simp [*], rfl⟩
  · -- 216 .. 222
    have a0 : 65 ≤ r := by omega
    have a1 : ¬ (r ≤ 90) := by omega
    have a2 : 192 ≤ r := by omega
    have a3 : r ≤ 222 := by omega
    have a4 : ¬ (r = 215) := by omega
    have a5 : ¬ (913 ≤ r) := by omega
    have a6 : r ≤ 937 := by omega
    have a7 : ¬ (r = 930) := by omega
    have a8 : ¬ (1040 ≤ r) := by omega
    have a9 : r ≤ 1071 := by omega
    have a10 : ¬ (1024 ≤ r) := by omega
    have a11 : r ≤ 1039 := by omega
    have a12 : ¬ (r = 962) := by omega
    have hL : lowerZ r = r + 32 := by unfold lowerZ; first | rw [if_pos (by omega)] | rw [if_neg (by omega), if_pos (by omega)] | rw [if_neg (by omega), if_neg (by omega), if_pos (by omega)] | rw [if_neg (by omega), if_neg (by omega), if_neg (by omega)]
    have w1 : IntKind.i32.wrap (r + 32) = r + 32 := by rw [IntKind.wrap_i32]; omega
    rw [hL]
    have HL := Lib.hid hL
    clear hL
    go_enter Tryd.func10, Tryd.ntmps10
    go_wp2
    go_ret
    exact ⟨by first | rfl | simp [*], rfl⟩
  · -- 223 .. 912
    have a0 : 65 ≤ r := by omega
    have a1 : ¬ (r ≤ 90) := by omega
    have a2 : 192 ≤ r := by omega
    have a3 : ¬ (r ≤ 222) := by omega
    have a4 : ¬ (r = 215) := by omega
    have a5 : ¬ (913 ≤ r) := by omega
    have a6 : r ≤ 937 := by omega
    have a7 : ¬ (r = 930) := by omega
    have a8 : ¬ (1040 ≤ r) := by omega
    have a9 : r ≤ 1071 := by omega
    have a10 : ¬ (1024 ≤ r) := by omega
    have a11 : r ≤ 1039 := by omega
    have a12 : ¬ (r = 962) := by omega
    have hL : lowerZ r = r := by unfold lowerZ; first | rw [if_pos (by omega)] | rw [if_neg (by omega), if_pos (by omega)] | rw [if_neg (by omega), if_neg (by omega), if_pos (by omega)] | rw [if_neg (by omega), if_neg (by omega), if_neg (by omega)]
    rw [hL]
    have HL := Lib.hid hL
    clear hL
    go_enter Tryd.func10, Tryd.ntmps10
    go_wp2
    go_ret
    exact ⟨by first | rfl | simp [*], rfl⟩
  · -- 913 .. 929
    have a0 : 65 ≤ r := by omega
    have a1 : ¬ (r ≤ 90) := by omega
    have a2 : 192 ≤ r := by omega
    have a3 : ¬ (r ≤ 222) := by omega
    have a4 : ¬ (r = 215) := by omega
    have a5 : 913 ≤ r := by omega
    have a6 : r ≤ 937 := by omega
    have a7 : ¬ (r = 930) := by omega
    have a8 : ¬ (1040 ≤ r) := by omega
    have a9 : r ≤ 1071 := by omega
    have a10 : ¬ (1024 ≤ r) := by omega
    have a11 : r ≤ 1039 := by omega
    have a12 : ¬ (r = 962) := by omega
    have hL : lowerZ r = r + 32 := by unfold lowerZ; first | rw [if_pos (by omega)] | rw [if_neg (by omega), if_pos (by omega)] | rw [if_neg (by omega), if_neg (by omega), if_pos (by omega)] | rw [if_neg (by omega), if_neg (by omega), if_neg (by omega)]
    have w1 : IntKind.i32.wrap (r + 32) = r + 32 := by rw [IntKind.wrap_i32]; omega
    rw [hL]
    have HL := Lib.hid hL
    clear hL
    go_enter Tryd.func10, Tryd.ntmps10
    go_wp2
    go_ret
    exact ⟨by first | rfl | simp [*], rfl⟩
  · -- 930 .. 930
    have a0 : 65 ≤ r := by omega
    have a1 : ¬ (r ≤ 90) := by omega
    have a2 : 192 ≤ r := by omega
    have a3 : ¬ (r ≤ 222) := by omega
    have a4 : ¬ (r = 215) := by omega
    have a5 : 913 ≤ r := by omega
    have a6 : r ≤ 937 := by omega
    have a7 : r = 930 := by omega
    have a8 : ¬ (1040 ≤ r) := by omega
    have a9 : r ≤ 1071 := by omega
    have a10 : ¬ (1024 ≤ r) := by omega
    have a11 : r ≤ 1039 := by omega
    have a12 : ¬ (r = 962) := by omega
    have hL : lowerZ r = r := by unfold lowerZ; first | rw [if_pos (by omega)] | rw [if_neg (by omega), if_pos (by omega)] | rw [if_neg (by omega), if_neg (by omega), if_pos (by omega)] | rw [if_neg (by omega), if_neg (by omega), if_neg (by omega)]
    rw [hL]
    have HL := Lib.hid hL
    clear hL
    go_enter Tryd.func10, Tryd.ntmps10
    go_wp2
    go_ret
    exact ⟨by first | rfl | simp [*], rfl⟩
  · -- 931 .. 937
    have a0 : 65 ≤ r := by omega
    have a1 : ¬ (r ≤ 90) := by omega
    have a2 : 192 ≤ r := by omega
    have a3 : ¬ (r ≤ 222) := by omega
    have a4 : ¬ (r = 215) := by omega
    have a5 : 913 ≤ r := by omega
    have a6 : r ≤ 937 := by omega
    have a7 : ¬ (r = 930) := by omega
    have a8 : ¬ (1040 ≤ r) := by omega
    have a9 : r ≤ 1071 := by omega
    have a10 : ¬ (1024 ≤ r) := by omega
    have a11 : r ≤ 1039 := by omega
    have a12 : ¬ (r = 962) := by omega
    have hL : lowerZ r = r + 32 := by unfold lowerZ; first | rw [if_pos (by omega)] | rw [if_neg (by omega), if_pos (by omega)] | rw [if_neg (by omega), if_neg (by omega), if_pos (by omega)] | rw [if_neg (by omega), if_neg (by omega), if_neg (by omega)]
    have w1 : IntKind.i32.wrap (r + 32) = r + 32 := by rw [IntKind.wrap_i32]; omega
    rw [hL]
    have HL := Lib.hid hL
    clear hL
    go_enter Tryd.func10, Tryd.ntmps10
    go_wp2
    go_ret
    exact ⟨by first | rfl | simp [*], rfl⟩
  · -- 938 .. 961
    have a0 : 65 ≤ r := by omega
    have a1 : ¬ (r ≤ 90) := by omega
    have a2 : 192 ≤ r := by omega
    have a3 : ¬ (r ≤ 222) := by omega
    have a4 : ¬ (r = 215) := by omega
    have a5 : 913 ≤ r := by omega
    have a6 : ¬ (r ≤ 937) := by omega
    have a7 : ¬ (r = 930) := by omega
    have a8 : ¬ (1040 ≤ r) := by omega
    have a9 : r ≤ 1071 := by omega
    have a10 : ¬ (1024 ≤ r) := by omega
    have a11 : r ≤ 1039 := by omega
    have a12 : ¬ (r = 962) := by omega
    have hL : lowerZ r = r := by unfold lowerZ; first | rw [if_pos (by omega)] | rw [if_neg (by omega), if_pos (by omega)] | rw [if_neg (by omega), if_neg (by omega), if_pos (by omega)] | rw [if_neg (by omega), if_neg (by omega), if_neg (by omega)]
    rw [hL]
    have HL := Lib.hid hL
    clear hL
    go_enter Tryd.func10, Tryd.ntmps10
    go_wp2
    go_ret
    exact ⟨by first | rfl | simp [*], rfl⟩
  · -- 962 .. 962
    have a0 : 65 ≤ r := by omega
    have a1 : ¬ (r ≤ 90) := by omega
    have a2 : 192 ≤ r := by omega
    have a3 : ¬ (r ≤ 222) := by omega
    have a4 : ¬ (r = 215) := by omega
    have a5 : 913 ≤ r := by omega
    have a6 : ¬ (r ≤ 937) := by omega
    have a7 : ¬ (r = 930) := by omega
    have a8 : ¬ (1040 ≤ r) := by omega
    have a9 : r ≤ 1071 := by omega
    have a10 : ¬ (1024 ≤ r) := by omega
    have a11 : r ≤ 1039 := by omega
    have a12 : r = 962 := by omega
    have hL : lowerZ r = 963 := by unfold lowerZ; first | rw [if_pos (by omega)] | rw [if_neg (by omega), if_pos (by omega)] | rw [if_neg (by omega), if_neg (by omega), if_pos (by omega)] | rw [if_neg (by omega), if_neg (by omega), if_neg (by omega)]
    rw [hL]
    have HL := Lib.hid hL
    clear hL
    go_enter Tryd.func10, Tryd.ntmps10
    go_wp2
    go_ret
    exact ⟨by first | rfl | simp [*], rfl⟩
  · -- 963 .. 1023
    have a0 : 65 ≤ r := by omega
    have a1 : ¬ (r ≤ 90) := by omega
    have a2 : 192 ≤ r := by omega
    have a3 : ¬ (r ≤ 222) := by omega
    have a4 : ¬ (r = 215) := by omega
    have a5 : 913 ≤ r := by omega
    have a6 : ¬ (r ≤ 937) := by omega
    have a7 : ¬ (r = 930) := by omega
    have a8 : ¬ (1040 ≤ r) := by omega
    have a9 : r ≤ 1071 := by omega
    have a10 : ¬ (1024 ≤ r) := by omega
    have a11 : r ≤ 1039 := by omega
    have a12 : ¬ (r = 962) := by omega
    have hL : lowerZ r = r := by unfold lowerZ; first | rw [if_pos (by omega)] | rw [if_neg (by omega), if_pos (by omega)] | rw [if_neg (by omega), if_neg (by omega), if_pos (by omega)] | rw [if_neg (by omega), if_neg (by omega), if_neg (by omega)]
    rw [hL]
    have HL := Lib.hid hL
    clear hL
    go_enter Tryd.func10, Tryd.ntmps10
    go_wp2
    go_ret
    exact ⟨by first | rfl | simp [*], rfl⟩
  · -- 1024 .. 1039
    have a0 : 65 ≤ r := by omega
    have a1 : ¬ (r ≤ 90) := by omega
    have a2 : 192 ≤ r := by omega
    have a3 : ¬ (r ≤ 222) := by omega
    have a4 : ¬ (r = 215) := by omega
    have a5 : 913 ≤ r := by omega
    have a6 : ¬ (r ≤ 937) := by omega
    have a7 : ¬ (r = 930) := by omega
    have a8 : ¬ (1040 ≤ r) := by omega
    have a9 : r ≤ 1071 := by omega
    have a10 : 1024 ≤ r := by omega
    have a11 : r ≤ 1039 := by omega
    have a12 : ¬ (r = 962) := by omega
    have hL : lowerZ r = r + 80 := by unfold lowerZ; first | rw [if_pos (by omega)] | rw [if_neg (by omega), if_pos (by omega)] | rw [if_neg (by omega), if_neg (by omega), if_pos (by omega)] | rw [if_neg (by omega), if_neg (by omega), if_neg (by omega)]
    have w1 : IntKind.i32.wrap (r + 80) = r + 80 := by rw [IntKind.wrap_i32]; omega
    rw [hL]
    have HL := Lib.hid hL
    clear hL
    go_enter Tryd.func10, Tryd.ntmps10
    go_wp2
    go_ret
    exact ⟨by first | rfl | simp [*], rfl⟩
  · -- 1040 .. 1071
    have a0 : 65 ≤ r := by omega
    have a1 : ¬ (r ≤ 90) := by omega
    have a2 : 192 ≤ r := by omega
    have a3 : ¬ (r ≤ 222) := by omega
    have a4 : ¬ (r = 215) := by omega
    have a5 : 913 ≤ r := by omega
    have a6 : ¬ (r ≤ 937) := by omega
    have a7 : ¬ (r = 930) := by omega
    have a8 : 1040 ≤ r := by omega
    have a9 : r ≤ 1071 := by omega
    have a10 : 1024 ≤ r := by omega
    have a11 : ¬ (r ≤ 1039) := by omega
    have a12 : ¬ (r = 962) := by omega
    have hL : lowerZ r = r + 32 := by unfold lowerZ; first | rw [if_pos (by omega)] | rw [if_neg (by omega), if_pos (by omega)] | rw [if_neg (by omega), if_neg (by omega), if_pos (by omega)] | rw [if_neg (by omega), if_neg (by omega), if_neg (by omega)]
    have w1 : IntKind.i32.wrap (r + 32) = r + 32 := by rw [IntKind.wrap_i32]; omega
    rw [hL]
    have HL := Lib.hid hL
    clear hL
    go_enter Tryd.func10, Tryd.ntmps10
    go_wp2
    go_ret
    exact ⟨by first | rfl | simp [*], rfl⟩
  · -- 1072 .. None
    have a0 : 65 ≤ r := by omega
    have a1 : ¬ (r ≤ 90) := by omega
    have a2 : 192 ≤ r := by omega
    have a3 : ¬ (r ≤ 222) := by omega
    have a4 : ¬ (r = 215) := by omega
    have a5 : 913 ≤ r := by omega
    have a6 : ¬ (r ≤ 937) := by omega
    have a7 : ¬ (r = 930) := by omega
    have a8 : 1040 ≤ r := by omega
    have a9 : ¬ (r ≤ 1071) := by omega
    have a10 : 1024 ≤ r := by omega
    have a11 : ¬ (r ≤ 1039) := by omega
    have a12 : ¬ (r = 962) := by omega
    have hL : lowerZ r = r := by unfold lowerZ; first | rw [if_pos (by omega)] | rw [if_neg (by omega), if_pos (by omega)] | rw [if_neg (by omega), if_neg (by omega), if_pos (by omega)] | rw [if_neg (by omega), if_neg (by omega), if_neg (by omega)]
    rw [hL]
    have HL := Lib.hid hL
    clear hL
    go_enter Tryd.func10, Tryd.ntmps10
    go_wp2
    go_ret
    exact ⟨by first | rfl | simp [*], rfl⟩
set_option maxHeartbeats 8000000 in
theorem rlower_any (r : Int) (hr : -2147483648 ≤ r ∧ r ≤ 2147483647) (w : World) :
    Calls Tryd.prog 11 #[.int .i64 r] w fun e w' => e = .returned (.int .i64 (lowerZ r)) ∧ w' = w := by
  have hc : r ≤ 64 ∨ (65 ≤ r ∧ r ≤ 90) ∨ (91 ≤ r ∧ r ≤ 191) ∨ (192 ≤ r ∧ r ≤ 214) ∨ r = 215 ∨ (216 ≤ r ∧ r ≤ 222) ∨ (223 ≤ r ∧ r ≤ 912) ∨ (913 ≤ r ∧ r ≤ 929) ∨ r = 930 ∨ (931 ≤ r ∧ r ≤ 937) ∨ (938 ≤ r ∧ r ≤ 961) ∨ r = 962 ∨ (963 ≤ r ∧ r ≤ 1023) ∨ (1024 ≤ r ∧ r ≤ 1039) ∨ (1040 ≤ r ∧ r ≤ 1071) ∨ 1072 ≤ r := by omega
  rcases hc with hc | hc | hc | hc | hc | hc | hc | hc | hc | hc | hc | hc | hc | hc | hc | hc
  · -- None .. 64
    have a0 : ¬ (65 ≤ r) := by omega
    have a1 : r ≤ 90 := by omega
    have a2 : ¬ (192 ≤ r) := by omega
    have a3 : r ≤ 222 := by omega
    have a4 : ¬ (r = 215) := by omega
    have a5 : ¬ (913 ≤ r) := by omega
    have a6 : r ≤ 937 := by omega
    have a7 : ¬ (r = 930) := by omega
    have a8 : ¬ (1040 ≤ r) := by omega
    have a9 : r ≤ 1071 := by omega
    have a10 : ¬ (1024 ≤ r) := by omega
    have a11 : r ≤ 1039 := by omega
    have a12 : ¬ (r = 962) := by omega
    have hL : lowerZ r = r := by unfold lowerZ; first | rw [if_pos (by omega)] | rw [if_neg (by omega), if_pos (by omega)] | rw [if_neg (by omega), if_neg (by omega), if_pos (by omega)] | rw [if_neg (by omega), if_neg (by omega), if_neg (by omega)]
    rw [hL]
    have HL := Lib.hid hL
    clear hL
    go_enter Tryd.func11, Tryd.ntmps11
    go_wp2
    go_ret
    exact ⟨by first | rfl | simp [*], rfl⟩
  · -- 65 .. 90
    have a0 : 65 ≤ r := by omega
    have a1 : r ≤ 90 := by omega
    have a2 : ¬ (192 ≤ r) := by omega
    have a3 : r ≤ 222 := by omega
    have a4 : ¬ (r = 215) := by omega
    have a5 : ¬ (913 ≤ r) := by omega
    have a6 : r ≤ 937 := by omega
    have a7 : ¬ (r = 930) := by omega
    have a8 : ¬ (1040 ≤ r) := by omega
    have a9 : r ≤ 1071 := by omega
    have a10 : ¬ (1024 ≤ r) := by omega
    have a11 : r ≤ 1039 := by omega
    have a12 : ¬ (r = 962) := by omega
    have hL : lowerZ r = r + 32 := by unfold lowerZ; first | rw [if_pos (by omega)] | rw [if_neg (by omega), if_pos (by omega)] | rw [if_neg (by omega), if_neg (by omega), if_pos (by omega)] | rw [if_neg (by omega), if_neg (by omega), if_neg (by omega)]
    have w1 : IntKind.i64.wrap (r + 32) = r + 32 := by rw [IntKind.wrap_i64]; omega
    rw [hL]
    have HL := Lib.hid hL
    clear hL
    go_enter Tryd.func11, Tryd.ntmps11
    go_wp2
    go_ret
    exact ⟨by first | rfl | simp [*], rfl⟩
  · -- 91 .. 191
    have a0 : 65 ≤ r := by omega
    have a1 : ¬ (r ≤ 90) := by omega
    have a2 : ¬ (192 ≤ r) := by omega
    have a3 : r ≤ 222 := by omega
    have a4 : ¬ (r = 215) := by omega
    have a5 : ¬ (913 ≤ r) := by omega
    have a6 : r ≤ 937 := by omega
    have a7 : ¬ (r = 930) := by omega
    have a8 : ¬ (1040 ≤ r) := by omega
    have a9 : r ≤ 1071 := by omega
    have a10 : ¬ (1024 ≤ r) := by omega
    have a11 : r ≤ 1039 := by omega
    have a12 : ¬ (r = 962) := by omega
    have hL : lowerZ r = r := by unfold lowerZ; first | rw [if_pos (by omega)] | rw [if_neg (by omega), if_pos (by omega)] | rw [if_neg (by omega), if_neg (by omega), if_pos (by omega)] | rw [if_neg (by omega), if_neg (by omega), if_neg (by omega)]
    rw [hL]
    have HL := Lib.hid hL
    clear hL
    go_enter Tryd.func11, Tryd.ntmps11
    go_wp2
    go_ret
    exact ⟨by first | rfl | simp [*], rfl⟩
  · -- 192 .. 214
    have a0 : 65 ≤ r := by omega
    have a1 : ¬ (r ≤ 90) := by omega
    have a2 : 192 ≤ r := by omega
    have a3 : r ≤ 222 := by omega
    have a4 : ¬ (r = 215) := by omega
    have a5 : ¬ (913 ≤ r) := by omega
    have a6 : r ≤ 937 := by omega
    have a7 : ¬ (r = 930) := by omega
    have a8 : ¬ (1040 ≤ r) := by omega
    have a9 : r ≤ 1071 := by omega
    have a10 : ¬ (1024 ≤ r) := by omega
    have a11 : r ≤ 1039 := by omega
    have a12 : ¬ (r = 962) := by omega
    have hL : lowerZ r = r + 32 := by unfold lowerZ; first | rw [if_pos (by omega)] | rw [if_neg (by omega), if_pos (by omega)] | rw [if_neg (by omega), if_neg (by omega), if_pos (by omega)] | rw [if_neg (by omega), if_neg (by omega), if_neg (by omega)]
    have w1 : IntKind.i64.wrap (r + 32) = r + 32 := by rw [IntKind.wrap_i64]; omega
    rw [hL]
    have HL := Lib.hid hL
    clear hL
    go_enter Tryd.func11, Tryd.ntmps11
    go_wp2
    go_ret
    exact ⟨by first | rfl | simp [*], rfl⟩
  · -- 215 .. 215
    have a0 : 65 ≤ r := by omega
    have a1 : ¬ (r ≤ 90) := by omega
    have a2 : 192 ≤ r := by omega
    have a3 : r ≤ 222 := by omega
    have a4 : r = 215 := by omega
    have a5 : ¬ (913 ≤ r) := by omega
    have a6 : r ≤ 937 := by omega
    have a7 : ¬ (r = 930) := by omega
    have a8 : ¬ (1040 ≤ r) := by omega
    have a9 : r ≤ 1071 := by omega
    have a10 : ¬ (1024 ≤ r) := by omega
    have a11 : r ≤ 1039 := by omega
    have a12 : ¬ (r = 962) := by omega
    have hL : lowerZ r = r := by unfold lowerZ; first | rw [if_pos (by omega)] | rw [if_neg (by omega), if_pos (by omega)] | rw [if_neg (by omega), if_neg (by omega), if_pos (by omega)] | rw [if_neg (by omega), if_neg (by omega), if_neg (by omega)]
    rw [hL]
    have HL := Lib.hid hL
    clear hL
    go_enter Tryd.func11, Tryd.ntmps11
    go_wp2
    go_ret
    exact ⟨by first | rfl | simp [*], rfl⟩
  · -- 216 .. 222
    have a0 : 65 ≤ r := by omega
    have a1 : ¬ (r ≤ 90) := by omega
    have a2 : 192 ≤ r := by omega
    have a3 : r ≤ 222 := by omega
    have a4 : ¬ (r = 215) := by omega
    have a5 : ¬ (913 ≤ r) := by omega
    have a6 : r ≤ 937 := by omega
    have a7 : ¬ (r = 930) := by omega
    have a8 : ¬ (1040 ≤ r) := by omega
    have a9 : r ≤ 1071 := by omega
    have a10 : ¬ (1024 ≤ r) := by omega
    have a11 : r ≤ 1039 := by omega
    have a12 : ¬ (r = 962) := by omega
    have hL : lowerZ r = r + 32 := by unfold lowerZ; first | rw [if_pos (by omega)] | rw [if_neg (by omega), if_pos (by omega)] | rw [if_neg (by omega), if_neg (by omega), if_pos (by omega)] | rw [if_neg (by omega), if_neg (by omega), if_neg (by omega)]
    have w1 : IntKind.i64.wrap (r + 32) = r + 32 := by rw [IntKind.wrap_i64]; omega
    rw [hL]
    have HL := Lib.hid hL
    clear hL
    go_enter Tryd.func11, Tryd.ntmps11
    go_wp2
    go_ret
    exact ⟨by first | rfl | simp [*], rfl⟩
  · -- 223 .. 912
    have a0 : 65 ≤ r := by omega
    have a1 : ¬ (r ≤ 90) := by omega
    have a2 : 192 ≤ r := by omega
    have a3 : ¬ (r ≤ 222) := by omega
    have a4 : ¬ (r = 215) := by omega
    have a5 : ¬ (913 ≤ r) := by omega
    have a6 : r ≤ 937 := by omega
    have a7 : ¬ (r = 930) := by omega
    have a8 : ¬ (1040 ≤ r) := by omega
    have a9 : r ≤ 1071 := by omega
    have a10 : ¬ (1024 ≤ r) := by omega
    have a11 : r ≤ 1039 := by omega
    have a12 : ¬ (r = 962) := by omega
    have hL : lowerZ r = r := by unfold lowerZ; first | rw [if_pos (by omega)] | rw [if_neg (by omega), if_pos (by omega)] | rw [if_neg (by omega), if_neg (by omega), if_pos (by omega)] | rw [if_neg (by omega), if_neg (by omega), if_neg (by omega)]
    rw [hL]
    have HL := Lib.hid hL
    clear hL
    go_enter Tryd.func11, Tryd.ntmps11
    go_wp2
    go_ret
    exact ⟨by first | rfl | simp [*], rfl⟩
  · -- 913 .. 929
    have a0 : 65 ≤ r := by omega
    have a1 : ¬ (r ≤ 90) := by omega
    have a2 : 192 ≤ r := by omega
    have a3 : ¬ (r ≤ 222) := by omega
    have a4 : ¬ (r = 215) := by omega
    have a5 : 913 ≤ r := by omega
    have a6 : r ≤ 937 := by omega
    have a7 : ¬ (r = 930) := by omega
    have a8 : ¬ (1040 ≤ r) := by omega
    have a9 : r ≤ 1071 := by omega
    have a10 : ¬ (1024 ≤ r) := by omega
    have a11 : r ≤ 1039 := by omega
    have a12 : ¬ (r = 962) := by omega
    have hL : lowerZ r = r + 32 := by unfold lowerZ; first | rw [if_pos (by omega)] | rw [if_neg (by omega), if_pos (by omega)] | rw [if_neg (by omega), if_neg (by omega), if_pos (by omega)] | rw [if_neg (by omega), if_neg (by omega), if_neg (by omega)]
    have w1 : IntKind.i64.wrap (r + 32) = r + 32 := by rw [IntKind.wrap_i64]; omega
    rw [hL]
    have HL := Lib.hid hL
    clear hL
    go_enter Tryd.func11, Tryd.ntmps11
    go_wp2
    go_ret
    exact ⟨by first | rfl | simp [*], rfl⟩
  · -- 930 .. 930
    have a0 : 65 ≤ r := by omega
    have a1 : ¬ (r ≤ 90) := by omega
    have a2 : 192 ≤ r := by omega
    have a3 : ¬ (r ≤ 222) := by omega
    have a4 : ¬ (r = 215) := by omega
    have a5 : 913 ≤ r := by omega
    have a6 : r ≤ 937 := by omega
    have a7 : r = 930 := by omega
    have a8 : ¬ (1040 ≤ r) := by omega
    have a9 : r ≤ 1071 := by omega
    have a10 : ¬ (1024 ≤ r) := by omega
    have a11 : r ≤ 1039 := by omega
    have a12 : ¬ (r = 962) := by omega
    have hL : lowerZ r = r := by unfold lowerZ; first | rw [if_pos (by omega)] | rw [if_neg (by omega), if_pos (by omega)] | rw [if_neg (by omega), if_neg (by omega), if_pos (by omega)] | rw [if_neg (by omega), if_neg (by omega), if_neg (by omega)]
    rw [hL]
    have HL := Lib.hid hL
    clear hL
    go_enter Tryd.func11, Tryd.ntmps11
    go_wp2
    go_ret
    exact ⟨by first | rfl | simp [*], rfl⟩
  · -- 931 .. 937
    have a0 : 65 ≤ r := by omega
    have a1 : ¬ (r ≤ 90) := by omega
    have a2 : 192 ≤ r := by omega
    have a3 : ¬ (r ≤ 222) := by omega
    have a4 : ¬ (r = 215) := by omega
    have a5 : 913 ≤ r := by omega
    have a6 : r ≤ 937 := by omega
    have a7 : ¬ (r = 930) := by omega
    have a8 : ¬ (1040 ≤ r) := by omega
    have a9 : r ≤ 1071 := by omega
    have a10 : ¬ (1024 ≤ r) := by omega
    have a11 : r ≤ 1039 := by omega
    have a12 : ¬ (r = 962) := by omega
    have hL : lowerZ r = r + 32 := by unfold lowerZ; first | rw [if_pos (by omega)] | rw [if_neg (by omega), if_pos (by omega)] | rw [if_neg (by omega), if_neg (by omega), if_pos (by omega)] | rw [if_neg (by omega), if_neg (by omega), if_neg (by omega)]
    have w1 : IntKind.i64.wrap (r + 32) = r + 32 := by rw [IntKind.wrap_i64]; omega
    rw [hL]
    have HL := Lib.hid hL
    clear hL
    go_enter Tryd.func11, Tryd.ntmps11
    go_wp2
    go_ret
    exact ⟨by first | rfl | simp [*], rfl⟩
  · -- 938 .. 961
    have a0 : 65 ≤ r := by omega
    have a1 : ¬ (r ≤ 90) := by omega
    have a2 : 192 ≤ r := by omega
    have a3 : ¬ (r ≤ 222) := by omega
    have a4 : ¬ (r = 215) := by omega
    have a5 : 913 ≤ r := by omega
    have a6 : ¬ (r ≤ 937) := by omega
    have a7 : ¬ (r = 930) := by omega
    have a8 : ¬ (1040 ≤ r) := by omega
    have a9 : r ≤ 1071 := by omega
    have a10 : ¬ (1024 ≤ r) := by omega
    have a11 : r ≤ 1039 := by omega
    have a12 : ¬ (r = 962) := by omega
    have hL : lowerZ r = r := by unfold lowerZ; first | rw [if_pos (by omega)] | rw [if_neg (by omega), if_pos (by omega)] | rw [if_neg (by omega), if_neg (by omega), if_pos (by omega)] | rw [if_neg (by omega), if_neg (by omega), if_neg (by omega)]
    rw [hL]
    have HL := Lib.hid hL
    clear hL
    go_enter Tryd.func11, Tryd.ntmps11
    go_wp2
    go_ret
    exact ⟨by first | rfl | simp [*], rfl⟩
  · -- 962 .. 962
    have a0 : 65 ≤ r := by omega
    have a1 : ¬ (r ≤ 90) := by omega
    have a2 : 192 ≤ r := by omega
    have a3 : ¬ (r ≤ 222) := by omega
    have a4 : ¬ (r = 215) := by omega
    have a5 : 913 ≤ r := by omega
    have a6 : ¬ (r ≤ 937) := by omega
    have a7 : ¬ (r = 930) := by omega
    have a8 : ¬ (1040 ≤ r) := by omega
    have a9 : r ≤ 1071 := by omega
    have a10 : ¬ (1024 ≤ r) := by omega
    have a11 : r ≤ 1039 := by omega
    have a12 : r = 962 := by omega
    have hL : lowerZ r = 963 := by unfold lowerZ; first | rw [if_pos (by omega)] | rw [if_neg (by omega), if_pos (by omega)] | rw [if_neg (by omega), if_neg (by omega), if_pos (by omega)] | rw [if_neg (by omega), if_neg (by omega), if_neg (by omega)]
    rw [hL]
    have HL := Lib.hid hL
    clear hL
    go_enter Tryd.func11, Tryd.ntmps11
    go_wp2
    go_ret
    exact ⟨by first | rfl | simp [*], rfl⟩
  · -- 963 .. 1023
    have a0 : 65 ≤ r := by omega
    have a1 : ¬ (r ≤ 90) := by omega
    have a2 : 192 ≤ r := by omega
    have a3 : ¬ (r ≤ 222) := by omega
    have a4 : ¬ (r = 215) := by omega
    have a5 : 913 ≤ r := by omega
    have a6 : ¬ (r ≤ 937) := by omega
    have a7 : ¬ (r = 930) := by omega
    have a8 : ¬ (1040 ≤ r) := by omega
    have a9 : r ≤ 1071 := by omega
    have a10 : ¬ (1024 ≤ r) := by omega
    have a11 : r ≤ 1039 := by omega
    have a12 : ¬ (r = 962) := by omega
    have hL : lowerZ r = r := by unfold lowerZ; first | rw [if_pos (by omega)] | rw [if_neg (by omega), if_pos (by omega)] | rw [if_neg (by omega), if_neg (by omega), if_pos (by omega)] | rw [if_neg (by omega), if_neg (by omega), if_neg (by omega)]
    rw [hL]
    have HL := Lib.hid hL
    clear hL
    go_enter Tryd.func11, Tryd.ntmps11
    go_wp2
    go_ret
    exact ⟨by first | rfl | simp [*], rfl⟩
  · -- 1024 .. 1039
    have a0 : 65 ≤ r := by omega
    have a1 : ¬ (r ≤ 90) := by omega
    have a2 : 192 ≤ r := by omega
    have a3 : ¬ (r ≤ 222) := by omega
    have a4 : ¬ (r = 215) := by omega
    have a5 : 913 ≤ r := by omega
    have a6 : ¬ (r ≤ 937) := by omega
    have a7 : ¬ (r = 930) := by omega
    have a8 : ¬ (1040 ≤ r) := by omega
    have a9 : r ≤ 1071 := by omega
    have a10 : 1024 ≤ r := by omega
    have a11 : r ≤ 1039 := by omega
    have a12 : ¬ (r = 962) := by omega
    have hL : lowerZ r = r + 80 := by unfold lowerZ; first | rw [if_pos (by omega)] | rw [if_neg (by omega), if_pos (by omega)] | rw [if_neg (by omega), if_neg (by omega), if_pos (by omega)] | rw [if_neg (by omega), if_neg (by omega), if_neg (by omega)]
    have w1 : IntKind.i64.wrap (r + 80) = r + 80 := by rw [IntKind.wrap_i64]; omega
    rw [hL]
    have HL := Lib.hid hL
    clear hL
    go_enter Tryd.func11, Tryd.ntmps11
    go_wp2
    go_ret
    exact ⟨by first | rfl | simp [*], rfl⟩
  · -- 1040 .. 1071
    have a0 : 65 ≤ r := by omega
    have a1 : ¬ (r ≤ 90) := by omega
    have a2 : 192 ≤ r := by omega
    have a3 : ¬ (r ≤ 222) := by omega
    have a4 : ¬ (r = 215) := by omega
    have a5 : 913 ≤ r := by omega
    have a6 : ¬ (r ≤ 937) := by omega
    have a7 : ¬ (r = 930) := by omega
    have a8 : 1040 ≤ r := by omega
    have a9 : r ≤ 1071 := by omega
    have a10 : 1024 ≤ r := by omega
    have a11 : ¬ (r ≤ 1039) := by omega
    have a12 : ¬ (r = 962) := by omega
    have hL : lowerZ r = r + 32 := by unfold lowerZ; first | rw [if_pos (by omega)] | rw [if_neg (by omega), if_pos (by omega)] | rw [if_neg (by omega), if_neg (by omega), if_pos (by omega)] | rw [if_neg (by omega), if_neg (by omega), if_neg (by omega)]
    have w1 : IntKind.i64.wrap (r + 32) = r + 32 := by rw [IntKind.wrap_i64]; omega
    rw [hL]
    have HL := Lib.hid hL
    clear hL
    go_enter Tryd.func11, Tryd.ntmps11
    go_wp2
    go_ret
    exact ⟨by first | rfl | simp [*], rfl⟩
  · -- 1072 .. None
    have a0 : 65 ≤ r := by omega
    have a1 : ¬ (r ≤ 90) := by omega
    have a2 : 192 ≤ r := by omega
    have a3 : ¬ (r ≤ 222) := by omega
    have a4 : ¬ (r = 215) := by omega
    have a5 : 913 ≤ r := by omega
    have a6 : ¬ (r ≤ 937) := by omega
    have a7 : ¬ (r = 930) := by omega
    have a8 : 1040 ≤ r := by omega
    have a9 : ¬ (r ≤ 1071) := by omega
    have a10 : 1024 ≤ r := by omega
    have a11 : ¬ (r ≤ 1039) := by omega
    have a12 : ¬ (r = 962) := by omega
    have hL : lowerZ r = r := by unfold lowerZ; first | rw [if_pos (by omega)] | rw [if_neg (by omega), if_pos (by omega)] | rw [if_neg (by omega), if_neg (by omega), if_pos (by omega)] | rw [if_neg (by omega), if_neg (by omega), if_neg (by omega)]
    rw [hL]
    have HL := Lib.hid hL
    clear hL
    go_enter Tryd.func11, Tryd.ntmps11
    go_wp2
    go_ret
    exact ⟨by first | rfl | simp [*], rfl⟩
set_option maxHeartbeats 8000000 in
theorem letter_any (r : Int) (hr : -2147483648 ≤ r ∧ r ≤ 2147483647) (w : World) :
    Calls Tryd.prog 12 #[.int .i32 r] w fun e w' => e = .returned (.bool (letterB r)) ∧ w' = w := by
  have hc : r ≤ 47 ∨ (48 ≤ r ∧ r ≤ 57) ∨ (58 ≤ r ∧ r ≤ 64) ∨ (65 ≤ r ∧ r ≤ 90) ∨ (91 ≤ r ∧ r ≤ 96) ∨ (97 ≤ r ∧ r ≤ 122) ∨ (123 ≤ r ∧ r ≤ 191) ∨ (192 ≤ r ∧ r ≤ 214) ∨ r = 215 ∨ (216 ≤ r ∧ r ≤ 246) ∨ r = 247 ∨ (248 ≤ r ∧ r ≤ 8191) ∨ (8192 ≤ r ∧ r ≤ 8303) ∨ (8304 ≤ r ∧ r ≤ 12287) ∨ (12288 ≤ r ∧ r ≤ 12351) ∨ (12352 ≤ r ∧ r ≤ 55295) ∨ (55296 ≤ r ∧ r ≤ 57343) ∨ (57344 ≤ r ∧ r ≤ 1114111) ∨ 1114112 ≤ r := by omega
  rcases hc with hc | hc | hc | hc | hc | hc | hc | hc | hc | hc | hc | hc | hc | hc | hc | hc | hc | hc | hc
  · -- None .. 47
    have a0 : ¬ (97 ≤ r) := by omega
    have a1 : r ≤ 122 := by omega
    have a2 : ¬ (65 ≤ r) := by omega
    have a3 : r ≤ 90 := by omega
    have a4 : ¬ (48 ≤ r) := by omega
    have a5 : r ≤ 57 := by omega
    have a6 : ¬ (r = 215) := by omega
    have a7 : ¬ (r = 247) := by omega
    have a8 : ¬ (8192 ≤ r) := by omega
    have a9 : r ≤ 8303 := by omega
    have a10 : ¬ (12288 ≤ r) := by omega
    have a11 : r ≤ 12351 := by omega
    have a12 : ¬ (192 ≤ r) := by omega
    have hL : letterB r = false := by unfold letterB; exact decide_eq_false (by omega)
    rw [hL]
    have HL := Lib.hid hL
    clear hL
    go_enter Tryd.func12, Tryd.ntmps12
    go_wp2
    go_ret
    exact ⟨by first | rfl | simp [*], rfl⟩
  · -- 48 .. 57
    have a0 : ¬ (97 ≤ r) := by omega
    have a1 : r ≤ 122 := by omega
    have a2 : ¬ (65 ≤ r) := by omega
    have a3 : r ≤ 90 := by omega
    have a4 : 48 ≤ r := by omega
    have a5 : r ≤ 57 := by omega
    have a6 : ¬ (r = 215) := by omega
    have a7 : ¬ (r = 247) := by omega
    have a8 : ¬ (8192 ≤ r) := by omega
    have a9 : r ≤ 8303 := by omega
    have a10 : ¬ (12288 ≤ r) := by omega
    have a11 : r ≤ 12351 := by omega
    have a12 : ¬ (192 ≤ r) := by omega
    have hL : letterB r = true := by unfold letterB; exact decide_eq_true (by omega)
    rw [hL]
    have HL := Lib.hid hL
    clear hL
    go_enter Tryd.func12, Tryd.ntmps12
    go_wp2
    go_ret
    exact ⟨by first | rfl | simp [*], rfl⟩
  · -- 58 .. 64
    have a0 : ¬ (97 ≤ r) := by omega
    have a1 : r ≤ 122 := by omega
    have a2 : ¬ (65 ≤ r) := by omega
    have a3 : r ≤ 90 := by omega
    have a4 : 48 ≤ r := by omega
    have a5 : ¬ (r ≤ 57) := by omega
    have a6 : ¬ (r = 215) := by omega
    have a7 : ¬ (r = 247) := by omega
    have a8 : ¬ (8192 ≤ r) := by omega
    have a9 : r ≤ 8303 := by omega
    have a10 : ¬ (12288 ≤ r) := by omega
    have a11 : r ≤ 12351 := by omega
    have a12 : ¬ (192 ≤ r) := by omega
    have hL : letterB r = false := by unfold letterB; exact decide_eq_false (by omega)
    rw [hL]
    have HL := Lib.hid hL
    clear hL
    go_enter Tryd.func12, Tryd.ntmps12
    go_wp2
    go_ret
    exact ⟨by first | rfl | simp [*], rfl⟩
  · -- 65 .. 90
    have a0 : ¬ (97 ≤ r) := by omega
    have a1 : r ≤ 122 := by omega
    have a2 : 65 ≤ r := by omega
    have a3 : r ≤ 90 := by omega
    have a4 : 48 ≤ r := by omega
    have a5 : ¬ (r ≤ 57) := by omega
    have a6 : ¬ (r = 215) := by omega
    have a7 : ¬ (r = 247) := by omega
    have a8 : ¬ (8192 ≤ r) := by omega
    have a9 : r ≤ 8303 := by omega
    have a10 : ¬ (12288 ≤ r) := by omega
    have a11 : r ≤ 12351 := by omega
    have a12 : ¬ (192 ≤ r) := by omega
    have hL : letterB r = true := by unfold letterB; exact decide_eq_true (by omega)
    rw [hL]
    have HL := Lib.hid hL
    clear hL
    go_enter Tryd.func12, Tryd.ntmps12
    go_wp2
    go_ret
    exact ⟨by first | rfl | simp [*], rfl⟩
  · -- 91 .. 96
    have a0 : ¬ (97 ≤ r) := by omega
    have a1 : r ≤ 122 := by omega
    have a2 : 65 ≤ r := by omega
    have a3 : ¬ (r ≤ 90) := by omega
    have a4 : 48 ≤ r := by omega
    have a5 : ¬ (r ≤ 57) := by omega
    have a6 : ¬ (r = 215) := by omega
    have a7 : ¬ (r = 247) := by omega
    have a8 : ¬ (8192 ≤ r) := by omega
    have a9 : r ≤ 8303 := by omega
    have a10 : ¬ (12288 ≤ r) := by omega
    have a11 : r ≤ 12351 := by omega
    have a12 : ¬ (192 ≤ r) := by omega
    have hL : letterB r = false := by unfold letterB; exact decide_eq_false (by omega)
    rw [hL]
    have HL := Lib.hid hL
    clear hL
    go_enter Tryd.func12, Tryd.ntmps12
    go_wp2
    go_ret
    exact ⟨by first | rfl | simp [*], rfl⟩
  · -- 97 .. 122
    have a0 : 97 ≤ r := by omega
    have a1 : r ≤ 122 := by omega
    have a2 : 65 ≤ r := by omega
    have a3 : ¬ (r ≤ 90) := by omega
    have a4 : 48 ≤ r := by omega
    have a5 : ¬ (r ≤ 57) := by omega
    have a6 : ¬ (r = 215) := by omega
    have a7 : ¬ (r = 247) := by omega
    have a8 : ¬ (8192 ≤ r) := by omega
    have a9 : r ≤ 8303 := by omega
    have a10 : ¬ (12288 ≤ r) := by omega
    have a11 : r ≤ 12351 := by omega
    have a12 : ¬ (192 ≤ r) := by omega
    have hL : letterB r = true := by unfold letterB; exact decide_eq_true (by omega)
    rw [hL]
    have HL := Lib.hid hL
    clear hL
    go_enter Tryd.func12, Tryd.ntmps12
    go_wp2
    go_ret
    exact ⟨by first | rfl | simp [*], rfl⟩
  · -- 123 .. 191
    have a0 : 97 ≤ r := by omega
    have a1 : ¬ (r ≤ 122) := by omega
    have a2 : 65 ≤ r := by omega
    have a3 : ¬ (r ≤ 90) := by omega
    have a4 : 48 ≤ r := by omega
    have a5 : ¬ (r ≤ 57) := by omega
    have a6 : ¬ (r = 215) := by omega
    have a7 : ¬ (r = 247) := by omega
    have a8 : ¬ (8192 ≤ r) := by omega
    have a9 : r ≤ 8303 := by omega
    have a10 : ¬ (12288 ≤ r) := by omega
    have a11 : r ≤ 12351 := by omega
    have a12 : ¬ (192 ≤ r) := by omega
    have hL : letterB r = false := by unfold letterB; exact decide_eq_false (by omega)
    rw [hL]
    have HL := Lib.hid hL
    clear hL
    go_enter Tryd.func12, Tryd.ntmps12
    go_wp2
    go_ret
    exact ⟨by first | rfl | simp [*], rfl⟩
  · -- 192 .. 214
    have a0 : 97 ≤ r := by omega
    have a1 : ¬ (r ≤ 122) := by omega
    have a2 : 65 ≤ r := by omega
    have a3 : ¬ (r ≤ 90) := by omega
    have a4 : 48 ≤ r := by omega
    have a5 : ¬ (r ≤ 57) := by omega
    have a6 : ¬ (r = 215) := by omega
    have a7 : ¬ (r = 247) := by omega
    have a8 : ¬ (8192 ≤ r) := by omega
    have a9 : r ≤ 8303 := by omega
    have a10 : ¬ (12288 ≤ r) := by omega
    have a11 : r ≤ 12351 := by omega
    have a12 : 192 ≤ r := by omega
    have hL : letterB r = true := by unfold letterB; exact decide_eq_true (by omega)
    have hv : Lib.validRune r = true := by unfold Lib.validRune; simp; omega
    rw [hL]
    have HL := Lib.hid hL
    clear hL
    go_enter Tryd.func12, Tryd.ntmps12
    go_wp2_with (first | (go_at_call 29; refine (vrune_any r _).mono ?_; rintro e w1 ⟨rfl, rfl⟩; rw [hv]) | go_in)
    go_ret
    exact ⟨rfl, rfl⟩
  · -- 215 .. 215
    have a0 : 97 ≤ r := by omega
    have a1 : ¬ (r ≤ 122) := by omega
    have a2 : 65 ≤ r := by omega
    have a3 : ¬ (r ≤ 90) := by omega
    have a4 : 48 ≤ r := by omega
    have a5 : ¬ (r ≤ 57) := by omega
    have a6 : r = 215 := by omega
    have a7 : ¬ (r = 247) := by omega
    have a8 : ¬ (8192 ≤ r) := by omega
    have a9 : r ≤ 8303 := by omega
    have a10 : ¬ (12288 ≤ r) := by omega
    have a11 : r ≤ 12351 := by omega
    have a12 : 192 ≤ r := by omega
    have hL : letterB r = false := by unfold letterB; exact decide_eq_false (by omega)
    rw [hL]
    have HL := Lib.hid hL
    clear hL
    go_enter Tryd.func12, Tryd.ntmps12
    go_wp2
    go_ret
    exact ⟨by first | rfl | simp [*], rfl⟩
  · -- 216 .. 246
    have a0 : 97 ≤ r := by omega
    have a1 : ¬ (r ≤ 122) := by omega
    have a2 : 65 ≤ r := by omega
    have a3 : ¬ (r ≤ 90) := by omega
    have a4 : 48 ≤ r := by omega
    have a5 : ¬ (r ≤ 57) := by omega
    have a6 : ¬ (r = 215) := by omega
    have a7 : ¬ (r = 247) := by omega
    have a8 : ¬ (8192 ≤ r) := by omega
    have a9 : r ≤ 8303 := by omega
    have a10 : ¬ (12288 ≤ r) := by omega
    have a11 : r ≤ 12351 := by omega
    have a12 : 192 ≤ r := by omega
    have hL : letterB r = true := by unfold letterB; exact decide_eq_true (by omega)
    have hv : Lib.validRune r = true := by unfold Lib.validRune; simp; omega
    rw [hL]
    have HL := Lib.hid hL
    clear hL
    go_enter Tryd.func12, Tryd.ntmps12
    go_wp2_with (first | (go_at_call 29; refine (vrune_any r _).mono ?_; rintro e w1 ⟨rfl, rfl⟩; rw [hv]) | go_in)
    go_ret
    exact ⟨rfl, rfl⟩
  · -- 247 .. 247
    have a0 : 97 ≤ r := by omega
    have a1 : ¬ (r ≤ 122) := by omega
    have a2 : 65 ≤ r := by omega
    have a3 : ¬ (r ≤ 90) := by omega
    have a4 : 48 ≤ r := by omega
    have a5 : ¬ (r ≤ 57) := by omega
    have a6 : ¬ (r = 215) := by omega
    have a7 : r = 247 := by omega
    have a8 : ¬ (8192 ≤ r) := by omega
    have a9 : r ≤ 8303 := by omega
    have a10 : ¬ (12288 ≤ r) := by omega
    have a11 : r ≤ 12351 := by omega
    have a12 : 192 ≤ r := by omega
    have hL : letterB r = false := by unfold letterB; exact decide_eq_false (by omega)
    rw [hL]
    have HL := Lib.hid hL
    clear hL
    go_enter Tryd.func12, Tryd.ntmps12
    go_wp2
    go_ret
    exact ⟨by first | rfl | simp [*], rfl⟩
  · -- 248 .. 8191
    have a0 : 97 ≤ r := by omega
    have a1 : ¬ (r ≤ 122) := by omega
    have a2 : 65 ≤ r := by omega
    have a3 : ¬ (r ≤ 90) := by omega
    have a4 : 48 ≤ r := by omega
    have a5 : ¬ (r ≤ 57) := by omega
    have a6 : ¬ (r = 215) := by omega
    have a7 : ¬ (r = 247) := by omega
    have a8 : ¬ (8192 ≤ r) := by omega
    have a9 : r ≤ 8303 := by omega
    have a10 : ¬ (12288 ≤ r) := by omega
    have a11 : r ≤ 12351 := by omega
    have a12 : 192 ≤ r := by omega
    have hL : letterB r = true := by unfold letterB; exact decide_eq_true (by omega)
    have hv : Lib.validRune r = true := by unfold Lib.validRune; simp; omega
    rw [hL]
    have HL := Lib.hid hL
    clear hL
    go_enter Tryd.func12, Tryd.ntmps12
    go_wp2_with (first | (go_at_call 29; refine (vrune_any r _).mono ?_; rintro e w1 ⟨rfl, rfl⟩; rw [hv]) | go_in)
    go_ret
    exact ⟨rfl, rfl⟩
  · -- 8192 .. 8303
    have a0 : 97 ≤ r := by omega
    have a1 : ¬ (r ≤ 122) := by omega
    have a2 : 65 ≤ r := by omega
    have a3 : ¬ (r ≤ 90) := by omega
    have a4 : 48 ≤ r := by omega
    have a5 : ¬ (r ≤ 57) := by omega
    have a6 : ¬ (r = 215) := by omega
    have a7 : ¬ (r = 247) := by omega
    have a8 : 8192 ≤ r := by omega
    have a9 : r ≤ 8303 := by omega
    have a10 : ¬ (12288 ≤ r) := by omega
    have a11 : r ≤ 12351 := by omega
    have a12 : 192 ≤ r := by omega
    have hL : letterB r = false := by unfold letterB; exact decide_eq_false (by omega)
    rw [hL]
    have HL := Lib.hid hL
    clear hL
    go_enter Tryd.func12, Tryd.ntmps12
    go_wp2
    go_ret
    exact ⟨by first | rfl | simp [*], rfl⟩
  · -- 8304 .. 12287
    have a0 : 97 ≤ r := by omega
    have a1 : ¬ (r ≤ 122) := by omega
    have a2 : 65 ≤ r := by omega
    have a3 : ¬ (r ≤ 90) := by omega
    have a4 : 48 ≤ r := by omega
    have a5 : ¬ (r ≤ 57) := by omega
    have a6 : ¬ (r = 215) := by omega
    have a7 : ¬ (r = 247) := by omega
    have a8 : 8192 ≤ r := by omega
    have a9 : ¬ (r ≤ 8303) := by omega
    have a10 : ¬ (12288 ≤ r) := by omega
    have a11 : r ≤ 12351 := by omega
    have a12 : 192 ≤ r := by omega
    have hL : letterB r = true := by unfold letterB; exact decide_eq_true (by omega)
    have hv : Lib.validRune r = true := by unfold Lib.validRune; simp; omega
    rw [hL]
    have HL := Lib.hid hL
    clear hL
    go_enter Tryd.func12, Tryd.ntmps12
    go_wp2_with (first | (go_at_call 29; refine (vrune_any r _).mono ?_; rintro e w1 ⟨rfl, rfl⟩; rw [hv]) | go_in)
    go_ret
    exact ⟨rfl, rfl⟩
  · -- 12288 .. 12351
    have a0 : 97 ≤ r := by omega
    have a1 : ¬ (r ≤ 122) := by omega
    have a2 : 65 ≤ r := by omega
    have a3 : ¬ (r ≤ 90) := by omega
    have a4 : 48 ≤ r := by omega
    have a5 : ¬ (r ≤ 57) := by omega
    have a6 : ¬ (r = 215) := by omega
    have a7 : ¬ (r = 247) := by omega
    have a8 : 8192 ≤ r := by omega
    have a9 : ¬ (r ≤ 8303) := by omega
    have a10 : 12288 ≤ r := by omega
    have a11 : r ≤ 12351 := by omega
    have a12 : 192 ≤ r := by omega
    have hL : letterB r = false := by unfold letterB; exact decide_eq_false (by omega)
    rw [hL]
    have HL := Lib.hid hL
    clear hL
    go_enter Tryd.func12, Tryd.ntmps12
    go_wp2
    go_ret
    exact ⟨by first | rfl | simp [*], rfl⟩
  · -- 12352 .. 55295
    have a0 : 97 ≤ r := by omega
    have a1 : ¬ (r ≤ 122) := by omega
    have a2 : 65 ≤ r := by omega
    have a3 : ¬ (r ≤ 90) := by omega
    have a4 : 48 ≤ r := by omega
    have a5 : ¬ (r ≤ 57) := by omega
    have a6 : ¬ (r = 215) := by omega
    have a7 : ¬ (r = 247) := by omega
    have a8 : 8192 ≤ r := by omega
    have a9 : ¬ (r ≤ 8303) := by omega
    have a10 : 12288 ≤ r := by omega
    have a11 : ¬ (r ≤ 12351) := by omega
    have a12 : 192 ≤ r := by omega
    have hL : letterB r = true := by unfold letterB; exact decide_eq_true (by omega)
    have hv : Lib.validRune r = true := by unfold Lib.validRune; simp; omega
    rw [hL]
    have HL := Lib.hid hL
    clear hL
    go_enter Tryd.func12, Tryd.ntmps12
    go_wp2_with (first | (go_at_call 29; refine (vrune_any r _).mono ?_; rintro e w1 ⟨rfl, rfl⟩; rw [hv]) | go_in)
    go_ret
    exact ⟨rfl, rfl⟩
  · -- 55296 .. 57343
    have a0 : 97 ≤ r := by omega
    have a1 : ¬ (r ≤ 122) := by omega
    have a2 : 65 ≤ r := by omega
    have a3 : ¬ (r ≤ 90) := by omega
    have a4 : 48 ≤ r := by omega
    have a5 : ¬ (r ≤ 57) := by omega
    have a6 : ¬ (r = 215) := by omega
    have a7 : ¬ (r = 247) := by omega
    have a8 : 8192 ≤ r := by omega
    have a9 : ¬ (r ≤ 8303) := by omega
    have a10 : 12288 ≤ r := by omega
    have a11 : ¬ (r ≤ 12351) := by omega
    have a12 : 192 ≤ r := by omega
    have hL : letterB r = false := by unfold letterB; exact decide_eq_false (by omega)
    have hv : Lib.validRune r = false := by unfold Lib.validRune; simp; omega
    rw [hL]
    have HL := Lib.hid hL
    clear hL
    go_enter Tryd.func12, Tryd.ntmps12
    go_wp2_with (first | (go_at_call 29; refine (vrune_any r _).mono ?_; rintro e w1 ⟨rfl, rfl⟩; rw [hv]) | go_in)
    go_ret
    exact ⟨rfl, rfl⟩
  · -- 57344 .. 1114111
    have a0 : 97 ≤ r := by omega
    have a1 : ¬ (r ≤ 122) := by omega
    have a2 : 65 ≤ r := by omega
    have a3 : ¬ (r ≤ 90) := by omega
    have a4 : 48 ≤ r := by omega
    have a5 : ¬ (r ≤ 57) := by omega
    have a6 : ¬ (r = 215) := by omega
    have a7 : ¬ (r = 247) := by omega
    have a8 : 8192 ≤ r := by omega
    have a9 : ¬ (r ≤ 8303) := by omega
    have a10 : 12288 ≤ r := by omega
    have a11 : ¬ (r ≤ 12351) := by omega
    have a12 : 192 ≤ r := by omega
    have hL : letterB r = true := by unfold letterB; exact decide_eq_true (by omega)
    have hv : Lib.validRune r = true := by unfold Lib.validRune; simp; omega
    rw [hL]
    have HL := Lib.hid hL
    clear hL
    go_enter Tryd.func12, Tryd.ntmps12
    go_wp2_with (first | (go_at_call 29; refine (vrune_any r _).mono ?_; rintro e w1 ⟨rfl, rfl⟩; rw [hv]) | go_in)
    go_ret
    exact ⟨rfl, rfl⟩
  · -- 1114112 .. None
    have a0 : 97 ≤ r := by omega
    have a1 : ¬ (r ≤ 122) := by omega
    have a2 : 65 ≤ r := by omega
    have a3 : ¬ (r ≤ 90) := by omega
    have a4 : 48 ≤ r := by omega
    have a5 : ¬ (r ≤ 57) := by omega
    have a6 : ¬ (r = 215) := by omega
    have a7 : ¬ (r = 247) := by omega
    have a8 : 8192 ≤ r := by omega
    have a9 : ¬ (r ≤ 8303) := by omega
    have a10 : 12288 ≤ r := by omega
    have a11 : ¬ (r ≤ 12351) := by omega
    have a12 : 192 ≤ r := by omega
    have hL : letterB r = false := by unfold letterB; exact decide_eq_false (by omega)
    have hv : Lib.validRune r = false := by unfold Lib.validRune; simp; omega
    rw [hL]
    have HL := Lib.hid hL
    clear hL
    go_enter Tryd.func12, Tryd.ntmps12
    go_wp2_with (first | (go_at_call 29; refine (vrune_any r _).mono ?_; rintro e w1 ⟨rfl, rfl⟩; rw [hv]) | go_in)
    go_ret
    exact ⟨rfl, rfl⟩
set_option maxHeartbeats 8000000 in
theorem rletter_any (r : Int) (hr : -2147483648 ≤ r ∧ r ≤ 2147483647) (w : World) :
    Calls Tryd.prog 13 #[.int .i64 r] w fun e w' => e = .returned (.bool (letterB r)) ∧ w' = w := by
  have hc : r ≤ 47 ∨ (48 ≤ r ∧ r ≤ 57) ∨ (58 ≤ r ∧ r ≤ 64) ∨ (65 ≤ r ∧ r ≤ 90) ∨ (91 ≤ r ∧ r ≤ 96) ∨ (97 ≤ r ∧ r ≤ 122) ∨ (123 ≤ r ∧ r ≤ 191) ∨ (192 ≤ r ∧ r ≤ 214) ∨ r = 215 ∨ (216 ≤ r ∧ r ≤ 246) ∨ r = 247 ∨ (248 ≤ r ∧ r ≤ 8191) ∨ (8192 ≤ r ∧ r ≤ 8303) ∨ (8304 ≤ r ∧ r ≤ 12287) ∨ (12288 ≤ r ∧ r ≤ 12351) ∨ (12352 ≤ r ∧ r ≤ 55295) ∨ (55296 ≤ r ∧ r ≤ 57343) ∨ (57344 ≤ r ∧ r ≤ 1114111) ∨ 1114112 ≤ r := by omega
  rcases hc with hc | hc | hc | hc | hc | hc | hc | hc | hc | hc | hc | hc | hc | hc | hc | hc | hc | hc | hc
  · -- None .. 47
    have a0 : r < 192 := by omega
    have a1 : ¬ (97 ≤ r) := by omega
    have a2 : r ≤ 122 := by omega
    have a3 : ¬ (65 ≤ r) := by omega
    have a4 : r ≤ 90 := by omega
    have a5 : ¬ (48 ≤ r) := by omega
    have a6 : r ≤ 57 := by omega
    have a7 : r ≤ 1114111 := by omega
    have a8 : ¬ (r = 215) := by omega
    have a9 : ¬ (r = 247) := by omega
    have a10 : r < 8192 := by omega
    have a11 : ¬ (8303 < r) := by omega
    have a12 : r < 12288 := by omega
    have a13 : ¬ (12351 < r) := by omega
    have a14 : r < 55296 := by omega
    have a15 : ¬ (57343 < r) := by omega
    have hL : letterB r = false := by unfold letterB; exact decide_eq_false (by omega)
    rw [hL]
    have HL := Lib.hid hL
    clear hL
    go_enter Tryd.func13, Tryd.ntmps13
    go_wp2
    go_ret
    exact ⟨by first | rfl | simp [*], rfl⟩
  · -- 48 .. 57
    have a0 : r < 192 := by omega
    have a1 : ¬ (97 ≤ r) := by omega
    have a2 : r ≤ 122 := by omega
    have a3 : ¬ (65 ≤ r) := by omega
    have a4 : r ≤ 90 := by omega
    have a5 : 48 ≤ r := by omega
    have a6 : r ≤ 57 := by omega
    have a7 : r ≤ 1114111 := by omega
    have a8 : ¬ (r = 215) := by omega
    have a9 : ¬ (r = 247) := by omega
    have a10 : r < 8192 := by omega
    have a11 : ¬ (8303 < r) := by omega
    have a12 : r < 12288 := by omega
    have a13 : ¬ (12351 < r) := by omega
    have a14 : r < 55296 := by omega
    have a15 : ¬ (57343 < r) := by omega
    have hL : letterB r = true := by unfold letterB; exact decide_eq_true (by omega)
    rw [hL]
    have HL := Lib.hid hL
    clear hL
    go_enter Tryd.func13, Tryd.ntmps13
    go_wp2
    go_ret
    exact ⟨by first | rfl | simp [*], rfl⟩
  · -- 58 .. 64
    have a0 : r < 192 := by omega
    have a1 : ¬ (97 ≤ r) := by omega
    have a2 : r ≤ 122 := by omega
    have a3 : ¬ (65 ≤ r) := by omega
    have a4 : r ≤ 90 := by omega
    have a5 : 48 ≤ r := by omega
    have a6 : ¬ (r ≤ 57) := by omega
    have a7 : r ≤ 1114111 := by omega
    have a8 : ¬ (r = 215) := by omega
    have a9 : ¬ (r = 247) := by omega
    have a10 : r < 8192 := by omega
    have a11 : ¬ (8303 < r) := by omega
    have a12 : r < 12288 := by omega
    have a13 : ¬ (12351 < r) := by omega
    have a14 : r < 55296 := by omega
    have a15 : ¬ (57343 < r) := by omega
    have hL : letterB r = false := by unfold letterB; exact decide_eq_false (by omega)
    rw [hL]
    have HL := Lib.hid hL
    clear hL
    go_enter Tryd.func13, Tryd.ntmps13
    go_wp2
    go_ret
    exact ⟨by first | rfl | simp [*], rfl⟩
  · -- 65 .. 90
    have a0 : r < 192 := by omega
    have a1 : ¬ (97 ≤ r) := by omega
    have a2 : r ≤ 122 := by omega
    have a3 : 65 ≤ r := by omega
    have a4 : r ≤ 90 := by omega
    have a5 : 48 ≤ r := by omega
    have a6 : ¬ (r ≤ 57) := by omega
    have a7 : r ≤ 1114111 := by omega
    have a8 : ¬ (r = 215) := by omega
    have a9 : ¬ (r = 247) := by omega
    have a10 : r < 8192 := by omega
    have a11 : ¬ (8303 < r) := by omega
    have a12 : r < 12288 := by omega
    have a13 : ¬ (12351 < r) := by omega
    have a14 : r < 55296 := by omega
    have a15 : ¬ (57343 < r) := by omega
    have hL : letterB r = true := by unfold letterB; exact decide_eq_true (by omega)
    rw [hL]
    have HL := Lib.hid hL
    clear hL
    go_enter Tryd.func13, Tryd.ntmps13
    go_wp2
    go_ret
    exact ⟨by first | rfl | simp [*], rfl⟩
  · -- 91 .. 96
    have a0 : r < 192 := by omega
    have a1 : ¬ (97 ≤ r) := by omega
    have a2 : r ≤ 122 := by omega
    have a3 : 65 ≤ r := by omega
    have a4 : ¬ (r ≤ 90) := by omega
    have a5 : 48 ≤ r := by omega
    have a6 : ¬ (r ≤ 57) := by omega
    have a7 : r ≤ 1114111 := by omega
    have a8 : ¬ (r = 215) := by omega
    have a9 : ¬ (r = 247) := by omega
    have a10 : r < 8192 := by omega
    have a11 : ¬ (8303 < r) := by omega
    have a12 : r < 12288 := by omega
    have a13 : ¬ (12351 < r) := by omega
    have a14 : r < 55296 := by omega
    have a15 : ¬ (57343 < r) := by omega
    have hL : letterB r = false := by unfold letterB; exact decide_eq_false (by omega)
    rw [hL]
    have HL := Lib.hid hL
    clear hL
    go_enter Tryd.func13, Tryd.ntmps13
    go_wp2
    go_ret
    exact ⟨by first | rfl | simp [*], rfl⟩
  · -- 97 .. 122
    have a0 : r < 192 := by omega
    have a1 : 97 ≤ r := by omega
    have a2 : r ≤ 122 := by omega
    have a3 : 65 ≤ r := by omega
    have a4 : ¬ (r ≤ 90) := by omega
    have a5 : 48 ≤ r := by omega
    have a6 : ¬ (r ≤ 57) := by omega
    have a7 : r ≤ 1114111 := by omega
    have a8 : ¬ (r = 215) := by omega
    have a9 : ¬ (r = 247) := by omega
    have a10 : r < 8192 := by omega
    have a11 : ¬ (8303 < r) := by omega
    have a12 : r < 12288 := by omega
    have a13 : ¬ (12351 < r) := by omega
    have a14 : r < 55296 := by omega
    have a15 : ¬ (57343 < r) := by omega
    have hL : letterB r = true := by unfold letterB; exact decide_eq_true (by omega)
    rw [hL]
    have HL := Lib.hid hL
    clear hL
    go_enter Tryd.func13, Tryd.ntmps13
    go_wp2
    go_ret
    exact ⟨by first | rfl | simp [*], rfl⟩
  · -- 123 .. 191
    have a0 : r < 192 := by omega
    have a1 : 97 ≤ r := by omega
    have a2 : ¬ (r ≤ 122) := by omega
    have a3 : 65 ≤ r := by omega
    have a4 : ¬ (r ≤ 90) := by omega
    have a5 : 48 ≤ r := by omega
    have a6 : ¬ (r ≤ 57) := by omega
    have a7 : r ≤ 1114111 := by omega
    have a8 : ¬ (r = 215) := by omega
    have a9 : ¬ (r = 247) := by omega
    have a10 : r < 8192 := by omega
    have a11 : ¬ (8303 < r) := by omega
    have a12 : r < 12288 := by omega
    have a13 : ¬ (12351 < r) := by omega
    have a14 : r < 55296 := by omega
    have a15 : ¬ (57343 < r) := by omega
    have hL : letterB r = false := by unfold letterB; exact decide_eq_false (by omega)
    rw [hL]
    have HL := Lib.hid hL
    clear hL
    go_enter Tryd.func13, Tryd.ntmps13
    go_wp2
    go_ret
    exact ⟨by first | rfl | simp [*], rfl⟩
  · -- 192 .. 214
    have a0 : ¬ (r < 192) := by omega
    have a1 : 97 ≤ r := by omega
    have a2 : ¬ (r ≤ 122) := by omega
    have a3 : 65 ≤ r := by omega
    have a4 : ¬ (r ≤ 90) := by omega
    have a5 : 48 ≤ r := by omega
    have a6 : ¬ (r ≤ 57) := by omega
    have a7 : r ≤ 1114111 := by omega
    have a8 : ¬ (r = 215) := by omega
    have a9 : ¬ (r = 247) := by omega
    have a10 : r < 8192 := by omega
    have a11 : ¬ (8303 < r) := by omega
    have a12 : r < 12288 := by omega
    have a13 : ¬ (12351 < r) := by omega
    have a14 : r < 55296 := by omega
    have a15 : ¬ (57343 < r) := by omega
    have hL : letterB r = true := by unfold letterB; exact decide_eq_true (by omega)
    rw [hL]
    have HL := Lib.hid hL
    clear hL
    go_enter Tryd.func13, Tryd.ntmps13
    go_wp2
    go_ret
    exact ⟨by first | rfl | simp [*], rfl⟩
  · -- 215 .. 215
    have a0 : ¬ (r < 192) := by omega
    have a1 : 97 ≤ r := by omega
    have a2 : ¬ (r ≤ 122) := by omega
    have a3 : 65 ≤ r := by omega
    have a4 : ¬ (r ≤ 90) := by omega
    have a5 : 48 ≤ r := by omega
    have a6 : ¬ (r ≤ 57) := by omega
    have a7 : r ≤ 1114111 := by omega
    have a8 : r = 215 := by omega
    have a9 : ¬ (r = 247) := by omega
    have a10 : r < 8192 := by omega
    have a11 : ¬ (8303 < r) := by omega
    have a12 : r < 12288 := by omega
    have a13 : ¬ (12351 < r) := by omega
    have a14 : r < 55296 := by omega
    have a15 : ¬ (57343 < r) := by omega
    have hL : letterB r = false := by unfold letterB; exact decide_eq_false (by omega)
    rw [hL]
    have HL := Lib.hid hL
    clear hL
    go_enter Tryd.func13, Tryd.ntmps13
    go_wp2
    go_ret
    exact ⟨by first | rfl | simp [*], rfl⟩
  · -- 216 .. 246
    have a0 : ¬ (r < 192) := by omega
    have a1 : 97 ≤ r := by omega
    have a2 : ¬ (r ≤ 122) := by omega
    have a3 : 65 ≤ r := by omega
    have a4 : ¬ (r ≤ 90) := by omega
    have a5 : 48 ≤ r := by omega
    have a6 : ¬ (r ≤ 57) := by omega
    have a7 : r ≤ 1114111 := by omega
    have a8 : ¬ (r = 215) := by omega
    have a9 : ¬ (r = 247) := by omega
    have a10 : r < 8192 := by omega
    have a11 : ¬ (8303 < r) := by omega
    have a12 : r < 12288 := by omega
    have a13 : ¬ (12351 < r) := by omega
    have a14 : r < 55296 := by omega
    have a15 : ¬ (57343 < r) := by omega
    have hL : letterB r = true := by unfold letterB; exact decide_eq_true (by omega)
    rw [hL]
    have HL := Lib.hid hL
    clear hL
    go_enter Tryd.func13, Tryd.ntmps13
    go_wp2
    go_ret
    exact ⟨by first | rfl | simp [*], rfl⟩
  · -- 247 .. 247
    have a0 : ¬ (r < 192) := by omega
    have a1 : 97 ≤ r := by omega
    have a2 : ¬ (r ≤ 122) := by omega
    have a3 : 65 ≤ r := by omega
    have a4 : ¬ (r ≤ 90) := by omega
    have a5 : 48 ≤ r := by omega
    have a6 : ¬ (r ≤ 57) := by omega
    have a7 : r ≤ 1114111 := by omega
    have a8 : ¬ (r = 215) := by omega
    have a9 : r = 247 := by omega
    have a10 : r < 8192 := by omega
    have a11 : ¬ (8303 < r) := by omega
    have a12 : r < 12288 := by omega
    have a13 : ¬ (12351 < r) := by omega
    have a14 : r < 55296 := by omega
    have a15 : ¬ (57343 < r) := by omega
    have hL : letterB r = false := by unfold letterB; exact decide_eq_false (by omega)
    rw [hL]
    have HL := Lib.hid hL
    clear hL
    go_enter Tryd.func13, Tryd.ntmps13
    go_wp2
    go_ret
    exact ⟨by first | rfl | simp [*], rfl⟩
  · -- 248 .. 8191
    have a0 : ¬ (r < 192) := by omega
    have a1 : 97 ≤ r := by omega
    have a2 : ¬ (r ≤ 122) := by omega
    have a3 : 65 ≤ r := by omega
    have a4 : ¬ (r ≤ 90) := by omega
    have a5 : 48 ≤ r := by omega
    have a6 : ¬ (r ≤ 57) := by omega
    have a7 : r ≤ 1114111 := by omega
    have a8 : ¬ (r = 215) := by omega
    have a9 : ¬ (r = 247) := by omega
    have a10 : r < 8192 := by omega
    have a11 : ¬ (8303 < r) := by omega
    have a12 : r < 12288 := by omega
    have a13 : ¬ (12351 < r) := by omega
    have a14 : r < 55296 := by omega
    have a15 : ¬ (57343 < r) := by omega
    have hL : letterB r = true := by unfold letterB; exact decide_eq_true (by omega)
    rw [hL]
    have HL := Lib.hid hL
    clear hL
    go_enter Tryd.func13, Tryd.ntmps13
    go_wp2
    go_ret
    exact ⟨by first | rfl | simp [*], rfl⟩
  · -- 8192 .. 8303
    have a0 : ¬ (r < 192) := by omega
    have a1 : 97 ≤ r := by omega
    have a2 : ¬ (r ≤ 122) := by omega
    have a3 : 65 ≤ r := by omega
    have a4 : ¬ (r ≤ 90) := by omega
    have a5 : 48 ≤ r := by omega
    have a6 : ¬ (r ≤ 57) := by omega
    have a7 : r ≤ 1114111 := by omega
    have a8 : ¬ (r = 215) := by omega
    have a9 : ¬ (r = 247) := by omega
    have a10 : ¬ (r < 8192) := by omega
    have a11 : ¬ (8303 < r) := by omega
    have a12 : r < 12288 := by omega
    have a13 : ¬ (12351 < r) := by omega
    have a14 : r < 55296 := by omega
    have a15 : ¬ (57343 < r) := by omega
    have hL : letterB r = false := by unfold letterB; exact decide_eq_false (by omega)
    rw [hL]
    have HL := Lib.hid hL
    clear hL
    go_enter Tryd.func13, Tryd.ntmps13
    go_wp2
    go_ret
    exact ⟨by first | rfl | simp [*], rfl⟩
  · -- 8304 .. 12287
    have a0 : ¬ (r < 192) := by omega
    have a1 : 97 ≤ r := by omega
    have a2 : ¬ (r ≤ 122) := by omega
    have a3 : 65 ≤ r := by omega
    have a4 : ¬ (r ≤ 90) := by omega
    have a5 : 48 ≤ r := by omega
    have a6 : ¬ (r ≤ 57) := by omega
    have a7 : r ≤ 1114111 := by omega
    have a8 : ¬ (r = 215) := by omega
    have a9 : ¬ (r = 247) := by omega
    have a10 : ¬ (r < 8192) := by omega
    have a11 : 8303 < r := by omega
    have a12 : r < 12288 := by omega
    have a13 : ¬ (12351 < r) := by omega
    have a14 : r < 55296 := by omega
    have a15 : ¬ (57343 < r) := by omega
    have hL : letterB r = true := by unfold letterB; exact decide_eq_true (by omega)
    rw [hL]
    have HL := Lib.hid hL
    clear hL
    go_enter Tryd.func13, Tryd.ntmps13
    go_wp2
    go_ret
    exact ⟨by first | rfl | simp [*], rfl⟩
  · -- 12288 .. 12351
    have a0 : ¬ (r < 192) := by omega
    have a1 : 97 ≤ r := by omega
    have a2 : ¬ (r ≤ 122) := by omega
    have a3 : 65 ≤ r := by omega
    have a4 : ¬ (r ≤ 90) := by omega
    have a5 : 48 ≤ r := by omega
    have a6 : ¬ (r ≤ 57) := by omega
    have a7 : r ≤ 1114111 := by omega
    have a8 : ¬ (r = 215) := by omega
    have a9 : ¬ (r = 247) := by omega
    have a10 : ¬ (r < 8192) := by omega
    have a11 : 8303 < r := by omega
    have a12 : ¬ (r < 12288) := by omega
    have a13 : ¬ (12351 < r) := by omega
    have a14 : r < 55296 := by omega
    have a15 : ¬ (57343 < r) := by omega
    have hL : letterB r = false := by unfold letterB; exact decide_eq_false (by omega)
    rw [hL]
    have HL := Lib.hid hL
    clear hL
    go_enter Tryd.func13, Tryd.ntmps13
    go_wp2
    go_ret
    exact ⟨by first | rfl | simp [*], rfl⟩
  · -- 12352 .. 55295
    have a0 : ¬ (r < 192) := by omega
    have a1 : 97 ≤ r := by omega
    have a2 : ¬ (r ≤ 122) := by omega
    have a3 : 65 ≤ r := by omega
    have a4 : ¬ (r ≤ 90) := by omega
    have a5 : 48 ≤ r := by omega
    have a6 : ¬ (r ≤ 57) := by omega
    have a7 : r ≤ 1114111 := by omega
    have a8 : ¬ (r = 215) := by omega
    have a9 : ¬ (r = 247) := by omega
    have a10 : ¬ (r < 8192) := by omega
    have a11 : 8303 < r := by omega
    have a12 : ¬ (r < 12288) := by omega
    have a13 : 12351 < r := by omega
    have a14 : r < 55296 := by omega
    have a15 : ¬ (57343 < r) := by omega
    have hL : letterB r = true := by unfold letterB; exact decide_eq_true (by omega)
    rw [hL]
    have HL := Lib.hid hL
    clear hL
    go_enter Tryd.func13, Tryd.ntmps13
    go_wp2
    go_ret
    exact ⟨by first | rfl | simp [*], rfl⟩
  · -- 55296 .. 57343
    have a0 : ¬ (r < 192) := by omega
    have a1 : 97 ≤ r := by omega
    have a2 : ¬ (r ≤ 122) := by omega
    have a3 : 65 ≤ r := by omega
    have a4 : ¬ (r ≤ 90) := by omega
    have a5 : 48 ≤ r := by omega
    have a6 : ¬ (r ≤ 57) := by omega
    have a7 : r ≤ 1114111 := by omega
    have a8 : ¬ (r = 215) := by omega
    have a9 : ¬ (r = 247) := by omega
    have a10 : ¬ (r < 8192) := by omega
    have a11 : 8303 < r := by omega
    have a12 : ¬ (r < 12288) := by omega
    have a13 : 12351 < r := by omega
    have a14 : ¬ (r < 55296) := by omega
    have a15 : ¬ (57343 < r) := by omega
    have hL : letterB r = false := by unfold letterB; exact decide_eq_false (by omega)
    rw [hL]
    have HL := Lib.hid hL
    clear hL
    go_enter Tryd.func13, Tryd.ntmps13
    go_wp2
    go_ret
    exact ⟨by first | rfl | simp [*], rfl⟩
  · -- 57344 .. 1114111
    have a0 : ¬ (r < 192) := by omega
    have a1 : 97 ≤ r := by omega
    have a2 : ¬ (r ≤ 122) := by omega
    have a3 : 65 ≤ r := by omega
    have a4 : ¬ (r ≤ 90) := by omega
    have a5 : 48 ≤ r := by omega
    have a6 : ¬ (r ≤ 57) := by omega
    have a7 : r ≤ 1114111 := by omega
    have a8 : ¬ (r = 215) := by omega
    have a9 : ¬ (r = 247) := by omega
    have a10 : ¬ (r < 8192) := by omega
    have a11 : 8303 < r := by omega
    have a12 : ¬ (r < 12288) := by omega
    have a13 : 12351 < r := by omega
    have a14 : ¬ (r < 55296) := by omega
    have a15 : 57343 < r := by omega
    have hL : letterB r = true := by unfold letterB; exact decide_eq_true (by omega)
    rw [hL]
    have HL := Lib.hid hL
    clear hL
    go_enter Tryd.func13, Tryd.ntmps13
    go_wp2
    go_ret
    exact ⟨by first | rfl | simp [*], rfl⟩
  · -- 1114112 .. None
    have a0 : ¬ (r < 192) := by omega
    have a1 : 97 ≤ r := by omega
    have a2 : ¬ (r ≤ 122) := by omega
    have a3 : 65 ≤ r := by omega
    have a4 : ¬ (r ≤ 90) := by omega
    have a5 : 48 ≤ r := by omega
    have a6 : ¬ (r ≤ 57) := by omega
    have a7 : ¬ (r ≤ 1114111) := by omega
    have a8 : ¬ (r = 215) := by omega
    have a9 : ¬ (r = 247) := by omega
    have a10 : ¬ (r < 8192) := by omega
    have a11 : 8303 < r := by omega
    have a12 : ¬ (r < 12288) := by omega
    have a13 : 12351 < r := by omega
    have a14 : ¬ (r < 55296) := by omega
    have a15 : 57343 < r := by omega
    have hL : letterB r = false := by unfold letterB; exact decide_eq_false (by omega)
    rw [hL]
    have HL := Lib.hid hL
    clear hL
    go_enter Tryd.func13, Tryd.ntmps13
    go_wp2
    go_ret
    exact ⟨by first | rfl | simp [*], rfl⟩
end Go.Proofs.YtahpiminhlineaaDoor
