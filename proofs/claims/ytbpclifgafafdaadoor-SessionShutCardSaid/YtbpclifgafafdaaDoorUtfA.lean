/- Which bytes stand in names; code points' small forms and which are letters: both programs answer the same plain function. No condition. -/
import Derived.Test.YtbpclifgafafdaaDoorTkS
import Derived.WalkKit
import Derived.WalkMore
import Derived.Below
import Derived.IntWalk
import Derived.Lib.Hide
namespace Go.Proofs.YtbpclifgafafdaaDoor
open Go.RowKit Go.Shelf

/-- May a byte stand in a name? -/
def partB (b : Int) : Bool := decide (97 ≤ b ∧ b ≤ 122 ∨ 48 ≤ b ∧ b ≤ 57 ∨ b = 95)
/-- The small form of a code point; is it a letter? -/
def lowerZ (r : Int) : Int :=
  if 65 ≤ r ∧ r ≤ 90 ∨ 192 ≤ r ∧ r ≤ 222 ∧ r ≠ 215 ∨ 913 ≤ r ∧ r ≤ 937 ∧ r ≠ 930 ∨ 1040 ≤ r ∧ r ≤ 1071 then r + 32
  else if 1024 ≤ r ∧ r ≤ 1039 then r + 80 else if r = 962 then 963 else r
def letterB (r : Int) : Bool := decide (97 ≤ r ∧ r ≤ 122 ∨ 65 ≤ r ∧ r ≤ 90 ∨ 48 ≤ r ∧ r ≤ 57 ∨
  192 ≤ r ∧ r ≤ 1114111 ∧ r ≠ 215 ∧ r ≠ 247 ∧ ¬ (8192 ≤ r ∧ r ≤ 8303) ∧ ¬ (12288 ≤ r ∧ r ≤ 12351) ∧ ¬ (55296 ≤ r ∧ r ≤ 57343))
theorem ret_bool {x y : Bool} (h : x = true ↔ y = true) : Ending.returned (.bool x) = .returned (.bool y) := by rw [Bool.eq_iff_iff.2 h]
theorem within_any (r a b : Int) (w : World) :
    Calls Tryd.prog 25 #[.int .i32 r, .int .i32 a, .int .i32 b] w fun e w' => e = .returned (.bool (decide (a ≤ r ∧ r ≤ b))) ∧ w' = w := by
  by_cases h : a ≤ r
  · go_enter Tryd.func25, Tryd.ntmps25
    go_wp2
    go_ret
    exact ⟨ret_bool (by simp; omega), rfl⟩
  · go_enter Tryd.func25, Tryd.ntmps25
    go_wp2
    go_ret
    exact ⟨ret_bool (by simp; omega), rfl⟩
theorem ofname_any (b : Int) (w : World) :
    Calls Tryd.prog 35 #[.int .u8 b] w fun e w' => e = .returned (.bool (partB b)) ∧ w' = w := by
  by_cases h1 : 97 ≤ b <;> by_cases h2 : b ≤ 122 <;> by_cases h3 : 48 ≤ b <;> by_cases h4 : b ≤ 57 <;> by_cases h5 : b = 95
  all_goals first
    | omega
    | (go_enter Tryd.func35, Tryd.ntmps35
       go_wp2
       go_ret
       exact ⟨ret_bool (by unfold partB; first | (simp; omega) | (simp; done) | (simp [*]; done)), rfl⟩)
end Go.Proofs.YtbpclifgafafdaaDoor
