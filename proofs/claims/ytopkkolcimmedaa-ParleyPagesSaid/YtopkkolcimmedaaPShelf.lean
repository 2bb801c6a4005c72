/- The library's slices.Insert and slices.BinarySearch at []string, at this program. No condition but those that each says. -/
import Derived.Test.YtopkkolcimmedaaProg
import Derived.WalkKit
import Derived.Below
import Derived.Shelf.Lays2
import Derived.Shelf.Spec.SlicesInsertGrow
import Derived.Shelf.Spec.SearchS
namespace Go.Proofs.Ytopkkolcimmedaa
open Go.RowKit Go.Shelf

/-- The shelf's numbers and this program's: functions, types. -/
def pRen : Ren where
  f := fun n => if n = 17 then 64 else if n = 22 then 18 else if n = 29 then 38 else if n = 30 then 39 else if n = 36 then 54 else if n = 26 then 37 else if n = 33 then 52 else if n = 34 then 53 else if n = 38 then 63 else n
  t := fun n => if n = 0 then 0 else if n = 3 then 3 else if n = 4 then 4 else if n = 9 then 9 else if n = 24 then 27 else if n = 40 then 88 else n
  g := fun n => n
theorem lays22 : Lays2.n22 Try.prog pRen := by
  constructor <;> first | kernel_rfl | (intro w; kernel_rfl)
theorem lays26 : Lays2.n26 Try.prog pRen := by
  constructor <;> first | kernel_rfl | (intro w; kernel_rfl)
end Go.Proofs.Ytopkkolcimmedaa
