/- The library's Itoa at this program. Condition: its table of powers of ten is laid. -/
import Derived.Test.YtofhhdomodjjdaaDoorProg
import Derived.WalkKit
import Derived.WalkMore
import Derived.Below
import Derived.Shelf.LaysM
import Derived.Shelf.Strconv.Itoa3
import Derived.Lib.AppendIntMem
namespace Go.Proofs.YtofhhdomodjjdaaDoor
open Go.RowKit Go.Shelf

/-- The shelf's numbers and this program's: functions, types, variables. -/
def iRen : Ren where
  f := fun n => if n = 129 then 17 else if n = 171 then 8 else if n = 243 then 10 else if n = 246 then 11 else if n = 283 then 12 else if n = 284 then 13 else if n = 285 then 14 else if n = 286 then 15 else if n = 317 then 16 else if n = 318 then 18 else if n = 319 then 19 else if n = 320 then 20 else if n = 337 then 21 else if n = 338 then 22 else n
  t := fun n => if n = 0 then 0 else if n = 2 then 2 else if n = 3 then 3 else if n = 4 then 4 else if n = 5 then 5 else if n = 9 then 9 else if n = 20 then 20 else if n = 37 then 23 else if n = 46 then 47 else if n = 51 then 44 else if n = 53 then 36 else if n = 171 then 35 else if n = 173 then 39 else if n = 212 then 43 else if n = 213 then 45 else if n = 232 then 50 else if n = 233 then 51 else n
  g := fun n => if n = 17 then 0 else if n = 18 then 1 else if n = 19 then 2 else n
theorem lays171a : Lays.n171 Tryd.prog iRen := by
  constructor <;> first | kernel_rfl | (intro w; kernel_rfl)
theorem lays171 : LaysM.n171 Tryd.prog iRen := by
  constructor <;> first | exact lays171a | kernel_rfl | (intro w; kernel_rfl)
/-- The table that the library reads. -/
def Pows (w : World) : Prop := Lib.TabIs Tryd.prog w "internal/strconv.uint64pow10" .u64 Lib.pow10Tab
theorem itoa_any (n : Int) (h0 : -9223372036854775808 ≤ n) (h1 : n ≤ 9223372036854775807) (w : World) (hT : Pows w) :
    Calls Tryd.prog 8 #[.int .i64 n] w fun e w' => e = .returned (.string ⟨(Lib.itoa n).toArray⟩) ∧ Below w.heap.size w w' :=
  (Any.strconv_Itoa lays171 n h0 h1 w hT).mono fun e w' ⟨h, k, os, hw⟩ => ⟨h, by subst hw; exact Lib.below_grow _ w (Nat.le_refl _) k os⟩
end Go.Proofs.YtofhhdomodjjdaaDoor
