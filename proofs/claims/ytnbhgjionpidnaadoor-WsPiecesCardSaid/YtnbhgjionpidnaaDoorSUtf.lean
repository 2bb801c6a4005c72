/- The library's ValidString at this program. Condition: its tables are laid. -/
import Derived.Test.YtnbhgjionpidnaaDoorProg
import Derived.Test.YtnbhgjionpidnaaDoorRows
import Derived.WalkKit
import Derived.WalkMore
import Derived.Below
import Derived.Shelf.LaysM
import Derived.Shelf.Unicode.ValidAny
import Derived.PinnedBridge
import Derived.LaidMore
import Derived.Lib.LaidU8T
namespace Go.Proofs.YtnbhgjionpidnaaDoor
open Go.RowKit Go.Shelf

/-- The shelf's numbers and this program's: functions, types, variables. -/
def uRen : Ren where
  f := fun n => if n = 196 then 54 else if n = 259 then 56 else n
  t := fun n => if n = 4 then 4 else if n = 46 then 30 else if n = 5 then 5 else if n = 9 then 9 else if n = 3 then 3 else if n = 0 then 0 else if n = 12 then 12 else if n = 119 then 97 else if n = 139 then 100 else if n = 138 then 99 else if n = 53 then 72 else n
  g := fun n => if n = 3 then 0 else if n = 4 then 1 else n
theorem lays196 : Lays.n196 Tryd.prog uRen := by
  constructor <;> first | kernel_rfl | (intro w; kernel_rfl)
/-- The tables that the library reads. -/
def Tabs (w : World) : Prop := Lib.Utf8Tabs 0 1 w
theorem vstring_any (s : ByteArray) (w : World) (hs : s.size ≤ 9223372036854775807) (hT : Tabs w) :
    Calls Tryd.prog 54 #[.string s] w fun e w' => e = .returned (.bool (Lib.validD s.data.toList)) ∧ Below w.heap.size w w' := Any.utf8_ValidString lays196 s w hs hT
/-- The tables out of what the row lists. -/
theorem utabs_of_laid (W : World) (h : laidMetH Tryd.prog [("unicode/utf8.acceptRanges", Rows.laid_unicode_utf8_acceptRanges), ("unicode/utf8.first", Rows.laid_unicode_utf8_first)] W) : Tabs W := by
  rw [MakeChecks.laidMetH_plain _ _ _ (by kernel_rfl)] at h
  have h3 : Lib.VarReads Tryd.prog W "unicode/utf8.first" Lib.firstData := by
    have := Lib.laidMet.reads h (.tail _ (.head _))
    rwa [show Rows.laid_unicode_utf8_first = Lib.firstData from Pinned.utf8First_eq] at this
  have h4 : Lib.VarReads Tryd.prog W "unicode/utf8.acceptRanges" Lib.acceptData := by
    have := Lib.laidMet.reads h (.head _)
    rwa [show (Rows.laid_unicode_utf8_acceptRanges : DataW Unit) = Lib.acceptData by kernel_rfl] at this
  exact utf8Tabs_of_readsT (ρ := uRen) (U8Types.of196 lays196) ⟨by kernel_rfl, by kernel_rfl, by kernel_rfl, by kernel_rfl, by kernel_rfl, by kernel_rfl, by kernel_rfl⟩ h3 h4
end Go.Proofs.YtnbhgjionpidnaaDoor
