/- The table of powers out of what the row lists. -/
import Derived.Test.YtofhhdomodjjdaaDoorIWalk
import Derived.Test.YtofhhdomodjjdaaDoorRows
import Derived.Lib.LaidTab
import Derived.Lib.LaidU8T
import Derived.LaidMore
import Derived.MakeChecks
namespace Go.Proofs.YtofhhdomodjjdaaDoor
open Go.RowKit

theorem pows_of_laid (W : World) (h : laidMetH Tryd.prog [("math/bits.deBruijn32tab", Rows.laid_math_bits_deBruijn32tab), ("math/bits.deBruijn64tab", Rows.laid_math_bits_deBruijn64tab), ("internal/strconv.uint64pow10", Rows.laid_internal_strconv_uint64pow10)] W) : Pows W := by
  rw [MakeChecks.laidMetH_plain _ _ _ (by kernel_rfl)] at h
  have h3 := Lib.laidMet.reads h (.tail _ (.tail _ (.head _)))
  obtain ⟨g', t', cs, fuel, p, hg', ht', hvar, hd⟩ := h3
  have hg : Tryd.prog.globalNamed "internal/strconv.uint64pow10" = some 0 := by kernel_rfl
  obtain rfl := Option.some.inj (hg.symm.trans hg')
  have hty : (Tryd.prog.globals[(0 : Nat)]?).map (·.type) = some 43 := by kernel_rfl
  obtain rfl := Option.some.inj (hty.symm.trans ht')
  rw [show (Rows.laid_internal_strconv_uint64pow10 : DataW Unit) = Lib.tabData .u64 Lib.pow10Tab by kernel_rfl] at hd
  unfold Pows Lib.TabIs
  rw [hvar, ← Lib.cells_of_tab Tryd.underlying43 Tryd.underlying36 (by kernel_rfl) (by kernel_rfl) hd]
end Go.Proofs.YtofhhdomodjjdaaDoor
