/- The library's table and errors out of what the row lists. -/
import Derived.Test.YtbpclifgafafdaaDoorShL
import Derived.Test.YtbpclifgafafdaaDoorRows
import Derived.Lib.LaidTab
import Derived.Lib.LaidU8T
import Derived.LaidMore
import Derived.LaidLaws
import Derived.MakeChecks
namespace Go.Proofs.YtbpclifgafafdaaDoor
open Go.RowKit

theorem err_of_laid (W : World) (l : List (String × DataW Unit)) (h : laidMet Tryd.prog l W) (name : String) (g : Nat) (d : DataW Unit) (nm : String) (hm : (name, .iface nm d) ∈ l) (hg : Tryd.prog.globalNamed name = some g) (hty : (Tryd.prog.globals[g]?).map (·.type) = some 83) : ∃ t p, W.cell? ⟨g, 0, none⟩ = some (.iface t p) := by
  obtain ⟨g', t', cs, fuel, p, hg', ht', hvar, hd⟩ := Lib.laidMet.reads h hm
  obtain rfl := Option.some.inj (hg.symm.trans hg')
  obtain rfl := Option.some.inj (hty.symm.trans ht')
  obtain ⟨f1, u, v, hcs, hn, h1⟩ := iface_of_trod Tryd.underlying83 hd
  refine ⟨u, v, ?_⟩
  have hc := World.var?_cell hg hvar 0
  rw [hc]
  have : cs = #[.iface u v] := Array.toList_inj.1 hcs
  rw [this]; rfl
theorem utabs_of_laid (W : World) (h : laidMetH Tryd.prog [("math/bits.deBruijn32tab", Rows.laid_math_bits_deBruijn32tab), ("math/bits.deBruijn64tab", Rows.laid_math_bits_deBruijn64tab), ("internal/strconv.uint64pow10", Rows.laid_internal_strconv_uint64pow10), ("strconv.ErrRange", Rows.laid_strconv_ErrRange), ("strconv.ErrSyntax", Rows.laid_strconv_ErrSyntax)] W) : Errs W ∧ Pows W := by
  rw [MakeChecks.laidMetH_plain _ _ _ (by kernel_rfl)] at h
  refine ⟨⟨?_, ?_⟩, ?_⟩
  · exact err_of_laid W _ h "strconv.ErrSyntax" 2 _ _ (.tail _ (.tail _ (.tail _ (.tail _ (.head _))))) (by kernel_rfl) (by kernel_rfl)
  · exact err_of_laid W _ h "strconv.ErrRange" 3 _ _ (.tail _ (.tail _ (.tail _ (.head _)))) (by kernel_rfl) (by kernel_rfl)
  · have h3 := Lib.laidMet.reads h (.tail _ (.tail _ (.head _)))
    obtain ⟨g', t', cs, fuel, p, hg', ht', hvar, hd⟩ := h3
    have hg : Tryd.prog.globalNamed "internal/strconv.uint64pow10" = some 0 := by kernel_rfl
    obtain rfl := Option.some.inj (hg.symm.trans hg')
    have hty : (Tryd.prog.globals[(0 : Nat)]?).map (·.type) = some 102 := by kernel_rfl
    obtain rfl := Option.some.inj (hty.symm.trans ht')
    rw [show (Rows.laid_internal_strconv_uint64pow10 : DataW Unit) = Lib.tabData .u64 Lib.pow10Tab by kernel_rfl] at hd
    unfold Pows Lib.TabIs
    rw [hvar, ← Lib.cells_of_tab Tryd.underlying102 Tryd.underlying89 (by kernel_rfl) (by kernel_rfl) hd]
end Go.Proofs.YtbpclifgafafdaaDoor
