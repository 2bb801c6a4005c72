/-
  NARROWER THAN 'FOR EVERY INPUT', by the rows' own cells (each row's printed sentence says how): FnumClasses: laid · FnumOrder: laid · FnumSorts: laid · FnumKeys: laid · FnumTotals: laid · FnumTexts: laid · FnumTotal: laid · FnumEnds: laid · ParleyNumbers: laid.
  DERIVED. THE GIVEN ROWS OF THIS SEAT. 9 by the template 'for every input the law returns true; each argument reads behind the call as it read before'; 0 by the template 'total and deterministic' (their statements: YtjlkmfnkpnmbiaaDoorTotals.lean).
  GIVEN WITH THE SEED: the statements are not yours to turn. If you find one false, say at which input.
  Laid BY PROGRAM, IN A SANDBOX (cutbox-rows.mjs): the forced cells as the released guide's own fill.sh prints them over the translation 461a4326954e6f75… (all of the seat's roots in one cut). By AI agents, Wed Nov 11 2026. No macro, syntax, notation, axiom, sorry.
-/
import Derived.Test.YtjlkmfnkpnmbiaaDoorChecked
import GoSem.Claim
import GoSem.ClaimJoined
import GoSem.ClaimMapViews
import Derived.JoinedTies
import Derived.KernelRfl
namespace Go.Proofs.YtjlkmfnkpnmbiaaDoor
/- THE CELL 'sum', in the pinned program and in every row, IS THE sha256 OF THE DUMP (.gsa) THAT YtjlkmfnkpnmbiaaDoorProg.lean LOADS. Nothing in Lean hashes anything: it is a label: what it is worth is what the hold of that sum in a sandbox is worth. -/
noncomputable def Tryd.pinned : Pinned := { name := "ytjlkmfnkpnmbiaadoor", sum := "461a4326954e6f757a8e03dcf2d1bca60c12fc0a23a77074b44715dcbaa17c95", checked := Tryd.checked }
namespace Rows
def none {H : Type} : Left H := { results := [], args := [] }

/- WHAT THE LISTED PACKAGE-LEVEL VARIABLES READ AS WHEN THE CALL BEGINS. Each datum BY PROGRAM (the guide's laid-datum.mjs) off the statement by which the dump's own 'gosem.cut.vars' lays the variable. In a bare row this is a premise. The card (YtjlkmfnkpnmbiaaDoorCards.lean) ties it to the program's text. -/
def laid_math_bits_deBruijn32tab {H : Type} : DataW H := .agg [.lit (.int .u8 0), .lit (.int .u8 1), .lit (.int .u8 28), .lit (.int .u8 2), .lit (.int .u8 29), .lit (.int .u8 14), .lit (.int .u8 24), .lit (.int .u8 3), .lit (.int .u8 30), .lit (.int .u8 22), .lit (.int .u8 20), .lit (.int .u8 15), .lit (.int .u8 25), .lit (.int .u8 17), .lit (.int .u8 4), .lit (.int .u8 8), .lit (.int .u8 31), .lit (.int .u8 27), .lit (.int .u8 13), .lit (.int .u8 23), .lit (.int .u8 21), .lit (.int .u8 19), .lit (.int .u8 16), .lit (.int .u8 7), .lit (.int .u8 26), .lit (.int .u8 12), .lit (.int .u8 18), .lit (.int .u8 6), .lit (.int .u8 11), .lit (.int .u8 5), .lit (.int .u8 10), .lit (.int .u8 9)]
def laid_math_bits_deBruijn64tab {H : Type} : DataW H := .agg [.lit (.int .u8 0), .lit (.int .u8 1), .lit (.int .u8 56), .lit (.int .u8 2), .lit (.int .u8 57), .lit (.int .u8 49), .lit (.int .u8 28), .lit (.int .u8 3), .lit (.int .u8 61), .lit (.int .u8 58), .lit (.int .u8 42), .lit (.int .u8 50), .lit (.int .u8 38), .lit (.int .u8 29), .lit (.int .u8 17), .lit (.int .u8 4), .lit (.int .u8 62), .lit (.int .u8 47), .lit (.int .u8 59), .lit (.int .u8 36), .lit (.int .u8 45), .lit (.int .u8 43), .lit (.int .u8 51), .lit (.int .u8 22), .lit (.int .u8 53), .lit (.int .u8 39), .lit (.int .u8 33), .lit (.int .u8 30), .lit (.int .u8 24), .lit (.int .u8 18), .lit (.int .u8 12), .lit (.int .u8 5), .lit (.int .u8 63), .lit (.int .u8 55), .lit (.int .u8 48), .lit (.int .u8 27), .lit (.int .u8 60), .lit (.int .u8 41), .lit (.int .u8 37), .lit (.int .u8 16), .lit (.int .u8 46), .lit (.int .u8 35), .lit (.int .u8 44), .lit (.int .u8 21), .lit (.int .u8 52), .lit (.int .u8 32), .lit (.int .u8 23), .lit (.int .u8 11), .lit (.int .u8 54), .lit (.int .u8 26), .lit (.int .u8 40), .lit (.int .u8 15), .lit (.int .u8 34), .lit (.int .u8 20), .lit (.int .u8 31), .lit (.int .u8 10), .lit (.int .u8 25), .lit (.int .u8 14), .lit (.int .u8 19), .lit (.int .u8 9), .lit (.int .u8 13), .lit (.int .u8 8), .lit (.int .u8 7), .lit (.int .u8 6)]
def laid_internal_strconv_uint64pow10 {H : Type} : DataW H := .agg [.lit (.int .u64 1), .lit (.int .u64 10), .lit (.int .u64 100), .lit (.int .u64 1000), .lit (.int .u64 10000), .lit (.int .u64 100000), .lit (.int .u64 1000000), .lit (.int .u64 10000000), .lit (.int .u64 100000000), .lit (.int .u64 1000000000), .lit (.int .u64 10000000000), .lit (.int .u64 100000000000), .lit (.int .u64 1000000000000), .lit (.int .u64 10000000000000), .lit (.int .u64 100000000000000), .lit (.int .u64 1000000000000000), .lit (.int .u64 10000000000000000), .lit (.int .u64 100000000000000000), .lit (.int .u64 1000000000000000000), .lit (.int .u64 10000000000000000000)]
def laid_strconv_ErrRange {H : Type} : DataW H := .iface "*errors.errorString" (.ptr (.agg [.lit (.string [118, 97, 108, 117, 101, 32, 111, 117, 116, 32, 111, 102, 32, 114, 97, 110, 103, 101])]))
def laid_strconv_ErrSyntax {H : Type} : DataW H := .iface "*errors.errorString" (.ptr (.agg [.lit (.string [105, 110, 118, 97, 108, 105, 100, 32, 115, 121, 110, 116, 97, 120])]))

/-- 'parleylaw01.FnumClasses': WHATEVER THE INPUT: true; the input reads as it did. -/
def fnumClassesSpec : ChangeSpec := { name := "fnumClasses", fn := fun _ => fun
  | [d] => { results := [.lit (.bool true)], args := [d] }
  | _ => none }
def fnumClassesRow : OpenClaim := { program := "ytjlkmfnkpnmbiaadoor", sum := "461a4326954e6f757a8e03dcf2d1bca60c12fc0a23a77074b44715dcbaa17c95", func := "parley/parleylaw01.FnumClasses", spec := "fnumClasses", inPlace := ["math.Float64frombits", "math.Float64bits"], named := ["internal/strconv.uint64pow10", "math/bits.deBruijn32tab", "math/bits.deBruijn64tab"], apart := false, laid := [("math/bits.deBruijn32tab", laid_math_bits_deBruijn32tab), ("math/bits.deBruijn64tab", laid_math_bits_deBruijn64tab), ("internal/strconv.uint64pow10", laid_internal_strconv_uint64pow10)] }
def FnumClassesSaid : Prop := fnumClassesRow.holds Tryd.pinned (OpenSpec.ofChange fnumClassesSpec)

/-- ITS FALSE NEIGHBOUR: 'it returns false'. Refute it at one input. -/
def fnumClassesWrong : ChangeSpec := { name := "fnumClasses", fn := fun _ => fun
  | [d] => { results := [.lit (.bool false)], args := [d] }
  | _ => none }
def FnumClassesWrongFalsely : Prop := fnumClassesRow.holds Tryd.pinned (OpenSpec.ofChange fnumClassesWrong)

/-- 'parleylaw01.FnumOrder': WHATEVER THE INPUT: true; the input reads as it did. -/
def fnumOrderSpec : ChangeSpec := { name := "fnumOrder", fn := fun _ => fun
  | [d1, d2, d3] => { results := [.lit (.bool true)], args := [d1, d2, d3] }
  | _ => none }
def fnumOrderRow : OpenClaim := { program := "ytjlkmfnkpnmbiaadoor", sum := "461a4326954e6f757a8e03dcf2d1bca60c12fc0a23a77074b44715dcbaa17c95", func := "parley/parleylaw01.FnumOrder", spec := "fnumOrder", inPlace := ["math.Float64frombits", "math.Float64bits"], named := ["internal/strconv.uint64pow10", "math/bits.deBruijn32tab", "math/bits.deBruijn64tab"], apart := false, laid := [("math/bits.deBruijn32tab", laid_math_bits_deBruijn32tab), ("math/bits.deBruijn64tab", laid_math_bits_deBruijn64tab), ("internal/strconv.uint64pow10", laid_internal_strconv_uint64pow10)] }
def FnumOrderSaid : Prop := fnumOrderRow.holds Tryd.pinned (OpenSpec.ofChange fnumOrderSpec)

/-- ITS FALSE NEIGHBOUR: 'it returns false'. Refute it at one input. -/
def fnumOrderWrong : ChangeSpec := { name := "fnumOrder", fn := fun _ => fun
  | [d1, d2, d3] => { results := [.lit (.bool false)], args := [d1, d2, d3] }
  | _ => none }
def FnumOrderWrongFalsely : Prop := fnumOrderRow.holds Tryd.pinned (OpenSpec.ofChange fnumOrderWrong)

/-- 'parleylaw01.FnumSorts': WHATEVER THE INPUT: true; the input reads as it did. -/
def fnumSortsSpec : ChangeSpec := { name := "fnumSorts", fn := fun _ => fun
  | [d] => { results := [.lit (.bool true)], args := [d] }
  | _ => none }
def fnumSortsRow : OpenClaim := { program := "ytjlkmfnkpnmbiaadoor", sum := "461a4326954e6f757a8e03dcf2d1bca60c12fc0a23a77074b44715dcbaa17c95", func := "parley/parleylaw01.FnumSorts", spec := "fnumSorts", inPlace := ["math.Float64frombits", "math.Float64bits"], unfollowed := true, recurses := true, named := ["internal/strconv.uint64pow10", "math/bits.deBruijn32tab", "math/bits.deBruijn64tab"], apart := false, laid := [("math/bits.deBruijn32tab", laid_math_bits_deBruijn32tab), ("math/bits.deBruijn64tab", laid_math_bits_deBruijn64tab), ("internal/strconv.uint64pow10", laid_internal_strconv_uint64pow10)] }
def FnumSortsSaid : Prop := fnumSortsRow.holds Tryd.pinned (OpenSpec.ofChange fnumSortsSpec)

/-- ITS FALSE NEIGHBOUR: 'it returns false'. Refute it at one input. -/
def fnumSortsWrong : ChangeSpec := { name := "fnumSorts", fn := fun _ => fun
  | [d] => { results := [.lit (.bool false)], args := [d] }
  | _ => none }
def FnumSortsWrongFalsely : Prop := fnumSortsRow.holds Tryd.pinned (OpenSpec.ofChange fnumSortsWrong)

/-- 'parleylaw01.FnumKeys': WHATEVER THE INPUT: true; the input reads as it did. -/
def fnumKeysSpec : ChangeSpec := { name := "fnumKeys", fn := fun _ => fun
  | [d1, d2, d3] => { results := [.lit (.bool true)], args := [d1, d2, d3] }
  | _ => none }
def fnumKeysRow : OpenClaim := { program := "ytjlkmfnkpnmbiaadoor", sum := "461a4326954e6f757a8e03dcf2d1bca60c12fc0a23a77074b44715dcbaa17c95", func := "parley/parleylaw01.FnumKeys", spec := "fnumKeys", inPlace := ["math.Float64frombits", "math.Float64bits"], named := ["internal/strconv.uint64pow10", "math/bits.deBruijn32tab", "math/bits.deBruijn64tab"], apart := false, laid := [("math/bits.deBruijn32tab", laid_math_bits_deBruijn32tab), ("math/bits.deBruijn64tab", laid_math_bits_deBruijn64tab), ("internal/strconv.uint64pow10", laid_internal_strconv_uint64pow10)] }
def FnumKeysSaid : Prop := fnumKeysRow.holds Tryd.pinned (OpenSpec.ofChange fnumKeysSpec)

/-- ITS FALSE NEIGHBOUR: 'it returns false'. Refute it at one input. -/
def fnumKeysWrong : ChangeSpec := { name := "fnumKeys", fn := fun _ => fun
  | [d1, d2, d3] => { results := [.lit (.bool false)], args := [d1, d2, d3] }
  | _ => none }
def FnumKeysWrongFalsely : Prop := fnumKeysRow.holds Tryd.pinned (OpenSpec.ofChange fnumKeysWrong)

/-- 'parleylaw01.FnumTotals': WHATEVER THE INPUT: true; the input reads as it did. -/
def fnumTotalsSpec : ChangeSpec := { name := "fnumTotals", fn := fun _ => fun
  | [d1, d2, d3] => { results := [.lit (.bool true)], args := [d1, d2, d3] }
  | _ => none }
def fnumTotalsRow : OpenClaim := { program := "ytjlkmfnkpnmbiaadoor", sum := "461a4326954e6f757a8e03dcf2d1bca60c12fc0a23a77074b44715dcbaa17c95", func := "parley/parleylaw01.FnumTotals", spec := "fnumTotals", inPlace := ["math.Float64frombits", "math.Float64bits"], unfollowed := true, recurses := true, named := ["internal/strconv.uint64pow10", "math/bits.deBruijn32tab", "math/bits.deBruijn64tab"], apart := false, laid := [("math/bits.deBruijn32tab", laid_math_bits_deBruijn32tab), ("math/bits.deBruijn64tab", laid_math_bits_deBruijn64tab), ("internal/strconv.uint64pow10", laid_internal_strconv_uint64pow10)] }
def FnumTotalsSaid : Prop := fnumTotalsRow.holds Tryd.pinned (OpenSpec.ofChange fnumTotalsSpec)

/-- ITS FALSE NEIGHBOUR: 'it returns false'. Refute it at one input. -/
def fnumTotalsWrong : ChangeSpec := { name := "fnumTotals", fn := fun _ => fun
  | [d1, d2, d3] => { results := [.lit (.bool false)], args := [d1, d2, d3] }
  | _ => none }
def FnumTotalsWrongFalsely : Prop := fnumTotalsRow.holds Tryd.pinned (OpenSpec.ofChange fnumTotalsWrong)

/-- 'parleylaw01.FnumTexts': WHATEVER THE INPUT: true; the input reads as it did. -/
def fnumTextsSpec : ChangeSpec := { name := "fnumTexts", fn := fun _ => fun
  | [d1, d2] => { results := [.lit (.bool true)], args := [d1, d2] }
  | _ => none }
def fnumTextsRow : OpenClaim := { program := "ytjlkmfnkpnmbiaadoor", sum := "461a4326954e6f757a8e03dcf2d1bca60c12fc0a23a77074b44715dcbaa17c95", func := "parley/parleylaw01.FnumTexts", spec := "fnumTexts", inPlace := ["math.Float64frombits", "math.Float64bits"], recurses := true, named := ["internal/strconv.uint64pow10", "math/bits.deBruijn32tab", "math/bits.deBruijn64tab", "strconv.ErrSyntax", "strconv.ErrRange"], apart := false, laid := [("math/bits.deBruijn32tab", laid_math_bits_deBruijn32tab), ("math/bits.deBruijn64tab", laid_math_bits_deBruijn64tab), ("internal/strconv.uint64pow10", laid_internal_strconv_uint64pow10), ("strconv.ErrRange", laid_strconv_ErrRange), ("strconv.ErrSyntax", laid_strconv_ErrSyntax)] }
def FnumTextsSaid : Prop := fnumTextsRow.holds Tryd.pinned (OpenSpec.ofChange fnumTextsSpec)

/-- ITS FALSE NEIGHBOUR: 'it returns false'. Refute it at one input. -/
def fnumTextsWrong : ChangeSpec := { name := "fnumTexts", fn := fun _ => fun
  | [d1, d2] => { results := [.lit (.bool false)], args := [d1, d2] }
  | _ => none }
def FnumTextsWrongFalsely : Prop := fnumTextsRow.holds Tryd.pinned (OpenSpec.ofChange fnumTextsWrong)

/-- 'parleylaw01.FnumTotal': WHATEVER THE INPUT: true; the input reads as it did. -/
def fnumTotalSpec : ChangeSpec := { name := "fnumTotal", fn := fun _ => fun
  | [d1, d2, d3] => { results := [.lit (.bool true)], args := [d1, d2, d3] }
  | _ => none }
def fnumTotalRow : OpenClaim := { program := "ytjlkmfnkpnmbiaadoor", sum := "461a4326954e6f757a8e03dcf2d1bca60c12fc0a23a77074b44715dcbaa17c95", func := "parley/parleylaw01.FnumTotal", spec := "fnumTotal", inPlace := ["math.Float64frombits", "math.Float64bits"], named := ["internal/strconv.uint64pow10", "math/bits.deBruijn32tab", "math/bits.deBruijn64tab"], apart := false, laid := [("math/bits.deBruijn32tab", laid_math_bits_deBruijn32tab), ("math/bits.deBruijn64tab", laid_math_bits_deBruijn64tab), ("internal/strconv.uint64pow10", laid_internal_strconv_uint64pow10)] }
def FnumTotalSaid : Prop := fnumTotalRow.holds Tryd.pinned (OpenSpec.ofChange fnumTotalSpec)

/-- ITS FALSE NEIGHBOUR: 'it returns false'. Refute it at one input. -/
def fnumTotalWrong : ChangeSpec := { name := "fnumTotal", fn := fun _ => fun
  | [d1, d2, d3] => { results := [.lit (.bool false)], args := [d1, d2, d3] }
  | _ => none }
def FnumTotalWrongFalsely : Prop := fnumTotalRow.holds Tryd.pinned (OpenSpec.ofChange fnumTotalWrong)

/-- 'parleylaw01.FnumEnds': WHATEVER THE INPUT: true; the input reads as it did. -/
def fnumEndsSpec : ChangeSpec := { name := "fnumEnds", fn := fun _ => fun
  | [d] => { results := [.lit (.bool true)], args := [d] }
  | _ => none }
def fnumEndsRow : OpenClaim := { program := "ytjlkmfnkpnmbiaadoor", sum := "461a4326954e6f757a8e03dcf2d1bca60c12fc0a23a77074b44715dcbaa17c95", func := "parley/parleylaw01.FnumEnds", spec := "fnumEnds", inPlace := ["math.Float64frombits", "math.Float64bits"], named := ["internal/strconv.uint64pow10", "math/bits.deBruijn32tab", "math/bits.deBruijn64tab"], apart := false, laid := [("math/bits.deBruijn32tab", laid_math_bits_deBruijn32tab), ("math/bits.deBruijn64tab", laid_math_bits_deBruijn64tab), ("internal/strconv.uint64pow10", laid_internal_strconv_uint64pow10)] }
def FnumEndsSaid : Prop := fnumEndsRow.holds Tryd.pinned (OpenSpec.ofChange fnumEndsSpec)

/-- ITS FALSE NEIGHBOUR: 'it returns false'. Refute it at one input. -/
def fnumEndsWrong : ChangeSpec := { name := "fnumEnds", fn := fun _ => fun
  | [d] => { results := [.lit (.bool false)], args := [d] }
  | _ => none }
def FnumEndsWrongFalsely : Prop := fnumEndsRow.holds Tryd.pinned (OpenSpec.ofChange fnumEndsWrong)

/-- 'parleytop.ParleyNumbers': WHATEVER THE INPUT: true; the input reads as it did. -/
def parleyNumbersSpec : ChangeSpec := { name := "parleyNumbers", fn := fun _ => fun
  | [d] => { results := [.lit (.bool true)], args := [d] }
  | _ => none }
def parleyNumbersRow : OpenClaim := { program := "ytjlkmfnkpnmbiaadoor", sum := "461a4326954e6f757a8e03dcf2d1bca60c12fc0a23a77074b44715dcbaa17c95", func := "parley/parleytop.ParleyNumbers", spec := "parleyNumbers", inPlace := ["math.Float64bits", "math.Float64frombits"], unfollowed := true, recurses := true, named := ["internal/strconv.uint64pow10", "math/bits.deBruijn32tab", "math/bits.deBruijn64tab", "strconv.ErrSyntax", "strconv.ErrRange"], apart := false, laid := [("math/bits.deBruijn32tab", laid_math_bits_deBruijn32tab), ("math/bits.deBruijn64tab", laid_math_bits_deBruijn64tab), ("internal/strconv.uint64pow10", laid_internal_strconv_uint64pow10), ("strconv.ErrRange", laid_strconv_ErrRange), ("strconv.ErrSyntax", laid_strconv_ErrSyntax)] }
def ParleyNumbersSaid : Prop := parleyNumbersRow.holds Tryd.pinned (OpenSpec.ofChange parleyNumbersSpec)

/-- ITS FALSE NEIGHBOUR: 'it returns false'. Refute it at one input. -/
def parleyNumbersWrong : ChangeSpec := { name := "parleyNumbers", fn := fun _ => fun
  | [d] => { results := [.lit (.bool false)], args := [d] }
  | _ => none }
def ParleyNumbersWrongFalsely : Prop := parleyNumbersRow.holds Tryd.pinned (OpenSpec.ofChange parleyNumbersWrong)

/- THE SECOND FORM. 'bulk': how many values and letters a reading holds, each counted each time it is reached (what is shared counts as often as it is met; a slice's spare places count too). A statement '..UptoSaid' is the law's where the arguments, and the package variables that the reading takes, are together of bulk at most 1048576: NARROWER than '..Said'. Prove '..Said' where nothing that the law and all that it calls make is longer than what came in: it says more and counts as full. Else prove '..UptoSaid'. A law counts once. -/
mutual
def uptoBulk {H : Type} : DataW H → Nat
  | .lit (.string bytes) => bytes.length + 1
  | .lit _ => 1
  | .nil => 1
  | .ptr d => uptoBulk d + 1
  | .slice elems spare => uptoBulkAll elems + uptoBulkAll spare + 1
  | .agg parts => uptoBulkAll parts + 1
  | .iface _ d => uptoBulk d + 1
  | .map entries => uptoBulkEntries entries + 1
  | .held _ => 1
def uptoBulkAll {H : Type} : List (DataW H) → Nat
  | [] => 0
  | d :: r => uptoBulk d + uptoBulkAll r
def uptoBulkEntries {H : Type} : List (Lit × DataW H) → Nat
  | [] => 0
  | x :: r => uptoBulkEntry x + uptoBulkEntries r
def uptoBulkEntry {H : Type} : Lit × DataW H → Nat
  | (.string bytes, d) => bytes.length + uptoBulk d + 1
  | (_, d) => uptoBulk d + 1
 end
def uptoSmall : (H : Type) → List (DataW H) → Bool := fun _ ds => decide (uptoBulkAll ds ≤ 1048576)
def OpenSpec.upto (s : _root_.Go.ChangeSpec) : _root_.Go.OpenSpec := { _root_.Go.OpenSpec.ofChange s with cond := some uptoSmall }

/-- 'parleylaw01.FnumClasses', WHERE WHAT IT READS IS OF BULK AT MOST 1048576: true; the input reads as it did. -/
def fnumClassesUptoRow : OpenClaim := { program := "ytjlkmfnkpnmbiaadoor", sum := "461a4326954e6f757a8e03dcf2d1bca60c12fc0a23a77074b44715dcbaa17c95", func := "parley/parleylaw01.FnumClasses", spec := "fnumClasses", inPlace := ["math.Float64frombits", "math.Float64bits"], named := ["internal/strconv.uint64pow10", "math/bits.deBruijn32tab", "math/bits.deBruijn64tab"], apart := false, laid := [("math/bits.deBruijn32tab", laid_math_bits_deBruijn32tab), ("math/bits.deBruijn64tab", laid_math_bits_deBruijn64tab), ("internal/strconv.uint64pow10", laid_internal_strconv_uint64pow10)], narrowed := true }
def FnumClassesUptoSaid : Prop := fnumClassesUptoRow.holds Tryd.pinned (OpenSpec.upto fnumClassesSpec)

/-- 'parleylaw01.FnumOrder', WHERE WHAT IT READS IS OF BULK AT MOST 1048576: true; the input reads as it did. -/
def fnumOrderUptoRow : OpenClaim := { program := "ytjlkmfnkpnmbiaadoor", sum := "461a4326954e6f757a8e03dcf2d1bca60c12fc0a23a77074b44715dcbaa17c95", func := "parley/parleylaw01.FnumOrder", spec := "fnumOrder", inPlace := ["math.Float64frombits", "math.Float64bits"], named := ["internal/strconv.uint64pow10", "math/bits.deBruijn32tab", "math/bits.deBruijn64tab"], apart := false, laid := [("math/bits.deBruijn32tab", laid_math_bits_deBruijn32tab), ("math/bits.deBruijn64tab", laid_math_bits_deBruijn64tab), ("internal/strconv.uint64pow10", laid_internal_strconv_uint64pow10)], narrowed := true }
def FnumOrderUptoSaid : Prop := fnumOrderUptoRow.holds Tryd.pinned (OpenSpec.upto fnumOrderSpec)

/-- 'parleylaw01.FnumSorts', WHERE WHAT IT READS IS OF BULK AT MOST 1048576: true; the input reads as it did. -/
def fnumSortsUptoRow : OpenClaim := { program := "ytjlkmfnkpnmbiaadoor", sum := "461a4326954e6f757a8e03dcf2d1bca60c12fc0a23a77074b44715dcbaa17c95", func := "parley/parleylaw01.FnumSorts", spec := "fnumSorts", inPlace := ["math.Float64frombits", "math.Float64bits"], unfollowed := true, recurses := true, named := ["internal/strconv.uint64pow10", "math/bits.deBruijn32tab", "math/bits.deBruijn64tab"], apart := false, laid := [("math/bits.deBruijn32tab", laid_math_bits_deBruijn32tab), ("math/bits.deBruijn64tab", laid_math_bits_deBruijn64tab), ("internal/strconv.uint64pow10", laid_internal_strconv_uint64pow10)], narrowed := true }
def FnumSortsUptoSaid : Prop := fnumSortsUptoRow.holds Tryd.pinned (OpenSpec.upto fnumSortsSpec)

/-- 'parleylaw01.FnumKeys', WHERE WHAT IT READS IS OF BULK AT MOST 1048576: true; the input reads as it did. -/
def fnumKeysUptoRow : OpenClaim := { program := "ytjlkmfnkpnmbiaadoor", sum := "461a4326954e6f757a8e03dcf2d1bca60c12fc0a23a77074b44715dcbaa17c95", func := "parley/parleylaw01.FnumKeys", spec := "fnumKeys", inPlace := ["math.Float64frombits", "math.Float64bits"], named := ["internal/strconv.uint64pow10", "math/bits.deBruijn32tab", "math/bits.deBruijn64tab"], apart := false, laid := [("math/bits.deBruijn32tab", laid_math_bits_deBruijn32tab), ("math/bits.deBruijn64tab", laid_math_bits_deBruijn64tab), ("internal/strconv.uint64pow10", laid_internal_strconv_uint64pow10)], narrowed := true }
def FnumKeysUptoSaid : Prop := fnumKeysUptoRow.holds Tryd.pinned (OpenSpec.upto fnumKeysSpec)

/-- 'parleylaw01.FnumTotals', WHERE WHAT IT READS IS OF BULK AT MOST 1048576: true; the input reads as it did. -/
def fnumTotalsUptoRow : OpenClaim := { program := "ytjlkmfnkpnmbiaadoor", sum := "461a4326954e6f757a8e03dcf2d1bca60c12fc0a23a77074b44715dcbaa17c95", func := "parley/parleylaw01.FnumTotals", spec := "fnumTotals", inPlace := ["math.Float64frombits", "math.Float64bits"], unfollowed := true, recurses := true, named := ["internal/strconv.uint64pow10", "math/bits.deBruijn32tab", "math/bits.deBruijn64tab"], apart := false, laid := [("math/bits.deBruijn32tab", laid_math_bits_deBruijn32tab), ("math/bits.deBruijn64tab", laid_math_bits_deBruijn64tab), ("internal/strconv.uint64pow10", laid_internal_strconv_uint64pow10)], narrowed := true }
def FnumTotalsUptoSaid : Prop := fnumTotalsUptoRow.holds Tryd.pinned (OpenSpec.upto fnumTotalsSpec)

/-- 'parleylaw01.FnumTexts', WHERE WHAT IT READS IS OF BULK AT MOST 1048576: true; the input reads as it did. -/
def fnumTextsUptoRow : OpenClaim := { program := "ytjlkmfnkpnmbiaadoor", sum := "461a4326954e6f757a8e03dcf2d1bca60c12fc0a23a77074b44715dcbaa17c95", func := "parley/parleylaw01.FnumTexts", spec := "fnumTexts", inPlace := ["math.Float64frombits", "math.Float64bits"], recurses := true, named := ["internal/strconv.uint64pow10", "math/bits.deBruijn32tab", "math/bits.deBruijn64tab", "strconv.ErrSyntax", "strconv.ErrRange"], apart := false, laid := [("math/bits.deBruijn32tab", laid_math_bits_deBruijn32tab), ("math/bits.deBruijn64tab", laid_math_bits_deBruijn64tab), ("internal/strconv.uint64pow10", laid_internal_strconv_uint64pow10), ("strconv.ErrRange", laid_strconv_ErrRange), ("strconv.ErrSyntax", laid_strconv_ErrSyntax)], narrowed := true }
def FnumTextsUptoSaid : Prop := fnumTextsUptoRow.holds Tryd.pinned (OpenSpec.upto fnumTextsSpec)

/-- 'parleylaw01.FnumTotal', WHERE WHAT IT READS IS OF BULK AT MOST 1048576: true; the input reads as it did. -/
def fnumTotalUptoRow : OpenClaim := { program := "ytjlkmfnkpnmbiaadoor", sum := "461a4326954e6f757a8e03dcf2d1bca60c12fc0a23a77074b44715dcbaa17c95", func := "parley/parleylaw01.FnumTotal", spec := "fnumTotal", inPlace := ["math.Float64frombits", "math.Float64bits"], named := ["internal/strconv.uint64pow10", "math/bits.deBruijn32tab", "math/bits.deBruijn64tab"], apart := false, laid := [("math/bits.deBruijn32tab", laid_math_bits_deBruijn32tab), ("math/bits.deBruijn64tab", laid_math_bits_deBruijn64tab), ("internal/strconv.uint64pow10", laid_internal_strconv_uint64pow10)], narrowed := true }
def FnumTotalUptoSaid : Prop := fnumTotalUptoRow.holds Tryd.pinned (OpenSpec.upto fnumTotalSpec)

/-- 'parleylaw01.FnumEnds', WHERE WHAT IT READS IS OF BULK AT MOST 1048576: true; the input reads as it did. -/
def fnumEndsUptoRow : OpenClaim := { program := "ytjlkmfnkpnmbiaadoor", sum := "461a4326954e6f757a8e03dcf2d1bca60c12fc0a23a77074b44715dcbaa17c95", func := "parley/parleylaw01.FnumEnds", spec := "fnumEnds", inPlace := ["math.Float64frombits", "math.Float64bits"], named := ["internal/strconv.uint64pow10", "math/bits.deBruijn32tab", "math/bits.deBruijn64tab"], apart := false, laid := [("math/bits.deBruijn32tab", laid_math_bits_deBruijn32tab), ("math/bits.deBruijn64tab", laid_math_bits_deBruijn64tab), ("internal/strconv.uint64pow10", laid_internal_strconv_uint64pow10)], narrowed := true }
def FnumEndsUptoSaid : Prop := fnumEndsUptoRow.holds Tryd.pinned (OpenSpec.upto fnumEndsSpec)

/-- 'parleytop.ParleyNumbers', WHERE WHAT IT READS IS OF BULK AT MOST 1048576: true; the input reads as it did. -/
def parleyNumbersUptoRow : OpenClaim := { program := "ytjlkmfnkpnmbiaadoor", sum := "461a4326954e6f757a8e03dcf2d1bca60c12fc0a23a77074b44715dcbaa17c95", func := "parley/parleytop.ParleyNumbers", spec := "parleyNumbers", inPlace := ["math.Float64bits", "math.Float64frombits"], unfollowed := true, recurses := true, named := ["internal/strconv.uint64pow10", "math/bits.deBruijn32tab", "math/bits.deBruijn64tab", "strconv.ErrSyntax", "strconv.ErrRange"], apart := false, laid := [("math/bits.deBruijn32tab", laid_math_bits_deBruijn32tab), ("math/bits.deBruijn64tab", laid_math_bits_deBruijn64tab), ("internal/strconv.uint64pow10", laid_internal_strconv_uint64pow10), ("strconv.ErrRange", laid_strconv_ErrRange), ("strconv.ErrSyntax", laid_strconv_ErrSyntax)], narrowed := true }
def ParleyNumbersUptoSaid : Prop := parleyNumbersUptoRow.holds Tryd.pinned (OpenSpec.upto parleyNumbersSpec)

end Rows
end Go.Proofs.YtjlkmfnkpnmbiaaDoor
