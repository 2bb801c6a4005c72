/-
  NARROWER THAN 'FOR EVERY INPUT', by the rows' own cells (each row's printed sentence says how): SnapSplits: laid · SnapBoxes: laid · SnapJoins: laid · SnapSizes: laid · SnapMixed: laid.
  DERIVED. THE GIVEN ROWS OF THIS SEAT. 5 by the template 'for every input the law returns true; each argument reads behind the call as it read before'; 0 by the template 'total and deterministic' (their statements: YthjbkgappjpanaaDoorTotals.lean).
  GIVEN WITH THE SEED: the statements are not yours to turn. If you find one false, say at which input.
  Laid BY PROGRAM, IN A SANDBOX (cutbox-rows.mjs): the forced cells as the released guide's own fill.sh prints them over the translation 3f96692bf143fae4… (all of the seat's roots in one cut). By AI agents, Wed Nov 11 2026. No macro, syntax, notation, axiom, sorry.
-/
import Derived.Test.YthjbkgappjpanaaDoorChecked
import GoSem.Claim
import GoSem.ClaimJoined
import GoSem.ClaimMapViews
import Derived.JoinedTies
import Derived.KernelRfl
namespace Go.Proofs.YthjbkgappjpanaaDoor
/- THE CELL 'sum', in the pinned program and in every row, IS THE sha256 OF THE DUMP (.gsa) THAT YthjbkgappjpanaaDoorProg.lean LOADS. Nothing in Lean hashes anything: it is a label: what it is worth is what the hold of that sum in a sandbox is worth. -/
noncomputable def Tryd.pinned : Pinned := { name := "ythjbkgappjpanaadoor", sum := "3f96692bf143fae428e030a592a292ff91a8df01540d57894756158c41862441", checked := Tryd.checked }
namespace Rows
def none {H : Type} : Left H := { results := [], args := [] }

/- WHAT THE LISTED PACKAGE-LEVEL VARIABLES READ AS WHEN THE CALL BEGINS. Each datum BY PROGRAM (the guide's laid-datum.mjs) off the statement by which the dump's own 'gosem.cut.vars' lays the variable. In a bare row this is a premise. The card (YthjbkgappjpanaaDoorCards.lean) ties it to the program's text. -/
def laid_parley_digest_crcSteps {H : Type} : DataW H := .agg [.lit (.int .u32 0), .lit (.int .u32 498536548), .lit (.int .u32 997073096), .lit (.int .u32 651767980), .lit (.int .u32 1994146192), .lit (.int .u32 1802195444), .lit (.int .u32 1303535960), .lit (.int .u32 1342533948), .lit (.int .u32 3988292384), .lit (.int .u32 4027552580), .lit (.int .u32 3604390888), .lit (.int .u32 3412177804), .lit (.int .u32 2607071920), .lit (.int .u32 2262029012), .lit (.int .u32 2685067896), .lit (.int .u32 3183342108)]

/-- 'parleylaw12.SnapSplits': WHATEVER THE INPUT: true; the input reads as it did. -/
def snapSplitsSpec : ChangeSpec := { name := "snapSplits", fn := fun _ => fun
  | [d1, d2] => { results := [.lit (.bool true)], args := [d1, d2] }
  | _ => none }
def snapSplitsRow : OpenClaim := { program := "ythjbkgappjpanaadoor", sum := "3f96692bf143fae428e030a592a292ff91a8df01540d57894756158c41862441", func := "parley/parleylaw12.SnapSplits", spec := "snapSplits", named := ["parley/digest.crcSteps"], apart := false, laid := [("parley/digest.crcSteps", laid_parley_digest_crcSteps)] }
def SnapSplitsSaid : Prop := snapSplitsRow.holds Tryd.pinned (OpenSpec.ofChange snapSplitsSpec)

/-- ITS FALSE NEIGHBOUR: 'it returns false'. Refute it at one input. -/
def snapSplitsWrong : ChangeSpec := { name := "snapSplits", fn := fun _ => fun
  | [d1, d2] => { results := [.lit (.bool false)], args := [d1, d2] }
  | _ => none }
def SnapSplitsWrongFalsely : Prop := snapSplitsRow.holds Tryd.pinned (OpenSpec.ofChange snapSplitsWrong)

/-- 'parleylaw12.SnapBoxes': WHATEVER THE INPUT: true; the input reads as it did. -/
def snapBoxesSpec : ChangeSpec := { name := "snapBoxes", fn := fun _ => fun
  | [d] => { results := [.lit (.bool true)], args := [d] }
  | _ => none }
def snapBoxesRow : OpenClaim := { program := "ythjbkgappjpanaadoor", sum := "3f96692bf143fae428e030a592a292ff91a8df01540d57894756158c41862441", func := "parley/parleylaw12.SnapBoxes", spec := "snapBoxes", named := ["parley/digest.crcSteps"], apart := false, laid := [("parley/digest.crcSteps", laid_parley_digest_crcSteps)] }
def SnapBoxesSaid : Prop := snapBoxesRow.holds Tryd.pinned (OpenSpec.ofChange snapBoxesSpec)

/-- ITS FALSE NEIGHBOUR: 'it returns false'. Refute it at one input. -/
def snapBoxesWrong : ChangeSpec := { name := "snapBoxes", fn := fun _ => fun
  | [d] => { results := [.lit (.bool false)], args := [d] }
  | _ => none }
def SnapBoxesWrongFalsely : Prop := snapBoxesRow.holds Tryd.pinned (OpenSpec.ofChange snapBoxesWrong)

/-- 'parleylaw12.SnapJoins': WHATEVER THE INPUT: true; the input reads as it did. -/
def snapJoinsSpec : ChangeSpec := { name := "snapJoins", fn := fun _ => fun
  | [d1, d2, d3] => { results := [.lit (.bool true)], args := [d1, d2, d3] }
  | _ => none }
def snapJoinsRow : OpenClaim := { program := "ythjbkgappjpanaadoor", sum := "3f96692bf143fae428e030a592a292ff91a8df01540d57894756158c41862441", func := "parley/parleylaw12.SnapJoins", spec := "snapJoins", named := ["parley/digest.crcSteps"], apart := false, laid := [("parley/digest.crcSteps", laid_parley_digest_crcSteps)] }
def SnapJoinsSaid : Prop := snapJoinsRow.holds Tryd.pinned (OpenSpec.ofChange snapJoinsSpec)

/-- ITS FALSE NEIGHBOUR: 'it returns false'. Refute it at one input. -/
def snapJoinsWrong : ChangeSpec := { name := "snapJoins", fn := fun _ => fun
  | [d1, d2, d3] => { results := [.lit (.bool false)], args := [d1, d2, d3] }
  | _ => none }
def SnapJoinsWrongFalsely : Prop := snapJoinsRow.holds Tryd.pinned (OpenSpec.ofChange snapJoinsWrong)

/-- 'parleylaw12.SnapSizes': WHATEVER THE INPUT: true; the input reads as it did. -/
def snapSizesSpec : ChangeSpec := { name := "snapSizes", fn := fun _ => fun
  | [d1, d2] => { results := [.lit (.bool true)], args := [d1, d2] }
  | _ => none }
def snapSizesRow : OpenClaim := { program := "ythjbkgappjpanaadoor", sum := "3f96692bf143fae428e030a592a292ff91a8df01540d57894756158c41862441", func := "parley/parleylaw12.SnapSizes", spec := "snapSizes", named := ["parley/digest.crcSteps"], apart := false, laid := [("parley/digest.crcSteps", laid_parley_digest_crcSteps)] }
def SnapSizesSaid : Prop := snapSizesRow.holds Tryd.pinned (OpenSpec.ofChange snapSizesSpec)

/-- ITS FALSE NEIGHBOUR: 'it returns false'. Refute it at one input. -/
def snapSizesWrong : ChangeSpec := { name := "snapSizes", fn := fun _ => fun
  | [d1, d2] => { results := [.lit (.bool false)], args := [d1, d2] }
  | _ => none }
def SnapSizesWrongFalsely : Prop := snapSizesRow.holds Tryd.pinned (OpenSpec.ofChange snapSizesWrong)

/-- 'parleylaw12.SnapMixed': WHATEVER THE INPUT: true; the input reads as it did. -/
def snapMixedSpec : ChangeSpec := { name := "snapMixed", fn := fun _ => fun
  | [d1, d2, d3] => { results := [.lit (.bool true)], args := [d1, d2, d3] }
  | _ => none }
def snapMixedRow : OpenClaim := { program := "ythjbkgappjpanaadoor", sum := "3f96692bf143fae428e030a592a292ff91a8df01540d57894756158c41862441", func := "parley/parleylaw12.SnapMixed", spec := "snapMixed", named := ["parley/digest.crcSteps"], apart := false, laid := [("parley/digest.crcSteps", laid_parley_digest_crcSteps)] }
def SnapMixedSaid : Prop := snapMixedRow.holds Tryd.pinned (OpenSpec.ofChange snapMixedSpec)

/-- ITS FALSE NEIGHBOUR: 'it returns false'. Refute it at one input. -/
def snapMixedWrong : ChangeSpec := { name := "snapMixed", fn := fun _ => fun
  | [d1, d2, d3] => { results := [.lit (.bool false)], args := [d1, d2, d3] }
  | _ => none }
def SnapMixedWrongFalsely : Prop := snapMixedRow.holds Tryd.pinned (OpenSpec.ofChange snapMixedWrong)

/- THE SECOND FORM. 'bulk': how many values and letters a reading holds, each counted each time it is reached (what is shared counts as often as it is met; a slice's spare places count too). A statement '..UptoSaid' is the law's where the arguments, and the package variables that the reading takes, are together of bulk at most 1048576: NARROWER than '..Said'. Prove '..Said' where nothing that the law and all that it calls make is longer than what came in: it says more and counts as full. Else prove '..UptoSaid'. A law counts once. -/
mutual
def uptoBulk {H : Type} : DataW H → Nat
  | .lit (.string bytes) => bytes.length + 1
  | .lit _ => 1
  | .nil => 1
  | .ptr d => uptoBulk d + 1
  | .slice elems spare => uptoBulkAll elems + uptoBulkAll spare + 1
  | .agg parts => uptoBulkAll parts + 1
  | .iface _ d => uptoBulk d + 1
  | .map entries => uptoBulkEntries entries + 1
  | .held _ => 1
def uptoBulkAll {H : Type} : List (DataW H) → Nat
  | [] => 0
  | d :: r => uptoBulk d + uptoBulkAll r
def uptoBulkEntries {H : Type} : List (Lit × DataW H) → Nat
  | [] => 0
  | x :: r => uptoBulkEntry x + uptoBulkEntries r
def uptoBulkEntry {H : Type} : Lit × DataW H → Nat
  | (.string bytes, d) => bytes.length + uptoBulk d + 1
  | (_, d) => uptoBulk d + 1
 end
def uptoSmall : (H : Type) → List (DataW H) → Bool := fun _ ds => decide (uptoBulkAll ds ≤ 1048576)
def OpenSpec.upto (s : _root_.Go.ChangeSpec) : _root_.Go.OpenSpec := { _root_.Go.OpenSpec.ofChange s with cond := some uptoSmall }

/-- 'parleylaw12.SnapSplits', WHERE WHAT IT READS IS OF BULK AT MOST 1048576: true; the input reads as it did. -/
def snapSplitsUptoRow : OpenClaim := { program := "ythjbkgappjpanaadoor", sum := "3f96692bf143fae428e030a592a292ff91a8df01540d57894756158c41862441", func := "parley/parleylaw12.SnapSplits", spec := "snapSplits", named := ["parley/digest.crcSteps"], apart := false, laid := [("parley/digest.crcSteps", laid_parley_digest_crcSteps)], narrowed := true }
def SnapSplitsUptoSaid : Prop := snapSplitsUptoRow.holds Tryd.pinned (OpenSpec.upto snapSplitsSpec)

/-- 'parleylaw12.SnapBoxes', WHERE WHAT IT READS IS OF BULK AT MOST 1048576: true; the input reads as it did. -/
def snapBoxesUptoRow : OpenClaim := { program := "ythjbkgappjpanaadoor", sum := "3f96692bf143fae428e030a592a292ff91a8df01540d57894756158c41862441", func := "parley/parleylaw12.SnapBoxes", spec := "snapBoxes", named := ["parley/digest.crcSteps"], apart := false, laid := [("parley/digest.crcSteps", laid_parley_digest_crcSteps)], narrowed := true }
def SnapBoxesUptoSaid : Prop := snapBoxesUptoRow.holds Tryd.pinned (OpenSpec.upto snapBoxesSpec)

/-- 'parleylaw12.SnapJoins', WHERE WHAT IT READS IS OF BULK AT MOST 1048576: true; the input reads as it did. -/
def snapJoinsUptoRow : OpenClaim := { program := "ythjbkgappjpanaadoor", sum := "3f96692bf143fae428e030a592a292ff91a8df01540d57894756158c41862441", func := "parley/parleylaw12.SnapJoins", spec := "snapJoins", named := ["parley/digest.crcSteps"], apart := false, laid := [("parley/digest.crcSteps", laid_parley_digest_crcSteps)], narrowed := true }
def SnapJoinsUptoSaid : Prop := snapJoinsUptoRow.holds Tryd.pinned (OpenSpec.upto snapJoinsSpec)

/-- 'parleylaw12.SnapSizes', WHERE WHAT IT READS IS OF BULK AT MOST 1048576: true; the input reads as it did. -/
def snapSizesUptoRow : OpenClaim := { program := "ythjbkgappjpanaadoor", sum := "3f96692bf143fae428e030a592a292ff91a8df01540d57894756158c41862441", func := "parley/parleylaw12.SnapSizes", spec := "snapSizes", named := ["parley/digest.crcSteps"], apart := false, laid := [("parley/digest.crcSteps", laid_parley_digest_crcSteps)], narrowed := true }
def SnapSizesUptoSaid : Prop := snapSizesUptoRow.holds Tryd.pinned (OpenSpec.upto snapSizesSpec)

/-- 'parleylaw12.SnapMixed', WHERE WHAT IT READS IS OF BULK AT MOST 1048576: true; the input reads as it did. -/
def snapMixedUptoRow : OpenClaim := { program := "ythjbkgappjpanaadoor", sum := "3f96692bf143fae428e030a592a292ff91a8df01540d57894756158c41862441", func := "parley/parleylaw12.SnapMixed", spec := "snapMixed", named := ["parley/digest.crcSteps"], apart := false, laid := [("parley/digest.crcSteps", laid_parley_digest_crcSteps)], narrowed := true }
def SnapMixedUptoSaid : Prop := snapMixedUptoRow.holds Tryd.pinned (OpenSpec.upto snapMixedSpec)

end Rows
end Go.Proofs.YthjbkgappjpanaaDoor
