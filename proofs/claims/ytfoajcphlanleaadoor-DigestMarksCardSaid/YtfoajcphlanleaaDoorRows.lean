/-
  NARROWER THAN 'FOR EVERY INPUT', by the rows' own cells (each row's printed sentence says how): DigestCrcs: laid · DigestMarks: laid · DigestTexts: laid · DigestJoins: laid · DigestKeys: laid.
  DERIVED. THE GIVEN ROWS OF THIS SEAT. 5 by the template 'for every input the law returns true; each argument reads behind the call as it read before'; 0 by the template 'total and deterministic' (their statements: YtfoajcphlanleaaDoorTotals.lean).
  GIVEN WITH THE SEED: the statements are not yours to turn. If you find one false, say at which input.
  Laid BY PROGRAM, IN A SANDBOX (cutbox-rows.mjs): the forced cells as the released guide's own fill.sh prints them over the translation 2a43392a452bcfed… (all of the seat's roots in one cut). By AI agents, Wed Nov 11 2026. No macro, syntax, notation, axiom, sorry.
-/
import Derived.Test.YtfoajcphlanleaaDoorChecked
import GoSem.Claim
import GoSem.ClaimJoined
import GoSem.ClaimMapViews
import Derived.JoinedTies
import Derived.KernelRfl
namespace Go.Proofs.YtfoajcphlanleaaDoor
/- THE CELL 'sum', in the pinned program and in every row, IS THE sha256 OF THE DUMP (.gsa) THAT YtfoajcphlanleaaDoorProg.lean LOADS. Nothing in Lean hashes anything: it is a label: what it is worth is what the hold of that sum in a sandbox is worth. -/
noncomputable def Tryd.pinned : Pinned := { name := "ytfoajcphlanleaadoor", sum := "2a43392a452bcfed174f6840d521565a079743aa7a84e9a8ba430a15d690000f", checked := Tryd.checked }
namespace Rows
def none {H : Type} : Left H := { results := [], args := [] }

/- WHAT THE LISTED PACKAGE-LEVEL VARIABLES READ AS WHEN THE CALL BEGINS. Each datum BY PROGRAM (the guide's laid-datum.mjs) off the statement by which the dump's own 'gosem.cut.vars' lays the variable. In a bare row this is a premise. The card (YtfoajcphlanleaaDoorCards.lean) ties it to the program's text. -/
def laid_parley_digest_crcSteps {H : Type} : DataW H := .agg [.lit (.int .u32 0), .lit (.int .u32 498536548), .lit (.int .u32 997073096), .lit (.int .u32 651767980), .lit (.int .u32 1994146192), .lit (.int .u32 1802195444), .lit (.int .u32 1303535960), .lit (.int .u32 1342533948), .lit (.int .u32 3988292384), .lit (.int .u32 4027552580), .lit (.int .u32 3604390888), .lit (.int .u32 3412177804), .lit (.int .u32 2607071920), .lit (.int .u32 2262029012), .lit (.int .u32 2685067896), .lit (.int .u32 3183342108)]

/-- 'parleylaw02.DigestCrcs': WHATEVER THE INPUT: true; the input reads as it did. -/
def digestCrcsSpec : ChangeSpec := { name := "digestCrcs", fn := fun _ => fun
  | [d] => { results := [.lit (.bool true)], args := [d] }
  | _ => none }
def digestCrcsRow : OpenClaim := { program := "ytfoajcphlanleaadoor", sum := "2a43392a452bcfed174f6840d521565a079743aa7a84e9a8ba430a15d690000f", func := "parley/parleylaw02.DigestCrcs", spec := "digestCrcs", named := ["parley/digest.crcSteps"], apart := false, laid := [("parley/digest.crcSteps", laid_parley_digest_crcSteps)] }
def DigestCrcsSaid : Prop := digestCrcsRow.holds Tryd.pinned (OpenSpec.ofChange digestCrcsSpec)

/-- ITS FALSE NEIGHBOUR: 'it returns false'. Refute it at one input. -/
def digestCrcsWrong : ChangeSpec := { name := "digestCrcs", fn := fun _ => fun
  | [d] => { results := [.lit (.bool false)], args := [d] }
  | _ => none }
def DigestCrcsWrongFalsely : Prop := digestCrcsRow.holds Tryd.pinned (OpenSpec.ofChange digestCrcsWrong)

/-- 'parleylaw02.DigestMarks': WHATEVER THE INPUT: true; the input reads as it did. -/
def digestMarksSpec : ChangeSpec := { name := "digestMarks", fn := fun _ => fun
  | [d1, d2] => { results := [.lit (.bool true)], args := [d1, d2] }
  | _ => none }
def digestMarksRow : OpenClaim := { program := "ytfoajcphlanleaadoor", sum := "2a43392a452bcfed174f6840d521565a079743aa7a84e9a8ba430a15d690000f", func := "parley/parleylaw02.DigestMarks", spec := "digestMarks", named := ["parley/digest.crcSteps"], apart := false, laid := [("parley/digest.crcSteps", laid_parley_digest_crcSteps)] }
def DigestMarksSaid : Prop := digestMarksRow.holds Tryd.pinned (OpenSpec.ofChange digestMarksSpec)

/-- ITS FALSE NEIGHBOUR: 'it returns false'. Refute it at one input. -/
def digestMarksWrong : ChangeSpec := { name := "digestMarks", fn := fun _ => fun
  | [d1, d2] => { results := [.lit (.bool false)], args := [d1, d2] }
  | _ => none }
def DigestMarksWrongFalsely : Prop := digestMarksRow.holds Tryd.pinned (OpenSpec.ofChange digestMarksWrong)

/-- 'parleylaw02.DigestTexts': WHATEVER THE INPUT: true; the input reads as it did. -/
def digestTextsSpec : ChangeSpec := { name := "digestTexts", fn := fun _ => fun
  | [d1, d2] => { results := [.lit (.bool true)], args := [d1, d2] }
  | _ => none }
def digestTextsRow : OpenClaim := { program := "ytfoajcphlanleaadoor", sum := "2a43392a452bcfed174f6840d521565a079743aa7a84e9a8ba430a15d690000f", func := "parley/parleylaw02.DigestTexts", spec := "digestTexts", named := ["parley/digest.crcSteps"], apart := false, laid := [("parley/digest.crcSteps", laid_parley_digest_crcSteps)] }
def DigestTextsSaid : Prop := digestTextsRow.holds Tryd.pinned (OpenSpec.ofChange digestTextsSpec)

/-- ITS FALSE NEIGHBOUR: 'it returns false'. Refute it at one input. -/
def digestTextsWrong : ChangeSpec := { name := "digestTexts", fn := fun _ => fun
  | [d1, d2] => { results := [.lit (.bool false)], args := [d1, d2] }
  | _ => none }
def DigestTextsWrongFalsely : Prop := digestTextsRow.holds Tryd.pinned (OpenSpec.ofChange digestTextsWrong)

/-- 'parleylaw02.DigestJoins': WHATEVER THE INPUT: true; the input reads as it did. -/
def digestJoinsSpec : ChangeSpec := { name := "digestJoins", fn := fun _ => fun
  | [d1, d2] => { results := [.lit (.bool true)], args := [d1, d2] }
  | _ => none }
def digestJoinsRow : OpenClaim := { program := "ytfoajcphlanleaadoor", sum := "2a43392a452bcfed174f6840d521565a079743aa7a84e9a8ba430a15d690000f", func := "parley/parleylaw02.DigestJoins", spec := "digestJoins", named := ["parley/digest.crcSteps"], apart := false, laid := [("parley/digest.crcSteps", laid_parley_digest_crcSteps)] }
def DigestJoinsSaid : Prop := digestJoinsRow.holds Tryd.pinned (OpenSpec.ofChange digestJoinsSpec)

/-- ITS FALSE NEIGHBOUR: 'it returns false'. Refute it at one input. -/
def digestJoinsWrong : ChangeSpec := { name := "digestJoins", fn := fun _ => fun
  | [d1, d2] => { results := [.lit (.bool false)], args := [d1, d2] }
  | _ => none }
def DigestJoinsWrongFalsely : Prop := digestJoinsRow.holds Tryd.pinned (OpenSpec.ofChange digestJoinsWrong)

/-- 'parleylaw02.DigestKeys': WHATEVER THE INPUT: true; the input reads as it did. -/
def digestKeysSpec : ChangeSpec := { name := "digestKeys", fn := fun _ => fun
  | [d1, d2] => { results := [.lit (.bool true)], args := [d1, d2] }
  | _ => none }
def digestKeysRow : OpenClaim := { program := "ytfoajcphlanleaadoor", sum := "2a43392a452bcfed174f6840d521565a079743aa7a84e9a8ba430a15d690000f", func := "parley/parleylaw02.DigestKeys", spec := "digestKeys", named := ["parley/digest.crcSteps"], apart := false, laid := [("parley/digest.crcSteps", laid_parley_digest_crcSteps)] }
def DigestKeysSaid : Prop := digestKeysRow.holds Tryd.pinned (OpenSpec.ofChange digestKeysSpec)

/-- ITS FALSE NEIGHBOUR: 'it returns false'. Refute it at one input. -/
def digestKeysWrong : ChangeSpec := { name := "digestKeys", fn := fun _ => fun
  | [d1, d2] => { results := [.lit (.bool false)], args := [d1, d2] }
  | _ => none }
def DigestKeysWrongFalsely : Prop := digestKeysRow.holds Tryd.pinned (OpenSpec.ofChange digestKeysWrong)

/- THE SECOND FORM. 'bulk': how many values and letters a reading holds, each counted each time it is reached (what is shared counts as often as it is met; a slice's spare places count too). A statement '..UptoSaid' is the law's where the arguments, and the package variables that the reading takes, are together of bulk at most 1048576: NARROWER than '..Said'. Prove '..Said' where nothing that the law and all that it calls make is longer than what came in: it says more and counts as full. Else prove '..UptoSaid'. A law counts once. -/
mutual
def uptoBulk {H : Type} : DataW H → Nat
  | .lit (.string bytes) => bytes.length + 1
  | .lit _ => 1
  | .nil => 1
  | .ptr d => uptoBulk d + 1
  | .slice elems spare => uptoBulkAll elems + uptoBulkAll spare + 1
  | .agg parts => uptoBulkAll parts + 1
  | .iface _ d => uptoBulk d + 1
  | .map entries => uptoBulkEntries entries + 1
  | .held _ => 1
def uptoBulkAll {H : Type} : List (DataW H) → Nat
  | [] => 0
  | d :: r => uptoBulk d + uptoBulkAll r
def uptoBulkEntries {H : Type} : List (Lit × DataW H) → Nat
  | [] => 0
  | x :: r => uptoBulkEntry x + uptoBulkEntries r
def uptoBulkEntry {H : Type} : Lit × DataW H → Nat
  | (.string bytes, d) => bytes.length + uptoBulk d + 1
  | (_, d) => uptoBulk d + 1
 end
def uptoSmall : (H : Type) → List (DataW H) → Bool := fun _ ds => decide (uptoBulkAll ds ≤ 1048576)
def OpenSpec.upto (s : _root_.Go.ChangeSpec) : _root_.Go.OpenSpec := { _root_.Go.OpenSpec.ofChange s with cond := some uptoSmall }

/-- 'parleylaw02.DigestCrcs', WHERE WHAT IT READS IS OF BULK AT MOST 1048576: true; the input reads as it did. -/
def digestCrcsUptoRow : OpenClaim := { program := "ytfoajcphlanleaadoor", sum := "2a43392a452bcfed174f6840d521565a079743aa7a84e9a8ba430a15d690000f", func := "parley/parleylaw02.DigestCrcs", spec := "digestCrcs", named := ["parley/digest.crcSteps"], apart := false, laid := [("parley/digest.crcSteps", laid_parley_digest_crcSteps)], narrowed := true }
def DigestCrcsUptoSaid : Prop := digestCrcsUptoRow.holds Tryd.pinned (OpenSpec.upto digestCrcsSpec)

/-- 'parleylaw02.DigestMarks', WHERE WHAT IT READS IS OF BULK AT MOST 1048576: true; the input reads as it did. -/
def digestMarksUptoRow : OpenClaim := { program := "ytfoajcphlanleaadoor", sum := "2a43392a452bcfed174f6840d521565a079743aa7a84e9a8ba430a15d690000f", func := "parley/parleylaw02.DigestMarks", spec := "digestMarks", named := ["parley/digest.crcSteps"], apart := false, laid := [("parley/digest.crcSteps", laid_parley_digest_crcSteps)], narrowed := true }
def DigestMarksUptoSaid : Prop := digestMarksUptoRow.holds Tryd.pinned (OpenSpec.upto digestMarksSpec)

/-- 'parleylaw02.DigestTexts', WHERE WHAT IT READS IS OF BULK AT MOST 1048576: true; the input reads as it did. -/
def digestTextsUptoRow : OpenClaim := { program := "ytfoajcphlanleaadoor", sum := "2a43392a452bcfed174f6840d521565a079743aa7a84e9a8ba430a15d690000f", func := "parley/parleylaw02.DigestTexts", spec := "digestTexts", named := ["parley/digest.crcSteps"], apart := false, laid := [("parley/digest.crcSteps", laid_parley_digest_crcSteps)], narrowed := true }
def DigestTextsUptoSaid : Prop := digestTextsUptoRow.holds Tryd.pinned (OpenSpec.upto digestTextsSpec)

/-- 'parleylaw02.DigestJoins', WHERE WHAT IT READS IS OF BULK AT MOST 1048576: true; the input reads as it did. -/
def digestJoinsUptoRow : OpenClaim := { program := "ytfoajcphlanleaadoor", sum := "2a43392a452bcfed174f6840d521565a079743aa7a84e9a8ba430a15d690000f", func := "parley/parleylaw02.DigestJoins", spec := "digestJoins", named := ["parley/digest.crcSteps"], apart := false, laid := [("parley/digest.crcSteps", laid_parley_digest_crcSteps)], narrowed := true }
def DigestJoinsUptoSaid : Prop := digestJoinsUptoRow.holds Tryd.pinned (OpenSpec.upto digestJoinsSpec)

/-- 'parleylaw02.DigestKeys', WHERE WHAT IT READS IS OF BULK AT MOST 1048576: true; the input reads as it did. -/
def digestKeysUptoRow : OpenClaim := { program := "ytfoajcphlanleaadoor", sum := "2a43392a452bcfed174f6840d521565a079743aa7a84e9a8ba430a15d690000f", func := "parley/parleylaw02.DigestKeys", spec := "digestKeys", named := ["parley/digest.crcSteps"], apart := false, laid := [("parley/digest.crcSteps", laid_parley_digest_crcSteps)], narrowed := true }
def DigestKeysUptoSaid : Prop := digestKeysUptoRow.holds Tryd.pinned (OpenSpec.upto digestKeysSpec)

end Rows
end Go.Proofs.YtfoajcphlanleaaDoor
