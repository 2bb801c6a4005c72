/-
  NARROWER THAN 'FOR EVERY INPUT', by the rows' own cells (each row's printed sentence says how): FrameEncodes: laid · FrameChains: laid · FrameBits: laid · FrameAlone: laid · ParleyBlocks: laid.
  DERIVED. THE GIVEN ROWS OF THIS SEAT. 5 by the template 'for every input the law returns true; each argument reads behind the call as it read before'; 0 by the template 'total and deterministic' (their statements: YtjdhffbingeakaaDoorTotals.lean).
  GIVEN WITH THE SEED: the statements are not yours to turn. If you find one false, say at which input.
  Laid BY PROGRAM, IN A SANDBOX (cutbox-rows.mjs): the forced cells as the released guide's own fill.sh prints them over the translation a01a407eaf38fb98… (all of the seat's roots in one cut). By AI agents, Wed Nov 11 2026. No macro, syntax, notation, axiom, sorry.
-/
import Derived.Test.YtjdhffbingeakaaDoorChecked
import GoSem.Claim
import GoSem.ClaimJoined
import GoSem.ClaimMapViews
import Derived.JoinedTies
import Derived.KernelRfl
namespace Go.Proofs.YtjdhffbingeakaaDoor
/- THE CELL 'sum', in the pinned program and in every row, IS THE sha256 OF THE DUMP (.gsa) THAT YtjdhffbingeakaaDoorProg.lean LOADS. Nothing in Lean hashes anything: it is a label: what it is worth is what the hold of that sum in a sandbox is worth. -/
noncomputable def Tryd.pinned : Pinned := { name := "ytjdhffbingeakaadoor", sum := "a01a407eaf38fb98a0a22120f04f79f2cc367899d49825bbecb609ae08b443f0", checked := Tryd.checked }
namespace Rows
def none {H : Type} : Left H := { results := [], args := [] }

/- WHAT THE LISTED PACKAGE-LEVEL VARIABLES READ AS WHEN THE CALL BEGINS. Each datum BY PROGRAM (the guide's laid-datum.mjs) off the statement by which the dump's own 'gosem.cut.vars' lays the variable. In a bare row this is a premise. The card (YtjdhffbingeakaaDoorCards.lean) ties it to the program's text. -/
def laid_parley_digest_crcSteps {H : Type} : DataW H := .agg [.lit (.int .u32 0), .lit (.int .u32 498536548), .lit (.int .u32 997073096), .lit (.int .u32 651767980), .lit (.int .u32 1994146192), .lit (.int .u32 1802195444), .lit (.int .u32 1303535960), .lit (.int .u32 1342533948), .lit (.int .u32 3988292384), .lit (.int .u32 4027552580), .lit (.int .u32 3604390888), .lit (.int .u32 3412177804), .lit (.int .u32 2607071920), .lit (.int .u32 2262029012), .lit (.int .u32 2685067896), .lit (.int .u32 3183342108)]

/-- 'parleylaw04.FrameEncodes': WHATEVER THE INPUT: true; the input reads as it did. -/
def frameEncodesSpec : ChangeSpec := { name := "frameEncodes", fn := fun _ => fun
  | [d1, d2, d3, d4] => { results := [.lit (.bool true)], args := [d1, d2, d3, d4] }
  | _ => none }
def frameEncodesRow : OpenClaim := { program := "ytjdhffbingeakaadoor", sum := "a01a407eaf38fb98a0a22120f04f79f2cc367899d49825bbecb609ae08b443f0", func := "parley/parleylaw04.FrameEncodes", spec := "frameEncodes", named := ["parley/digest.crcSteps"], apart := false, laid := [("parley/digest.crcSteps", laid_parley_digest_crcSteps)] }
def FrameEncodesSaid : Prop := frameEncodesRow.holds Tryd.pinned (OpenSpec.ofChange frameEncodesSpec)

/-- ITS FALSE NEIGHBOUR: 'it returns false'. Refute it at one input. -/
def frameEncodesWrong : ChangeSpec := { name := "frameEncodes", fn := fun _ => fun
  | [d1, d2, d3, d4] => { results := [.lit (.bool false)], args := [d1, d2, d3, d4] }
  | _ => none }
def FrameEncodesWrongFalsely : Prop := frameEncodesRow.holds Tryd.pinned (OpenSpec.ofChange frameEncodesWrong)

/-- 'parleylaw04.FrameChains': WHATEVER THE INPUT: true; the input reads as it did. -/
def frameChainsSpec : ChangeSpec := { name := "frameChains", fn := fun _ => fun
  | [d1, d2] => { results := [.lit (.bool true)], args := [d1, d2] }
  | _ => none }
def frameChainsRow : OpenClaim := { program := "ytjdhffbingeakaadoor", sum := "a01a407eaf38fb98a0a22120f04f79f2cc367899d49825bbecb609ae08b443f0", func := "parley/parleylaw04.FrameChains", spec := "frameChains", named := ["parley/digest.crcSteps"], apart := false, laid := [("parley/digest.crcSteps", laid_parley_digest_crcSteps)] }
def FrameChainsSaid : Prop := frameChainsRow.holds Tryd.pinned (OpenSpec.ofChange frameChainsSpec)

/-- ITS FALSE NEIGHBOUR: 'it returns false'. Refute it at one input. -/
def frameChainsWrong : ChangeSpec := { name := "frameChains", fn := fun _ => fun
  | [d1, d2] => { results := [.lit (.bool false)], args := [d1, d2] }
  | _ => none }
def FrameChainsWrongFalsely : Prop := frameChainsRow.holds Tryd.pinned (OpenSpec.ofChange frameChainsWrong)

/-- 'parleylaw04.FrameBits': WHATEVER THE INPUT: true; the input reads as it did. -/
def frameBitsSpec : ChangeSpec := { name := "frameBits", fn := fun _ => fun
  | [d1, d2, d3, d4, d5] => { results := [.lit (.bool true)], args := [d1, d2, d3, d4, d5] }
  | _ => none }
def frameBitsRow : OpenClaim := { program := "ytjdhffbingeakaadoor", sum := "a01a407eaf38fb98a0a22120f04f79f2cc367899d49825bbecb609ae08b443f0", func := "parley/parleylaw04.FrameBits", spec := "frameBits", named := ["parley/digest.crcSteps"], apart := false, laid := [("parley/digest.crcSteps", laid_parley_digest_crcSteps)] }
def FrameBitsSaid : Prop := frameBitsRow.holds Tryd.pinned (OpenSpec.ofChange frameBitsSpec)

/-- ITS FALSE NEIGHBOUR: 'it returns false'. Refute it at one input. -/
def frameBitsWrong : ChangeSpec := { name := "frameBits", fn := fun _ => fun
  | [d1, d2, d3, d4, d5] => { results := [.lit (.bool false)], args := [d1, d2, d3, d4, d5] }
  | _ => none }
def FrameBitsWrongFalsely : Prop := frameBitsRow.holds Tryd.pinned (OpenSpec.ofChange frameBitsWrong)

/-- 'parleylaw04.FrameAlone': WHATEVER THE INPUT: true; the input reads as it did. -/
def frameAloneSpec : ChangeSpec := { name := "frameAlone", fn := fun _ => fun
  | [d1, d2, d3, d4] => { results := [.lit (.bool true)], args := [d1, d2, d3, d4] }
  | _ => none }
def frameAloneRow : OpenClaim := { program := "ytjdhffbingeakaadoor", sum := "a01a407eaf38fb98a0a22120f04f79f2cc367899d49825bbecb609ae08b443f0", func := "parley/parleylaw04.FrameAlone", spec := "frameAlone", named := ["parley/digest.crcSteps"], apart := false, laid := [("parley/digest.crcSteps", laid_parley_digest_crcSteps)] }
def FrameAloneSaid : Prop := frameAloneRow.holds Tryd.pinned (OpenSpec.ofChange frameAloneSpec)

/-- ITS FALSE NEIGHBOUR: 'it returns false'. Refute it at one input. -/
def frameAloneWrong : ChangeSpec := { name := "frameAlone", fn := fun _ => fun
  | [d1, d2, d3, d4] => { results := [.lit (.bool false)], args := [d1, d2, d3, d4] }
  | _ => none }
def FrameAloneWrongFalsely : Prop := frameAloneRow.holds Tryd.pinned (OpenSpec.ofChange frameAloneWrong)

/-- 'parleytop.ParleyBlocks': WHATEVER THE INPUT: true; the input reads as it did. -/
def parleyBlocksSpec : ChangeSpec := { name := "parleyBlocks", fn := fun _ => fun
  | [d1, d2, d3, d4, d5, d6] => { results := [.lit (.bool true)], args := [d1, d2, d3, d4, d5, d6] }
  | _ => none }
def parleyBlocksRow : OpenClaim := { program := "ytjdhffbingeakaadoor", sum := "a01a407eaf38fb98a0a22120f04f79f2cc367899d49825bbecb609ae08b443f0", func := "parley/parleytop.ParleyBlocks", spec := "parleyBlocks", named := ["parley/digest.crcSteps"], apart := false, laid := [("parley/digest.crcSteps", laid_parley_digest_crcSteps)] }
def ParleyBlocksSaid : Prop := parleyBlocksRow.holds Tryd.pinned (OpenSpec.ofChange parleyBlocksSpec)

/-- ITS FALSE NEIGHBOUR: 'it returns false'. Refute it at one input. -/
def parleyBlocksWrong : ChangeSpec := { name := "parleyBlocks", fn := fun _ => fun
  | [d1, d2, d3, d4, d5, d6] => { results := [.lit (.bool false)], args := [d1, d2, d3, d4, d5, d6] }
  | _ => none }
def ParleyBlocksWrongFalsely : Prop := parleyBlocksRow.holds Tryd.pinned (OpenSpec.ofChange parleyBlocksWrong)

/- THE SECOND FORM. 'bulk': how many values and letters a reading holds, each counted each time it is reached (what is shared counts as often as it is met; a slice's spare places count too). A statement '..UptoSaid' is the law's where the arguments, and the package variables that the reading takes, are together of bulk at most 1048576: NARROWER than '..Said'. Prove '..Said' where nothing that the law and all that it calls make is longer than what came in: it says more and counts as full. Else prove '..UptoSaid'. A law counts once. -/
mutual
def uptoBulk {H : Type} : DataW H → Nat
  | .lit (.string bytes) => bytes.length + 1
  | .lit _ => 1
  | .nil => 1
  | .ptr d => uptoBulk d + 1
  | .slice elems spare => uptoBulkAll elems + uptoBulkAll spare + 1
  | .agg parts => uptoBulkAll parts + 1
  | .iface _ d => uptoBulk d + 1
  | .map entries => uptoBulkEntries entries + 1
  | .held _ => 1
def uptoBulkAll {H : Type} : List (DataW H) → Nat
  | [] => 0
  | d :: r => uptoBulk d + uptoBulkAll r
def uptoBulkEntries {H : Type} : List (Lit × DataW H) → Nat
  | [] => 0
  | x :: r => uptoBulkEntry x + uptoBulkEntries r
def uptoBulkEntry {H : Type} : Lit × DataW H → Nat
  | (.string bytes, d) => bytes.length + uptoBulk d + 1
  | (_, d) => uptoBulk d + 1
 end
def uptoSmall : (H : Type) → List (DataW H) → Bool := fun _ ds => decide (uptoBulkAll ds ≤ 1048576)
def OpenSpec.upto (s : _root_.Go.ChangeSpec) : _root_.Go.OpenSpec := { _root_.Go.OpenSpec.ofChange s with cond := some uptoSmall }

/-- 'parleylaw04.FrameEncodes', WHERE WHAT IT READS IS OF BULK AT MOST 1048576: true; the input reads as it did. -/
def frameEncodesUptoRow : OpenClaim := { program := "ytjdhffbingeakaadoor", sum := "a01a407eaf38fb98a0a22120f04f79f2cc367899d49825bbecb609ae08b443f0", func := "parley/parleylaw04.FrameEncodes", spec := "frameEncodes", named := ["parley/digest.crcSteps"], apart := false, laid := [("parley/digest.crcSteps", laid_parley_digest_crcSteps)], narrowed := true }
def FrameEncodesUptoSaid : Prop := frameEncodesUptoRow.holds Tryd.pinned (OpenSpec.upto frameEncodesSpec)

/-- 'parleylaw04.FrameChains', WHERE WHAT IT READS IS OF BULK AT MOST 1048576: true; the input reads as it did. -/
def frameChainsUptoRow : OpenClaim := { program := "ytjdhffbingeakaadoor", sum := "a01a407eaf38fb98a0a22120f04f79f2cc367899d49825bbecb609ae08b443f0", func := "parley/parleylaw04.FrameChains", spec := "frameChains", named := ["parley/digest.crcSteps"], apart := false, laid := [("parley/digest.crcSteps", laid_parley_digest_crcSteps)], narrowed := true }
def FrameChainsUptoSaid : Prop := frameChainsUptoRow.holds Tryd.pinned (OpenSpec.upto frameChainsSpec)

/-- 'parleylaw04.FrameBits', WHERE WHAT IT READS IS OF BULK AT MOST 1048576: true; the input reads as it did. -/
def frameBitsUptoRow : OpenClaim := { program := "ytjdhffbingeakaadoor", sum := "a01a407eaf38fb98a0a22120f04f79f2cc367899d49825bbecb609ae08b443f0", func := "parley/parleylaw04.FrameBits", spec := "frameBits", named := ["parley/digest.crcSteps"], apart := false, laid := [("parley/digest.crcSteps", laid_parley_digest_crcSteps)], narrowed := true }
def FrameBitsUptoSaid : Prop := frameBitsUptoRow.holds Tryd.pinned (OpenSpec.upto frameBitsSpec)

/-- 'parleylaw04.FrameAlone', WHERE WHAT IT READS IS OF BULK AT MOST 1048576: true; the input reads as it did. -/
def frameAloneUptoRow : OpenClaim := { program := "ytjdhffbingeakaadoor", sum := "a01a407eaf38fb98a0a22120f04f79f2cc367899d49825bbecb609ae08b443f0", func := "parley/parleylaw04.FrameAlone", spec := "frameAlone", named := ["parley/digest.crcSteps"], apart := false, laid := [("parley/digest.crcSteps", laid_parley_digest_crcSteps)], narrowed := true }
def FrameAloneUptoSaid : Prop := frameAloneUptoRow.holds Tryd.pinned (OpenSpec.upto frameAloneSpec)

/-- 'parleytop.ParleyBlocks', WHERE WHAT IT READS IS OF BULK AT MOST 1048576: true; the input reads as it did. -/
def parleyBlocksUptoRow : OpenClaim := { program := "ytjdhffbingeakaadoor", sum := "a01a407eaf38fb98a0a22120f04f79f2cc367899d49825bbecb609ae08b443f0", func := "parley/parleytop.ParleyBlocks", spec := "parleyBlocks", named := ["parley/digest.crcSteps"], apart := false, laid := [("parley/digest.crcSteps", laid_parley_digest_crcSteps)], narrowed := true }
def ParleyBlocksUptoSaid : Prop := parleyBlocksUptoRow.holds Tryd.pinned (OpenSpec.upto parleyBlocksSpec)

end Rows
end Go.Proofs.YtjdhffbingeakaaDoor
