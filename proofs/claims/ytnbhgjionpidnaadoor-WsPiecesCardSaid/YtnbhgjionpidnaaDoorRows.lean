/-
  NARROWER THAN 'FOR EVERY INPUT', by the rows' own cells (each row's printed sentence says how): WsFrames: laid · WsReads: laid · WsPieces: laid · WsBack: laid · WsMasks: laid · WsBehind: laid.
  DERIVED. THE GIVEN ROWS OF THIS SEAT. 6 by the template 'for every input the law returns true; each argument reads behind the call as it read before'; 0 by the template 'total and deterministic' (their statements: YtnbhgjionpidnaaDoorTotals.lean).
  GIVEN WITH THE SEED: the statements are not yours to turn. If you find one false, say at which input.
  Laid BY PROGRAM, IN A SANDBOX (cutbox-rows.mjs): the forced cells as the released guide's own fill.sh prints them over the translation 2d59a3b1d079a95a… (all of the seat's roots in one cut). By AI agents, Wed Nov 11 2026. No macro, syntax, notation, axiom, sorry.
-/
import Derived.Test.YtnbhgjionpidnaaDoorChecked
import GoSem.PinnedTables
import GoSem.Claim
import GoSem.ClaimJoined
import GoSem.ClaimMapViews
import Derived.JoinedTies
import Derived.KernelRfl
namespace Go.Proofs.YtnbhgjionpidnaaDoor
/- THE CELL 'sum', in the pinned program and in every row, IS THE sha256 OF THE DUMP (.gsa) THAT YtnbhgjionpidnaaDoorProg.lean LOADS. Nothing in Lean hashes anything: it is a label: what it is worth is what the hold of that sum in a sandbox is worth. -/
noncomputable def Tryd.pinned : Pinned := { name := "ytnbhgjionpidnaadoor", sum := "2d59a3b1d079a95a0eaa820b9ecd1407d6d81231b2b8216b4ecd0a022906e9f4", checked := Tryd.checked }
namespace Rows
def none {H : Type} : Left H := { results := [], args := [] }

/- WHAT THE LISTED PACKAGE-LEVEL VARIABLES READ AS WHEN THE CALL BEGINS. Each datum BY PROGRAM (the guide's laid-datum.mjs) off the statement by which the dump's own 'gosem.cut.vars' lays the variable. In a bare row this is a premise. The card (YtnbhgjionpidnaaDoorCards.lean) ties it to the program's text. -/
def laid_unicode_utf8_acceptRanges {H : Type} : DataW H := .agg [.agg [.lit (.int .u8 128), .lit (.int .u8 191)], .agg [.lit (.int .u8 160), .lit (.int .u8 191)], .agg [.lit (.int .u8 128), .lit (.int .u8 159)], .agg [.lit (.int .u8 144), .lit (.int .u8 191)], .agg [.lit (.int .u8 128), .lit (.int .u8 143)], .agg [.lit (.int .u8 0), .lit (.int .u8 0)], .agg [.lit (.int .u8 0), .lit (.int .u8 0)], .agg [.lit (.int .u8 0), .lit (.int .u8 0)], .agg [.lit (.int .u8 0), .lit (.int .u8 0)], .agg [.lit (.int .u8 0), .lit (.int .u8 0)], .agg [.lit (.int .u8 0), .lit (.int .u8 0)], .agg [.lit (.int .u8 0), .lit (.int .u8 0)], .agg [.lit (.int .u8 0), .lit (.int .u8 0)], .agg [.lit (.int .u8 0), .lit (.int .u8 0)], .agg [.lit (.int .u8 0), .lit (.int .u8 0)], .agg [.lit (.int .u8 0), .lit (.int .u8 0)]]
/-- One of Go's own tables, pinned by name: the form's constant. -/
def laid_unicode_utf8_first : DataW Unit := Go.Pinned.utf8First

/-- 'parleylaw22.WsFrames': WHATEVER THE INPUT: true; the input reads as it did. -/
def wsFramesSpec : ChangeSpec := { name := "wsFrames", fn := fun _ => fun
  | [d1, d2, d3] => { results := [.lit (.bool true)], args := [d1, d2, d3] }
  | _ => none }
def wsFramesRow : OpenClaim := { program := "ytnbhgjionpidnaadoor", sum := "2d59a3b1d079a95a0eaa820b9ecd1407d6d81231b2b8216b4ecd0a022906e9f4", func := "parley/parleylaw22.WsFrames", spec := "wsFrames", unfollowed := true, recurses := true, named := ["unicode/utf8.first", "unicode/utf8.acceptRanges"], apart := false, laid := [("unicode/utf8.acceptRanges", laid_unicode_utf8_acceptRanges), ("unicode/utf8.first", laid_unicode_utf8_first)] }
def WsFramesSaid : Prop := wsFramesRow.holds Tryd.pinned (OpenSpec.ofChange wsFramesSpec)

/-- ITS FALSE NEIGHBOUR: 'it returns false'. Refute it at one input. -/
def wsFramesWrong : ChangeSpec := { name := "wsFrames", fn := fun _ => fun
  | [d1, d2, d3] => { results := [.lit (.bool false)], args := [d1, d2, d3] }
  | _ => none }
def WsFramesWrongFalsely : Prop := wsFramesRow.holds Tryd.pinned (OpenSpec.ofChange wsFramesWrong)

/-- 'parleylaw22.WsReads': WHATEVER THE INPUT: true; the input reads as it did. -/
def wsReadsSpec : ChangeSpec := { name := "wsReads", fn := fun _ => fun
  | [d1, d2] => { results := [.lit (.bool true)], args := [d1, d2] }
  | _ => none }
def wsReadsRow : OpenClaim := { program := "ytnbhgjionpidnaadoor", sum := "2d59a3b1d079a95a0eaa820b9ecd1407d6d81231b2b8216b4ecd0a022906e9f4", func := "parley/parleylaw22.WsReads", spec := "wsReads", unfollowed := true, recurses := true, named := ["unicode/utf8.first", "unicode/utf8.acceptRanges"], apart := false, laid := [("unicode/utf8.acceptRanges", laid_unicode_utf8_acceptRanges), ("unicode/utf8.first", laid_unicode_utf8_first)] }
def WsReadsSaid : Prop := wsReadsRow.holds Tryd.pinned (OpenSpec.ofChange wsReadsSpec)

/-- ITS FALSE NEIGHBOUR: 'it returns false'. Refute it at one input. -/
def wsReadsWrong : ChangeSpec := { name := "wsReads", fn := fun _ => fun
  | [d1, d2] => { results := [.lit (.bool false)], args := [d1, d2] }
  | _ => none }
def WsReadsWrongFalsely : Prop := wsReadsRow.holds Tryd.pinned (OpenSpec.ofChange wsReadsWrong)

/-- 'parleylaw22.WsPieces': WHATEVER THE INPUT: true; the input reads as it did. -/
def wsPiecesSpec : ChangeSpec := { name := "wsPieces", fn := fun _ => fun
  | [d1, d2, d3] => { results := [.lit (.bool true)], args := [d1, d2, d3] }
  | _ => none }
def wsPiecesRow : OpenClaim := { program := "ytnbhgjionpidnaadoor", sum := "2d59a3b1d079a95a0eaa820b9ecd1407d6d81231b2b8216b4ecd0a022906e9f4", func := "parley/parleylaw22.WsPieces", spec := "wsPieces", unfollowed := true, recurses := true, named := ["unicode/utf8.first", "unicode/utf8.acceptRanges"], apart := false, laid := [("unicode/utf8.acceptRanges", laid_unicode_utf8_acceptRanges), ("unicode/utf8.first", laid_unicode_utf8_first)] }
def WsPiecesSaid : Prop := wsPiecesRow.holds Tryd.pinned (OpenSpec.ofChange wsPiecesSpec)

/-- ITS FALSE NEIGHBOUR: 'it returns false'. Refute it at one input. -/
def wsPiecesWrong : ChangeSpec := { name := "wsPieces", fn := fun _ => fun
  | [d1, d2, d3] => { results := [.lit (.bool false)], args := [d1, d2, d3] }
  | _ => none }
def WsPiecesWrongFalsely : Prop := wsPiecesRow.holds Tryd.pinned (OpenSpec.ofChange wsPiecesWrong)

/-- 'parleylaw22.WsBack': WHATEVER THE INPUT: true; the input reads as it did. -/
def wsBackSpec : ChangeSpec := { name := "wsBack", fn := fun _ => fun
  | [d1, d2, d3, d4, d5] => { results := [.lit (.bool true)], args := [d1, d2, d3, d4, d5] }
  | _ => none }
def wsBackRow : OpenClaim := { program := "ytnbhgjionpidnaadoor", sum := "2d59a3b1d079a95a0eaa820b9ecd1407d6d81231b2b8216b4ecd0a022906e9f4", func := "parley/parleylaw22.WsBack", spec := "wsBack", unfollowed := true, recurses := true, named := ["unicode/utf8.first", "unicode/utf8.acceptRanges"], apart := false, laid := [("unicode/utf8.acceptRanges", laid_unicode_utf8_acceptRanges), ("unicode/utf8.first", laid_unicode_utf8_first)] }
def WsBackSaid : Prop := wsBackRow.holds Tryd.pinned (OpenSpec.ofChange wsBackSpec)

/-- ITS FALSE NEIGHBOUR: 'it returns false'. Refute it at one input. -/
def wsBackWrong : ChangeSpec := { name := "wsBack", fn := fun _ => fun
  | [d1, d2, d3, d4, d5] => { results := [.lit (.bool false)], args := [d1, d2, d3, d4, d5] }
  | _ => none }
def WsBackWrongFalsely : Prop := wsBackRow.holds Tryd.pinned (OpenSpec.ofChange wsBackWrong)

/-- 'parleylaw22.WsMasks': WHATEVER THE INPUT: true; the input reads as it did. -/
def wsMasksSpec : ChangeSpec := { name := "wsMasks", fn := fun _ => fun
  | [d1, d2, d3] => { results := [.lit (.bool true)], args := [d1, d2, d3] }
  | _ => none }
def wsMasksRow : OpenClaim := { program := "ytnbhgjionpidnaadoor", sum := "2d59a3b1d079a95a0eaa820b9ecd1407d6d81231b2b8216b4ecd0a022906e9f4", func := "parley/parleylaw22.WsMasks", spec := "wsMasks", unfollowed := true, recurses := true, named := ["unicode/utf8.first", "unicode/utf8.acceptRanges"], apart := false, laid := [("unicode/utf8.acceptRanges", laid_unicode_utf8_acceptRanges), ("unicode/utf8.first", laid_unicode_utf8_first)] }
def WsMasksSaid : Prop := wsMasksRow.holds Tryd.pinned (OpenSpec.ofChange wsMasksSpec)

/-- ITS FALSE NEIGHBOUR: 'it returns false'. Refute it at one input. -/
def wsMasksWrong : ChangeSpec := { name := "wsMasks", fn := fun _ => fun
  | [d1, d2, d3] => { results := [.lit (.bool false)], args := [d1, d2, d3] }
  | _ => none }
def WsMasksWrongFalsely : Prop := wsMasksRow.holds Tryd.pinned (OpenSpec.ofChange wsMasksWrong)

/-- 'parleylaw22.WsBehind': WHATEVER THE INPUT: true; the input reads as it did. -/
def wsBehindSpec : ChangeSpec := { name := "wsBehind", fn := fun _ => fun
  | [d1, d2, d3] => { results := [.lit (.bool true)], args := [d1, d2, d3] }
  | _ => none }
def wsBehindRow : OpenClaim := { program := "ytnbhgjionpidnaadoor", sum := "2d59a3b1d079a95a0eaa820b9ecd1407d6d81231b2b8216b4ecd0a022906e9f4", func := "parley/parleylaw22.WsBehind", spec := "wsBehind", unfollowed := true, recurses := true, named := ["unicode/utf8.first", "unicode/utf8.acceptRanges"], apart := false, laid := [("unicode/utf8.acceptRanges", laid_unicode_utf8_acceptRanges), ("unicode/utf8.first", laid_unicode_utf8_first)] }
def WsBehindSaid : Prop := wsBehindRow.holds Tryd.pinned (OpenSpec.ofChange wsBehindSpec)

/-- ITS FALSE NEIGHBOUR: 'it returns false'. Refute it at one input. -/
def wsBehindWrong : ChangeSpec := { name := "wsBehind", fn := fun _ => fun
  | [d1, d2, d3] => { results := [.lit (.bool false)], args := [d1, d2, d3] }
  | _ => none }
def WsBehindWrongFalsely : Prop := wsBehindRow.holds Tryd.pinned (OpenSpec.ofChange wsBehindWrong)

/- THE SECOND FORM. 'bulk': how many values and letters a reading holds, each counted each time it is reached (what is shared counts as often as it is met; a slice's spare places count too). A statement '..UptoSaid' is the law's where the arguments, and the package variables that the reading takes, are together of bulk at most 1048576: NARROWER than '..Said'. Prove '..Said' where nothing that the law and all that it calls make is longer than what came in: it says more and counts as full. Else prove '..UptoSaid'. A law counts once. -/
mutual
def uptoBulk {H : Type} : DataW H → Nat
  | .lit (.string bytes) => bytes.length + 1
  | .lit _ => 1
  | .nil => 1
  | .ptr d => uptoBulk d + 1
  | .slice elems spare => uptoBulkAll elems + uptoBulkAll spare + 1
  | .agg parts => uptoBulkAll parts + 1
  | .iface _ d => uptoBulk d + 1
  | .map entries => uptoBulkEntries entries + 1
  | .held _ => 1
def uptoBulkAll {H : Type} : List (DataW H) → Nat
  | [] => 0
  | d :: r => uptoBulk d + uptoBulkAll r
def uptoBulkEntries {H : Type} : List (Lit × DataW H) → Nat
  | [] => 0
  | x :: r => uptoBulkEntry x + uptoBulkEntries r
def uptoBulkEntry {H : Type} : Lit × DataW H → Nat
  | (.string bytes, d) => bytes.length + uptoBulk d + 1
  | (_, d) => uptoBulk d + 1
 end
def uptoSmall : (H : Type) → List (DataW H) → Bool := fun _ ds => decide (uptoBulkAll ds ≤ 1048576)
def OpenSpec.upto (s : _root_.Go.ChangeSpec) : _root_.Go.OpenSpec := { _root_.Go.OpenSpec.ofChange s with cond := some uptoSmall }

/-- 'parleylaw22.WsFrames', WHERE WHAT IT READS IS OF BULK AT MOST 1048576: true; the input reads as it did. -/
def wsFramesUptoRow : OpenClaim := { program := "ytnbhgjionpidnaadoor", sum := "2d59a3b1d079a95a0eaa820b9ecd1407d6d81231b2b8216b4ecd0a022906e9f4", func := "parley/parleylaw22.WsFrames", spec := "wsFrames", unfollowed := true, recurses := true, named := ["unicode/utf8.first", "unicode/utf8.acceptRanges"], apart := false, laid := [("unicode/utf8.acceptRanges", laid_unicode_utf8_acceptRanges), ("unicode/utf8.first", laid_unicode_utf8_first)], narrowed := true }
def WsFramesUptoSaid : Prop := wsFramesUptoRow.holds Tryd.pinned (OpenSpec.upto wsFramesSpec)

/-- 'parleylaw22.WsReads', WHERE WHAT IT READS IS OF BULK AT MOST 1048576: true; the input reads as it did. -/
def wsReadsUptoRow : OpenClaim := { program := "ytnbhgjionpidnaadoor", sum := "2d59a3b1d079a95a0eaa820b9ecd1407d6d81231b2b8216b4ecd0a022906e9f4", func := "parley/parleylaw22.WsReads", spec := "wsReads", unfollowed := true, recurses := true, named := ["unicode/utf8.first", "unicode/utf8.acceptRanges"], apart := false, laid := [("unicode/utf8.acceptRanges", laid_unicode_utf8_acceptRanges), ("unicode/utf8.first", laid_unicode_utf8_first)], narrowed := true }
def WsReadsUptoSaid : Prop := wsReadsUptoRow.holds Tryd.pinned (OpenSpec.upto wsReadsSpec)

/-- 'parleylaw22.WsPieces', WHERE WHAT IT READS IS OF BULK AT MOST 1048576: true; the input reads as it did. -/
def wsPiecesUptoRow : OpenClaim := { program := "ytnbhgjionpidnaadoor", sum := "2d59a3b1d079a95a0eaa820b9ecd1407d6d81231b2b8216b4ecd0a022906e9f4", func := "parley/parleylaw22.WsPieces", spec := "wsPieces", unfollowed := true, recurses := true, named := ["unicode/utf8.first", "unicode/utf8.acceptRanges"], apart := false, laid := [("unicode/utf8.acceptRanges", laid_unicode_utf8_acceptRanges), ("unicode/utf8.first", laid_unicode_utf8_first)], narrowed := true }
def WsPiecesUptoSaid : Prop := wsPiecesUptoRow.holds Tryd.pinned (OpenSpec.upto wsPiecesSpec)

/-- 'parleylaw22.WsBack', WHERE WHAT IT READS IS OF BULK AT MOST 1048576: true; the input reads as it did. -/
def wsBackUptoRow : OpenClaim := { program := "ytnbhgjionpidnaadoor", sum := "2d59a3b1d079a95a0eaa820b9ecd1407d6d81231b2b8216b4ecd0a022906e9f4", func := "parley/parleylaw22.WsBack", spec := "wsBack", unfollowed := true, recurses := true, named := ["unicode/utf8.first", "unicode/utf8.acceptRanges"], apart := false, laid := [("unicode/utf8.acceptRanges", laid_unicode_utf8_acceptRanges), ("unicode/utf8.first", laid_unicode_utf8_first)], narrowed := true }
def WsBackUptoSaid : Prop := wsBackUptoRow.holds Tryd.pinned (OpenSpec.upto wsBackSpec)

/-- 'parleylaw22.WsMasks', WHERE WHAT IT READS IS OF BULK AT MOST 1048576: true; the input reads as it did. -/
def wsMasksUptoRow : OpenClaim := { program := "ytnbhgjionpidnaadoor", sum := "2d59a3b1d079a95a0eaa820b9ecd1407d6d81231b2b8216b4ecd0a022906e9f4", func := "parley/parleylaw22.WsMasks", spec := "wsMasks", unfollowed := true, recurses := true, named := ["unicode/utf8.first", "unicode/utf8.acceptRanges"], apart := false, laid := [("unicode/utf8.acceptRanges", laid_unicode_utf8_acceptRanges), ("unicode/utf8.first", laid_unicode_utf8_first)], narrowed := true }
def WsMasksUptoSaid : Prop := wsMasksUptoRow.holds Tryd.pinned (OpenSpec.upto wsMasksSpec)

/-- 'parleylaw22.WsBehind', WHERE WHAT IT READS IS OF BULK AT MOST 1048576: true; the input reads as it did. -/
def wsBehindUptoRow : OpenClaim := { program := "ytnbhgjionpidnaadoor", sum := "2d59a3b1d079a95a0eaa820b9ecd1407d6d81231b2b8216b4ecd0a022906e9f4", func := "parley/parleylaw22.WsBehind", spec := "wsBehind", unfollowed := true, recurses := true, named := ["unicode/utf8.first", "unicode/utf8.acceptRanges"], apart := false, laid := [("unicode/utf8.acceptRanges", laid_unicode_utf8_acceptRanges), ("unicode/utf8.first", laid_unicode_utf8_first)], narrowed := true }
def WsBehindUptoSaid : Prop := wsBehindUptoRow.holds Tryd.pinned (OpenSpec.upto wsBehindSpec)

end Rows
end Go.Proofs.YtnbhgjionpidnaaDoor
