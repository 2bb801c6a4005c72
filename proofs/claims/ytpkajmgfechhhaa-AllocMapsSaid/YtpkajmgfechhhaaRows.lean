/-
  No cell of these rows narrows 'for every input' (looked for: loops, veiled, ifaces, maps, wideKeys, modest, calm, conditions, laid).
  DERIVED. THE GIVEN ROWS OF THIS SEAT. 5 by the template 'for every input the law returns true; each argument reads behind the call as it read before'; 0 by the template 'total and deterministic' (their statements: YtpkajmgfechhhaaTotals.lean).
  GIVEN WITH THE SEED: the statements are not yours to turn. If you find one false, say at which input.
  Laid BY PROGRAM, IN A SANDBOX (cutbox-rows.mjs): the forced cells as the released guide's own fill.sh prints them over the translation 200ddaefa4217541… (all of the seat's roots in one cut). By AI agents, Wed Nov 11 2026. No macro, syntax, notation, axiom, sorry.
-/
import Derived.Test.YtpkajmgfechhhaaChecked
import GoSem.Claim
import GoSem.ClaimJoined
import GoSem.ClaimMapViews
import Derived.JoinedTies
import Derived.KernelRfl
namespace Go.Proofs.Ytpkajmgfechhhaa
/- THE CELL 'sum', in the pinned program and in every row, IS THE sha256 OF THE DUMP (.gsa) THAT YtpkajmgfechhhaaProg.lean LOADS. Nothing in Lean hashes anything: it is a label: what it is worth is what the hold of that sum in a sandbox is worth. -/
noncomputable def Try.pinned : Pinned := { name := "ytpkajmgfechhhaa", sum := "200ddaefa4217541f9426cfdb31ec5bb1101898279ccf9fcf63ced2c351edf27", checked := Try.checked }
namespace Rows
def none {H : Type} : Left H := { results := [], args := [] }

/-- 'parleylaw06.AllocMaps': WHATEVER THE INPUT: true; the input reads as it did. -/
def allocMapsSpec : ChangeSpec := { name := "allocMaps", fn := fun _ => fun
  | [d1, d2] => { results := [.lit (.bool true)], args := [d1, d2] }
  | _ => none }
def allocMapsRow : OpenClaim := { program := "ytpkajmgfechhhaa", sum := "200ddaefa4217541f9426cfdb31ec5bb1101898279ccf9fcf63ced2c351edf27", func := "parley/parleylaw06.AllocMaps", spec := "allocMaps", apart := false }
def AllocMapsSaid : Prop := allocMapsRow.holds Try.pinned (OpenSpec.ofChange allocMapsSpec)

/-- ITS FALSE NEIGHBOUR: 'it returns false'. Refute it at one input. -/
def allocMapsWrong : ChangeSpec := { name := "allocMaps", fn := fun _ => fun
  | [d1, d2] => { results := [.lit (.bool false)], args := [d1, d2] }
  | _ => none }
def AllocMapsWrongFalsely : Prop := allocMapsRow.holds Try.pinned (OpenSpec.ofChange allocMapsWrong)

/-- 'parleylaw06.AllocTakes': WHATEVER THE INPUT: true; the input reads as it did. -/
def allocTakesSpec : ChangeSpec := { name := "allocTakes", fn := fun _ => fun
  | [d1, d2, d3] => { results := [.lit (.bool true)], args := [d1, d2, d3] }
  | _ => none }
def allocTakesRow : OpenClaim := { program := "ytpkajmgfechhhaa", sum := "200ddaefa4217541f9426cfdb31ec5bb1101898279ccf9fcf63ced2c351edf27", func := "parley/parleylaw06.AllocTakes", spec := "allocTakes", apart := false }
def AllocTakesSaid : Prop := allocTakesRow.holds Try.pinned (OpenSpec.ofChange allocTakesSpec)

/-- ITS FALSE NEIGHBOUR: 'it returns false'. Refute it at one input. -/
def allocTakesWrong : ChangeSpec := { name := "allocTakes", fn := fun _ => fun
  | [d1, d2, d3] => { results := [.lit (.bool false)], args := [d1, d2, d3] }
  | _ => none }
def AllocTakesWrongFalsely : Prop := allocTakesRow.holds Try.pinned (OpenSpec.ofChange allocTakesWrong)

/-- 'parleylaw06.AllocGives': WHATEVER THE INPUT: true; the input reads as it did. -/
def allocGivesSpec : ChangeSpec := { name := "allocGives", fn := fun _ => fun
  | [d1, d2, d3, d4] => { results := [.lit (.bool true)], args := [d1, d2, d3, d4] }
  | _ => none }
def allocGivesRow : OpenClaim := { program := "ytpkajmgfechhhaa", sum := "200ddaefa4217541f9426cfdb31ec5bb1101898279ccf9fcf63ced2c351edf27", func := "parley/parleylaw06.AllocGives", spec := "allocGives", apart := false }
def AllocGivesSaid : Prop := allocGivesRow.holds Try.pinned (OpenSpec.ofChange allocGivesSpec)

/-- ITS FALSE NEIGHBOUR: 'it returns false'. Refute it at one input. -/
def allocGivesWrong : ChangeSpec := { name := "allocGives", fn := fun _ => fun
  | [d1, d2, d3, d4] => { results := [.lit (.bool false)], args := [d1, d2, d3, d4] }
  | _ => none }
def AllocGivesWrongFalsely : Prop := allocGivesRow.holds Try.pinned (OpenSpec.ofChange allocGivesWrong)

/-- 'parleylaw06.AllocWhole': WHATEVER THE INPUT: true; the input reads as it did. -/
def allocWholeSpec : ChangeSpec := { name := "allocWhole", fn := fun _ => fun
  | [d1, d2, d3] => { results := [.lit (.bool true)], args := [d1, d2, d3] }
  | _ => none }
def allocWholeRow : OpenClaim := { program := "ytpkajmgfechhhaa", sum := "200ddaefa4217541f9426cfdb31ec5bb1101898279ccf9fcf63ced2c351edf27", func := "parley/parleylaw06.AllocWhole", spec := "allocWhole", apart := false }
def AllocWholeSaid : Prop := allocWholeRow.holds Try.pinned (OpenSpec.ofChange allocWholeSpec)

/-- ITS FALSE NEIGHBOUR: 'it returns false'. Refute it at one input. -/
def allocWholeWrong : ChangeSpec := { name := "allocWhole", fn := fun _ => fun
  | [d1, d2, d3] => { results := [.lit (.bool false)], args := [d1, d2, d3] }
  | _ => none }
def AllocWholeWrongFalsely : Prop := allocWholeRow.holds Try.pinned (OpenSpec.ofChange allocWholeWrong)

/-- 'parleylaw06.AllocFits': WHATEVER THE INPUT: true; the input reads as it did. -/
def allocFitsSpec : ChangeSpec := { name := "allocFits", fn := fun _ => fun
  | [d1, d2, d3] => { results := [.lit (.bool true)], args := [d1, d2, d3] }
  | _ => none }
def allocFitsRow : OpenClaim := { program := "ytpkajmgfechhhaa", sum := "200ddaefa4217541f9426cfdb31ec5bb1101898279ccf9fcf63ced2c351edf27", func := "parley/parleylaw06.AllocFits", spec := "allocFits", apart := false }
def AllocFitsSaid : Prop := allocFitsRow.holds Try.pinned (OpenSpec.ofChange allocFitsSpec)

/-- ITS FALSE NEIGHBOUR: 'it returns false'. Refute it at one input. -/
def allocFitsWrong : ChangeSpec := { name := "allocFits", fn := fun _ => fun
  | [d1, d2, d3] => { results := [.lit (.bool false)], args := [d1, d2, d3] }
  | _ => none }
def AllocFitsWrongFalsely : Prop := allocFitsRow.holds Try.pinned (OpenSpec.ofChange allocFitsWrong)

/- THE SECOND FORM. 'bulk': how many values and letters a reading holds, each counted each time it is reached (what is shared counts as often as it is met; a slice's spare places count too). A statement '..UptoSaid' is the law's where the arguments, and the package variables that the reading takes, are together of bulk at most 1048576: NARROWER than '..Said'. Prove '..Said' where nothing that the law and all that it calls make is longer than what came in: it says more and counts as full. Else prove '..UptoSaid'. A law counts once. -/
mutual
def uptoBulk {H : Type} : DataW H → Nat
  | .lit (.string bytes) => bytes.length + 1
  | .lit _ => 1
  | .nil => 1
  | .ptr d => uptoBulk d + 1
  | .slice elems spare => uptoBulkAll elems + uptoBulkAll spare + 1
  | .agg parts => uptoBulkAll parts + 1
  | .iface _ d => uptoBulk d + 1
  | .map entries => uptoBulkEntries entries + 1
  | .held _ => 1
def uptoBulkAll {H : Type} : List (DataW H) → Nat
  | [] => 0
  | d :: r => uptoBulk d + uptoBulkAll r
def uptoBulkEntries {H : Type} : List (Lit × DataW H) → Nat
  | [] => 0
  | x :: r => uptoBulkEntry x + uptoBulkEntries r
def uptoBulkEntry {H : Type} : Lit × DataW H → Nat
  | (.string bytes, d) => bytes.length + uptoBulk d + 1
  | (_, d) => uptoBulk d + 1
 end
def uptoSmall : (H : Type) → List (DataW H) → Bool := fun _ ds => decide (uptoBulkAll ds ≤ 1048576)
def OpenSpec.upto (s : _root_.Go.ChangeSpec) : _root_.Go.OpenSpec := { _root_.Go.OpenSpec.ofChange s with cond := some uptoSmall }

/-- 'parleylaw06.AllocMaps', WHERE WHAT IT READS IS OF BULK AT MOST 1048576: true; the input reads as it did. -/
def allocMapsUptoRow : OpenClaim := { program := "ytpkajmgfechhhaa", sum := "200ddaefa4217541f9426cfdb31ec5bb1101898279ccf9fcf63ced2c351edf27", func := "parley/parleylaw06.AllocMaps", spec := "allocMaps", apart := false, narrowed := true }
def AllocMapsUptoSaid : Prop := allocMapsUptoRow.holds Try.pinned (OpenSpec.upto allocMapsSpec)

/-- 'parleylaw06.AllocTakes', WHERE WHAT IT READS IS OF BULK AT MOST 1048576: true; the input reads as it did. -/
def allocTakesUptoRow : OpenClaim := { program := "ytpkajmgfechhhaa", sum := "200ddaefa4217541f9426cfdb31ec5bb1101898279ccf9fcf63ced2c351edf27", func := "parley/parleylaw06.AllocTakes", spec := "allocTakes", apart := false, narrowed := true }
def AllocTakesUptoSaid : Prop := allocTakesUptoRow.holds Try.pinned (OpenSpec.upto allocTakesSpec)

/-- 'parleylaw06.AllocGives', WHERE WHAT IT READS IS OF BULK AT MOST 1048576: true; the input reads as it did. -/
def allocGivesUptoRow : OpenClaim := { program := "ytpkajmgfechhhaa", sum := "200ddaefa4217541f9426cfdb31ec5bb1101898279ccf9fcf63ced2c351edf27", func := "parley/parleylaw06.AllocGives", spec := "allocGives", apart := false, narrowed := true }
def AllocGivesUptoSaid : Prop := allocGivesUptoRow.holds Try.pinned (OpenSpec.upto allocGivesSpec)

/-- 'parleylaw06.AllocWhole', WHERE WHAT IT READS IS OF BULK AT MOST 1048576: true; the input reads as it did. -/
def allocWholeUptoRow : OpenClaim := { program := "ytpkajmgfechhhaa", sum := "200ddaefa4217541f9426cfdb31ec5bb1101898279ccf9fcf63ced2c351edf27", func := "parley/parleylaw06.AllocWhole", spec := "allocWhole", apart := false, narrowed := true }
def AllocWholeUptoSaid : Prop := allocWholeUptoRow.holds Try.pinned (OpenSpec.upto allocWholeSpec)

/-- 'parleylaw06.AllocFits', WHERE WHAT IT READS IS OF BULK AT MOST 1048576: true; the input reads as it did. -/
def allocFitsUptoRow : OpenClaim := { program := "ytpkajmgfechhhaa", sum := "200ddaefa4217541f9426cfdb31ec5bb1101898279ccf9fcf63ced2c351edf27", func := "parley/parleylaw06.AllocFits", spec := "allocFits", apart := false, narrowed := true }
def AllocFitsUptoSaid : Prop := allocFitsUptoRow.holds Try.pinned (OpenSpec.upto allocFitsSpec)

end Rows
end Go.Proofs.Ytpkajmgfechhhaa
