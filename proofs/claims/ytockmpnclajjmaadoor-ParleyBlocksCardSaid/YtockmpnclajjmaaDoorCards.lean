/-
  DERIVED. GIVEN WITH THE SEED: THE CARDS: each row of YtockmpnclajjmaaDoorRows.lean that lists a variable, with what it lists TIED to the program's text (the seventh form; the later family's looks); each row that meets fmt, with fmt's text TOLD by the authors' own Lean function (tested against real Go, not proved from fmt's source: count such statements apart). THE CARD IS WHAT COUNTS. Prove the row's statement (the work); the ties are given (YtockmpnclajjmaaDoorTie.lean); close each card by the builder's one call (the guide's Derived/Test/ToyasCard.lean, 'card_holds'). Laid BY PROGRAM, IN A SANDBOX (cutbox-door.mjs). By AI agents, Wed Nov 11 2026. No macro, syntax, notation, axiom, sorry.
-/
import Derived.Test.YtockmpnclajjmaaDoorRows
import GoSem.ClaimSeven
namespace Go.Proofs.YtockmpnclajjmaaDoor
namespace Rows

/-- THE TIED CARD OF 'parleytop.ParleyBlocks'. -/
def parleyBlocksCard : Claim7 := { stood := { row := parleyBlocksRow, standIns := [], harness := (true, "57a73083505c33b2304fa7b285c50e7ddf4fff44c313d619a9c8903907c2110f"), looks := false }, kinds := [], alts := [], laidByText := true, laidKinds := [.data], laidTests := true, laidLooks := .later }
def ParleyBlocksCardSaid : Prop := Claim7.holds Tryd.pinned (.plain (OpenSpec.ofChange parleyBlocksSpec)) parleyBlocksCard

/-- THE SECOND FORM's CARD OF 'parleytop.ParleyBlocks'. -/
def parleyBlocksUptoCard : Claim7 := { stood := { row := parleyBlocksUptoRow, standIns := [], harness := (true, "57a73083505c33b2304fa7b285c50e7ddf4fff44c313d619a9c8903907c2110f"), looks := false }, kinds := [], alts := [], laidByText := true, laidKinds := [.data], laidTests := true, laidLooks := .later }
def ParleyBlocksUptoCardSaid : Prop := Claim7.holds Tryd.pinned (.plain (OpenSpec.upto parleyBlocksSpec)) parleyBlocksUptoCard
end Rows
end Go.Proofs.YtockmpnclajjmaaDoor
