/-
  DERIVED. GIVEN WITH THE SEED: THE CARDS: each row of YtbpclifgafafdaaDoorRows.lean that lists a variable, with what it lists TIED to the program's text (the seventh form; the later family's looks); each row that meets fmt, with fmt's text TOLD by the authors' own Lean function (tested against real Go, not proved from fmt's source: count such statements apart). THE CARD IS WHAT COUNTS. Prove the row's statement (the work); the ties are given (YtbpclifgafafdaaDoorTie.lean); close each card by the builder's one call (the guide's Derived/Test/ToyasCard.lean, 'card_holds'). Laid BY PROGRAM, IN A SANDBOX (cutbox-door.mjs). By AI agents, Wed Nov 11 2026. No macro, syntax, notation, axiom, sorry.
-/
import Derived.Test.YtbpclifgafafdaaDoorRows
import GoSem.ClaimSeven
namespace Go.Proofs.YtbpclifgafafdaaDoor
namespace Rows

/-- THE TIED CARD OF 'parleylaw20.SessionShut'. -/
def sessionShutCard : Claim7 := { stood := { row := sessionShutRow, standIns := [], harness := (true, "f99748088149b6a77f865b6202e8d774fac820937159acc71d857535b3d004ed"), looks := true }, kinds := [], alts := [], laidByText := true, laidKinds := [.data, .data, .data, .sentinel, .sentinel], laidTests := true, laidLooks := .later }
def SessionShutCardSaid : Prop := Claim7.holds Tryd.pinned (.plain (OpenSpec.ofChange sessionShutSpec)) sessionShutCard

/-- THE SECOND FORM's CARD OF 'parleylaw20.SessionShut'. -/
def sessionShutUptoCard : Claim7 := { stood := { row := sessionShutUptoRow, standIns := [], harness := (true, "f99748088149b6a77f865b6202e8d774fac820937159acc71d857535b3d004ed"), looks := true }, kinds := [], alts := [], laidByText := true, laidKinds := [.data, .data, .data, .sentinel, .sentinel], laidTests := true, laidLooks := .later }
def SessionShutUptoCardSaid : Prop := Claim7.holds Tryd.pinned (.plain (OpenSpec.upto sessionShutSpec)) sessionShutUptoCard
end Rows
end Go.Proofs.YtbpclifgafafdaaDoor
