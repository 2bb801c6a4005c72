/-
  DERIVED. GIVEN WITH THE SEED: THE CARDS: each row of YtofhhdomodjjdaaDoorRows.lean that lists a variable, with what it lists TIED to the program's text (the seventh form; the later family's looks); each row that meets fmt, with fmt's text TOLD by the authors' own Lean function (tested against real Go, not proved from fmt's source: count such statements apart). THE CARD IS WHAT COUNTS. Prove the row's statement (the work); the ties are given (YtofhhdomodjjdaaDoorTie.lean); close each card by the builder's one call (the guide's Derived/Test/ToyasCard.lean, 'card_holds'). Laid BY PROGRAM, IN A SANDBOX (cutbox-door.mjs). By AI agents, Wed Nov 11 2026. No macro, syntax, notation, axiom, sorry.
-/
import Derived.Test.YtofhhdomodjjdaaDoorRows
import GoSem.ClaimSeven
namespace Go.Proofs.YtofhhdomodjjdaaDoor
namespace Rows

/-- THE TIED CARD OF 'parleytop.ParleyAnswers'. -/
def parleyAnswersCard : Claim7 := { stood := { row := parleyAnswersRow, standIns := [], harness := (true, "ec30f32b2bdcc027e59ea8a35ee9c4f380c58ed6c6c8e89214293664282e1ccc"), looks := false }, kinds := [], alts := [], laidByText := true, laidKinds := [.data, .data, .data], laidTests := true, laidLooks := .later }
def ParleyAnswersCardSaid : Prop := Claim7.holds Tryd.pinned (.plain (OpenSpec.ofChange parleyAnswersSpec)) parleyAnswersCard

/-- THE SECOND FORM's CARD OF 'parleytop.ParleyAnswers'. -/
def parleyAnswersUptoCard : Claim7 := { stood := { row := parleyAnswersUptoRow, standIns := [], harness := (true, "ec30f32b2bdcc027e59ea8a35ee9c4f380c58ed6c6c8e89214293664282e1ccc"), looks := false }, kinds := [], alts := [], laidByText := true, laidKinds := [.data, .data, .data], laidTests := true, laidLooks := .later }
def ParleyAnswersUptoCardSaid : Prop := Claim7.holds Tryd.pinned (.plain (OpenSpec.upto parleyAnswersSpec)) parleyAnswersUptoCard
end Rows
end Go.Proofs.YtofhhdomodjjdaaDoor
