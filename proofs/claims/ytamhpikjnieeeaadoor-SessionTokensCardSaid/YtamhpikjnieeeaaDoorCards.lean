/-
  DERIVED. GIVEN WITH THE SEED: THE CARDS: each row of YtamhpikjnieeeaaDoorRows.lean that lists a variable, with what it lists TIED to the program's text (the seventh form; the later family's looks); each row that meets fmt, with fmt's text TOLD by the authors' own Lean function (tested against real Go, not proved from fmt's source: count such statements apart). THE CARD IS WHAT COUNTS. Prove the row's statement (the work); the ties are given (YtamhpikjnieeeaaDoorTie.lean); close each card by the builder's one call (the guide's Derived/Test/ToyasCard.lean, 'card_holds'). Laid BY PROGRAM, IN A SANDBOX (cutbox-door.mjs). By AI agents, Wed Nov 11 2026. No macro, syntax, notation, axiom, sorry.
-/
import Derived.Test.YtamhpikjnieeeaaDoorRows
import GoSem.ClaimSeven
namespace Go.Proofs.YtamhpikjnieeeaaDoor
namespace Rows

/-- THE TIED CARD OF 'parleylaw20.SessionTokens'. -/
def sessionTokensCard : Claim7 := { stood := { row := sessionTokensRow, standIns := [], harness := (true, "32677cdf3068a61694788d306a2fb86d26177c145f807262f86c261ca2c5fa19"), looks := true }, kinds := [], alts := [], laidByText := true, laidKinds := [.data, .data, .data, .sentinel, .sentinel], laidTests := true, laidLooks := .later }
def SessionTokensCardSaid : Prop := Claim7.holds Tryd.pinned (.plain (OpenSpec.ofChange sessionTokensSpec)) sessionTokensCard

/-- THE SECOND FORM's CARD OF 'parleylaw20.SessionTokens'. -/
def sessionTokensUptoCard : Claim7 := { stood := { row := sessionTokensUptoRow, standIns := [], harness := (true, "32677cdf3068a61694788d306a2fb86d26177c145f807262f86c261ca2c5fa19"), looks := true }, kinds := [], alts := [], laidByText := true, laidKinds := [.data, .data, .data, .sentinel, .sentinel], laidTests := true, laidLooks := .later }
def SessionTokensUptoCardSaid : Prop := Claim7.holds Tryd.pinned (.plain (OpenSpec.upto sessionTokensSpec)) sessionTokensUptoCard
end Rows
end Go.Proofs.YtamhpikjnieeeaaDoor
