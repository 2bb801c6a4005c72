/-
  DERIVED. GIVEN WITH THE SEED: THE CARDS: each row of YtahpiminhlineaaDoorRows.lean that lists a variable, with what it lists TIED to the program's text (the seventh form; the later family's looks); each row that meets fmt, with fmt's text TOLD by the authors' own Lean function (tested against real Go, not proved from fmt's source: count such statements apart). THE CARD IS WHAT COUNTS. Prove the row's statement (the work); the ties are given (YtahpiminhlineaaDoorTie.lean); close each card by the builder's one call (the guide's Derived/Test/ToyasCard.lean, 'card_holds'). Laid BY PROGRAM, IN A SANDBOX (cutbox-door.mjs). By AI agents, Wed Nov 11 2026. No macro, syntax, notation, axiom, sorry.
-/
import Derived.Test.YtahpiminhlineaaDoorRows
import GoSem.ClaimSeven
namespace Go.Proofs.YtahpiminhlineaaDoor
namespace Rows

/-- THE TIED CARD OF 'parleylaw16.UtfPoints'. -/
def utfPointsCard : Claim7 := { stood := { row := utfPointsRow, standIns := [], harness := (true, "873831ed42690dfe05342e2cd26aa8aa03b5ff677dfc1b405061991ee193779c"), looks := false }, kinds := [], alts := [], laidByText := true, laidKinds := [.data, .pinned], laidTests := true, laidLooks := .later }
def UtfPointsCardSaid : Prop := Claim7.holds Tryd.pinned (.plain (OpenSpec.ofChange utfPointsSpec)) utfPointsCard

/-- THE TIED CARD OF 'parleylaw16.UtfTokens'. -/
def utfTokensCard : Claim7 := { stood := { row := utfTokensRow, standIns := [], harness := (true, "873831ed42690dfe05342e2cd26aa8aa03b5ff677dfc1b405061991ee193779c"), looks := false }, kinds := [], alts := [], laidByText := true, laidKinds := [.data, .pinned], laidTests := true, laidLooks := .later }
def UtfTokensCardSaid : Prop := Claim7.holds Tryd.pinned (.plain (OpenSpec.ofChange utfTokensSpec)) utfTokensCard

/-- THE TIED CARD OF 'parleylaw16.UtfNames'. -/
def utfNamesCard : Claim7 := { stood := { row := utfNamesRow, standIns := [], harness := (true, "873831ed42690dfe05342e2cd26aa8aa03b5ff677dfc1b405061991ee193779c"), looks := false }, kinds := [], alts := [], laidByText := true, laidKinds := [.data, .pinned], laidTests := true, laidLooks := .later }
def UtfNamesCardSaid : Prop := Claim7.holds Tryd.pinned (.plain (OpenSpec.ofChange utfNamesSpec)) utfNamesCard

/-- THE TIED CARD OF 'parleylaw16.UtfCuts'. -/
def utfCutsCard : Claim7 := { stood := { row := utfCutsRow, standIns := [], harness := (true, "873831ed42690dfe05342e2cd26aa8aa03b5ff677dfc1b405061991ee193779c"), looks := false }, kinds := [], alts := [], laidByText := true, laidKinds := [.data, .pinned], laidTests := true, laidLooks := .later }
def UtfCutsCardSaid : Prop := Claim7.holds Tryd.pinned (.plain (OpenSpec.ofChange utfCutsSpec)) utfCutsCard

/-- THE TIED CARD OF 'parleylaw16.UtfJoins'. -/
def utfJoinsCard : Claim7 := { stood := { row := utfJoinsRow, standIns := [], harness := (true, "873831ed42690dfe05342e2cd26aa8aa03b5ff677dfc1b405061991ee193779c"), looks := false }, kinds := [], alts := [], laidByText := true, laidKinds := [.data, .pinned], laidTests := true, laidLooks := .later }
def UtfJoinsCardSaid : Prop := Claim7.holds Tryd.pinned (.plain (OpenSpec.ofChange utfJoinsSpec)) utfJoinsCard

/-- THE TIED CARD OF 'parleylaw16.UtfNamed'. -/
def utfNamedCard : Claim7 := { stood := { row := utfNamedRow, standIns := [], harness := (true, "873831ed42690dfe05342e2cd26aa8aa03b5ff677dfc1b405061991ee193779c"), looks := false }, kinds := [], alts := [], laidByText := true, laidKinds := [.data, .pinned], laidTests := true, laidLooks := .later }
def UtfNamedCardSaid : Prop := Claim7.holds Tryd.pinned (.plain (OpenSpec.ofChange utfNamedSpec)) utfNamedCard

/-- THE SECOND FORM's CARD OF 'parleylaw16.UtfPoints'. -/
def utfPointsUptoCard : Claim7 := { stood := { row := utfPointsUptoRow, standIns := [], harness := (true, "873831ed42690dfe05342e2cd26aa8aa03b5ff677dfc1b405061991ee193779c"), looks := false }, kinds := [], alts := [], laidByText := true, laidKinds := [.data, .pinned], laidTests := true, laidLooks := .later }
def UtfPointsUptoCardSaid : Prop := Claim7.holds Tryd.pinned (.plain (OpenSpec.upto utfPointsSpec)) utfPointsUptoCard

/-- THE SECOND FORM's CARD OF 'parleylaw16.UtfTokens'. -/
def utfTokensUptoCard : Claim7 := { stood := { row := utfTokensUptoRow, standIns := [], harness := (true, "873831ed42690dfe05342e2cd26aa8aa03b5ff677dfc1b405061991ee193779c"), looks := false }, kinds := [], alts := [], laidByText := true, laidKinds := [.data, .pinned], laidTests := true, laidLooks := .later }
def UtfTokensUptoCardSaid : Prop := Claim7.holds Tryd.pinned (.plain (OpenSpec.upto utfTokensSpec)) utfTokensUptoCard

/-- THE SECOND FORM's CARD OF 'parleylaw16.UtfNames'. -/
def utfNamesUptoCard : Claim7 := { stood := { row := utfNamesUptoRow, standIns := [], harness := (true, "873831ed42690dfe05342e2cd26aa8aa03b5ff677dfc1b405061991ee193779c"), looks := false }, kinds := [], alts := [], laidByText := true, laidKinds := [.data, .pinned], laidTests := true, laidLooks := .later }
def UtfNamesUptoCardSaid : Prop := Claim7.holds Tryd.pinned (.plain (OpenSpec.upto utfNamesSpec)) utfNamesUptoCard

/-- THE SECOND FORM's CARD OF 'parleylaw16.UtfCuts'. -/
def utfCutsUptoCard : Claim7 := { stood := { row := utfCutsUptoRow, standIns := [], harness := (true, "873831ed42690dfe05342e2cd26aa8aa03b5ff677dfc1b405061991ee193779c"), looks := false }, kinds := [], alts := [], laidByText := true, laidKinds := [.data, .pinned], laidTests := true, laidLooks := .later }
def UtfCutsUptoCardSaid : Prop := Claim7.holds Tryd.pinned (.plain (OpenSpec.upto utfCutsSpec)) utfCutsUptoCard

/-- THE SECOND FORM's CARD OF 'parleylaw16.UtfJoins'. -/
def utfJoinsUptoCard : Claim7 := { stood := { row := utfJoinsUptoRow, standIns := [], harness := (true, "873831ed42690dfe05342e2cd26aa8aa03b5ff677dfc1b405061991ee193779c"), looks := false }, kinds := [], alts := [], laidByText := true, laidKinds := [.data, .pinned], laidTests := true, laidLooks := .later }
def UtfJoinsUptoCardSaid : Prop := Claim7.holds Tryd.pinned (.plain (OpenSpec.upto utfJoinsSpec)) utfJoinsUptoCard

/-- THE SECOND FORM's CARD OF 'parleylaw16.UtfNamed'. -/
def utfNamedUptoCard : Claim7 := { stood := { row := utfNamedUptoRow, standIns := [], harness := (true, "873831ed42690dfe05342e2cd26aa8aa03b5ff677dfc1b405061991ee193779c"), looks := false }, kinds := [], alts := [], laidByText := true, laidKinds := [.data, .pinned], laidTests := true, laidLooks := .later }
def UtfNamedUptoCardSaid : Prop := Claim7.holds Tryd.pinned (.plain (OpenSpec.upto utfNamedSpec)) utfNamedUptoCard
end Rows
end Go.Proofs.YtahpiminhlineaaDoor
