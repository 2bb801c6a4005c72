/-
  DERIVED. GIVEN WITH THE SEED: THE CARDS: each row of YthjbkgappjpanaaDoorRows.lean that lists a variable, with what it lists TIED to the program's text (the seventh form; the later family's looks); each row that meets fmt, with fmt's text TOLD by the authors' own Lean function (tested against real Go, not proved from fmt's source: count such statements apart). THE CARD IS WHAT COUNTS. Prove the row's statement (the work); the ties are given (YthjbkgappjpanaaDoorTie.lean); close each card by the builder's one call (the guide's Derived/Test/ToyasCard.lean, 'card_holds'). Laid BY PROGRAM, IN A SANDBOX (cutbox-door.mjs). By AI agents, Wed Nov 11 2026. No macro, syntax, notation, axiom, sorry.
-/
import Derived.Test.YthjbkgappjpanaaDoorRows
import GoSem.ClaimSeven
namespace Go.Proofs.YthjbkgappjpanaaDoor
namespace Rows

/-- THE TIED CARD OF 'parleylaw12.SnapSplits'. -/
def snapSplitsCard : Claim7 := { stood := { row := snapSplitsRow, standIns := [], harness := (true, "243e4d125930b36303cb0ebe4c0573453d43245bacb33f5786c3bcb19d4ae186"), looks := false }, kinds := [], alts := [], laidByText := true, laidKinds := [.data], laidTests := true, laidLooks := .later }
def SnapSplitsCardSaid : Prop := Claim7.holds Tryd.pinned (.plain (OpenSpec.ofChange snapSplitsSpec)) snapSplitsCard

/-- THE TIED CARD OF 'parleylaw12.SnapBoxes'. -/
def snapBoxesCard : Claim7 := { stood := { row := snapBoxesRow, standIns := [], harness := (true, "243e4d125930b36303cb0ebe4c0573453d43245bacb33f5786c3bcb19d4ae186"), looks := false }, kinds := [], alts := [], laidByText := true, laidKinds := [.data], laidTests := true, laidLooks := .later }
def SnapBoxesCardSaid : Prop := Claim7.holds Tryd.pinned (.plain (OpenSpec.ofChange snapBoxesSpec)) snapBoxesCard

/-- THE TIED CARD OF 'parleylaw12.SnapJoins'. -/
def snapJoinsCard : Claim7 := { stood := { row := snapJoinsRow, standIns := [], harness := (true, "243e4d125930b36303cb0ebe4c0573453d43245bacb33f5786c3bcb19d4ae186"), looks := false }, kinds := [], alts := [], laidByText := true, laidKinds := [.data], laidTests := true, laidLooks := .later }
def SnapJoinsCardSaid : Prop := Claim7.holds Tryd.pinned (.plain (OpenSpec.ofChange snapJoinsSpec)) snapJoinsCard

/-- THE TIED CARD OF 'parleylaw12.SnapSizes'. -/
def snapSizesCard : Claim7 := { stood := { row := snapSizesRow, standIns := [], harness := (true, "243e4d125930b36303cb0ebe4c0573453d43245bacb33f5786c3bcb19d4ae186"), looks := false }, kinds := [], alts := [], laidByText := true, laidKinds := [.data], laidTests := true, laidLooks := .later }
def SnapSizesCardSaid : Prop := Claim7.holds Tryd.pinned (.plain (OpenSpec.ofChange snapSizesSpec)) snapSizesCard

/-- THE TIED CARD OF 'parleylaw12.SnapMixed'. -/
def snapMixedCard : Claim7 := { stood := { row := snapMixedRow, standIns := [], harness := (true, "243e4d125930b36303cb0ebe4c0573453d43245bacb33f5786c3bcb19d4ae186"), looks := false }, kinds := [], alts := [], laidByText := true, laidKinds := [.data], laidTests := true, laidLooks := .later }
def SnapMixedCardSaid : Prop := Claim7.holds Tryd.pinned (.plain (OpenSpec.ofChange snapMixedSpec)) snapMixedCard

/-- THE SECOND FORM's CARD OF 'parleylaw12.SnapSplits'. -/
def snapSplitsUptoCard : Claim7 := { stood := { row := snapSplitsUptoRow, standIns := [], harness := (true, "243e4d125930b36303cb0ebe4c0573453d43245bacb33f5786c3bcb19d4ae186"), looks := false }, kinds := [], alts := [], laidByText := true, laidKinds := [.data], laidTests := true, laidLooks := .later }
def SnapSplitsUptoCardSaid : Prop := Claim7.holds Tryd.pinned (.plain (OpenSpec.upto snapSplitsSpec)) snapSplitsUptoCard

/-- THE SECOND FORM's CARD OF 'parleylaw12.SnapBoxes'. -/
def snapBoxesUptoCard : Claim7 := { stood := { row := snapBoxesUptoRow, standIns := [], harness := (true, "243e4d125930b36303cb0ebe4c0573453d43245bacb33f5786c3bcb19d4ae186"), looks := false }, kinds := [], alts := [], laidByText := true, laidKinds := [.data], laidTests := true, laidLooks := .later }
def SnapBoxesUptoCardSaid : Prop := Claim7.holds Tryd.pinned (.plain (OpenSpec.upto snapBoxesSpec)) snapBoxesUptoCard

/-- THE SECOND FORM's CARD OF 'parleylaw12.SnapJoins'. -/
def snapJoinsUptoCard : Claim7 := { stood := { row := snapJoinsUptoRow, standIns := [], harness := (true, "243e4d125930b36303cb0ebe4c0573453d43245bacb33f5786c3bcb19d4ae186"), looks := false }, kinds := [], alts := [], laidByText := true, laidKinds := [.data], laidTests := true, laidLooks := .later }
def SnapJoinsUptoCardSaid : Prop := Claim7.holds Tryd.pinned (.plain (OpenSpec.upto snapJoinsSpec)) snapJoinsUptoCard

/-- THE SECOND FORM's CARD OF 'parleylaw12.SnapSizes'. -/
def snapSizesUptoCard : Claim7 := { stood := { row := snapSizesUptoRow, standIns := [], harness := (true, "243e4d125930b36303cb0ebe4c0573453d43245bacb33f5786c3bcb19d4ae186"), looks := false }, kinds := [], alts := [], laidByText := true, laidKinds := [.data], laidTests := true, laidLooks := .later }
def SnapSizesUptoCardSaid : Prop := Claim7.holds Tryd.pinned (.plain (OpenSpec.upto snapSizesSpec)) snapSizesUptoCard

/-- THE SECOND FORM's CARD OF 'parleylaw12.SnapMixed'. -/
def snapMixedUptoCard : Claim7 := { stood := { row := snapMixedUptoRow, standIns := [], harness := (true, "243e4d125930b36303cb0ebe4c0573453d43245bacb33f5786c3bcb19d4ae186"), looks := false }, kinds := [], alts := [], laidByText := true, laidKinds := [.data], laidTests := true, laidLooks := .later }
def SnapMixedUptoCardSaid : Prop := Claim7.holds Tryd.pinned (.plain (OpenSpec.upto snapMixedSpec)) snapMixedUptoCard
end Rows
end Go.Proofs.YthjbkgappjpanaaDoor
