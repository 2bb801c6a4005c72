/-
  DERIVED. GIVEN WITH THE SEED: THE CARDS: each row of YtjlkmfnkpnmbiaaDoorRows.lean that lists a variable, with what it lists TIED to the program's text (the seventh form; the later family's looks); each row that meets fmt, with fmt's text TOLD by the authors' own Lean function (tested against real Go, not proved from fmt's source: count such statements apart). THE CARD IS WHAT COUNTS. Prove the row's statement (the work); the ties are given (YtjlkmfnkpnmbiaaDoorTie.lean); close each card by the builder's one call (the guide's Derived/Test/ToyasCard.lean, 'card_holds'). Laid BY PROGRAM, IN A SANDBOX (cutbox-door.mjs). By AI agents, Wed Nov 11 2026. No macro, syntax, notation, axiom, sorry.
-/
import Derived.Test.YtjlkmfnkpnmbiaaDoorRows
import GoSem.ClaimSeven
namespace Go.Proofs.YtjlkmfnkpnmbiaaDoor
namespace Rows

/-- THE TIED CARD OF 'parleylaw01.FnumClasses'. -/
def fnumClassesCard : Claim7 := { stood := { row := fnumClassesRow, standIns := [], harness := (true, "adfb57793209be4e56f291814e33723372464f56badc5a1c04ebe0c9bfd3597f"), looks := true }, kinds := [], alts := [], laidByText := true, laidKinds := [.data, .data, .data], laidTests := true, laidLooks := .later }
def FnumClassesCardSaid : Prop := Claim7.holds Tryd.pinned (.plain (OpenSpec.ofChange fnumClassesSpec)) fnumClassesCard

/-- THE TIED CARD OF 'parleylaw01.FnumOrder'. -/
def fnumOrderCard : Claim7 := { stood := { row := fnumOrderRow, standIns := [], harness := (true, "adfb57793209be4e56f291814e33723372464f56badc5a1c04ebe0c9bfd3597f"), looks := true }, kinds := [], alts := [], laidByText := true, laidKinds := [.data, .data, .data], laidTests := true, laidLooks := .later }
def FnumOrderCardSaid : Prop := Claim7.holds Tryd.pinned (.plain (OpenSpec.ofChange fnumOrderSpec)) fnumOrderCard

/-- THE TIED CARD OF 'parleylaw01.FnumSorts'. -/
def fnumSortsCard : Claim7 := { stood := { row := fnumSortsRow, standIns := [], harness := (true, "adfb57793209be4e56f291814e33723372464f56badc5a1c04ebe0c9bfd3597f"), looks := true }, kinds := [], alts := [], laidByText := true, laidKinds := [.data, .data, .data], laidTests := true, laidLooks := .later }
def FnumSortsCardSaid : Prop := Claim7.holds Tryd.pinned (.plain (OpenSpec.ofChange fnumSortsSpec)) fnumSortsCard

/-- THE TIED CARD OF 'parleylaw01.FnumKeys'. -/
def fnumKeysCard : Claim7 := { stood := { row := fnumKeysRow, standIns := [], harness := (true, "adfb57793209be4e56f291814e33723372464f56badc5a1c04ebe0c9bfd3597f"), looks := true }, kinds := [], alts := [], laidByText := true, laidKinds := [.data, .data, .data], laidTests := true, laidLooks := .later }
def FnumKeysCardSaid : Prop := Claim7.holds Tryd.pinned (.plain (OpenSpec.ofChange fnumKeysSpec)) fnumKeysCard

/-- THE TIED CARD OF 'parleylaw01.FnumTotals'. -/
def fnumTotalsCard : Claim7 := { stood := { row := fnumTotalsRow, standIns := [], harness := (true, "adfb57793209be4e56f291814e33723372464f56badc5a1c04ebe0c9bfd3597f"), looks := true }, kinds := [], alts := [], laidByText := true, laidKinds := [.data, .data, .data], laidTests := true, laidLooks := .later }
def FnumTotalsCardSaid : Prop := Claim7.holds Tryd.pinned (.plain (OpenSpec.ofChange fnumTotalsSpec)) fnumTotalsCard

/-- THE TIED CARD OF 'parleylaw01.FnumTexts'. -/
def fnumTextsCard : Claim7 := { stood := { row := fnumTextsRow, standIns := [], harness := (true, "adfb57793209be4e56f291814e33723372464f56badc5a1c04ebe0c9bfd3597f"), looks := true }, kinds := [], alts := [], laidByText := true, laidKinds := [.data, .data, .data, .sentinel, .sentinel], laidTests := true, laidLooks := .later }
def FnumTextsCardSaid : Prop := Claim7.holds Tryd.pinned (.plain (OpenSpec.ofChange fnumTextsSpec)) fnumTextsCard

/-- THE TIED CARD OF 'parleylaw01.FnumTotal'. -/
def fnumTotalCard : Claim7 := { stood := { row := fnumTotalRow, standIns := [], harness := (true, "adfb57793209be4e56f291814e33723372464f56badc5a1c04ebe0c9bfd3597f"), looks := true }, kinds := [], alts := [], laidByText := true, laidKinds := [.data, .data, .data], laidTests := true, laidLooks := .later }
def FnumTotalCardSaid : Prop := Claim7.holds Tryd.pinned (.plain (OpenSpec.ofChange fnumTotalSpec)) fnumTotalCard

/-- THE TIED CARD OF 'parleylaw01.FnumEnds'. -/
def fnumEndsCard : Claim7 := { stood := { row := fnumEndsRow, standIns := [], harness := (true, "adfb57793209be4e56f291814e33723372464f56badc5a1c04ebe0c9bfd3597f"), looks := true }, kinds := [], alts := [], laidByText := true, laidKinds := [.data, .data, .data], laidTests := true, laidLooks := .later }
def FnumEndsCardSaid : Prop := Claim7.holds Tryd.pinned (.plain (OpenSpec.ofChange fnumEndsSpec)) fnumEndsCard

/-- THE TIED CARD OF 'parleytop.ParleyNumbers'. -/
def parleyNumbersCard : Claim7 := { stood := { row := parleyNumbersRow, standIns := [], harness := (true, "adfb57793209be4e56f291814e33723372464f56badc5a1c04ebe0c9bfd3597f"), looks := true }, kinds := [], alts := [], laidByText := true, laidKinds := [.data, .data, .data, .sentinel, .sentinel], laidTests := true, laidLooks := .later }
def ParleyNumbersCardSaid : Prop := Claim7.holds Tryd.pinned (.plain (OpenSpec.ofChange parleyNumbersSpec)) parleyNumbersCard

/-- THE SECOND FORM's CARD OF 'parleylaw01.FnumClasses'. -/
def fnumClassesUptoCard : Claim7 := { stood := { row := fnumClassesUptoRow, standIns := [], harness := (true, "adfb57793209be4e56f291814e33723372464f56badc5a1c04ebe0c9bfd3597f"), looks := true }, kinds := [], alts := [], laidByText := true, laidKinds := [.data, .data, .data], laidTests := true, laidLooks := .later }
def FnumClassesUptoCardSaid : Prop := Claim7.holds Tryd.pinned (.plain (OpenSpec.upto fnumClassesSpec)) fnumClassesUptoCard

/-- THE SECOND FORM's CARD OF 'parleylaw01.FnumOrder'. -/
def fnumOrderUptoCard : Claim7 := { stood := { row := fnumOrderUptoRow, standIns := [], harness := (true, "adfb57793209be4e56f291814e33723372464f56badc5a1c04ebe0c9bfd3597f"), looks := true }, kinds := [], alts := [], laidByText := true, laidKinds := [.data, .data, .data], laidTests := true, laidLooks := .later }
def FnumOrderUptoCardSaid : Prop := Claim7.holds Tryd.pinned (.plain (OpenSpec.upto fnumOrderSpec)) fnumOrderUptoCard

/-- THE SECOND FORM's CARD OF 'parleylaw01.FnumSorts'. -/
def fnumSortsUptoCard : Claim7 := { stood := { row := fnumSortsUptoRow, standIns := [], harness := (true, "adfb57793209be4e56f291814e33723372464f56badc5a1c04ebe0c9bfd3597f"), looks := true }, kinds := [], alts := [], laidByText := true, laidKinds := [.data, .data, .data], laidTests := true, laidLooks := .later }
def FnumSortsUptoCardSaid : Prop := Claim7.holds Tryd.pinned (.plain (OpenSpec.upto fnumSortsSpec)) fnumSortsUptoCard

/-- THE SECOND FORM's CARD OF 'parleylaw01.FnumKeys'. -/
def fnumKeysUptoCard : Claim7 := { stood := { row := fnumKeysUptoRow, standIns := [], harness := (true, "adfb57793209be4e56f291814e33723372464f56badc5a1c04ebe0c9bfd3597f"), looks := true }, kinds := [], alts := [], laidByText := true, laidKinds := [.data, .data, .data], laidTests := true, laidLooks := .later }
def FnumKeysUptoCardSaid : Prop := Claim7.holds Tryd.pinned (.plain (OpenSpec.upto fnumKeysSpec)) fnumKeysUptoCard

/-- THE SECOND FORM's CARD OF 'parleylaw01.FnumTotals'. -/
def fnumTotalsUptoCard : Claim7 := { stood := { row := fnumTotalsUptoRow, standIns := [], harness := (true, "adfb57793209be4e56f291814e33723372464f56badc5a1c04ebe0c9bfd3597f"), looks := true }, kinds := [], alts := [], laidByText := true, laidKinds := [.data, .data, .data], laidTests := true, laidLooks := .later }
def FnumTotalsUptoCardSaid : Prop := Claim7.holds Tryd.pinned (.plain (OpenSpec.upto fnumTotalsSpec)) fnumTotalsUptoCard

/-- THE SECOND FORM's CARD OF 'parleylaw01.FnumTexts'. -/
def fnumTextsUptoCard : Claim7 := { stood := { row := fnumTextsUptoRow, standIns := [], harness := (true, "adfb57793209be4e56f291814e33723372464f56badc5a1c04ebe0c9bfd3597f"), looks := true }, kinds := [], alts := [], laidByText := true, laidKinds := [.data, .data, .data, .sentinel, .sentinel], laidTests := true, laidLooks := .later }
def FnumTextsUptoCardSaid : Prop := Claim7.holds Tryd.pinned (.plain (OpenSpec.upto fnumTextsSpec)) fnumTextsUptoCard

/-- THE SECOND FORM's CARD OF 'parleylaw01.FnumTotal'. -/
def fnumTotalUptoCard : Claim7 := { stood := { row := fnumTotalUptoRow, standIns := [], harness := (true, "adfb57793209be4e56f291814e33723372464f56badc5a1c04ebe0c9bfd3597f"), looks := true }, kinds := [], alts := [], laidByText := true, laidKinds := [.data, .data, .data], laidTests := true, laidLooks := .later }
def FnumTotalUptoCardSaid : Prop := Claim7.holds Tryd.pinned (.plain (OpenSpec.upto fnumTotalSpec)) fnumTotalUptoCard

/-- THE SECOND FORM's CARD OF 'parleylaw01.FnumEnds'. -/
def fnumEndsUptoCard : Claim7 := { stood := { row := fnumEndsUptoRow, standIns := [], harness := (true, "adfb57793209be4e56f291814e33723372464f56badc5a1c04ebe0c9bfd3597f"), looks := true }, kinds := [], alts := [], laidByText := true, laidKinds := [.data, .data, .data], laidTests := true, laidLooks := .later }
def FnumEndsUptoCardSaid : Prop := Claim7.holds Tryd.pinned (.plain (OpenSpec.upto fnumEndsSpec)) fnumEndsUptoCard

/-- THE SECOND FORM's CARD OF 'parleytop.ParleyNumbers'. -/
def parleyNumbersUptoCard : Claim7 := { stood := { row := parleyNumbersUptoRow, standIns := [], harness := (true, "adfb57793209be4e56f291814e33723372464f56badc5a1c04ebe0c9bfd3597f"), looks := true }, kinds := [], alts := [], laidByText := true, laidKinds := [.data, .data, .data, .sentinel, .sentinel], laidTests := true, laidLooks := .later }
def ParleyNumbersUptoCardSaid : Prop := Claim7.holds Tryd.pinned (.plain (OpenSpec.upto parleyNumbersSpec)) parleyNumbersUptoCard
end Rows
end Go.Proofs.YtjlkmfnkpnmbiaaDoor
