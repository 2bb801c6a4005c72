/-
  DERIVED. GIVEN WITH THE SEED: THE CARDS: each row of YtnbhgjionpidnaaDoorRows.lean that lists a variable, with what it lists TIED to the program's text (the seventh form; the later family's looks); each row that meets fmt, with fmt's text TOLD by the authors' own Lean function (tested against real Go, not proved from fmt's source: count such statements apart). THE CARD IS WHAT COUNTS. Prove the row's statement (the work); the ties are given (YtnbhgjionpidnaaDoorTie.lean); close each card by the builder's one call (the guide's Derived/Test/ToyasCard.lean, 'card_holds'). Laid BY PROGRAM, IN A SANDBOX (cutbox-door.mjs). By AI agents, Wed Nov 11 2026. No macro, syntax, notation, axiom, sorry.
-/
import Derived.Test.YtnbhgjionpidnaaDoorRows
import GoSem.ClaimSeven
namespace Go.Proofs.YtnbhgjionpidnaaDoor
namespace Rows

/-- THE TIED CARD OF 'parleylaw22.WsFrames'. -/
def wsFramesCard : Claim7 := { stood := { row := wsFramesRow, standIns := [], harness := (true, "d3b3c6fab4700d32f00586e41847e0081f5643fba73e31b03dc5e61f5f8d04cd"), looks := true }, kinds := [], alts := [], laidByText := true, laidKinds := [.data, .pinned], laidTests := true, laidLooks := .later }
def WsFramesCardSaid : Prop := Claim7.holds Tryd.pinned (.plain (OpenSpec.ofChange wsFramesSpec)) wsFramesCard

/-- THE TIED CARD OF 'parleylaw22.WsReads'. -/
def wsReadsCard : Claim7 := { stood := { row := wsReadsRow, standIns := [], harness := (true, "d3b3c6fab4700d32f00586e41847e0081f5643fba73e31b03dc5e61f5f8d04cd"), looks := true }, kinds := [], alts := [], laidByText := true, laidKinds := [.data, .pinned], laidTests := true, laidLooks := .later }
def WsReadsCardSaid : Prop := Claim7.holds Tryd.pinned (.plain (OpenSpec.ofChange wsReadsSpec)) wsReadsCard

/-- THE TIED CARD OF 'parleylaw22.WsPieces'. -/
def wsPiecesCard : Claim7 := { stood := { row := wsPiecesRow, standIns := [], harness := (true, "d3b3c6fab4700d32f00586e41847e0081f5643fba73e31b03dc5e61f5f8d04cd"), looks := true }, kinds := [], alts := [], laidByText := true, laidKinds := [.data, .pinned], laidTests := true, laidLooks := .later }
def WsPiecesCardSaid : Prop := Claim7.holds Tryd.pinned (.plain (OpenSpec.ofChange wsPiecesSpec)) wsPiecesCard

/-- THE TIED CARD OF 'parleylaw22.WsBack'. -/
def wsBackCard : Claim7 := { stood := { row := wsBackRow, standIns := [], harness := (true, "d3b3c6fab4700d32f00586e41847e0081f5643fba73e31b03dc5e61f5f8d04cd"), looks := true }, kinds := [], alts := [], laidByText := true, laidKinds := [.data, .pinned], laidTests := true, laidLooks := .later }
def WsBackCardSaid : Prop := Claim7.holds Tryd.pinned (.plain (OpenSpec.ofChange wsBackSpec)) wsBackCard

/-- THE TIED CARD OF 'parleylaw22.WsMasks'. -/
def wsMasksCard : Claim7 := { stood := { row := wsMasksRow, standIns := [], harness := (true, "d3b3c6fab4700d32f00586e41847e0081f5643fba73e31b03dc5e61f5f8d04cd"), looks := true }, kinds := [], alts := [], laidByText := true, laidKinds := [.data, .pinned], laidTests := true, laidLooks := .later }
def WsMasksCardSaid : Prop := Claim7.holds Tryd.pinned (.plain (OpenSpec.ofChange wsMasksSpec)) wsMasksCard

/-- THE TIED CARD OF 'parleylaw22.WsBehind'. -/
def wsBehindCard : Claim7 := { stood := { row := wsBehindRow, standIns := [], harness := (true, "d3b3c6fab4700d32f00586e41847e0081f5643fba73e31b03dc5e61f5f8d04cd"), looks := true }, kinds := [], alts := [], laidByText := true, laidKinds := [.data, .pinned], laidTests := true, laidLooks := .later }
def WsBehindCardSaid : Prop := Claim7.holds Tryd.pinned (.plain (OpenSpec.ofChange wsBehindSpec)) wsBehindCard

/-- THE SECOND FORM's CARD OF 'parleylaw22.WsFrames'. -/
def wsFramesUptoCard : Claim7 := { stood := { row := wsFramesUptoRow, standIns := [], harness := (true, "d3b3c6fab4700d32f00586e41847e0081f5643fba73e31b03dc5e61f5f8d04cd"), looks := true }, kinds := [], alts := [], laidByText := true, laidKinds := [.data, .pinned], laidTests := true, laidLooks := .later }
def WsFramesUptoCardSaid : Prop := Claim7.holds Tryd.pinned (.plain (OpenSpec.upto wsFramesSpec)) wsFramesUptoCard

/-- THE SECOND FORM's CARD OF 'parleylaw22.WsReads'. -/
def wsReadsUptoCard : Claim7 := { stood := { row := wsReadsUptoRow, standIns := [], harness := (true, "d3b3c6fab4700d32f00586e41847e0081f5643fba73e31b03dc5e61f5f8d04cd"), looks := true }, kinds := [], alts := [], laidByText := true, laidKinds := [.data, .pinned], laidTests := true, laidLooks := .later }
def WsReadsUptoCardSaid : Prop := Claim7.holds Tryd.pinned (.plain (OpenSpec.upto wsReadsSpec)) wsReadsUptoCard

/-- THE SECOND FORM's CARD OF 'parleylaw22.WsPieces'. -/
def wsPiecesUptoCard : Claim7 := { stood := { row := wsPiecesUptoRow, standIns := [], harness := (true, "d3b3c6fab4700d32f00586e41847e0081f5643fba73e31b03dc5e61f5f8d04cd"), looks := true }, kinds := [], alts := [], laidByText := true, laidKinds := [.data, .pinned], laidTests := true, laidLooks := .later }
def WsPiecesUptoCardSaid : Prop := Claim7.holds Tryd.pinned (.plain (OpenSpec.upto wsPiecesSpec)) wsPiecesUptoCard

/-- THE SECOND FORM's CARD OF 'parleylaw22.WsBack'. -/
def wsBackUptoCard : Claim7 := { stood := { row := wsBackUptoRow, standIns := [], harness := (true, "d3b3c6fab4700d32f00586e41847e0081f5643fba73e31b03dc5e61f5f8d04cd"), looks := true }, kinds := [], alts := [], laidByText := true, laidKinds := [.data, .pinned], laidTests := true, laidLooks := .later }
def WsBackUptoCardSaid : Prop := Claim7.holds Tryd.pinned (.plain (OpenSpec.upto wsBackSpec)) wsBackUptoCard

/-- THE SECOND FORM's CARD OF 'parleylaw22.WsMasks'. -/
def wsMasksUptoCard : Claim7 := { stood := { row := wsMasksUptoRow, standIns := [], harness := (true, "d3b3c6fab4700d32f00586e41847e0081f5643fba73e31b03dc5e61f5f8d04cd"), looks := true }, kinds := [], alts := [], laidByText := true, laidKinds := [.data, .pinned], laidTests := true, laidLooks := .later }
def WsMasksUptoCardSaid : Prop := Claim7.holds Tryd.pinned (.plain (OpenSpec.upto wsMasksSpec)) wsMasksUptoCard

/-- THE SECOND FORM's CARD OF 'parleylaw22.WsBehind'. -/
def wsBehindUptoCard : Claim7 := { stood := { row := wsBehindUptoRow, standIns := [], harness := (true, "d3b3c6fab4700d32f00586e41847e0081f5643fba73e31b03dc5e61f5f8d04cd"), looks := true }, kinds := [], alts := [], laidByText := true, laidKinds := [.data, .pinned], laidTests := true, laidLooks := .later }
def WsBehindUptoCardSaid : Prop := Claim7.holds Tryd.pinned (.plain (OpenSpec.upto wsBehindSpec)) wsBehindUptoCard
end Rows
end Go.Proofs.YtnbhgjionpidnaaDoor
