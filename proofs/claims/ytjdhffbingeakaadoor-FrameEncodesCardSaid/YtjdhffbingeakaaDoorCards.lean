/-
  DERIVED. GIVEN WITH THE SEED: THE CARDS: each row of YtjdhffbingeakaaDoorRows.lean that lists a variable, with what it lists TIED to the program's text (the seventh form; the later family's looks); each row that meets fmt, with fmt's text TOLD by the authors' own Lean function (tested against real Go, not proved from fmt's source: count such statements apart). THE CARD IS WHAT COUNTS. Prove the row's statement (the work); the ties are given (YtjdhffbingeakaaDoorTie.lean); close each card by the builder's one call (the guide's Derived/Test/ToyasCard.lean, 'card_holds'). Laid BY PROGRAM, IN A SANDBOX (cutbox-door.mjs). By AI agents, Wed Nov 11 2026. No macro, syntax, notation, axiom, sorry.
-/
import Derived.Test.YtjdhffbingeakaaDoorRows
import GoSem.ClaimSeven
namespace Go.Proofs.YtjdhffbingeakaaDoor
namespace Rows

/-- THE TIED CARD OF 'parleylaw04.FrameEncodes'. -/
def frameEncodesCard : Claim7 := { stood := { row := frameEncodesRow, standIns := [], harness := (true, "ccb51c18cf4e267541e4a0dab41b53b55401b3597795a258d479eba95cab8f0a"), looks := false }, kinds := [], alts := [], laidByText := true, laidKinds := [.data], laidTests := true, laidLooks := .later }
def FrameEncodesCardSaid : Prop := Claim7.holds Tryd.pinned (.plain (OpenSpec.ofChange frameEncodesSpec)) frameEncodesCard

/-- THE TIED CARD OF 'parleylaw04.FrameChains'. -/
def frameChainsCard : Claim7 := { stood := { row := frameChainsRow, standIns := [], harness := (true, "ccb51c18cf4e267541e4a0dab41b53b55401b3597795a258d479eba95cab8f0a"), looks := false }, kinds := [], alts := [], laidByText := true, laidKinds := [.data], laidTests := true, laidLooks := .later }
def FrameChainsCardSaid : Prop := Claim7.holds Tryd.pinned (.plain (OpenSpec.ofChange frameChainsSpec)) frameChainsCard

/-- THE TIED CARD OF 'parleylaw04.FrameBits'. -/
def frameBitsCard : Claim7 := { stood := { row := frameBitsRow, standIns := [], harness := (true, "ccb51c18cf4e267541e4a0dab41b53b55401b3597795a258d479eba95cab8f0a"), looks := false }, kinds := [], alts := [], laidByText := true, laidKinds := [.data], laidTests := true, laidLooks := .later }
def FrameBitsCardSaid : Prop := Claim7.holds Tryd.pinned (.plain (OpenSpec.ofChange frameBitsSpec)) frameBitsCard

/-- THE TIED CARD OF 'parleylaw04.FrameAlone'. -/
def frameAloneCard : Claim7 := { stood := { row := frameAloneRow, standIns := [], harness := (true, "ccb51c18cf4e267541e4a0dab41b53b55401b3597795a258d479eba95cab8f0a"), looks := false }, kinds := [], alts := [], laidByText := true, laidKinds := [.data], laidTests := true, laidLooks := .later }
def FrameAloneCardSaid : Prop := Claim7.holds Tryd.pinned (.plain (OpenSpec.ofChange frameAloneSpec)) frameAloneCard

/-- THE TIED CARD OF 'parleytop.ParleyBlocks'. -/
def parleyBlocksCard : Claim7 := { stood := { row := parleyBlocksRow, standIns := [], harness := (true, "ccb51c18cf4e267541e4a0dab41b53b55401b3597795a258d479eba95cab8f0a"), looks := false }, kinds := [], alts := [], laidByText := true, laidKinds := [.data], laidTests := true, laidLooks := .later }
def ParleyBlocksCardSaid : Prop := Claim7.holds Tryd.pinned (.plain (OpenSpec.ofChange parleyBlocksSpec)) parleyBlocksCard

/-- THE SECOND FORM's CARD OF 'parleylaw04.FrameEncodes'. -/
def frameEncodesUptoCard : Claim7 := { stood := { row := frameEncodesUptoRow, standIns := [], harness := (true, "ccb51c18cf4e267541e4a0dab41b53b55401b3597795a258d479eba95cab8f0a"), looks := false }, kinds := [], alts := [], laidByText := true, laidKinds := [.data], laidTests := true, laidLooks := .later }
def FrameEncodesUptoCardSaid : Prop := Claim7.holds Tryd.pinned (.plain (OpenSpec.upto frameEncodesSpec)) frameEncodesUptoCard

/-- THE SECOND FORM's CARD OF 'parleylaw04.FrameChains'. -/
def frameChainsUptoCard : Claim7 := { stood := { row := frameChainsUptoRow, standIns := [], harness := (true, "ccb51c18cf4e267541e4a0dab41b53b55401b3597795a258d479eba95cab8f0a"), looks := false }, kinds := [], alts := [], laidByText := true, laidKinds := [.data], laidTests := true, laidLooks := .later }
def FrameChainsUptoCardSaid : Prop := Claim7.holds Tryd.pinned (.plain (OpenSpec.upto frameChainsSpec)) frameChainsUptoCard

/-- THE SECOND FORM's CARD OF 'parleylaw04.FrameBits'. -/
def frameBitsUptoCard : Claim7 := { stood := { row := frameBitsUptoRow, standIns := [], harness := (true, "ccb51c18cf4e267541e4a0dab41b53b55401b3597795a258d479eba95cab8f0a"), looks := false }, kinds := [], alts := [], laidByText := true, laidKinds := [.data], laidTests := true, laidLooks := .later }
def FrameBitsUptoCardSaid : Prop := Claim7.holds Tryd.pinned (.plain (OpenSpec.upto frameBitsSpec)) frameBitsUptoCard

/-- THE SECOND FORM's CARD OF 'parleylaw04.FrameAlone'. -/
def frameAloneUptoCard : Claim7 := { stood := { row := frameAloneUptoRow, standIns := [], harness := (true, "ccb51c18cf4e267541e4a0dab41b53b55401b3597795a258d479eba95cab8f0a"), looks := false }, kinds := [], alts := [], laidByText := true, laidKinds := [.data], laidTests := true, laidLooks := .later }
def FrameAloneUptoCardSaid : Prop := Claim7.holds Tryd.pinned (.plain (OpenSpec.upto frameAloneSpec)) frameAloneUptoCard

/-- THE SECOND FORM's CARD OF 'parleytop.ParleyBlocks'. -/
def parleyBlocksUptoCard : Claim7 := { stood := { row := parleyBlocksUptoRow, standIns := [], harness := (true, "ccb51c18cf4e267541e4a0dab41b53b55401b3597795a258d479eba95cab8f0a"), looks := false }, kinds := [], alts := [], laidByText := true, laidKinds := [.data], laidTests := true, laidLooks := .later }
def ParleyBlocksUptoCardSaid : Prop := Claim7.holds Tryd.pinned (.plain (OpenSpec.upto parleyBlocksSpec)) parleyBlocksUptoCard
end Rows
end Go.Proofs.YtjdhffbingeakaaDoor
