/-
  DERIVED. GIVEN WITH THE SEED: THE CARDS: each row of YtganelhlpobdjaaDoorRows.lean that lists a variable, with what it lists TIED to the program's text (the seventh form; the later family's looks); each row that meets fmt, with fmt's text TOLD by the authors' own Lean function (tested against real Go, not proved from fmt's source: count such statements apart). THE CARD IS WHAT COUNTS. Prove the row's statement (the work); the ties are given (YtganelhlpobdjaaDoorTie.lean); close each card by the builder's one call (the guide's Derived/Test/ToyasCard.lean, 'card_holds'). Laid BY PROGRAM, IN A SANDBOX (cutbox-door.mjs). By AI agents, Wed Nov 11 2026. No macro, syntax, notation, axiom, sorry.
-/
import Derived.Test.YtganelhlpobdjaaDoorRows
import GoSem.ClaimSeven
namespace Go.Proofs.YtganelhlpobdjaaDoor
namespace Rows

/-- THE TIED CARD OF 'sounderlaw05.FrameTells'. -/
def frameTellsCard : Claim7 := { stood := { row := frameTellsRow, standIns := [], harness := (true, "5a41e6b53f1068cd141e07bfc390b3d0f05b6825c3a924e4670ccb9c8b97dff4"), looks := false }, kinds := [], alts := [], laidByText := true, laidKinds := [.data], laidTests := true, laidLooks := .later }
def FrameTellsCardSaid : Prop := Claim7.holds Tryd.pinned (.plain (OpenSpec.ofChange frameTellsSpec)) frameTellsCard

/-- THE TIED CARD OF 'sounderlaw05.FrameReads'. -/
def frameReadsCard : Claim7 := { stood := { row := frameReadsRow, standIns := [], harness := (true, "5a41e6b53f1068cd141e07bfc390b3d0f05b6825c3a924e4670ccb9c8b97dff4"), looks := false }, kinds := [], alts := [], laidByText := true, laidKinds := [.data], laidTests := true, laidLooks := .later }
def FrameReadsCardSaid : Prop := Claim7.holds Tryd.pinned (.plain (OpenSpec.ofChange frameReadsSpec)) frameReadsCard

/-- THE TIED CARD OF 'sounderlaw05.FrameWaits'. -/
def frameWaitsCard : Claim7 := { stood := { row := frameWaitsRow, standIns := [], harness := (true, "5a41e6b53f1068cd141e07bfc390b3d0f05b6825c3a924e4670ccb9c8b97dff4"), looks := false }, kinds := [], alts := [], laidByText := true, laidKinds := [.data], laidTests := true, laidLooks := .later }
def FrameWaitsCardSaid : Prop := Claim7.holds Tryd.pinned (.plain (OpenSpec.ofChange frameWaitsSpec)) frameWaitsCard

/-- THE TIED CARD OF 'sounderlaw05.FrameBack'. -/
def frameBackCard : Claim7 := { stood := { row := frameBackRow, standIns := [], harness := (true, "5a41e6b53f1068cd141e07bfc390b3d0f05b6825c3a924e4670ccb9c8b97dff4"), looks := false }, kinds := [], alts := [], laidByText := true, laidKinds := [.data], laidTests := true, laidLooks := .later }
def FrameBackCardSaid : Prop := Claim7.holds Tryd.pinned (.plain (OpenSpec.ofChange frameBackSpec)) frameBackCard

/-- THE TIED CARD OF 'sounderlaw05.FrameAgain'. -/
def frameAgainCard : Claim7 := { stood := { row := frameAgainRow, standIns := [], harness := (true, "5a41e6b53f1068cd141e07bfc390b3d0f05b6825c3a924e4670ccb9c8b97dff4"), looks := false }, kinds := [], alts := [], laidByText := true, laidKinds := [.data], laidTests := true, laidLooks := .later }
def FrameAgainCardSaid : Prop := Claim7.holds Tryd.pinned (.plain (OpenSpec.ofChange frameAgainSpec)) frameAgainCard

/-- THE TIED CARD OF 'sounderlaw05.FrameCut'. -/
def frameCutCard : Claim7 := { stood := { row := frameCutRow, standIns := [], harness := (true, "5a41e6b53f1068cd141e07bfc390b3d0f05b6825c3a924e4670ccb9c8b97dff4"), looks := false }, kinds := [], alts := [], laidByText := true, laidKinds := [.data], laidTests := true, laidLooks := .later }
def FrameCutCardSaid : Prop := Claim7.holds Tryd.pinned (.plain (OpenSpec.ofChange frameCutSpec)) frameCutCard

/-- THE TIED CARD OF 'sounderlaw05.FrameHas'. -/
def frameHasCard : Claim7 := { stood := { row := frameHasRow, standIns := [], harness := (true, "5a41e6b53f1068cd141e07bfc390b3d0f05b6825c3a924e4670ccb9c8b97dff4"), looks := false }, kinds := [], alts := [], laidByText := true, laidKinds := [.data], laidTests := true, laidLooks := .later }
def FrameHasCardSaid : Prop := Claim7.holds Tryd.pinned (.plain (OpenSpec.ofChange frameHasSpec)) frameHasCard

/-- THE TIED CARD OF 'sounderlaw05.FrameDoubles'. -/
def frameDoublesCard : Claim7 := { stood := { row := frameDoublesRow, standIns := [], harness := (true, "5a41e6b53f1068cd141e07bfc390b3d0f05b6825c3a924e4670ccb9c8b97dff4"), looks := false }, kinds := [], alts := [], laidByText := true, laidKinds := [.data], laidTests := true, laidLooks := .later }
def FrameDoublesCardSaid : Prop := Claim7.holds Tryd.pinned (.plain (OpenSpec.ofChange frameDoublesSpec)) frameDoublesCard

/-- THE TIED CARD OF 'sounderlaw05.FrameKnown'. -/
def frameKnownCard : Claim7 := { stood := { row := frameKnownRow, standIns := [], harness := (true, "5a41e6b53f1068cd141e07bfc390b3d0f05b6825c3a924e4670ccb9c8b97dff4"), looks := false }, kinds := [], alts := [], laidByText := true, laidKinds := [.data], laidTests := true, laidLooks := .later }
def FrameKnownCardSaid : Prop := Claim7.holds Tryd.pinned (.plain (OpenSpec.ofChange frameKnownSpec)) frameKnownCard

/-- THE SECOND FORM's CARD OF 'sounderlaw05.FrameTells'. -/
def frameTellsUptoCard : Claim7 := { stood := { row := frameTellsUptoRow, standIns := [], harness := (true, "5a41e6b53f1068cd141e07bfc390b3d0f05b6825c3a924e4670ccb9c8b97dff4"), looks := false }, kinds := [], alts := [], laidByText := true, laidKinds := [.data], laidTests := true, laidLooks := .later }
def FrameTellsUptoCardSaid : Prop := Claim7.holds Tryd.pinned (.plain (OpenSpec.upto frameTellsSpec)) frameTellsUptoCard

/-- THE SECOND FORM's CARD OF 'sounderlaw05.FrameReads'. -/
def frameReadsUptoCard : Claim7 := { stood := { row := frameReadsUptoRow, standIns := [], harness := (true, "5a41e6b53f1068cd141e07bfc390b3d0f05b6825c3a924e4670ccb9c8b97dff4"), looks := false }, kinds := [], alts := [], laidByText := true, laidKinds := [.data], laidTests := true, laidLooks := .later }
def FrameReadsUptoCardSaid : Prop := Claim7.holds Tryd.pinned (.plain (OpenSpec.upto frameReadsSpec)) frameReadsUptoCard

/-- THE SECOND FORM's CARD OF 'sounderlaw05.FrameWaits'. -/
def frameWaitsUptoCard : Claim7 := { stood := { row := frameWaitsUptoRow, standIns := [], harness := (true, "5a41e6b53f1068cd141e07bfc390b3d0f05b6825c3a924e4670ccb9c8b97dff4"), looks := false }, kinds := [], alts := [], laidByText := true, laidKinds := [.data], laidTests := true, laidLooks := .later }
def FrameWaitsUptoCardSaid : Prop := Claim7.holds Tryd.pinned (.plain (OpenSpec.upto frameWaitsSpec)) frameWaitsUptoCard

/-- THE SECOND FORM's CARD OF 'sounderlaw05.FrameBack'. -/
def frameBackUptoCard : Claim7 := { stood := { row := frameBackUptoRow, standIns := [], harness := (true, "5a41e6b53f1068cd141e07bfc390b3d0f05b6825c3a924e4670ccb9c8b97dff4"), looks := false }, kinds := [], alts := [], laidByText := true, laidKinds := [.data], laidTests := true, laidLooks := .later }
def FrameBackUptoCardSaid : Prop := Claim7.holds Tryd.pinned (.plain (OpenSpec.upto frameBackSpec)) frameBackUptoCard

/-- THE SECOND FORM's CARD OF 'sounderlaw05.FrameAgain'. -/
def frameAgainUptoCard : Claim7 := { stood := { row := frameAgainUptoRow, standIns := [], harness := (true, "5a41e6b53f1068cd141e07bfc390b3d0f05b6825c3a924e4670ccb9c8b97dff4"), looks := false }, kinds := [], alts := [], laidByText := true, laidKinds := [.data], laidTests := true, laidLooks := .later }
def FrameAgainUptoCardSaid : Prop := Claim7.holds Tryd.pinned (.plain (OpenSpec.upto frameAgainSpec)) frameAgainUptoCard

/-- THE SECOND FORM's CARD OF 'sounderlaw05.FrameCut'. -/
def frameCutUptoCard : Claim7 := { stood := { row := frameCutUptoRow, standIns := [], harness := (true, "5a41e6b53f1068cd141e07bfc390b3d0f05b6825c3a924e4670ccb9c8b97dff4"), looks := false }, kinds := [], alts := [], laidByText := true, laidKinds := [.data], laidTests := true, laidLooks := .later }
def FrameCutUptoCardSaid : Prop := Claim7.holds Tryd.pinned (.plain (OpenSpec.upto frameCutSpec)) frameCutUptoCard

/-- THE SECOND FORM's CARD OF 'sounderlaw05.FrameHas'. -/
def frameHasUptoCard : Claim7 := { stood := { row := frameHasUptoRow, standIns := [], harness := (true, "5a41e6b53f1068cd141e07bfc390b3d0f05b6825c3a924e4670ccb9c8b97dff4"), looks := false }, kinds := [], alts := [], laidByText := true, laidKinds := [.data], laidTests := true, laidLooks := .later }
def FrameHasUptoCardSaid : Prop := Claim7.holds Tryd.pinned (.plain (OpenSpec.upto frameHasSpec)) frameHasUptoCard

/-- THE SECOND FORM's CARD OF 'sounderlaw05.FrameDoubles'. -/
def frameDoublesUptoCard : Claim7 := { stood := { row := frameDoublesUptoRow, standIns := [], harness := (true, "5a41e6b53f1068cd141e07bfc390b3d0f05b6825c3a924e4670ccb9c8b97dff4"), looks := false }, kinds := [], alts := [], laidByText := true, laidKinds := [.data], laidTests := true, laidLooks := .later }
def FrameDoublesUptoCardSaid : Prop := Claim7.holds Tryd.pinned (.plain (OpenSpec.upto frameDoublesSpec)) frameDoublesUptoCard

/-- THE SECOND FORM's CARD OF 'sounderlaw05.FrameKnown'. -/
def frameKnownUptoCard : Claim7 := { stood := { row := frameKnownUptoRow, standIns := [], harness := (true, "5a41e6b53f1068cd141e07bfc390b3d0f05b6825c3a924e4670ccb9c8b97dff4"), looks := false }, kinds := [], alts := [], laidByText := true, laidKinds := [.data], laidTests := true, laidLooks := .later }
def FrameKnownUptoCardSaid : Prop := Claim7.holds Tryd.pinned (.plain (OpenSpec.upto frameKnownSpec)) frameKnownUptoCard
end Rows
end Go.Proofs.YtganelhlpobdjaaDoor
