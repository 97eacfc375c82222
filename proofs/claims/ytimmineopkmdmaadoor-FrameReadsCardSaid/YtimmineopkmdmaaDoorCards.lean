/-
  DERIVED. GIVEN WITH THE SEED: THE CARDS: each row of YtimmineopkmdmaaDoorRows.lean that lists a variable, with what it lists TIED to the program's text (the seventh form; the later family's looks); each row that meets fmt, with fmt's text TOLD by the authors' own Lean function (tested against real Go, not proved from fmt's source: count such statements apart). THE CARD IS WHAT COUNTS. Prove the row's statement (the work); the ties are given (YtimmineopkmdmaaDoorTie.lean); close each card by the builder's one call (the guide's Derived/Test/ToyasCard.lean, 'card_holds'). Laid BY PROGRAM, IN A SANDBOX (cutbox-door.mjs). By AI agents, Wed Nov 11 2026. No macro, syntax, notation, axiom, sorry.
-/
import Derived.Test.YtimmineopkmdmaaDoorRows
import GoSem.ClaimSeven
namespace Go.Proofs.YtimmineopkmdmaaDoor
namespace Rows

/-- THE TIED CARD OF 'polliwoglaw05.FrameBack'. -/
def frameBackCard : Claim7 := { stood := { row := frameBackRow, standIns := [], harness := (true, "c361b63717dbcadf72acfac3be5bc8a5d0967812bd363548a8bd637e07a291fe"), looks := false }, kinds := [], alts := [], laidByText := true, laidKinds := [.data, .pinned], laidTests := true, laidLooks := .later }
def FrameBackCardSaid : Prop := Claim7.holds Tryd.pinned (.plain (OpenSpec.ofChange frameBackSpec)) frameBackCard

/-- THE TIED CARD OF 'polliwoglaw05.FrameReads'. -/
def frameReadsCard : Claim7 := { stood := { row := frameReadsRow, standIns := [], harness := (true, "c361b63717dbcadf72acfac3be5bc8a5d0967812bd363548a8bd637e07a291fe"), looks := false }, kinds := [], alts := [], laidByText := true, laidKinds := [.data, .pinned], laidTests := true, laidLooks := .later }
def FrameReadsCardSaid : Prop := Claim7.holds Tryd.pinned (.plain (OpenSpec.ofChange frameReadsSpec)) frameReadsCard

/-- THE TIED CARD OF 'polliwoglaw05.FrameFlips'. -/
def frameFlipsCard : Claim7 := { stood := { row := frameFlipsRow, standIns := [], harness := (true, "c361b63717dbcadf72acfac3be5bc8a5d0967812bd363548a8bd637e07a291fe"), looks := false }, kinds := [], alts := [], laidByText := true, laidKinds := [.data, .pinned], laidTests := true, laidLooks := .later }
def FrameFlipsCardSaid : Prop := Claim7.holds Tryd.pinned (.plain (OpenSpec.ofChange frameFlipsSpec)) frameFlipsCard

/-- THE TIED CARD OF 'polliwoglaw05.FrameLong'. -/
def frameLongCard : Claim7 := { stood := { row := frameLongRow, standIns := [], harness := (true, "c361b63717dbcadf72acfac3be5bc8a5d0967812bd363548a8bd637e07a291fe"), looks := false }, kinds := [], alts := [], laidByText := true, laidKinds := [.data, .pinned], laidTests := true, laidLooks := .later }
def FrameLongCardSaid : Prop := Claim7.holds Tryd.pinned (.plain (OpenSpec.ofChange frameLongSpec)) frameLongCard

/-- THE TIED CARD OF 'polliwoglaw05.FrameUnlike'. -/
def frameUnlikeCard : Claim7 := { stood := { row := frameUnlikeRow, standIns := [], harness := (true, "c361b63717dbcadf72acfac3be5bc8a5d0967812bd363548a8bd637e07a291fe"), looks := false }, kinds := [], alts := [], laidByText := true, laidKinds := [.data, .pinned], laidTests := true, laidLooks := .later }
def FrameUnlikeCardSaid : Prop := Claim7.holds Tryd.pinned (.plain (OpenSpec.ofChange frameUnlikeSpec)) frameUnlikeCard

/-- THE TIED CARD OF 'polliwoglaw05.FrameCells'. -/
def frameCellsCard : Claim7 := { stood := { row := frameCellsRow, standIns := [], harness := (true, "c361b63717dbcadf72acfac3be5bc8a5d0967812bd363548a8bd637e07a291fe"), looks := false }, kinds := [], alts := [], laidByText := true, laidKinds := [.data, .pinned], laidTests := true, laidLooks := .later }
def FrameCellsCardSaid : Prop := Claim7.holds Tryd.pinned (.plain (OpenSpec.ofChange frameCellsSpec)) frameCellsCard

/-- THE TIED CARD OF 'polliwoglaw06.PduBack'. -/
def pduBackCard : Claim7 := { stood := { row := pduBackRow, standIns := [], harness := (true, "c361b63717dbcadf72acfac3be5bc8a5d0967812bd363548a8bd637e07a291fe"), looks := false }, kinds := [], alts := [], laidByText := true, laidKinds := [.wider], laidTests := true, laidLooks := .later }
def PduBackCardSaid : Prop := Claim7.holds Tryd.pinned (.plain (OpenSpec.ofChange pduBackSpec)) pduBackCard

/-- THE TIED CARD OF 'polliwoglaw06.PduNames'. -/
def pduNamesCard : Claim7 := { stood := { row := pduNamesRow, standIns := [], harness := (true, "c361b63717dbcadf72acfac3be5bc8a5d0967812bd363548a8bd637e07a291fe"), looks := false }, kinds := [], alts := [], laidByText := true, laidKinds := [.data, .wider], laidTests := true, laidLooks := .later }
def PduNamesCardSaid : Prop := Claim7.holds Tryd.pinned (.plain (OpenSpec.ofChange pduNamesSpec)) pduNamesCard

/-- THE TIED CARD OF 'polliwoglaw06.PduUnlike'. -/
def pduUnlikeCard : Claim7 := { stood := { row := pduUnlikeRow, standIns := [], harness := (true, "c361b63717dbcadf72acfac3be5bc8a5d0967812bd363548a8bd637e07a291fe"), looks := false }, kinds := [], alts := [], laidByText := true, laidKinds := [.wider], laidTests := true, laidLooks := .later }
def PduUnlikeCardSaid : Prop := Claim7.holds Tryd.pinned (.plain (OpenSpec.ofChange pduUnlikeSpec)) pduUnlikeCard

/-- THE TIED CARD OF 'polliwoglaw06.PduSizes'. -/
def pduSizesCard : Claim7 := { stood := { row := pduSizesRow, standIns := [], harness := (true, "c361b63717dbcadf72acfac3be5bc8a5d0967812bd363548a8bd637e07a291fe"), looks := false }, kinds := [], alts := [], laidByText := true, laidKinds := [.wider], laidTests := true, laidLooks := .later }
def PduSizesCardSaid : Prop := Claim7.holds Tryd.pinned (.plain (OpenSpec.ofChange pduSizesSpec)) pduSizesCard

/-- THE SECOND FORM's CARD OF 'polliwoglaw05.FrameBack'. -/
def frameBackUptoCard : Claim7 := { stood := { row := frameBackUptoRow, standIns := [], harness := (true, "c361b63717dbcadf72acfac3be5bc8a5d0967812bd363548a8bd637e07a291fe"), looks := false }, kinds := [], alts := [], laidByText := true, laidKinds := [.data, .pinned], laidTests := true, laidLooks := .later }
def FrameBackUptoCardSaid : Prop := Claim7.holds Tryd.pinned (.plain (OpenSpec.upto frameBackSpec)) frameBackUptoCard

/-- THE SECOND FORM's CARD OF 'polliwoglaw05.FrameReads'. -/
def frameReadsUptoCard : Claim7 := { stood := { row := frameReadsUptoRow, standIns := [], harness := (true, "c361b63717dbcadf72acfac3be5bc8a5d0967812bd363548a8bd637e07a291fe"), looks := false }, kinds := [], alts := [], laidByText := true, laidKinds := [.data, .pinned], laidTests := true, laidLooks := .later }
def FrameReadsUptoCardSaid : Prop := Claim7.holds Tryd.pinned (.plain (OpenSpec.upto frameReadsSpec)) frameReadsUptoCard

/-- THE SECOND FORM's CARD OF 'polliwoglaw05.FrameFlips'. -/
def frameFlipsUptoCard : Claim7 := { stood := { row := frameFlipsUptoRow, standIns := [], harness := (true, "c361b63717dbcadf72acfac3be5bc8a5d0967812bd363548a8bd637e07a291fe"), looks := false }, kinds := [], alts := [], laidByText := true, laidKinds := [.data, .pinned], laidTests := true, laidLooks := .later }
def FrameFlipsUptoCardSaid : Prop := Claim7.holds Tryd.pinned (.plain (OpenSpec.upto frameFlipsSpec)) frameFlipsUptoCard

/-- THE SECOND FORM's CARD OF 'polliwoglaw05.FrameLong'. -/
def frameLongUptoCard : Claim7 := { stood := { row := frameLongUptoRow, standIns := [], harness := (true, "c361b63717dbcadf72acfac3be5bc8a5d0967812bd363548a8bd637e07a291fe"), looks := false }, kinds := [], alts := [], laidByText := true, laidKinds := [.data, .pinned], laidTests := true, laidLooks := .later }
def FrameLongUptoCardSaid : Prop := Claim7.holds Tryd.pinned (.plain (OpenSpec.upto frameLongSpec)) frameLongUptoCard

/-- THE SECOND FORM's CARD OF 'polliwoglaw05.FrameUnlike'. -/
def frameUnlikeUptoCard : Claim7 := { stood := { row := frameUnlikeUptoRow, standIns := [], harness := (true, "c361b63717dbcadf72acfac3be5bc8a5d0967812bd363548a8bd637e07a291fe"), looks := false }, kinds := [], alts := [], laidByText := true, laidKinds := [.data, .pinned], laidTests := true, laidLooks := .later }
def FrameUnlikeUptoCardSaid : Prop := Claim7.holds Tryd.pinned (.plain (OpenSpec.upto frameUnlikeSpec)) frameUnlikeUptoCard

/-- THE SECOND FORM's CARD OF 'polliwoglaw05.FrameCells'. -/
def frameCellsUptoCard : Claim7 := { stood := { row := frameCellsUptoRow, standIns := [], harness := (true, "c361b63717dbcadf72acfac3be5bc8a5d0967812bd363548a8bd637e07a291fe"), looks := false }, kinds := [], alts := [], laidByText := true, laidKinds := [.data, .pinned], laidTests := true, laidLooks := .later }
def FrameCellsUptoCardSaid : Prop := Claim7.holds Tryd.pinned (.plain (OpenSpec.upto frameCellsSpec)) frameCellsUptoCard

/-- THE SECOND FORM's CARD OF 'polliwoglaw06.PduBack'. -/
def pduBackUptoCard : Claim7 := { stood := { row := pduBackUptoRow, standIns := [], harness := (true, "c361b63717dbcadf72acfac3be5bc8a5d0967812bd363548a8bd637e07a291fe"), looks := false }, kinds := [], alts := [], laidByText := true, laidKinds := [.wider], laidTests := true, laidLooks := .later }
def PduBackUptoCardSaid : Prop := Claim7.holds Tryd.pinned (.plain (OpenSpec.upto pduBackSpec)) pduBackUptoCard

/-- THE SECOND FORM's CARD OF 'polliwoglaw06.PduNames'. -/
def pduNamesUptoCard : Claim7 := { stood := { row := pduNamesUptoRow, standIns := [], harness := (true, "c361b63717dbcadf72acfac3be5bc8a5d0967812bd363548a8bd637e07a291fe"), looks := false }, kinds := [], alts := [], laidByText := true, laidKinds := [.data, .wider], laidTests := true, laidLooks := .later }
def PduNamesUptoCardSaid : Prop := Claim7.holds Tryd.pinned (.plain (OpenSpec.upto pduNamesSpec)) pduNamesUptoCard

/-- THE SECOND FORM's CARD OF 'polliwoglaw06.PduUnlike'. -/
def pduUnlikeUptoCard : Claim7 := { stood := { row := pduUnlikeUptoRow, standIns := [], harness := (true, "c361b63717dbcadf72acfac3be5bc8a5d0967812bd363548a8bd637e07a291fe"), looks := false }, kinds := [], alts := [], laidByText := true, laidKinds := [.wider], laidTests := true, laidLooks := .later }
def PduUnlikeUptoCardSaid : Prop := Claim7.holds Tryd.pinned (.plain (OpenSpec.upto pduUnlikeSpec)) pduUnlikeUptoCard

/-- THE SECOND FORM's CARD OF 'polliwoglaw06.PduSizes'. -/
def pduSizesUptoCard : Claim7 := { stood := { row := pduSizesUptoRow, standIns := [], harness := (true, "c361b63717dbcadf72acfac3be5bc8a5d0967812bd363548a8bd637e07a291fe"), looks := false }, kinds := [], alts := [], laidByText := true, laidKinds := [.wider], laidTests := true, laidLooks := .later }
def PduSizesUptoCardSaid : Prop := Claim7.holds Tryd.pinned (.plain (OpenSpec.upto pduSizesSpec)) pduSizesUptoCard
end Rows
end Go.Proofs.YtimmineopkmdmaaDoor
