/-
  DERIVED. GIVEN WITH THE SEED: THE CARDS: each row of YtnocckgbcjienabDoorRows.lean that lists a variable, with what it lists TIED to the program's text (the seventh form; the later family's looks); each row that meets fmt, with fmt's text TOLD by the authors' own Lean function (tested against real Go, not proved from fmt's source: count such statements apart). THE CARD IS WHAT COUNTS. Prove the row's statement (the work); the ties are given (YtnocckgbcjienabDoorTie.lean); close each card by the builder's one call (the guide's Derived/Test/ToyasCard.lean, 'card_holds'). Laid BY PROGRAM, IN A SANDBOX (cutbox-door.mjs). By AI agents, Wed Nov 11 2026. No macro, syntax, notation, axiom, sorry.
-/
import Derived.Test.YtnocckgbcjienabDoorRows
import GoSem.ClaimSeven
namespace Go.Proofs.YtnocckgbcjienabDoor
namespace Rows

/-- THE TIED CARD OF 'polliwoglaw06.PduBack'. -/
def pduBackCard : Claim7 := { stood := { row := pduBackRow, standIns := [], harness := (true, "f87dca7856d87f78db44aec50463e9b3d607432d74984f0bb5601a2a7add51c8"), looks := false }, kinds := [], alts := [], laidByText := true, laidKinds := [.wider], laidTests := true, laidLooks := .later }
def PduBackCardSaid : Prop := Claim7.holds Tryd.pinned (.plain (OpenSpec.ofChange pduBackSpec)) pduBackCard

/-- THE TIED CARD OF 'polliwoglaw06.PduUnlike'. -/
def pduUnlikeCard : Claim7 := { stood := { row := pduUnlikeRow, standIns := [], harness := (true, "f87dca7856d87f78db44aec50463e9b3d607432d74984f0bb5601a2a7add51c8"), looks := false }, kinds := [], alts := [], laidByText := true, laidKinds := [.wider], laidTests := true, laidLooks := .later }
def PduUnlikeCardSaid : Prop := Claim7.holds Tryd.pinned (.plain (OpenSpec.ofChange pduUnlikeSpec)) pduUnlikeCard

/-- THE TIED CARD OF 'polliwoglaw07.WireBack'. -/
def wireBackCard : Claim7 := { stood := { row := wireBackRow, standIns := [], harness := (true, "f87dca7856d87f78db44aec50463e9b3d607432d74984f0bb5601a2a7add51c8"), looks := false }, kinds := [], alts := [], laidByText := true, laidKinds := [.data, .wider, .pinned], laidTests := true, laidLooks := .later }
def WireBackCardSaid : Prop := Claim7.holds Tryd.pinned (.plain (OpenSpec.ofChange wireBackSpec)) wireBackCard

/-- THE TIED CARD OF 'polliwoglaw07.WireFlips'. -/
def wireFlipsCard : Claim7 := { stood := { row := wireFlipsRow, standIns := [], harness := (true, "f87dca7856d87f78db44aec50463e9b3d607432d74984f0bb5601a2a7add51c8"), looks := false }, kinds := [], alts := [], laidByText := true, laidKinds := [.data, .wider, .pinned], laidTests := true, laidLooks := .later }
def WireFlipsCardSaid : Prop := Claim7.holds Tryd.pinned (.plain (OpenSpec.ofChange wireFlipsSpec)) wireFlipsCard

/-- THE TIED CARD OF 'polliwoglaw07.WireSizes'. -/
def wireSizesCard : Claim7 := { stood := { row := wireSizesRow, standIns := [], harness := (true, "f87dca7856d87f78db44aec50463e9b3d607432d74984f0bb5601a2a7add51c8"), looks := false }, kinds := [], alts := [], laidByText := true, laidKinds := [.data, .wider, .pinned], laidTests := true, laidLooks := .later }
def WireSizesCardSaid : Prop := Claim7.holds Tryd.pinned (.plain (OpenSpec.ofChange wireSizesSpec)) wireSizesCard

/-- THE TIED CARD OF 'polliwoglaw07.WireNone'. -/
def wireNoneCard : Claim7 := { stood := { row := wireNoneRow, standIns := [], harness := (true, "f87dca7856d87f78db44aec50463e9b3d607432d74984f0bb5601a2a7add51c8"), looks := false }, kinds := [], alts := [], laidByText := true, laidKinds := [.data, .wider, .pinned], laidTests := true, laidLooks := .later }
def WireNoneCardSaid : Prop := Claim7.holds Tryd.pinned (.plain (OpenSpec.ofChange wireNoneSpec)) wireNoneCard

/-- THE TIED CARD OF 'polliwogtop.PolliwogWhole'. -/
def polliwogWholeCard : Claim7 := { stood := { row := polliwogWholeRow, standIns := [], harness := (true, "f87dca7856d87f78db44aec50463e9b3d607432d74984f0bb5601a2a7add51c8"), looks := false }, kinds := [], alts := [], laidByText := true, laidKinds := [.data, .wider, .pinned], laidTests := true, laidLooks := .later }
def PolliwogWholeCardSaid : Prop := Claim7.holds Tryd.pinned (.plain (OpenSpec.ofChange polliwogWholeSpec)) polliwogWholeCard

/-- THE SECOND FORM's CARD OF 'polliwoglaw06.PduBack'. -/
def pduBackUptoCard : Claim7 := { stood := { row := pduBackUptoRow, standIns := [], harness := (true, "f87dca7856d87f78db44aec50463e9b3d607432d74984f0bb5601a2a7add51c8"), looks := false }, kinds := [], alts := [], laidByText := true, laidKinds := [.wider], laidTests := true, laidLooks := .later }
def PduBackUptoCardSaid : Prop := Claim7.holds Tryd.pinned (.plain (OpenSpec.upto pduBackSpec)) pduBackUptoCard

/-- THE SECOND FORM's CARD OF 'polliwoglaw06.PduUnlike'. -/
def pduUnlikeUptoCard : Claim7 := { stood := { row := pduUnlikeUptoRow, standIns := [], harness := (true, "f87dca7856d87f78db44aec50463e9b3d607432d74984f0bb5601a2a7add51c8"), looks := false }, kinds := [], alts := [], laidByText := true, laidKinds := [.wider], laidTests := true, laidLooks := .later }
def PduUnlikeUptoCardSaid : Prop := Claim7.holds Tryd.pinned (.plain (OpenSpec.upto pduUnlikeSpec)) pduUnlikeUptoCard

/-- THE SECOND FORM's CARD OF 'polliwoglaw07.WireBack'. -/
def wireBackUptoCard : Claim7 := { stood := { row := wireBackUptoRow, standIns := [], harness := (true, "f87dca7856d87f78db44aec50463e9b3d607432d74984f0bb5601a2a7add51c8"), looks := false }, kinds := [], alts := [], laidByText := true, laidKinds := [.data, .wider, .pinned], laidTests := true, laidLooks := .later }
def WireBackUptoCardSaid : Prop := Claim7.holds Tryd.pinned (.plain (OpenSpec.upto wireBackSpec)) wireBackUptoCard

/-- THE SECOND FORM's CARD OF 'polliwoglaw07.WireFlips'. -/
def wireFlipsUptoCard : Claim7 := { stood := { row := wireFlipsUptoRow, standIns := [], harness := (true, "f87dca7856d87f78db44aec50463e9b3d607432d74984f0bb5601a2a7add51c8"), looks := false }, kinds := [], alts := [], laidByText := true, laidKinds := [.data, .wider, .pinned], laidTests := true, laidLooks := .later }
def WireFlipsUptoCardSaid : Prop := Claim7.holds Tryd.pinned (.plain (OpenSpec.upto wireFlipsSpec)) wireFlipsUptoCard

/-- THE SECOND FORM's CARD OF 'polliwoglaw07.WireSizes'. -/
def wireSizesUptoCard : Claim7 := { stood := { row := wireSizesUptoRow, standIns := [], harness := (true, "f87dca7856d87f78db44aec50463e9b3d607432d74984f0bb5601a2a7add51c8"), looks := false }, kinds := [], alts := [], laidByText := true, laidKinds := [.data, .wider, .pinned], laidTests := true, laidLooks := .later }
def WireSizesUptoCardSaid : Prop := Claim7.holds Tryd.pinned (.plain (OpenSpec.upto wireSizesSpec)) wireSizesUptoCard

/-- THE SECOND FORM's CARD OF 'polliwoglaw07.WireNone'. -/
def wireNoneUptoCard : Claim7 := { stood := { row := wireNoneUptoRow, standIns := [], harness := (true, "f87dca7856d87f78db44aec50463e9b3d607432d74984f0bb5601a2a7add51c8"), looks := false }, kinds := [], alts := [], laidByText := true, laidKinds := [.data, .wider, .pinned], laidTests := true, laidLooks := .later }
def WireNoneUptoCardSaid : Prop := Claim7.holds Tryd.pinned (.plain (OpenSpec.upto wireNoneSpec)) wireNoneUptoCard

/-- THE SECOND FORM's CARD OF 'polliwogtop.PolliwogWhole'. -/
def polliwogWholeUptoCard : Claim7 := { stood := { row := polliwogWholeUptoRow, standIns := [], harness := (true, "f87dca7856d87f78db44aec50463e9b3d607432d74984f0bb5601a2a7add51c8"), looks := false }, kinds := [], alts := [], laidByText := true, laidKinds := [.data, .wider, .pinned], laidTests := true, laidLooks := .later }
def PolliwogWholeUptoCardSaid : Prop := Claim7.holds Tryd.pinned (.plain (OpenSpec.upto polliwogWholeSpec)) polliwogWholeUptoCard
end Rows
end Go.Proofs.YtnocckgbcjienabDoor
