/-
  DERIVED. GIVEN WITH THE SEED: THE CARDS: each row of YtoacfopekgfbcaaDoorRows.lean that lists a variable, with what it lists TIED to the program's text (the seventh form; the later family's looks); each row that meets fmt, with fmt's text TOLD by the authors' own Lean function (tested against real Go, not proved from fmt's source: count such statements apart). THE CARD IS WHAT COUNTS. Prove the row's statement (the work); the ties are given (YtoacfopekgfbcaaDoorTie.lean); close each card by the builder's one call (the guide's Derived/Test/ToyasCard.lean, 'card_holds'). Laid BY PROGRAM, IN A SANDBOX (cutbox-door.mjs). By AI agents, Wed Nov 11 2026. No macro, syntax, notation, axiom, sorry.
-/
import Derived.Test.YtoacfopekgfbcaaDoorRows
import GoSem.ClaimSeven
namespace Go.Proofs.YtoacfopekgfbcaaDoor
namespace Rows

/-- THE TIED CARD OF 'polliwoglaw13.RulesOf'. -/
def rulesOfCard : Claim7 := { stood := { row := rulesOfRow, standIns := [], harness := (true, "9288657aa2965a10911c8524dd08ac3f29a48d0bc7214d9b7567f7076239ccb8"), looks := false }, kinds := [], alts := [], laidByText := true, laidKinds := [.data], laidTests := true, laidLooks := .later }
def RulesOfCardSaid : Prop := Claim7.holds Tryd.pinned (.plain (OpenSpec.ofChange rulesOfSpec)) rulesOfCard

/-- THE TIED CARD OF 'polliwoglaw13.RulesMay'. -/
def rulesMayCard : Claim7 := { stood := { row := rulesMayRow, standIns := [], harness := (true, "9288657aa2965a10911c8524dd08ac3f29a48d0bc7214d9b7567f7076239ccb8"), looks := false }, kinds := [], alts := [], laidByText := true, laidKinds := [.data], laidTests := true, laidLooks := .later }
def RulesMayCardSaid : Prop := Claim7.holds Tryd.pinned (.plain (OpenSpec.ofChange rulesMaySpec)) rulesMayCard

/-- THE TIED CARD OF 'polliwoglaw13.RulesCovered'. -/
def rulesCoveredCard : Claim7 := { stood := { row := rulesCoveredRow, standIns := [], harness := (true, "9288657aa2965a10911c8524dd08ac3f29a48d0bc7214d9b7567f7076239ccb8"), looks := false }, kinds := [], alts := [], laidByText := true, laidKinds := [.data], laidTests := true, laidLooks := .later }
def RulesCoveredCardSaid : Prop := Claim7.holds Tryd.pinned (.plain (OpenSpec.ofChange rulesCoveredSpec)) rulesCoveredCard

/-- THE TIED CARD OF 'polliwoglaw13.RulesEnds'. -/
def rulesEndsCard : Claim7 := { stood := { row := rulesEndsRow, standIns := [], harness := (true, "9288657aa2965a10911c8524dd08ac3f29a48d0bc7214d9b7567f7076239ccb8"), looks := false }, kinds := [], alts := [], laidByText := true, laidKinds := [.data], laidTests := true, laidLooks := .later }
def RulesEndsCardSaid : Prop := Claim7.holds Tryd.pinned (.plain (OpenSpec.ofChange rulesEndsSpec)) rulesEndsCard

/-- THE TIED CARD OF 'polliwoglaw13.RulesRequests'. -/
def rulesRequestsCard : Claim7 := { stood := { row := rulesRequestsRow, standIns := [], harness := (true, "9288657aa2965a10911c8524dd08ac3f29a48d0bc7214d9b7567f7076239ccb8"), looks := false }, kinds := [], alts := [], laidByText := true, laidKinds := [.data], laidTests := true, laidLooks := .later }
def RulesRequestsCardSaid : Prop := Claim7.holds Tryd.pinned (.plain (OpenSpec.ofChange rulesRequestsSpec)) rulesRequestsCard

/-- THE SECOND FORM's CARD OF 'polliwoglaw13.RulesOf'. -/
def rulesOfUptoCard : Claim7 := { stood := { row := rulesOfUptoRow, standIns := [], harness := (true, "9288657aa2965a10911c8524dd08ac3f29a48d0bc7214d9b7567f7076239ccb8"), looks := false }, kinds := [], alts := [], laidByText := true, laidKinds := [.data], laidTests := true, laidLooks := .later }
def RulesOfUptoCardSaid : Prop := Claim7.holds Tryd.pinned (.plain (OpenSpec.upto rulesOfSpec)) rulesOfUptoCard

/-- THE SECOND FORM's CARD OF 'polliwoglaw13.RulesMay'. -/
def rulesMayUptoCard : Claim7 := { stood := { row := rulesMayUptoRow, standIns := [], harness := (true, "9288657aa2965a10911c8524dd08ac3f29a48d0bc7214d9b7567f7076239ccb8"), looks := false }, kinds := [], alts := [], laidByText := true, laidKinds := [.data], laidTests := true, laidLooks := .later }
def RulesMayUptoCardSaid : Prop := Claim7.holds Tryd.pinned (.plain (OpenSpec.upto rulesMaySpec)) rulesMayUptoCard

/-- THE SECOND FORM's CARD OF 'polliwoglaw13.RulesCovered'. -/
def rulesCoveredUptoCard : Claim7 := { stood := { row := rulesCoveredUptoRow, standIns := [], harness := (true, "9288657aa2965a10911c8524dd08ac3f29a48d0bc7214d9b7567f7076239ccb8"), looks := false }, kinds := [], alts := [], laidByText := true, laidKinds := [.data], laidTests := true, laidLooks := .later }
def RulesCoveredUptoCardSaid : Prop := Claim7.holds Tryd.pinned (.plain (OpenSpec.upto rulesCoveredSpec)) rulesCoveredUptoCard

/-- THE SECOND FORM's CARD OF 'polliwoglaw13.RulesEnds'. -/
def rulesEndsUptoCard : Claim7 := { stood := { row := rulesEndsUptoRow, standIns := [], harness := (true, "9288657aa2965a10911c8524dd08ac3f29a48d0bc7214d9b7567f7076239ccb8"), looks := false }, kinds := [], alts := [], laidByText := true, laidKinds := [.data], laidTests := true, laidLooks := .later }
def RulesEndsUptoCardSaid : Prop := Claim7.holds Tryd.pinned (.plain (OpenSpec.upto rulesEndsSpec)) rulesEndsUptoCard

/-- THE SECOND FORM's CARD OF 'polliwoglaw13.RulesRequests'. -/
def rulesRequestsUptoCard : Claim7 := { stood := { row := rulesRequestsUptoRow, standIns := [], harness := (true, "9288657aa2965a10911c8524dd08ac3f29a48d0bc7214d9b7567f7076239ccb8"), looks := false }, kinds := [], alts := [], laidByText := true, laidKinds := [.data], laidTests := true, laidLooks := .later }
def RulesRequestsUptoCardSaid : Prop := Claim7.holds Tryd.pinned (.plain (OpenSpec.upto rulesRequestsSpec)) rulesRequestsUptoCard
end Rows
end Go.Proofs.YtoacfopekgfbcaaDoor
