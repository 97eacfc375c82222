/-
  No cell of these rows narrows 'for every input' (looked for: loops, veiled, ifaces, maps, wideKeys, modest, calm, conditions, laid).
  DERIVED. THE GIVEN ROWS OF THIS SEAT. 12 by the template 'for every input the law returns true; each argument reads behind the call as it read before'; 0 by the template 'total and deterministic' (their statements: YtogbifggaomfjaaTotals.lean).
  GIVEN WITH THE SEED: the statements are not yours to turn. If you find one false, say at which input.
  Laid BY PROGRAM, IN A SANDBOX (cutbox-rows.mjs): the forced cells as the released guide's own fill.sh prints them over the translation 61353fed57a70303… (all of the seat's roots in one cut). By AI agents, Wed Nov 11 2026. No macro, syntax, notation, axiom, sorry.
-/
import Derived.Test.YtogbifggaomfjaaChecked
import GoSem.Claim
import GoSem.ClaimJoined
import GoSem.ClaimMapViews
import Derived.JoinedTies
import Derived.KernelRfl
namespace Go.Proofs.Ytogbifggaomfjaa
/- THE CELL 'sum', in the pinned program and in every row, IS THE sha256 OF THE DUMP (.gsa) THAT YtogbifggaomfjaaProg.lean LOADS. Nothing in Lean hashes anything: it is a label: what it is worth is what the hold of that sum in a sandbox is worth. -/
noncomputable def Try.pinned : Pinned := { name := "ytogbifggaomfjaa", sum := "61353fed57a703037689b4eacc5efba8521c13f4a4074dd315abb1cc0400a558", checked := Try.checked }
namespace Rows
def none {H : Type} : Left H := { results := [], args := [] }

/-- 'polliwoglaw09.GapsEmpty': WHATEVER THE INPUT: true; the input reads as it did. -/
def gapsEmptySpec : ChangeSpec := { name := "gapsEmpty", fn := fun _ => fun
  | [d1, d2] => { results := [.lit (.bool true)], args := [d1, d2] }
  | _ => none }
def gapsEmptyRow : OpenClaim := { program := "ytogbifggaomfjaa", sum := "61353fed57a703037689b4eacc5efba8521c13f4a4074dd315abb1cc0400a558", func := "polliwog/polliwoglaw09.GapsEmpty", spec := "gapsEmpty", unfollowed := true, recurses := true, apart := false }
def GapsEmptySaid : Prop := gapsEmptyRow.holds Try.pinned (OpenSpec.ofChange gapsEmptySpec)

/-- ITS FALSE NEIGHBOUR: 'it returns false'. Refute it at one input. -/
def gapsEmptyWrong : ChangeSpec := { name := "gapsEmpty", fn := fun _ => fun
  | [d1, d2] => { results := [.lit (.bool false)], args := [d1, d2] }
  | _ => none }
def GapsEmptyWrongFalsely : Prop := gapsEmptyRow.holds Try.pinned (OpenSpec.ofChange gapsEmptyWrong)

/-- 'polliwoglaw09.GapsFar': WHATEVER THE INPUT: true; the input reads as it did. -/
def gapsFarSpec : ChangeSpec := { name := "gapsFar", fn := fun _ => fun
  | [d1, d2, d3] => { results := [.lit (.bool true)], args := [d1, d2, d3] }
  | _ => none }
def gapsFarRow : OpenClaim := { program := "ytogbifggaomfjaa", sum := "61353fed57a703037689b4eacc5efba8521c13f4a4074dd315abb1cc0400a558", func := "polliwog/polliwoglaw09.GapsFar", spec := "gapsFar", unfollowed := true, recurses := true, apart := false }
def GapsFarSaid : Prop := gapsFarRow.holds Try.pinned (OpenSpec.ofChange gapsFarSpec)

/-- ITS FALSE NEIGHBOUR: 'it returns false'. Refute it at one input. -/
def gapsFarWrong : ChangeSpec := { name := "gapsFar", fn := fun _ => fun
  | [d1, d2, d3] => { results := [.lit (.bool false)], args := [d1, d2, d3] }
  | _ => none }
def GapsFarWrongFalsely : Prop := gapsFarRow.holds Try.pinned (OpenSpec.ofChange gapsFarWrong)

/-- 'polliwoglaw09.GapsLists': WHATEVER THE INPUT: true; the input reads as it did. -/
def gapsListsSpec : ChangeSpec := { name := "gapsLists", fn := fun _ => fun
  | [d1, d2, d3] => { results := [.lit (.bool true)], args := [d1, d2, d3] }
  | _ => none }
def gapsListsRow : OpenClaim := { program := "ytogbifggaomfjaa", sum := "61353fed57a703037689b4eacc5efba8521c13f4a4074dd315abb1cc0400a558", func := "polliwog/polliwoglaw09.GapsLists", spec := "gapsLists", unfollowed := true, recurses := true, apart := false }
def GapsListsSaid : Prop := gapsListsRow.holds Try.pinned (OpenSpec.ofChange gapsListsSpec)

/-- ITS FALSE NEIGHBOUR: 'it returns false'. Refute it at one input. -/
def gapsListsWrong : ChangeSpec := { name := "gapsLists", fn := fun _ => fun
  | [d1, d2, d3] => { results := [.lit (.bool false)], args := [d1, d2, d3] }
  | _ => none }
def GapsListsWrongFalsely : Prop := gapsListsRow.holds Try.pinned (OpenSpec.ofChange gapsListsWrong)

/-- 'polliwoglaw09.GapsSets': WHATEVER THE INPUT: true; the input reads as it did. -/
def gapsSetsSpec : ChangeSpec := { name := "gapsSets", fn := fun _ => fun
  | [d1, d2, d3] => { results := [.lit (.bool true)], args := [d1, d2, d3] }
  | _ => none }
def gapsSetsRow : OpenClaim := { program := "ytogbifggaomfjaa", sum := "61353fed57a703037689b4eacc5efba8521c13f4a4074dd315abb1cc0400a558", func := "polliwog/polliwoglaw09.GapsSets", spec := "gapsSets", unfollowed := true, recurses := true, apart := false }
def GapsSetsSaid : Prop := gapsSetsRow.holds Try.pinned (OpenSpec.ofChange gapsSetsSpec)

/-- ITS FALSE NEIGHBOUR: 'it returns false'. Refute it at one input. -/
def gapsSetsWrong : ChangeSpec := { name := "gapsSets", fn := fun _ => fun
  | [d1, d2, d3] => { results := [.lit (.bool false)], args := [d1, d2, d3] }
  | _ => none }
def GapsSetsWrongFalsely : Prop := gapsSetsRow.holds Try.pinned (OpenSpec.ofChange gapsSetsWrong)

/-- 'polliwoglaw09.GapsNamed': WHATEVER THE INPUT: true; the input reads as it did. -/
def gapsNamedSpec : ChangeSpec := { name := "gapsNamed", fn := fun _ => fun
  | [d1, d2] => { results := [.lit (.bool true)], args := [d1, d2] }
  | _ => none }
def gapsNamedRow : OpenClaim := { program := "ytogbifggaomfjaa", sum := "61353fed57a703037689b4eacc5efba8521c13f4a4074dd315abb1cc0400a558", func := "polliwog/polliwoglaw09.GapsNamed", spec := "gapsNamed", unfollowed := true, recurses := true, apart := false }
def GapsNamedSaid : Prop := gapsNamedRow.holds Try.pinned (OpenSpec.ofChange gapsNamedSpec)

/-- ITS FALSE NEIGHBOUR: 'it returns false'. Refute it at one input. -/
def gapsNamedWrong : ChangeSpec := { name := "gapsNamed", fn := fun _ => fun
  | [d1, d2] => { results := [.lit (.bool false)], args := [d1, d2] }
  | _ => none }
def GapsNamedWrongFalsely : Prop := gapsNamedRow.holds Try.pinned (OpenSpec.ofChange gapsNamedWrong)

/-- 'polliwoglaw09.GapsMoves': WHATEVER THE INPUT: true; the input reads as it did. -/
def gapsMovesSpec : ChangeSpec := { name := "gapsMoves", fn := fun _ => fun
  | [d1, d2, d3] => { results := [.lit (.bool true)], args := [d1, d2, d3] }
  | _ => none }
def gapsMovesRow : OpenClaim := { program := "ytogbifggaomfjaa", sum := "61353fed57a703037689b4eacc5efba8521c13f4a4074dd315abb1cc0400a558", func := "polliwog/polliwoglaw09.GapsMoves", spec := "gapsMoves", unfollowed := true, recurses := true, apart := false }
def GapsMovesSaid : Prop := gapsMovesRow.holds Try.pinned (OpenSpec.ofChange gapsMovesSpec)

/-- ITS FALSE NEIGHBOUR: 'it returns false'. Refute it at one input. -/
def gapsMovesWrong : ChangeSpec := { name := "gapsMoves", fn := fun _ => fun
  | [d1, d2, d3] => { results := [.lit (.bool false)], args := [d1, d2, d3] }
  | _ => none }
def GapsMovesWrongFalsely : Prop := gapsMovesRow.holds Try.pinned (OpenSpec.ofChange gapsMovesWrong)

/-- 'polliwogtop.PolliwogNames': WHATEVER THE INPUT: true; the input reads as it did. -/
def polliwogNamesSpec : ChangeSpec := { name := "polliwogNames", fn := fun _ => fun
  | [d1, d2] => { results := [.lit (.bool true)], args := [d1, d2] }
  | _ => none }
def polliwogNamesRow : OpenClaim := { program := "ytogbifggaomfjaa", sum := "61353fed57a703037689b4eacc5efba8521c13f4a4074dd315abb1cc0400a558", func := "polliwog/polliwogtop.PolliwogNames", spec := "polliwogNames", unfollowed := true, recurses := true, apart := false }
def PolliwogNamesSaid : Prop := polliwogNamesRow.holds Try.pinned (OpenSpec.ofChange polliwogNamesSpec)

/-- ITS FALSE NEIGHBOUR: 'it returns false'. Refute it at one input. -/
def polliwogNamesWrong : ChangeSpec := { name := "polliwogNames", fn := fun _ => fun
  | [d1, d2] => { results := [.lit (.bool false)], args := [d1, d2] }
  | _ => none }
def PolliwogNamesWrongFalsely : Prop := polliwogNamesRow.holds Try.pinned (OpenSpec.ofChange polliwogNamesWrong)

/-- 'polliwoglaw12.RecvGaps': WHATEVER THE INPUT: true; the input reads as it did. -/
def recvGapsSpec : ChangeSpec := { name := "recvGaps", fn := fun _ => fun
  | [d1, d2] => { results := [.lit (.bool true)], args := [d1, d2] }
  | _ => none }
def recvGapsRow : OpenClaim := { program := "ytogbifggaomfjaa", sum := "61353fed57a703037689b4eacc5efba8521c13f4a4074dd315abb1cc0400a558", func := "polliwog/polliwoglaw12.RecvGaps", spec := "recvGaps", unfollowed := true, recurses := true, apart := false }
def RecvGapsSaid : Prop := recvGapsRow.holds Try.pinned (OpenSpec.ofChange recvGapsSpec)

/-- ITS FALSE NEIGHBOUR: 'it returns false'. Refute it at one input. -/
def recvGapsWrong : ChangeSpec := { name := "recvGaps", fn := fun _ => fun
  | [d1, d2] => { results := [.lit (.bool false)], args := [d1, d2] }
  | _ => none }
def RecvGapsWrongFalsely : Prop := recvGapsRow.holds Try.pinned (OpenSpec.ofChange recvGapsWrong)

/-- 'polliwoglaw12.RecvCredit': WHATEVER THE INPUT: true; the input reads as it did. -/
def recvCreditSpec : ChangeSpec := { name := "recvCredit", fn := fun _ => fun
  | [d1, d2, d3] => { results := [.lit (.bool true)], args := [d1, d2, d3] }
  | _ => none }
def recvCreditRow : OpenClaim := { program := "ytogbifggaomfjaa", sum := "61353fed57a703037689b4eacc5efba8521c13f4a4074dd315abb1cc0400a558", func := "polliwog/polliwoglaw12.RecvCredit", spec := "recvCredit", unfollowed := true, recurses := true, apart := false }
def RecvCreditSaid : Prop := recvCreditRow.holds Try.pinned (OpenSpec.ofChange recvCreditSpec)

/-- ITS FALSE NEIGHBOUR: 'it returns false'. Refute it at one input. -/
def recvCreditWrong : ChangeSpec := { name := "recvCredit", fn := fun _ => fun
  | [d1, d2, d3] => { results := [.lit (.bool false)], args := [d1, d2, d3] }
  | _ => none }
def RecvCreditWrongFalsely : Prop := recvCreditRow.holds Try.pinned (OpenSpec.ofChange recvCreditWrong)

/-- 'polliwoglaw12.RecvAnyOrder': WHATEVER THE INPUT: true; the input reads as it did. -/
def recvAnyOrderSpec : ChangeSpec := { name := "recvAnyOrder", fn := fun _ => fun
  | [d1, d2, d3] => { results := [.lit (.bool true)], args := [d1, d2, d3] }
  | _ => none }
def recvAnyOrderRow : OpenClaim := { program := "ytogbifggaomfjaa", sum := "61353fed57a703037689b4eacc5efba8521c13f4a4074dd315abb1cc0400a558", func := "polliwog/polliwoglaw12.RecvAnyOrder", spec := "recvAnyOrder", unfollowed := true, recurses := true, apart := false }
def RecvAnyOrderSaid : Prop := recvAnyOrderRow.holds Try.pinned (OpenSpec.ofChange recvAnyOrderSpec)

/-- ITS FALSE NEIGHBOUR: 'it returns false'. Refute it at one input. -/
def recvAnyOrderWrong : ChangeSpec := { name := "recvAnyOrder", fn := fun _ => fun
  | [d1, d2, d3] => { results := [.lit (.bool false)], args := [d1, d2, d3] }
  | _ => none }
def RecvAnyOrderWrongFalsely : Prop := recvAnyOrderRow.holds Try.pinned (OpenSpec.ofChange recvAnyOrderWrong)

/-- 'polliwoglaw11.SendCredit': WHATEVER THE INPUT: true; the input reads as it did. -/
def sendCreditSpec : ChangeSpec := { name := "sendCredit", fn := fun _ => fun
  | [d1, d2] => { results := [.lit (.bool true)], args := [d1, d2] }
  | _ => none }
def sendCreditRow : OpenClaim := { program := "ytogbifggaomfjaa", sum := "61353fed57a703037689b4eacc5efba8521c13f4a4074dd315abb1cc0400a558", func := "polliwog/polliwoglaw11.SendCredit", spec := "sendCredit", apart := false }
def SendCreditSaid : Prop := sendCreditRow.holds Try.pinned (OpenSpec.ofChange sendCreditSpec)

/-- ITS FALSE NEIGHBOUR: 'it returns false'. Refute it at one input. -/
def sendCreditWrong : ChangeSpec := { name := "sendCredit", fn := fun _ => fun
  | [d1, d2] => { results := [.lit (.bool false)], args := [d1, d2] }
  | _ => none }
def SendCreditWrongFalsely : Prop := sendCreditRow.holds Try.pinned (OpenSpec.ofChange sendCreditWrong)

/-- 'polliwoglaw11.SendStreams': WHATEVER THE INPUT: true; the input reads as it did. -/
def sendStreamsSpec : ChangeSpec := { name := "sendStreams", fn := fun _ => fun
  | [d1, d2, d3] => { results := [.lit (.bool true)], args := [d1, d2, d3] }
  | _ => none }
def sendStreamsRow : OpenClaim := { program := "ytogbifggaomfjaa", sum := "61353fed57a703037689b4eacc5efba8521c13f4a4074dd315abb1cc0400a558", func := "polliwog/polliwoglaw11.SendStreams", spec := "sendStreams", unfollowed := true, recurses := true, apart := false }
def SendStreamsSaid : Prop := sendStreamsRow.holds Try.pinned (OpenSpec.ofChange sendStreamsSpec)

/-- ITS FALSE NEIGHBOUR: 'it returns false'. Refute it at one input. -/
def sendStreamsWrong : ChangeSpec := { name := "sendStreams", fn := fun _ => fun
  | [d1, d2, d3] => { results := [.lit (.bool false)], args := [d1, d2, d3] }
  | _ => none }
def SendStreamsWrongFalsely : Prop := sendStreamsRow.holds Try.pinned (OpenSpec.ofChange sendStreamsWrong)

/- THE SECOND FORM. 'bulk': how many values and letters a reading holds, each counted each time it is reached (what is shared counts as often as it is met; a slice's spare places count too). A statement '..UptoSaid' is the law's where the arguments, and the package variables that the reading takes, are together of bulk at most 1048576: NARROWER than '..Said'. Prove '..Said' where nothing that the law and all that it calls make is longer than what came in: it says more and counts as full. Else prove '..UptoSaid'. A law counts once. -/
mutual
def uptoBulk {H : Type} : DataW H → Nat
  | .lit (.string bytes) => bytes.length + 1
  | .lit _ => 1
  | .nil => 1
  | .ptr d => uptoBulk d + 1
  | .slice elems spare => uptoBulkAll elems + uptoBulkAll spare + 1
  | .agg parts => uptoBulkAll parts + 1
  | .iface _ d => uptoBulk d + 1
  | .map entries => uptoBulkEntries entries + 1
  | .held _ => 1
def uptoBulkAll {H : Type} : List (DataW H) → Nat
  | [] => 0
  | d :: r => uptoBulk d + uptoBulkAll r
def uptoBulkEntries {H : Type} : List (Lit × DataW H) → Nat
  | [] => 0
  | x :: r => uptoBulkEntry x + uptoBulkEntries r
def uptoBulkEntry {H : Type} : Lit × DataW H → Nat
  | (.string bytes, d) => bytes.length + uptoBulk d + 1
  | (_, d) => uptoBulk d + 1
 end
def uptoSmall : (H : Type) → List (DataW H) → Bool := fun _ ds => decide (uptoBulkAll ds ≤ 1048576)
def OpenSpec.upto (s : _root_.Go.ChangeSpec) : _root_.Go.OpenSpec := { _root_.Go.OpenSpec.ofChange s with cond := some uptoSmall }

/-- 'polliwoglaw09.GapsEmpty', WHERE WHAT IT READS IS OF BULK AT MOST 1048576: true; the input reads as it did. -/
def gapsEmptyUptoRow : OpenClaim := { program := "ytogbifggaomfjaa", sum := "61353fed57a703037689b4eacc5efba8521c13f4a4074dd315abb1cc0400a558", func := "polliwog/polliwoglaw09.GapsEmpty", spec := "gapsEmpty", unfollowed := true, recurses := true, apart := false, narrowed := true }
def GapsEmptyUptoSaid : Prop := gapsEmptyUptoRow.holds Try.pinned (OpenSpec.upto gapsEmptySpec)

/-- 'polliwoglaw09.GapsFar', WHERE WHAT IT READS IS OF BULK AT MOST 1048576: true; the input reads as it did. -/
def gapsFarUptoRow : OpenClaim := { program := "ytogbifggaomfjaa", sum := "61353fed57a703037689b4eacc5efba8521c13f4a4074dd315abb1cc0400a558", func := "polliwog/polliwoglaw09.GapsFar", spec := "gapsFar", unfollowed := true, recurses := true, apart := false, narrowed := true }
def GapsFarUptoSaid : Prop := gapsFarUptoRow.holds Try.pinned (OpenSpec.upto gapsFarSpec)

/-- 'polliwoglaw09.GapsLists', WHERE WHAT IT READS IS OF BULK AT MOST 1048576: true; the input reads as it did. -/
def gapsListsUptoRow : OpenClaim := { program := "ytogbifggaomfjaa", sum := "61353fed57a703037689b4eacc5efba8521c13f4a4074dd315abb1cc0400a558", func := "polliwog/polliwoglaw09.GapsLists", spec := "gapsLists", unfollowed := true, recurses := true, apart := false, narrowed := true }
def GapsListsUptoSaid : Prop := gapsListsUptoRow.holds Try.pinned (OpenSpec.upto gapsListsSpec)

/-- 'polliwoglaw09.GapsSets', WHERE WHAT IT READS IS OF BULK AT MOST 1048576: true; the input reads as it did. -/
def gapsSetsUptoRow : OpenClaim := { program := "ytogbifggaomfjaa", sum := "61353fed57a703037689b4eacc5efba8521c13f4a4074dd315abb1cc0400a558", func := "polliwog/polliwoglaw09.GapsSets", spec := "gapsSets", unfollowed := true, recurses := true, apart := false, narrowed := true }
def GapsSetsUptoSaid : Prop := gapsSetsUptoRow.holds Try.pinned (OpenSpec.upto gapsSetsSpec)

/-- 'polliwoglaw09.GapsNamed', WHERE WHAT IT READS IS OF BULK AT MOST 1048576: true; the input reads as it did. -/
def gapsNamedUptoRow : OpenClaim := { program := "ytogbifggaomfjaa", sum := "61353fed57a703037689b4eacc5efba8521c13f4a4074dd315abb1cc0400a558", func := "polliwog/polliwoglaw09.GapsNamed", spec := "gapsNamed", unfollowed := true, recurses := true, apart := false, narrowed := true }
def GapsNamedUptoSaid : Prop := gapsNamedUptoRow.holds Try.pinned (OpenSpec.upto gapsNamedSpec)

/-- 'polliwoglaw09.GapsMoves', WHERE WHAT IT READS IS OF BULK AT MOST 1048576: true; the input reads as it did. -/
def gapsMovesUptoRow : OpenClaim := { program := "ytogbifggaomfjaa", sum := "61353fed57a703037689b4eacc5efba8521c13f4a4074dd315abb1cc0400a558", func := "polliwog/polliwoglaw09.GapsMoves", spec := "gapsMoves", unfollowed := true, recurses := true, apart := false, narrowed := true }
def GapsMovesUptoSaid : Prop := gapsMovesUptoRow.holds Try.pinned (OpenSpec.upto gapsMovesSpec)

/-- 'polliwogtop.PolliwogNames', WHERE WHAT IT READS IS OF BULK AT MOST 1048576: true; the input reads as it did. -/
def polliwogNamesUptoRow : OpenClaim := { program := "ytogbifggaomfjaa", sum := "61353fed57a703037689b4eacc5efba8521c13f4a4074dd315abb1cc0400a558", func := "polliwog/polliwogtop.PolliwogNames", spec := "polliwogNames", unfollowed := true, recurses := true, apart := false, narrowed := true }
def PolliwogNamesUptoSaid : Prop := polliwogNamesUptoRow.holds Try.pinned (OpenSpec.upto polliwogNamesSpec)

/-- 'polliwoglaw12.RecvGaps', WHERE WHAT IT READS IS OF BULK AT MOST 1048576: true; the input reads as it did. -/
def recvGapsUptoRow : OpenClaim := { program := "ytogbifggaomfjaa", sum := "61353fed57a703037689b4eacc5efba8521c13f4a4074dd315abb1cc0400a558", func := "polliwog/polliwoglaw12.RecvGaps", spec := "recvGaps", unfollowed := true, recurses := true, apart := false, narrowed := true }
def RecvGapsUptoSaid : Prop := recvGapsUptoRow.holds Try.pinned (OpenSpec.upto recvGapsSpec)

/-- 'polliwoglaw12.RecvCredit', WHERE WHAT IT READS IS OF BULK AT MOST 1048576: true; the input reads as it did. -/
def recvCreditUptoRow : OpenClaim := { program := "ytogbifggaomfjaa", sum := "61353fed57a703037689b4eacc5efba8521c13f4a4074dd315abb1cc0400a558", func := "polliwog/polliwoglaw12.RecvCredit", spec := "recvCredit", unfollowed := true, recurses := true, apart := false, narrowed := true }
def RecvCreditUptoSaid : Prop := recvCreditUptoRow.holds Try.pinned (OpenSpec.upto recvCreditSpec)

/-- 'polliwoglaw12.RecvAnyOrder', WHERE WHAT IT READS IS OF BULK AT MOST 1048576: true; the input reads as it did. -/
def recvAnyOrderUptoRow : OpenClaim := { program := "ytogbifggaomfjaa", sum := "61353fed57a703037689b4eacc5efba8521c13f4a4074dd315abb1cc0400a558", func := "polliwog/polliwoglaw12.RecvAnyOrder", spec := "recvAnyOrder", unfollowed := true, recurses := true, apart := false, narrowed := true }
def RecvAnyOrderUptoSaid : Prop := recvAnyOrderUptoRow.holds Try.pinned (OpenSpec.upto recvAnyOrderSpec)

/-- 'polliwoglaw11.SendCredit', WHERE WHAT IT READS IS OF BULK AT MOST 1048576: true; the input reads as it did. -/
def sendCreditUptoRow : OpenClaim := { program := "ytogbifggaomfjaa", sum := "61353fed57a703037689b4eacc5efba8521c13f4a4074dd315abb1cc0400a558", func := "polliwog/polliwoglaw11.SendCredit", spec := "sendCredit", apart := false, narrowed := true }
def SendCreditUptoSaid : Prop := sendCreditUptoRow.holds Try.pinned (OpenSpec.upto sendCreditSpec)

/-- 'polliwoglaw11.SendStreams', WHERE WHAT IT READS IS OF BULK AT MOST 1048576: true; the input reads as it did. -/
def sendStreamsUptoRow : OpenClaim := { program := "ytogbifggaomfjaa", sum := "61353fed57a703037689b4eacc5efba8521c13f4a4074dd315abb1cc0400a558", func := "polliwog/polliwoglaw11.SendStreams", spec := "sendStreams", unfollowed := true, recurses := true, apart := false, narrowed := true }
def SendStreamsUptoSaid : Prop := sendStreamsUptoRow.holds Try.pinned (OpenSpec.upto sendStreamsSpec)

end Rows
end Go.Proofs.Ytogbifggaomfjaa
