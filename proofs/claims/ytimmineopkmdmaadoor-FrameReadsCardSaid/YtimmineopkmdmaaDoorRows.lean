/-
  NARROWER THAN 'FOR EVERY INPUT', by the rows' own cells (each row's printed sentence says how): FrameBack: laid · FrameReads: laid · FrameFlips: laid · FrameLong: laid · FrameUnlike: laid · FrameCells: laid · PduBack: laid · PduNames: laid · PduUnlike: laid · PduSizes: laid.
  DERIVED. THE GIVEN ROWS OF THIS SEAT. 10 by the template 'for every input the law returns true; each argument reads behind the call as it read before'; 0 by the template 'total and deterministic' (their statements: YtimmineopkmdmaaDoorTotals.lean).
  GIVEN WITH THE SEED: the statements are not yours to turn. If you find one false, say at which input.
  Laid BY PROGRAM, IN A SANDBOX (cutbox-rows.mjs): the forced cells as the released guide's own fill.sh prints them over the translation 57872c8faffc44f6… (all of the seat's roots in one cut). By AI agents, Wed Nov 11 2026. No macro, syntax, notation, axiom, sorry.
-/
import Derived.Test.YtimmineopkmdmaaDoorChecked
import GoSem.PinnedTables
import GoSem.Claim
import GoSem.ClaimJoined
import GoSem.ClaimMapViews
import Derived.JoinedTies
import Derived.KernelRfl
namespace Go.Proofs.YtimmineopkmdmaaDoor
/- THE CELL 'sum', in the pinned program and in every row, IS THE sha256 OF THE DUMP (.gsa) THAT YtimmineopkmdmaaDoorProg.lean LOADS. Nothing in Lean hashes anything: it is a label: what it is worth is what the hold of that sum in a sandbox is worth. -/
noncomputable def Tryd.pinned : Pinned := { name := "ytimmineopkmdmaadoor", sum := "57872c8faffc44f6a0e8c83371ea32104c8414caf164d2f6ad9b9ff64c8a3ef5", checked := Tryd.checked }
namespace Rows
def none {H : Type} : Left H := { results := [], args := [] }

/- WHAT THE LISTED PACKAGE-LEVEL VARIABLES READ AS WHEN THE CALL BEGINS. Each datum BY PROGRAM (the guide's laid-datum.mjs) off the statement by which the dump's own 'gosem.cut.vars' lays the variable. In a bare row this is a premise. The card (YtimmineopkmdmaaDoorCards.lean) ties it to the program's text. -/
def laid_unicode_utf8_acceptRanges {H : Type} : DataW H := .agg [.agg [.lit (.int .u8 128), .lit (.int .u8 191)], .agg [.lit (.int .u8 160), .lit (.int .u8 191)], .agg [.lit (.int .u8 128), .lit (.int .u8 159)], .agg [.lit (.int .u8 144), .lit (.int .u8 191)], .agg [.lit (.int .u8 128), .lit (.int .u8 143)], .agg [.lit (.int .u8 0), .lit (.int .u8 0)], .agg [.lit (.int .u8 0), .lit (.int .u8 0)], .agg [.lit (.int .u8 0), .lit (.int .u8 0)], .agg [.lit (.int .u8 0), .lit (.int .u8 0)], .agg [.lit (.int .u8 0), .lit (.int .u8 0)], .agg [.lit (.int .u8 0), .lit (.int .u8 0)], .agg [.lit (.int .u8 0), .lit (.int .u8 0)], .agg [.lit (.int .u8 0), .lit (.int .u8 0)], .agg [.lit (.int .u8 0), .lit (.int .u8 0)], .agg [.lit (.int .u8 0), .lit (.int .u8 0)], .agg [.lit (.int .u8 0), .lit (.int .u8 0)]]
/-- One of Go's own tables, pinned by name: the form's constant. -/
def laid_unicode_utf8_first : DataW Unit := Go.Pinned.utf8First
def laid_polliwog_pdu_shapes {H : Type} : DataW H := .agg [.agg [.lit (.bool false), .lit (.bool false), .lit (.bool false), .lit (.bool false), .lit (.bool false), .lit (.int .i64 0), .lit (.int .i64 0)], .agg [.lit (.bool true), .lit (.bool false), .lit (.bool false), .lit (.bool true), .lit (.bool false), .lit (.int .i64 0), .lit (.int .i64 64)], .agg [.lit (.bool true), .lit (.bool false), .lit (.bool false), .lit (.bool true), .lit (.bool false), .lit (.int .i64 0), .lit (.int .i64 0)], .agg [.lit (.bool true), .lit (.bool false), .lit (.bool false), .lit (.bool false), .lit (.bool true), .lit (.int .i64 0), .lit (.int .i64 64)], .agg [.lit (.bool true), .lit (.bool false), .lit (.bool false), .lit (.bool false), .lit (.bool false), .lit (.int .i64 0), .lit (.int .i64 0)], .agg [.lit (.bool true), .lit (.bool false), .lit (.bool false), .lit (.bool true), .lit (.bool false), .lit (.int .i64 0), .lit (.int .i64 64)], .agg [.lit (.bool true), .lit (.bool false), .lit (.bool false), .lit (.bool true), .lit (.bool false), .lit (.int .i64 0), .lit (.int .i64 0)], .agg [.lit (.bool true), .lit (.bool false), .lit (.bool false), .lit (.bool false), .lit (.bool false), .lit (.int .i64 0), .lit (.int .i64 64)], .agg [.lit (.bool false), .lit (.bool false), .lit (.bool false), .lit (.bool true), .lit (.bool false), .lit (.int .i64 0), .lit (.int .i64 200)], .agg [.lit (.bool true), .lit (.bool false), .lit (.bool false), .lit (.bool true), .lit (.bool false), .lit (.int .i64 0), .lit (.int .i64 0)], .agg [.lit (.bool false), .lit (.bool true), .lit (.bool false), .lit (.bool true), .lit (.bool false), .lit (.int .i64 0), .lit (.int .i64 0)], .agg [.lit (.bool false), .lit (.bool true), .lit (.bool true), .lit (.bool true), .lit (.bool false), .lit (.int .i64 2), .lit (.int .i64 0)], .agg [.lit (.bool false), .lit (.bool false), .lit (.bool true), .lit (.bool true), .lit (.bool false), .lit (.int .i64 1), .lit (.int .i64 0)], .agg [.lit (.bool false), .lit (.bool false), .lit (.bool false), .lit (.bool false), .lit (.bool false), .lit (.int .i64 0), .lit (.int .i64 200)], .agg [.lit (.bool false), .lit (.bool false), .lit (.bool false), .lit (.bool false), .lit (.bool false), .lit (.int .i64 0), .lit (.int .i64 200)], .agg [.lit (.bool true), .lit (.bool false), .lit (.bool false), .lit (.bool true), .lit (.bool false), .lit (.int .i64 0), .lit (.int .i64 0)]]
def laid_polliwog_pdu_names {H : Type} : DataW H := .agg [.lit (.string []), .lit (.string [98, 103, 110]), .lit (.string [98, 103, 97, 107]), .lit (.string [101, 110, 100]), .lit (.string [101, 110, 100, 97, 107]), .lit (.string [114, 115]), .lit (.string [114, 115, 97, 107]), .lit (.string [98, 103, 114, 101, 106]), .lit (.string [115, 100]), .lit (.string [101, 114]), .lit (.string [112, 111, 108, 108]), .lit (.string [115, 116, 97, 116]), .lit (.string [117, 115, 116, 97, 116]), .lit (.string [117, 100]), .lit (.string [109, 100]), .lit (.string [101, 114, 97, 107])]

/-- 'polliwoglaw05.FrameBack': WHATEVER THE INPUT: true; the input reads as it did. -/
def frameBackSpec : ChangeSpec := { name := "frameBack", fn := fun _ => fun
  | [d1, d2] => { results := [.lit (.bool true)], args := [d1, d2] }
  | _ => none }
def frameBackRow : OpenClaim := { program := "ytimmineopkmdmaadoor", sum := "57872c8faffc44f6a0e8c83371ea32104c8414caf164d2f6ad9b9ff64c8a3ef5", func := "polliwog/polliwoglaw05.FrameBack", spec := "frameBack", inPlace := ["internal/abi.NoEscape", "internal/bytealg.MakeNoZero", "internal/bytealg.IndexByteString", "internal/bytealg.IndexString"], named := ["unicode/utf8.first", "unicode/utf8.acceptRanges", "internal/bytealg.MaxLen"], apart := false, laid := [("unicode/utf8.acceptRanges", laid_unicode_utf8_acceptRanges), ("unicode/utf8.first", laid_unicode_utf8_first)] }
def FrameBackSaid : Prop := frameBackRow.holds Tryd.pinned (OpenSpec.ofChange frameBackSpec)

/-- ITS FALSE NEIGHBOUR: 'it returns false'. Refute it at one input. -/
def frameBackWrong : ChangeSpec := { name := "frameBack", fn := fun _ => fun
  | [d1, d2] => { results := [.lit (.bool false)], args := [d1, d2] }
  | _ => none }
def FrameBackWrongFalsely : Prop := frameBackRow.holds Tryd.pinned (OpenSpec.ofChange frameBackWrong)

/-- 'polliwoglaw05.FrameReads': WHATEVER THE INPUT: true; the input reads as it did. -/
def frameReadsSpec : ChangeSpec := { name := "frameReads", fn := fun _ => fun
  | [d] => { results := [.lit (.bool true)], args := [d] }
  | _ => none }
def frameReadsRow : OpenClaim := { program := "ytimmineopkmdmaadoor", sum := "57872c8faffc44f6a0e8c83371ea32104c8414caf164d2f6ad9b9ff64c8a3ef5", func := "polliwog/polliwoglaw05.FrameReads", spec := "frameReads", inPlace := ["internal/abi.NoEscape", "internal/bytealg.MakeNoZero", "internal/bytealg.IndexByteString", "internal/bytealg.IndexString"], named := ["unicode/utf8.first", "unicode/utf8.acceptRanges", "internal/bytealg.MaxLen"], apart := false, laid := [("unicode/utf8.acceptRanges", laid_unicode_utf8_acceptRanges), ("unicode/utf8.first", laid_unicode_utf8_first)] }
def FrameReadsSaid : Prop := frameReadsRow.holds Tryd.pinned (OpenSpec.ofChange frameReadsSpec)

/-- ITS FALSE NEIGHBOUR: 'it returns false'. Refute it at one input. -/
def frameReadsWrong : ChangeSpec := { name := "frameReads", fn := fun _ => fun
  | [d] => { results := [.lit (.bool false)], args := [d] }
  | _ => none }
def FrameReadsWrongFalsely : Prop := frameReadsRow.holds Tryd.pinned (OpenSpec.ofChange frameReadsWrong)

/-- 'polliwoglaw05.FrameFlips': WHATEVER THE INPUT: true; the input reads as it did. -/
def frameFlipsSpec : ChangeSpec := { name := "frameFlips", fn := fun _ => fun
  | [d] => { results := [.lit (.bool true)], args := [d] }
  | _ => none }
def frameFlipsRow : OpenClaim := { program := "ytimmineopkmdmaadoor", sum := "57872c8faffc44f6a0e8c83371ea32104c8414caf164d2f6ad9b9ff64c8a3ef5", func := "polliwog/polliwoglaw05.FrameFlips", spec := "frameFlips", inPlace := ["internal/abi.NoEscape", "internal/bytealg.MakeNoZero", "internal/bytealg.IndexByteString", "internal/bytealg.IndexString"], named := ["unicode/utf8.first", "unicode/utf8.acceptRanges", "internal/bytealg.MaxLen"], apart := false, laid := [("unicode/utf8.acceptRanges", laid_unicode_utf8_acceptRanges), ("unicode/utf8.first", laid_unicode_utf8_first)] }
def FrameFlipsSaid : Prop := frameFlipsRow.holds Tryd.pinned (OpenSpec.ofChange frameFlipsSpec)

/-- ITS FALSE NEIGHBOUR: 'it returns false'. Refute it at one input. -/
def frameFlipsWrong : ChangeSpec := { name := "frameFlips", fn := fun _ => fun
  | [d] => { results := [.lit (.bool false)], args := [d] }
  | _ => none }
def FrameFlipsWrongFalsely : Prop := frameFlipsRow.holds Tryd.pinned (OpenSpec.ofChange frameFlipsWrong)

/-- 'polliwoglaw05.FrameLong': WHATEVER THE INPUT: true; the input reads as it did. -/
def frameLongSpec : ChangeSpec := { name := "frameLong", fn := fun _ => fun
  | [d] => { results := [.lit (.bool true)], args := [d] }
  | _ => none }
def frameLongRow : OpenClaim := { program := "ytimmineopkmdmaadoor", sum := "57872c8faffc44f6a0e8c83371ea32104c8414caf164d2f6ad9b9ff64c8a3ef5", func := "polliwog/polliwoglaw05.FrameLong", spec := "frameLong", inPlace := ["internal/abi.NoEscape", "internal/bytealg.MakeNoZero", "internal/bytealg.IndexByteString", "internal/bytealg.IndexString"], named := ["unicode/utf8.first", "unicode/utf8.acceptRanges", "internal/bytealg.MaxLen"], apart := false, laid := [("unicode/utf8.acceptRanges", laid_unicode_utf8_acceptRanges), ("unicode/utf8.first", laid_unicode_utf8_first)] }
def FrameLongSaid : Prop := frameLongRow.holds Tryd.pinned (OpenSpec.ofChange frameLongSpec)

/-- ITS FALSE NEIGHBOUR: 'it returns false'. Refute it at one input. -/
def frameLongWrong : ChangeSpec := { name := "frameLong", fn := fun _ => fun
  | [d] => { results := [.lit (.bool false)], args := [d] }
  | _ => none }
def FrameLongWrongFalsely : Prop := frameLongRow.holds Tryd.pinned (OpenSpec.ofChange frameLongWrong)

/-- 'polliwoglaw05.FrameUnlike': WHATEVER THE INPUT: true; the input reads as it did. -/
def frameUnlikeSpec : ChangeSpec := { name := "frameUnlike", fn := fun _ => fun
  | [d] => { results := [.lit (.bool true)], args := [d] }
  | _ => none }
def frameUnlikeRow : OpenClaim := { program := "ytimmineopkmdmaadoor", sum := "57872c8faffc44f6a0e8c83371ea32104c8414caf164d2f6ad9b9ff64c8a3ef5", func := "polliwog/polliwoglaw05.FrameUnlike", spec := "frameUnlike", inPlace := ["internal/abi.NoEscape", "internal/bytealg.MakeNoZero", "internal/bytealg.IndexByteString", "internal/bytealg.IndexString"], named := ["unicode/utf8.first", "unicode/utf8.acceptRanges", "internal/bytealg.MaxLen"], apart := false, laid := [("unicode/utf8.acceptRanges", laid_unicode_utf8_acceptRanges), ("unicode/utf8.first", laid_unicode_utf8_first)] }
def FrameUnlikeSaid : Prop := frameUnlikeRow.holds Tryd.pinned (OpenSpec.ofChange frameUnlikeSpec)

/-- ITS FALSE NEIGHBOUR: 'it returns false'. Refute it at one input. -/
def frameUnlikeWrong : ChangeSpec := { name := "frameUnlike", fn := fun _ => fun
  | [d] => { results := [.lit (.bool false)], args := [d] }
  | _ => none }
def FrameUnlikeWrongFalsely : Prop := frameUnlikeRow.holds Tryd.pinned (OpenSpec.ofChange frameUnlikeWrong)

/-- 'polliwoglaw05.FrameCells': WHATEVER THE INPUT: true; the input reads as it did. -/
def frameCellsSpec : ChangeSpec := { name := "frameCells", fn := fun _ => fun
  | [d] => { results := [.lit (.bool true)], args := [d] }
  | _ => none }
def frameCellsRow : OpenClaim := { program := "ytimmineopkmdmaadoor", sum := "57872c8faffc44f6a0e8c83371ea32104c8414caf164d2f6ad9b9ff64c8a3ef5", func := "polliwog/polliwoglaw05.FrameCells", spec := "frameCells", inPlace := ["internal/abi.NoEscape", "internal/bytealg.MakeNoZero", "internal/bytealg.IndexByteString", "internal/bytealg.IndexString"], named := ["unicode/utf8.first", "unicode/utf8.acceptRanges", "internal/bytealg.MaxLen"], apart := false, laid := [("unicode/utf8.acceptRanges", laid_unicode_utf8_acceptRanges), ("unicode/utf8.first", laid_unicode_utf8_first)] }
def FrameCellsSaid : Prop := frameCellsRow.holds Tryd.pinned (OpenSpec.ofChange frameCellsSpec)

/-- ITS FALSE NEIGHBOUR: 'it returns false'. Refute it at one input. -/
def frameCellsWrong : ChangeSpec := { name := "frameCells", fn := fun _ => fun
  | [d] => { results := [.lit (.bool false)], args := [d] }
  | _ => none }
def FrameCellsWrongFalsely : Prop := frameCellsRow.holds Tryd.pinned (OpenSpec.ofChange frameCellsWrong)

/-- 'polliwoglaw06.PduBack': WHATEVER THE INPUT: true; the input reads as it did. -/
def pduBackSpec : ChangeSpec := { name := "pduBack", fn := fun _ => fun
  | [d] => { results := [.lit (.bool true)], args := [d] }
  | _ => none }
def pduBackRow : OpenClaim := { program := "ytimmineopkmdmaadoor", sum := "57872c8faffc44f6a0e8c83371ea32104c8414caf164d2f6ad9b9ff64c8a3ef5", func := "polliwog/polliwoglaw06.PduBack", spec := "pduBack", unfollowed := true, recurses := true, named := ["polliwog/pdu.shapes"], apart := false, laid := [("polliwog/pdu.shapes", laid_polliwog_pdu_shapes)] }
def PduBackSaid : Prop := pduBackRow.holds Tryd.pinned (OpenSpec.ofChange pduBackSpec)

/-- ITS FALSE NEIGHBOUR: 'it returns false'. Refute it at one input. -/
def pduBackWrong : ChangeSpec := { name := "pduBack", fn := fun _ => fun
  | [d] => { results := [.lit (.bool false)], args := [d] }
  | _ => none }
def PduBackWrongFalsely : Prop := pduBackRow.holds Tryd.pinned (OpenSpec.ofChange pduBackWrong)

/-- 'polliwoglaw06.PduNames': WHATEVER THE INPUT: true; the input reads as it did. -/
def pduNamesSpec : ChangeSpec := { name := "pduNames", fn := fun _ => fun
  | [d] => { results := [.lit (.bool true)], args := [d] }
  | _ => none }
def pduNamesRow : OpenClaim := { program := "ytimmineopkmdmaadoor", sum := "57872c8faffc44f6a0e8c83371ea32104c8414caf164d2f6ad9b9ff64c8a3ef5", func := "polliwog/polliwoglaw06.PduNames", spec := "pduNames", unfollowed := true, recurses := true, named := ["polliwog/pdu.shapes", "polliwog/pdu.names"], apart := false, laid := [("polliwog/pdu.names", laid_polliwog_pdu_names), ("polliwog/pdu.shapes", laid_polliwog_pdu_shapes)] }
def PduNamesSaid : Prop := pduNamesRow.holds Tryd.pinned (OpenSpec.ofChange pduNamesSpec)

/-- ITS FALSE NEIGHBOUR: 'it returns false'. Refute it at one input. -/
def pduNamesWrong : ChangeSpec := { name := "pduNames", fn := fun _ => fun
  | [d] => { results := [.lit (.bool false)], args := [d] }
  | _ => none }
def PduNamesWrongFalsely : Prop := pduNamesRow.holds Tryd.pinned (OpenSpec.ofChange pduNamesWrong)

/-- 'polliwoglaw06.PduUnlike': WHATEVER THE INPUT: true; the input reads as it did. -/
def pduUnlikeSpec : ChangeSpec := { name := "pduUnlike", fn := fun _ => fun
  | [d1, d2] => { results := [.lit (.bool true)], args := [d1, d2] }
  | _ => none }
def pduUnlikeRow : OpenClaim := { program := "ytimmineopkmdmaadoor", sum := "57872c8faffc44f6a0e8c83371ea32104c8414caf164d2f6ad9b9ff64c8a3ef5", func := "polliwog/polliwoglaw06.PduUnlike", spec := "pduUnlike", unfollowed := true, recurses := true, named := ["polliwog/pdu.shapes"], apart := false, laid := [("polliwog/pdu.shapes", laid_polliwog_pdu_shapes)] }
def PduUnlikeSaid : Prop := pduUnlikeRow.holds Tryd.pinned (OpenSpec.ofChange pduUnlikeSpec)

/-- ITS FALSE NEIGHBOUR: 'it returns false'. Refute it at one input. -/
def pduUnlikeWrong : ChangeSpec := { name := "pduUnlike", fn := fun _ => fun
  | [d1, d2] => { results := [.lit (.bool false)], args := [d1, d2] }
  | _ => none }
def PduUnlikeWrongFalsely : Prop := pduUnlikeRow.holds Tryd.pinned (OpenSpec.ofChange pduUnlikeWrong)

/-- 'polliwoglaw06.PduSizes': WHATEVER THE INPUT: true; the input reads as it did. -/
def pduSizesSpec : ChangeSpec := { name := "pduSizes", fn := fun _ => fun
  | [d] => { results := [.lit (.bool true)], args := [d] }
  | _ => none }
def pduSizesRow : OpenClaim := { program := "ytimmineopkmdmaadoor", sum := "57872c8faffc44f6a0e8c83371ea32104c8414caf164d2f6ad9b9ff64c8a3ef5", func := "polliwog/polliwoglaw06.PduSizes", spec := "pduSizes", unfollowed := true, recurses := true, named := ["polliwog/pdu.shapes"], apart := false, laid := [("polliwog/pdu.shapes", laid_polliwog_pdu_shapes)] }
def PduSizesSaid : Prop := pduSizesRow.holds Tryd.pinned (OpenSpec.ofChange pduSizesSpec)

/-- ITS FALSE NEIGHBOUR: 'it returns false'. Refute it at one input. -/
def pduSizesWrong : ChangeSpec := { name := "pduSizes", fn := fun _ => fun
  | [d] => { results := [.lit (.bool false)], args := [d] }
  | _ => none }
def PduSizesWrongFalsely : Prop := pduSizesRow.holds Tryd.pinned (OpenSpec.ofChange pduSizesWrong)

/- THE SECOND FORM. 'bulk': how many values and letters a reading holds, each counted each time it is reached (what is shared counts as often as it is met; a slice's spare places count too). A statement '..UptoSaid' is the law's where the arguments, and the package variables that the reading takes, are together of bulk at most 1048576: NARROWER than '..Said'. Prove '..Said' where nothing that the law and all that it calls make is longer than what came in: it says more and counts as full. Else prove '..UptoSaid'. A law counts once. -/
mutual
def uptoBulk {H : Type} : DataW H → Nat
  | .lit (.string bytes) => bytes.length + 1
  | .lit _ => 1
  | .nil => 1
  | .ptr d => uptoBulk d + 1
  | .slice elems spare => uptoBulkAll elems + uptoBulkAll spare + 1
  | .agg parts => uptoBulkAll parts + 1
  | .iface _ d => uptoBulk d + 1
  | .map entries => uptoBulkEntries entries + 1
  | .held _ => 1
def uptoBulkAll {H : Type} : List (DataW H) → Nat
  | [] => 0
  | d :: r => uptoBulk d + uptoBulkAll r
def uptoBulkEntries {H : Type} : List (Lit × DataW H) → Nat
  | [] => 0
  | x :: r => uptoBulkEntry x + uptoBulkEntries r
def uptoBulkEntry {H : Type} : Lit × DataW H → Nat
  | (.string bytes, d) => bytes.length + uptoBulk d + 1
  | (_, d) => uptoBulk d + 1
 end
def uptoSmall : (H : Type) → List (DataW H) → Bool := fun _ ds => decide (uptoBulkAll ds ≤ 1048576)
def OpenSpec.upto (s : _root_.Go.ChangeSpec) : _root_.Go.OpenSpec := { _root_.Go.OpenSpec.ofChange s with cond := some uptoSmall }

/-- 'polliwoglaw05.FrameBack', WHERE WHAT IT READS IS OF BULK AT MOST 1048576: true; the input reads as it did. -/
def frameBackUptoRow : OpenClaim := { program := "ytimmineopkmdmaadoor", sum := "57872c8faffc44f6a0e8c83371ea32104c8414caf164d2f6ad9b9ff64c8a3ef5", func := "polliwog/polliwoglaw05.FrameBack", spec := "frameBack", inPlace := ["internal/abi.NoEscape", "internal/bytealg.MakeNoZero", "internal/bytealg.IndexByteString", "internal/bytealg.IndexString"], named := ["unicode/utf8.first", "unicode/utf8.acceptRanges", "internal/bytealg.MaxLen"], apart := false, laid := [("unicode/utf8.acceptRanges", laid_unicode_utf8_acceptRanges), ("unicode/utf8.first", laid_unicode_utf8_first)], narrowed := true }
def FrameBackUptoSaid : Prop := frameBackUptoRow.holds Tryd.pinned (OpenSpec.upto frameBackSpec)

/-- 'polliwoglaw05.FrameReads', WHERE WHAT IT READS IS OF BULK AT MOST 1048576: true; the input reads as it did. -/
def frameReadsUptoRow : OpenClaim := { program := "ytimmineopkmdmaadoor", sum := "57872c8faffc44f6a0e8c83371ea32104c8414caf164d2f6ad9b9ff64c8a3ef5", func := "polliwog/polliwoglaw05.FrameReads", spec := "frameReads", inPlace := ["internal/abi.NoEscape", "internal/bytealg.MakeNoZero", "internal/bytealg.IndexByteString", "internal/bytealg.IndexString"], named := ["unicode/utf8.first", "unicode/utf8.acceptRanges", "internal/bytealg.MaxLen"], apart := false, laid := [("unicode/utf8.acceptRanges", laid_unicode_utf8_acceptRanges), ("unicode/utf8.first", laid_unicode_utf8_first)], narrowed := true }
def FrameReadsUptoSaid : Prop := frameReadsUptoRow.holds Tryd.pinned (OpenSpec.upto frameReadsSpec)

/-- 'polliwoglaw05.FrameFlips', WHERE WHAT IT READS IS OF BULK AT MOST 1048576: true; the input reads as it did. -/
def frameFlipsUptoRow : OpenClaim := { program := "ytimmineopkmdmaadoor", sum := "57872c8faffc44f6a0e8c83371ea32104c8414caf164d2f6ad9b9ff64c8a3ef5", func := "polliwog/polliwoglaw05.FrameFlips", spec := "frameFlips", inPlace := ["internal/abi.NoEscape", "internal/bytealg.MakeNoZero", "internal/bytealg.IndexByteString", "internal/bytealg.IndexString"], named := ["unicode/utf8.first", "unicode/utf8.acceptRanges", "internal/bytealg.MaxLen"], apart := false, laid := [("unicode/utf8.acceptRanges", laid_unicode_utf8_acceptRanges), ("unicode/utf8.first", laid_unicode_utf8_first)], narrowed := true }
def FrameFlipsUptoSaid : Prop := frameFlipsUptoRow.holds Tryd.pinned (OpenSpec.upto frameFlipsSpec)

/-- 'polliwoglaw05.FrameLong', WHERE WHAT IT READS IS OF BULK AT MOST 1048576: true; the input reads as it did. -/
def frameLongUptoRow : OpenClaim := { program := "ytimmineopkmdmaadoor", sum := "57872c8faffc44f6a0e8c83371ea32104c8414caf164d2f6ad9b9ff64c8a3ef5", func := "polliwog/polliwoglaw05.FrameLong", spec := "frameLong", inPlace := ["internal/abi.NoEscape", "internal/bytealg.MakeNoZero", "internal/bytealg.IndexByteString", "internal/bytealg.IndexString"], named := ["unicode/utf8.first", "unicode/utf8.acceptRanges", "internal/bytealg.MaxLen"], apart := false, laid := [("unicode/utf8.acceptRanges", laid_unicode_utf8_acceptRanges), ("unicode/utf8.first", laid_unicode_utf8_first)], narrowed := true }
def FrameLongUptoSaid : Prop := frameLongUptoRow.holds Tryd.pinned (OpenSpec.upto frameLongSpec)

/-- 'polliwoglaw05.FrameUnlike', WHERE WHAT IT READS IS OF BULK AT MOST 1048576: true; the input reads as it did. -/
def frameUnlikeUptoRow : OpenClaim := { program := "ytimmineopkmdmaadoor", sum := "57872c8faffc44f6a0e8c83371ea32104c8414caf164d2f6ad9b9ff64c8a3ef5", func := "polliwog/polliwoglaw05.FrameUnlike", spec := "frameUnlike", inPlace := ["internal/abi.NoEscape", "internal/bytealg.MakeNoZero", "internal/bytealg.IndexByteString", "internal/bytealg.IndexString"], named := ["unicode/utf8.first", "unicode/utf8.acceptRanges", "internal/bytealg.MaxLen"], apart := false, laid := [("unicode/utf8.acceptRanges", laid_unicode_utf8_acceptRanges), ("unicode/utf8.first", laid_unicode_utf8_first)], narrowed := true }
def FrameUnlikeUptoSaid : Prop := frameUnlikeUptoRow.holds Tryd.pinned (OpenSpec.upto frameUnlikeSpec)

/-- 'polliwoglaw05.FrameCells', WHERE WHAT IT READS IS OF BULK AT MOST 1048576: true; the input reads as it did. -/
def frameCellsUptoRow : OpenClaim := { program := "ytimmineopkmdmaadoor", sum := "57872c8faffc44f6a0e8c83371ea32104c8414caf164d2f6ad9b9ff64c8a3ef5", func := "polliwog/polliwoglaw05.FrameCells", spec := "frameCells", inPlace := ["internal/abi.NoEscape", "internal/bytealg.MakeNoZero", "internal/bytealg.IndexByteString", "internal/bytealg.IndexString"], named := ["unicode/utf8.first", "unicode/utf8.acceptRanges", "internal/bytealg.MaxLen"], apart := false, laid := [("unicode/utf8.acceptRanges", laid_unicode_utf8_acceptRanges), ("unicode/utf8.first", laid_unicode_utf8_first)], narrowed := true }
def FrameCellsUptoSaid : Prop := frameCellsUptoRow.holds Tryd.pinned (OpenSpec.upto frameCellsSpec)

/-- 'polliwoglaw06.PduBack', WHERE WHAT IT READS IS OF BULK AT MOST 1048576: true; the input reads as it did. -/
def pduBackUptoRow : OpenClaim := { program := "ytimmineopkmdmaadoor", sum := "57872c8faffc44f6a0e8c83371ea32104c8414caf164d2f6ad9b9ff64c8a3ef5", func := "polliwog/polliwoglaw06.PduBack", spec := "pduBack", unfollowed := true, recurses := true, named := ["polliwog/pdu.shapes"], apart := false, laid := [("polliwog/pdu.shapes", laid_polliwog_pdu_shapes)], narrowed := true }
def PduBackUptoSaid : Prop := pduBackUptoRow.holds Tryd.pinned (OpenSpec.upto pduBackSpec)

/-- 'polliwoglaw06.PduNames', WHERE WHAT IT READS IS OF BULK AT MOST 1048576: true; the input reads as it did. -/
def pduNamesUptoRow : OpenClaim := { program := "ytimmineopkmdmaadoor", sum := "57872c8faffc44f6a0e8c83371ea32104c8414caf164d2f6ad9b9ff64c8a3ef5", func := "polliwog/polliwoglaw06.PduNames", spec := "pduNames", unfollowed := true, recurses := true, named := ["polliwog/pdu.shapes", "polliwog/pdu.names"], apart := false, laid := [("polliwog/pdu.names", laid_polliwog_pdu_names), ("polliwog/pdu.shapes", laid_polliwog_pdu_shapes)], narrowed := true }
def PduNamesUptoSaid : Prop := pduNamesUptoRow.holds Tryd.pinned (OpenSpec.upto pduNamesSpec)

/-- 'polliwoglaw06.PduUnlike', WHERE WHAT IT READS IS OF BULK AT MOST 1048576: true; the input reads as it did. -/
def pduUnlikeUptoRow : OpenClaim := { program := "ytimmineopkmdmaadoor", sum := "57872c8faffc44f6a0e8c83371ea32104c8414caf164d2f6ad9b9ff64c8a3ef5", func := "polliwog/polliwoglaw06.PduUnlike", spec := "pduUnlike", unfollowed := true, recurses := true, named := ["polliwog/pdu.shapes"], apart := false, laid := [("polliwog/pdu.shapes", laid_polliwog_pdu_shapes)], narrowed := true }
def PduUnlikeUptoSaid : Prop := pduUnlikeUptoRow.holds Tryd.pinned (OpenSpec.upto pduUnlikeSpec)

/-- 'polliwoglaw06.PduSizes', WHERE WHAT IT READS IS OF BULK AT MOST 1048576: true; the input reads as it did. -/
def pduSizesUptoRow : OpenClaim := { program := "ytimmineopkmdmaadoor", sum := "57872c8faffc44f6a0e8c83371ea32104c8414caf164d2f6ad9b9ff64c8a3ef5", func := "polliwog/polliwoglaw06.PduSizes", spec := "pduSizes", unfollowed := true, recurses := true, named := ["polliwog/pdu.shapes"], apart := false, laid := [("polliwog/pdu.shapes", laid_polliwog_pdu_shapes)], narrowed := true }
def PduSizesUptoSaid : Prop := pduSizesUptoRow.holds Tryd.pinned (OpenSpec.upto pduSizesSpec)

end Rows
end Go.Proofs.YtimmineopkmdmaaDoor
