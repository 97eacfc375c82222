/-
  NARROWER THAN 'FOR EVERY INPUT', by the rows' own cells (each row's printed sentence says how): EventRequests: laid · EventTexts: laid · EventUnlike: laid · EventHex: laid · EventKinds: laid · EventData: laid.
  DERIVED. THE GIVEN ROWS OF THIS SEAT. 6 by the template 'for every input the law returns true; each argument reads behind the call as it read before'; 0 by the template 'total and deterministic' (their statements: YtnocckgbcjienaaDoorTotals.lean).
  GIVEN WITH THE SEED: the statements are not yours to turn. If you find one false, say at which input.
  Laid BY PROGRAM, IN A SANDBOX (cutbox-rows.mjs): the forced cells as the released guide's own fill.sh prints them over the translation 6ca637c94b7c016b… (all of the seat's roots in one cut). By AI agents, Wed Nov 11 2026. No macro, syntax, notation, axiom, sorry.
-/
import Derived.Test.YtnocckgbcjienaaDoorChecked
import GoSem.Claim
import GoSem.ClaimJoined
import GoSem.ClaimMapViews
import Derived.JoinedTies
import Derived.KernelRfl
namespace Go.Proofs.YtnocckgbcjienaaDoor
/- THE CELL 'sum', in the pinned program and in every row, IS THE sha256 OF THE DUMP (.gsa) THAT YtnocckgbcjienaaDoorProg.lean LOADS. Nothing in Lean hashes anything: it is a label: what it is worth is what the hold of that sum in a sandbox is worth. -/
noncomputable def Tryd.pinned : Pinned := { name := "ytnocckgbcjienaadoor", sum := "6ca637c94b7c016b5a6110477b65fbb1f5471c100d7e55bbdfc3f14fb13a425e", checked := Tryd.checked }
namespace Rows
def none {H : Type} : Left H := { results := [], args := [] }

/- WHAT THE LISTED PACKAGE-LEVEL VARIABLES READ AS WHEN THE CALL BEGINS. Each datum BY PROGRAM (the guide's laid-datum.mjs) off the statement by which the dump's own 'gosem.cut.vars' lays the variable. In a bare row this is a premise. The card (YtnocckgbcjienaaDoorCards.lean) ties it to the program's text. -/
def laid_math_bits_deBruijn32tab {H : Type} : DataW H := .agg [.lit (.int .u8 0), .lit (.int .u8 1), .lit (.int .u8 28), .lit (.int .u8 2), .lit (.int .u8 29), .lit (.int .u8 14), .lit (.int .u8 24), .lit (.int .u8 3), .lit (.int .u8 30), .lit (.int .u8 22), .lit (.int .u8 20), .lit (.int .u8 15), .lit (.int .u8 25), .lit (.int .u8 17), .lit (.int .u8 4), .lit (.int .u8 8), .lit (.int .u8 31), .lit (.int .u8 27), .lit (.int .u8 13), .lit (.int .u8 23), .lit (.int .u8 21), .lit (.int .u8 19), .lit (.int .u8 16), .lit (.int .u8 7), .lit (.int .u8 26), .lit (.int .u8 12), .lit (.int .u8 18), .lit (.int .u8 6), .lit (.int .u8 11), .lit (.int .u8 5), .lit (.int .u8 10), .lit (.int .u8 9)]
def laid_math_bits_deBruijn64tab {H : Type} : DataW H := .agg [.lit (.int .u8 0), .lit (.int .u8 1), .lit (.int .u8 56), .lit (.int .u8 2), .lit (.int .u8 57), .lit (.int .u8 49), .lit (.int .u8 28), .lit (.int .u8 3), .lit (.int .u8 61), .lit (.int .u8 58), .lit (.int .u8 42), .lit (.int .u8 50), .lit (.int .u8 38), .lit (.int .u8 29), .lit (.int .u8 17), .lit (.int .u8 4), .lit (.int .u8 62), .lit (.int .u8 47), .lit (.int .u8 59), .lit (.int .u8 36), .lit (.int .u8 45), .lit (.int .u8 43), .lit (.int .u8 51), .lit (.int .u8 22), .lit (.int .u8 53), .lit (.int .u8 39), .lit (.int .u8 33), .lit (.int .u8 30), .lit (.int .u8 24), .lit (.int .u8 18), .lit (.int .u8 12), .lit (.int .u8 5), .lit (.int .u8 63), .lit (.int .u8 55), .lit (.int .u8 48), .lit (.int .u8 27), .lit (.int .u8 60), .lit (.int .u8 41), .lit (.int .u8 37), .lit (.int .u8 16), .lit (.int .u8 46), .lit (.int .u8 35), .lit (.int .u8 44), .lit (.int .u8 21), .lit (.int .u8 52), .lit (.int .u8 32), .lit (.int .u8 23), .lit (.int .u8 11), .lit (.int .u8 54), .lit (.int .u8 26), .lit (.int .u8 40), .lit (.int .u8 15), .lit (.int .u8 34), .lit (.int .u8 20), .lit (.int .u8 31), .lit (.int .u8 10), .lit (.int .u8 25), .lit (.int .u8 14), .lit (.int .u8 19), .lit (.int .u8 9), .lit (.int .u8 13), .lit (.int .u8 8), .lit (.int .u8 7), .lit (.int .u8 6)]
def laid_internal_strconv_uint64pow10 {H : Type} : DataW H := .agg [.lit (.int .u64 1), .lit (.int .u64 10), .lit (.int .u64 100), .lit (.int .u64 1000), .lit (.int .u64 10000), .lit (.int .u64 100000), .lit (.int .u64 1000000), .lit (.int .u64 10000000), .lit (.int .u64 100000000), .lit (.int .u64 1000000000), .lit (.int .u64 10000000000), .lit (.int .u64 100000000000), .lit (.int .u64 1000000000000), .lit (.int .u64 10000000000000), .lit (.int .u64 100000000000000), .lit (.int .u64 1000000000000000), .lit (.int .u64 10000000000000000), .lit (.int .u64 100000000000000000), .lit (.int .u64 1000000000000000000), .lit (.int .u64 10000000000000000000)]
def laid_polliwog_event_rooms {H : Type} : DataW H := .agg [.agg [.lit (.int .i64 0), .lit (.int .i64 0)], .agg [.lit (.int .i64 64), .lit (.int .i64 0)], .agg [.lit (.int .i64 0), .lit (.int .i64 0)], .agg [.lit (.int .i64 64), .lit (.int .i64 0)], .agg [.lit (.int .i64 64), .lit (.int .i64 0)], .agg [.lit (.int .i64 0), .lit (.int .i64 0)], .agg [.lit (.int .i64 0), .lit (.int .i64 0)], .agg [.lit (.int .i64 200), .lit (.int .i64 0)], .agg [.lit (.int .i64 200), .lit (.int .i64 0)], .agg [.lit (.int .i64 200), .lit (.int .i64 0)], .agg [.lit (.int .i64 0), .lit (.int .i64 64)], .agg [.lit (.int .i64 0), .lit (.int .i64 0)]]
def laid_polliwog_event_words {H : Type} : DataW H := .agg [.lit (.string []), .lit (.string [101, 115, 116, 97, 98, 108, 105, 115, 104]), .lit (.string [101, 115, 116, 97, 98, 108, 105, 115, 104, 101, 100]), .lit (.string [114, 101, 108, 101, 97, 115, 101]), .lit (.string [114, 101, 108, 101, 97, 115, 101, 100]), .lit (.string [114, 101, 115, 121, 110, 99]), .lit (.string [114, 101, 115, 121, 110, 99, 101, 100]), .lit (.string [114, 101, 99, 111, 118, 101, 114]), .lit (.string [100, 97, 116, 97]), .lit (.string [117, 110, 105, 116]), .lit (.string [109, 97, 110, 97, 103, 101]), .lit (.string [114, 101, 116, 114, 105, 101, 118, 101, 100]), .lit (.string [101, 114, 114, 111, 114])]

/-- 'polliwoglaw10.EventRequests': WHATEVER THE INPUT: true; the input reads as it did. -/
def eventRequestsSpec : ChangeSpec := { name := "eventRequests", fn := fun _ => fun
  | [d] => { results := [.lit (.bool true)], args := [d] }
  | _ => none }
def eventRequestsRow : OpenClaim := { program := "ytnocckgbcjienaadoor", sum := "6ca637c94b7c016b5a6110477b65fbb1f5471c100d7e55bbdfc3f14fb13a425e", func := "polliwog/polliwoglaw10.EventRequests", spec := "eventRequests", inPlace := ["internal/abi.NoEscape", "internal/bytealg.MakeNoZero"], named := ["polliwog/event.words", "internal/strconv.uint64pow10", "math/bits.deBruijn32tab", "math/bits.deBruijn64tab", "polliwog/event.rooms"], apart := false, laid := [("math/bits.deBruijn32tab", laid_math_bits_deBruijn32tab), ("math/bits.deBruijn64tab", laid_math_bits_deBruijn64tab), ("internal/strconv.uint64pow10", laid_internal_strconv_uint64pow10), ("polliwog/event.rooms", laid_polliwog_event_rooms), ("polliwog/event.words", laid_polliwog_event_words)] }
def EventRequestsSaid : Prop := eventRequestsRow.holds Tryd.pinned (OpenSpec.ofChange eventRequestsSpec)

/-- ITS FALSE NEIGHBOUR: 'it returns false'. Refute it at one input. -/
def eventRequestsWrong : ChangeSpec := { name := "eventRequests", fn := fun _ => fun
  | [d] => { results := [.lit (.bool false)], args := [d] }
  | _ => none }
def EventRequestsWrongFalsely : Prop := eventRequestsRow.holds Tryd.pinned (OpenSpec.ofChange eventRequestsWrong)

/-- 'polliwoglaw10.EventTexts': WHATEVER THE INPUT: true; the input reads as it did. -/
def eventTextsSpec : ChangeSpec := { name := "eventTexts", fn := fun _ => fun
  | [d] => { results := [.lit (.bool true)], args := [d] }
  | _ => none }
def eventTextsRow : OpenClaim := { program := "ytnocckgbcjienaadoor", sum := "6ca637c94b7c016b5a6110477b65fbb1f5471c100d7e55bbdfc3f14fb13a425e", func := "polliwog/polliwoglaw10.EventTexts", spec := "eventTexts", inPlace := ["internal/abi.NoEscape", "internal/bytealg.MakeNoZero"], named := ["polliwog/event.words", "internal/strconv.uint64pow10", "math/bits.deBruijn32tab", "math/bits.deBruijn64tab", "polliwog/event.rooms"], apart := false, laid := [("math/bits.deBruijn32tab", laid_math_bits_deBruijn32tab), ("math/bits.deBruijn64tab", laid_math_bits_deBruijn64tab), ("internal/strconv.uint64pow10", laid_internal_strconv_uint64pow10), ("polliwog/event.rooms", laid_polliwog_event_rooms), ("polliwog/event.words", laid_polliwog_event_words)] }
def EventTextsSaid : Prop := eventTextsRow.holds Tryd.pinned (OpenSpec.ofChange eventTextsSpec)

/-- ITS FALSE NEIGHBOUR: 'it returns false'. Refute it at one input. -/
def eventTextsWrong : ChangeSpec := { name := "eventTexts", fn := fun _ => fun
  | [d] => { results := [.lit (.bool false)], args := [d] }
  | _ => none }
def EventTextsWrongFalsely : Prop := eventTextsRow.holds Tryd.pinned (OpenSpec.ofChange eventTextsWrong)

/-- 'polliwoglaw10.EventUnlike': WHATEVER THE INPUT: true; the input reads as it did. -/
def eventUnlikeSpec : ChangeSpec := { name := "eventUnlike", fn := fun _ => fun
  | [d1, d2] => { results := [.lit (.bool true)], args := [d1, d2] }
  | _ => none }
def eventUnlikeRow : OpenClaim := { program := "ytnocckgbcjienaadoor", sum := "6ca637c94b7c016b5a6110477b65fbb1f5471c100d7e55bbdfc3f14fb13a425e", func := "polliwog/polliwoglaw10.EventUnlike", spec := "eventUnlike", inPlace := ["internal/abi.NoEscape", "internal/bytealg.MakeNoZero"], unfollowed := true, recurses := true, named := ["polliwog/event.words", "internal/strconv.uint64pow10", "math/bits.deBruijn32tab", "math/bits.deBruijn64tab", "polliwog/event.rooms"], apart := false, laid := [("math/bits.deBruijn32tab", laid_math_bits_deBruijn32tab), ("math/bits.deBruijn64tab", laid_math_bits_deBruijn64tab), ("internal/strconv.uint64pow10", laid_internal_strconv_uint64pow10), ("polliwog/event.rooms", laid_polliwog_event_rooms), ("polliwog/event.words", laid_polliwog_event_words)] }
def EventUnlikeSaid : Prop := eventUnlikeRow.holds Tryd.pinned (OpenSpec.ofChange eventUnlikeSpec)

/-- ITS FALSE NEIGHBOUR: 'it returns false'. Refute it at one input. -/
def eventUnlikeWrong : ChangeSpec := { name := "eventUnlike", fn := fun _ => fun
  | [d1, d2] => { results := [.lit (.bool false)], args := [d1, d2] }
  | _ => none }
def EventUnlikeWrongFalsely : Prop := eventUnlikeRow.holds Tryd.pinned (OpenSpec.ofChange eventUnlikeWrong)

/-- 'polliwoglaw10.EventHex': WHATEVER THE INPUT: true; the input reads as it did. -/
def eventHexSpec : ChangeSpec := { name := "eventHex", fn := fun _ => fun
  | [d1, d2] => { results := [.lit (.bool true)], args := [d1, d2] }
  | _ => none }
def eventHexRow : OpenClaim := { program := "ytnocckgbcjienaadoor", sum := "6ca637c94b7c016b5a6110477b65fbb1f5471c100d7e55bbdfc3f14fb13a425e", func := "polliwog/polliwoglaw10.EventHex", spec := "eventHex", inPlace := ["internal/abi.NoEscape", "internal/bytealg.MakeNoZero", "internal/bytealg.IndexByteString"], named := ["polliwog/event.words", "internal/strconv.uint64pow10", "math/bits.deBruijn32tab", "math/bits.deBruijn64tab", "polliwog/event.rooms"], apart := false, laid := [("math/bits.deBruijn32tab", laid_math_bits_deBruijn32tab), ("math/bits.deBruijn64tab", laid_math_bits_deBruijn64tab), ("internal/strconv.uint64pow10", laid_internal_strconv_uint64pow10), ("polliwog/event.rooms", laid_polliwog_event_rooms), ("polliwog/event.words", laid_polliwog_event_words)] }
def EventHexSaid : Prop := eventHexRow.holds Tryd.pinned (OpenSpec.ofChange eventHexSpec)

/-- ITS FALSE NEIGHBOUR: 'it returns false'. Refute it at one input. -/
def eventHexWrong : ChangeSpec := { name := "eventHex", fn := fun _ => fun
  | [d1, d2] => { results := [.lit (.bool false)], args := [d1, d2] }
  | _ => none }
def EventHexWrongFalsely : Prop := eventHexRow.holds Tryd.pinned (OpenSpec.ofChange eventHexWrong)

/-- 'polliwoglaw10.EventKinds': WHATEVER THE INPUT: true; the input reads as it did. -/
def eventKindsSpec : ChangeSpec := { name := "eventKinds", fn := fun _ => fun
  | [d1, d2] => { results := [.lit (.bool true)], args := [d1, d2] }
  | _ => none }
def eventKindsRow : OpenClaim := { program := "ytnocckgbcjienaadoor", sum := "6ca637c94b7c016b5a6110477b65fbb1f5471c100d7e55bbdfc3f14fb13a425e", func := "polliwog/polliwoglaw10.EventKinds", spec := "eventKinds", inPlace := ["internal/abi.NoEscape", "internal/bytealg.MakeNoZero"], named := ["polliwog/event.words", "internal/strconv.uint64pow10", "math/bits.deBruijn32tab", "math/bits.deBruijn64tab", "polliwog/event.rooms"], apart := false, laid := [("math/bits.deBruijn32tab", laid_math_bits_deBruijn32tab), ("math/bits.deBruijn64tab", laid_math_bits_deBruijn64tab), ("internal/strconv.uint64pow10", laid_internal_strconv_uint64pow10), ("polliwog/event.rooms", laid_polliwog_event_rooms), ("polliwog/event.words", laid_polliwog_event_words)] }
def EventKindsSaid : Prop := eventKindsRow.holds Tryd.pinned (OpenSpec.ofChange eventKindsSpec)

/-- ITS FALSE NEIGHBOUR: 'it returns false'. Refute it at one input. -/
def eventKindsWrong : ChangeSpec := { name := "eventKinds", fn := fun _ => fun
  | [d1, d2] => { results := [.lit (.bool false)], args := [d1, d2] }
  | _ => none }
def EventKindsWrongFalsely : Prop := eventKindsRow.holds Tryd.pinned (OpenSpec.ofChange eventKindsWrong)

/-- 'polliwoglaw10.EventData': WHATEVER THE INPUT: true; the input reads as it did. -/
def eventDataSpec : ChangeSpec := { name := "eventData", fn := fun _ => fun
  | [d1, d2] => { results := [.lit (.bool true)], args := [d1, d2] }
  | _ => none }
def eventDataRow : OpenClaim := { program := "ytnocckgbcjienaadoor", sum := "6ca637c94b7c016b5a6110477b65fbb1f5471c100d7e55bbdfc3f14fb13a425e", func := "polliwog/polliwoglaw10.EventData", spec := "eventData", inPlace := ["internal/abi.NoEscape", "internal/bytealg.MakeNoZero"], named := ["polliwog/event.words", "internal/strconv.uint64pow10", "math/bits.deBruijn32tab", "math/bits.deBruijn64tab", "polliwog/event.rooms"], apart := false, laid := [("math/bits.deBruijn32tab", laid_math_bits_deBruijn32tab), ("math/bits.deBruijn64tab", laid_math_bits_deBruijn64tab), ("internal/strconv.uint64pow10", laid_internal_strconv_uint64pow10), ("polliwog/event.rooms", laid_polliwog_event_rooms), ("polliwog/event.words", laid_polliwog_event_words)] }
def EventDataSaid : Prop := eventDataRow.holds Tryd.pinned (OpenSpec.ofChange eventDataSpec)

/-- ITS FALSE NEIGHBOUR: 'it returns false'. Refute it at one input. -/
def eventDataWrong : ChangeSpec := { name := "eventData", fn := fun _ => fun
  | [d1, d2] => { results := [.lit (.bool false)], args := [d1, d2] }
  | _ => none }
def EventDataWrongFalsely : Prop := eventDataRow.holds Tryd.pinned (OpenSpec.ofChange eventDataWrong)

/- THE SECOND FORM. 'bulk': how many values and letters a reading holds, each counted each time it is reached (what is shared counts as often as it is met; a slice's spare places count too). A statement '..UptoSaid' is the law's where the arguments, and the package variables that the reading takes, are together of bulk at most 1048576: NARROWER than '..Said'. Prove '..Said' where nothing that the law and all that it calls make is longer than what came in: it says more and counts as full. Else prove '..UptoSaid'. A law counts once. -/
mutual
def uptoBulk {H : Type} : DataW H → Nat
  | .lit (.string bytes) => bytes.length + 1
  | .lit _ => 1
  | .nil => 1
  | .ptr d => uptoBulk d + 1
  | .slice elems spare => uptoBulkAll elems + uptoBulkAll spare + 1
  | .agg parts => uptoBulkAll parts + 1
  | .iface _ d => uptoBulk d + 1
  | .map entries => uptoBulkEntries entries + 1
  | .held _ => 1
def uptoBulkAll {H : Type} : List (DataW H) → Nat
  | [] => 0
  | d :: r => uptoBulk d + uptoBulkAll r
def uptoBulkEntries {H : Type} : List (Lit × DataW H) → Nat
  | [] => 0
  | x :: r => uptoBulkEntry x + uptoBulkEntries r
def uptoBulkEntry {H : Type} : Lit × DataW H → Nat
  | (.string bytes, d) => bytes.length + uptoBulk d + 1
  | (_, d) => uptoBulk d + 1
 end
def uptoSmall : (H : Type) → List (DataW H) → Bool := fun _ ds => decide (uptoBulkAll ds ≤ 1048576)
def OpenSpec.upto (s : _root_.Go.ChangeSpec) : _root_.Go.OpenSpec := { _root_.Go.OpenSpec.ofChange s with cond := some uptoSmall }

/-- 'polliwoglaw10.EventRequests', WHERE WHAT IT READS IS OF BULK AT MOST 1048576: true; the input reads as it did. -/
def eventRequestsUptoRow : OpenClaim := { program := "ytnocckgbcjienaadoor", sum := "6ca637c94b7c016b5a6110477b65fbb1f5471c100d7e55bbdfc3f14fb13a425e", func := "polliwog/polliwoglaw10.EventRequests", spec := "eventRequests", inPlace := ["internal/abi.NoEscape", "internal/bytealg.MakeNoZero"], named := ["polliwog/event.words", "internal/strconv.uint64pow10", "math/bits.deBruijn32tab", "math/bits.deBruijn64tab", "polliwog/event.rooms"], apart := false, laid := [("math/bits.deBruijn32tab", laid_math_bits_deBruijn32tab), ("math/bits.deBruijn64tab", laid_math_bits_deBruijn64tab), ("internal/strconv.uint64pow10", laid_internal_strconv_uint64pow10), ("polliwog/event.rooms", laid_polliwog_event_rooms), ("polliwog/event.words", laid_polliwog_event_words)], narrowed := true }
def EventRequestsUptoSaid : Prop := eventRequestsUptoRow.holds Tryd.pinned (OpenSpec.upto eventRequestsSpec)

/-- 'polliwoglaw10.EventTexts', WHERE WHAT IT READS IS OF BULK AT MOST 1048576: true; the input reads as it did. -/
def eventTextsUptoRow : OpenClaim := { program := "ytnocckgbcjienaadoor", sum := "6ca637c94b7c016b5a6110477b65fbb1f5471c100d7e55bbdfc3f14fb13a425e", func := "polliwog/polliwoglaw10.EventTexts", spec := "eventTexts", inPlace := ["internal/abi.NoEscape", "internal/bytealg.MakeNoZero"], named := ["polliwog/event.words", "internal/strconv.uint64pow10", "math/bits.deBruijn32tab", "math/bits.deBruijn64tab", "polliwog/event.rooms"], apart := false, laid := [("math/bits.deBruijn32tab", laid_math_bits_deBruijn32tab), ("math/bits.deBruijn64tab", laid_math_bits_deBruijn64tab), ("internal/strconv.uint64pow10", laid_internal_strconv_uint64pow10), ("polliwog/event.rooms", laid_polliwog_event_rooms), ("polliwog/event.words", laid_polliwog_event_words)], narrowed := true }
def EventTextsUptoSaid : Prop := eventTextsUptoRow.holds Tryd.pinned (OpenSpec.upto eventTextsSpec)

/-- 'polliwoglaw10.EventUnlike', WHERE WHAT IT READS IS OF BULK AT MOST 1048576: true; the input reads as it did. -/
def eventUnlikeUptoRow : OpenClaim := { program := "ytnocckgbcjienaadoor", sum := "6ca637c94b7c016b5a6110477b65fbb1f5471c100d7e55bbdfc3f14fb13a425e", func := "polliwog/polliwoglaw10.EventUnlike", spec := "eventUnlike", inPlace := ["internal/abi.NoEscape", "internal/bytealg.MakeNoZero"], unfollowed := true, recurses := true, named := ["polliwog/event.words", "internal/strconv.uint64pow10", "math/bits.deBruijn32tab", "math/bits.deBruijn64tab", "polliwog/event.rooms"], apart := false, laid := [("math/bits.deBruijn32tab", laid_math_bits_deBruijn32tab), ("math/bits.deBruijn64tab", laid_math_bits_deBruijn64tab), ("internal/strconv.uint64pow10", laid_internal_strconv_uint64pow10), ("polliwog/event.rooms", laid_polliwog_event_rooms), ("polliwog/event.words", laid_polliwog_event_words)], narrowed := true }
def EventUnlikeUptoSaid : Prop := eventUnlikeUptoRow.holds Tryd.pinned (OpenSpec.upto eventUnlikeSpec)

/-- 'polliwoglaw10.EventHex', WHERE WHAT IT READS IS OF BULK AT MOST 1048576: true; the input reads as it did. -/
def eventHexUptoRow : OpenClaim := { program := "ytnocckgbcjienaadoor", sum := "6ca637c94b7c016b5a6110477b65fbb1f5471c100d7e55bbdfc3f14fb13a425e", func := "polliwog/polliwoglaw10.EventHex", spec := "eventHex", inPlace := ["internal/abi.NoEscape", "internal/bytealg.MakeNoZero", "internal/bytealg.IndexByteString"], named := ["polliwog/event.words", "internal/strconv.uint64pow10", "math/bits.deBruijn32tab", "math/bits.deBruijn64tab", "polliwog/event.rooms"], apart := false, laid := [("math/bits.deBruijn32tab", laid_math_bits_deBruijn32tab), ("math/bits.deBruijn64tab", laid_math_bits_deBruijn64tab), ("internal/strconv.uint64pow10", laid_internal_strconv_uint64pow10), ("polliwog/event.rooms", laid_polliwog_event_rooms), ("polliwog/event.words", laid_polliwog_event_words)], narrowed := true }
def EventHexUptoSaid : Prop := eventHexUptoRow.holds Tryd.pinned (OpenSpec.upto eventHexSpec)

/-- 'polliwoglaw10.EventKinds', WHERE WHAT IT READS IS OF BULK AT MOST 1048576: true; the input reads as it did. -/
def eventKindsUptoRow : OpenClaim := { program := "ytnocckgbcjienaadoor", sum := "6ca637c94b7c016b5a6110477b65fbb1f5471c100d7e55bbdfc3f14fb13a425e", func := "polliwog/polliwoglaw10.EventKinds", spec := "eventKinds", inPlace := ["internal/abi.NoEscape", "internal/bytealg.MakeNoZero"], named := ["polliwog/event.words", "internal/strconv.uint64pow10", "math/bits.deBruijn32tab", "math/bits.deBruijn64tab", "polliwog/event.rooms"], apart := false, laid := [("math/bits.deBruijn32tab", laid_math_bits_deBruijn32tab), ("math/bits.deBruijn64tab", laid_math_bits_deBruijn64tab), ("internal/strconv.uint64pow10", laid_internal_strconv_uint64pow10), ("polliwog/event.rooms", laid_polliwog_event_rooms), ("polliwog/event.words", laid_polliwog_event_words)], narrowed := true }
def EventKindsUptoSaid : Prop := eventKindsUptoRow.holds Tryd.pinned (OpenSpec.upto eventKindsSpec)

/-- 'polliwoglaw10.EventData', WHERE WHAT IT READS IS OF BULK AT MOST 1048576: true; the input reads as it did. -/
def eventDataUptoRow : OpenClaim := { program := "ytnocckgbcjienaadoor", sum := "6ca637c94b7c016b5a6110477b65fbb1f5471c100d7e55bbdfc3f14fb13a425e", func := "polliwog/polliwoglaw10.EventData", spec := "eventData", inPlace := ["internal/abi.NoEscape", "internal/bytealg.MakeNoZero"], named := ["polliwog/event.words", "internal/strconv.uint64pow10", "math/bits.deBruijn32tab", "math/bits.deBruijn64tab", "polliwog/event.rooms"], apart := false, laid := [("math/bits.deBruijn32tab", laid_math_bits_deBruijn32tab), ("math/bits.deBruijn64tab", laid_math_bits_deBruijn64tab), ("internal/strconv.uint64pow10", laid_internal_strconv_uint64pow10), ("polliwog/event.rooms", laid_polliwog_event_rooms), ("polliwog/event.words", laid_polliwog_event_words)], narrowed := true }
def EventDataUptoSaid : Prop := eventDataUptoRow.holds Tryd.pinned (OpenSpec.upto eventDataSpec)

end Rows
end Go.Proofs.YtnocckgbcjienaaDoor
