/- The law's own fixed fact of layer 6. Conditions: the variables lie as their initialisers leave them. -/
import Derived.Test.YtnocckgbcjienabDoorPduParse
namespace Go.Proofs.YtnocckgbcjienabDoor
open Go.RowKit
set_option linter.unusedVariables false
set_option linter.unusedSimpArgs false

def abB : ByteArray := ⟨#[97, 98]⟩
theorem awake_check : checkV 8 0 5 0 0 [] false abB = 0 := by
  have h1 : tooBigV 8 0 abB = false := by decide
  have h2 : numbersV 8 0 5 0 0 = true := by decide
  have h3 : listFitsV 8 [] = true := by decide
  have h4 : dataV 8 false abB = true := by unfold dataV; rw [show decide (0 < most 8) = true from rfl, Bool.or_true]; rfl
  unfold checkV
  rw [show ([] : List Int).length = 0 from rfl, h1, h2, h3, h4]
  rfl
theorem awake_bytes : pduB 8 0 5 0 0 [] false abB = ⟨#[97, 98, 0, 0, 136, 0, 0, 5]⟩ := by rfl

set_option maxHeartbeats 1000000 in
set_option maxRecDepth 100000 in
theorem pdu_awake (w : World) (hS : ShapesIn w) : Calls Tryd.prog 10 #[] w fun e w' => e = .returned (.bool true) ∧ Below w.heap.size w w' := by
  have HB := Lib.hid (fun W (h : ShapesIn W) => pdu_bytes_ok 8 0 5 0 0 none 0 0 [] false abB W (by decide) h rfl (numRow_nil W) awake_check (fun x hx => by cases hx))
  have HP := Lib.hid (fun W (h : ShapesIn W) => pdu_parse_ok 8 0 5 0 0 [] false abB W (by decide) h awake_check (fun x hx => by cases hx))
  rw [awake_bytes] at HB HP
  have HS := Lib.hid hS
  clear hS
  go_enter Tryd.func10, Tryd.ntmps10
  go_wp2_with fail
  have hbx := box_new w 8 0 5 0 0 (.slice none 0 0) false abB
  have HS1 := Lib.hid (HS.out.next ((Below.refl _ w).alloc (Nat.le_refl _) (.cells #[.int .i64 8, .int .i64 0, .int .u32 5, .int .u32 0, .int .u32 0, .slice none 0 0, .bool false, .string abB] 31)))
  have HB1 := Lib.hid ((Below.refl _ w).alloc (Nat.le_refl _) (.cells #[.int .i64 8, .int .i64 0, .int .u32 5, .int .u32 0, .int .u32 0, .slice none 0 0, .bool false, .string abB] 31))
  have HBX := Lib.hid hbx
  clear hbx
  unfold abB at *
  generalize w.alloc (.cells #[.int .i64 8, .int .i64 0, .int .u32 5, .int .u32 0, .int .u32 0, .slice none 0 0, .bool false, .string ⟨#[97, 98]⟩] 31) = w1 at *
  refine (HP.out _ HS1.out).mono ?_
  rintro e w2 ⟨l, rfl, hnr, hb2⟩
  obtain ⟨A, c, rfl, _, _⟩ := hnr
  simp only [List.length_nil]
  have HBX2 := Lib.hid ((HBX.out.next hb2).next ((Below.refl _ w2).alloc (Nat.le_refl _) (.cells #[.int .i64 8, .int .i64 0, .int .u32 5, .int .u32 0, .int .u32 0, .slice A 0 c, .bool false, .string ⟨#[97, 98]⟩] 31)))
  have HQ2 := Lib.hid (box_new w2 8 0 5 0 0 (.slice A 0 c) false ⟨#[97, 98]⟩)
  have HB2 := Lib.hid ((HB1.out.trans (hb2.mono HB1.out.size)).alloc (HB1.out.trans (hb2.mono HB1.out.size)).size (.cells #[.int .i64 8, .int .i64 0, .int .u32 5, .int .u32 0, .int .u32 0, .slice A 0 c, .bool false, .string ⟨#[97, 98]⟩] 31))
  have HS2 := Lib.hid ((HS1.out.next hb2).next ((Below.refl _ w2).alloc (Nat.le_refl _) (.cells #[.int .i64 8, .int .i64 0, .int .u32 5, .int .u32 0, .int .u32 0, .slice A 0 c, .bool false, .string ⟨#[97, 98]⟩] 31)))
  clear hb2
  go_upto_region 3 with fail
  generalize w2.alloc (.cells #[.int .i64 8, .int .i64 0, .int .u32 5, .int .u32 0, .int .u32 0, .slice A 0 c, .bool false, .string ⟨#[97, 98]⟩] 31) = w3 at *
  obtain ⟨x0, x1, x2, x3, x4, x5, x6, x7⟩ := HBX2.out
  go_wp2_with fail
  refine (HB.out _ HS2.out).mono ?_
  rintro e w4 ⟨rfl, hb4⟩
  have HQ4 := Lib.hid (HQ2.out.next hb4)
  have HB4 := Lib.hid (HB2.out.trans (hb4.mono HB2.out.size))
  clear hb4 x0 x1 x2 x3 x4 x5 x6 x7
  obtain ⟨x0, x1, x2, x3, x4, x5, x6, x7⟩ := HQ4.out
  go_wp2_with fail
  go_ret
  exact ⟨rfl, HB4.out⟩
end Go.Proofs.YtnocckgbcjienabDoor
