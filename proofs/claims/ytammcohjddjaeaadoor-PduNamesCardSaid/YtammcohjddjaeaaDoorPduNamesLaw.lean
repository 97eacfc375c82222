/- The walk of the law PduNames. Conditions: the variables lie as their initialisers leave them; the number is one of 64 bits. -/
import Derived.Test.YtammcohjddjaeaaDoorPduAwake
import Derived.Test.YtammcohjddjaeaaDoorPduDoor
namespace Go.Proofs.YtammcohjddjaeaaDoor
open Go.RowKit
set_option linter.unusedVariables false
set_option linter.unusedSimpArgs false

def nameRow : Array Value := #[.string ⟨#[98, 103, 110]⟩, .string ⟨#[98, 103, 97, 107]⟩, .string ⟨#[101, 110, 100]⟩, .string ⟨#[101, 110, 100, 97, 107]⟩, .string ⟨#[114, 115]⟩, .string ⟨#[114, 115, 97, 107]⟩, .string ⟨#[98, 103, 114, 101, 106]⟩, .string ⟨#[115, 100]⟩, .string ⟨#[101, 114]⟩, .string ⟨#[112, 111, 108, 108]⟩, .string ⟨#[115, 116, 97, 116]⟩, .string ⟨#[117, 115, 116, 97, 116]⟩, .string ⟨#[117, 100]⟩, .string ⟨#[109, 100]⟩, .string ⟨#[101, 114, 97, 107]⟩]
theorem nameRow_at (m : Nat) (h : m < 15) : nameRow[m]? = some (.string (nameS (m + 1))) := by
  have hc : m = 0 ∨ m = 1 ∨ m = 2 ∨ m = 3 ∨ m = 4 ∨ m = 5 ∨ m = 6 ∨ m = 7 ∨ m = 8 ∨ m = 9 ∨ m = 10 ∨ m = 11 ∨ m = 12 ∨ m = 13 ∨ m = 14 := by omega
  rcases hc with rfl | rfl | rfl | rfl | rfl | rfl | rfl | rfl | rfl | rfl | rfl | rfl | rfl | rfl | rfl <;> rfl

@[go_sem] theorem buildK (k : Int) (w : World) : (Instr.build 31 #[(0, .int .i64 k)]).run Tryd.prog w = .ok (.agg #[.int .i64 k, .int .i64 0, .int .u32 0, .int .u32 0, .int .u32 0, .slice none 0 0, .bool false, .string ⟨#[]⟩]) w := run_build w 31 _ _ (by kernel_rfl)

set_option maxHeartbeats 1000000 in
set_option maxRecDepth 100000 in
theorem walk_PduNames (k : Int) (w : World) (h1 : -9223372036854775808 ≤ k) (h2 : k ≤ 9223372036854775807) (hS : ShapesIn w) (hN : NamesIn w) :
    Calls Tryd.prog 4 #[.int .i64 k] w fun e w' => e = .returned (.bool true) ∧ Below w.heap.size w w' := by
  have HAW := Lib.hid (pdu_awake w hS)
  have HN := Lib.hid hN
  clear hS hN
  by_cases hk : 1 ≤ k ∧ k ≤ 15
  · obtain ⟨m, rfl⟩ : ∃ m : Nat, k = (m : Int) + 1 := ⟨(k - 1).toNat, by omega⟩
    have d1 : decide (1 ≤ (m : Int) + 1) = true := by simp only [decide_eq_true_eq]; omega
    have d2 : decide ((m : Int) + 1 ≤ 15) = true := by simp only [decide_eq_true_eq]; omega
    have HNM := Lib.hid (fun W (h : NamesIn W) => by have h := pdu_name ((m : Int) + 1) 0 0 0 0 none 0 0 false ⟨#[]⟩ W h; rw [if_pos hk] at h; exact h)
    have hm0 : (0 : Int) ≤ (m : Int) := by omega
    have hm1 : (m : Int) < 15 := by omega
    have HAT := Lib.hid (nameRow_at m (by omega))
    have hmt : ((m : Int) + 1).toNat = m + 1 := by omega
    rw [hmt] at HNM
    clear hk hmt
    generalize nameS (m + 1) = NM at *
    have hss : (NM.toList == NM.toList) = true := by simp
    go_enter Tryd.func4, Tryd.ntmps4
    go_wp2_with fail
    refine HAW.out.mono ?_
    rintro e w1 ⟨rfl, hb1⟩
    have HN1 := Lib.hid (HN.out.next hb1)
    have HB1 := Lib.hid hb1
    clear hb1
    have hcell : (w1.alloc (.cells nameRow 9)).cell? ⟨w1.heap.size, m, none⟩ = some (.string NM) := by rw [cell_of_row _ _ m _ _ (0, 0) (heap_alloc_new w1 _)]; exact HAT.out
    have HN2 := Lib.hid (HN1.out.next ((Below.refl _ w1).alloc (Nat.le_refl _) (.cells nameRow 9)))
    have HB2 := Lib.hid (HB1.out.alloc HB1.out.size (.cells nameRow 9))
    unfold nameRow at hcell HN2 HB2
    go_upto_region 4 with fail
    generalize w1.alloc (.cells #[.string ⟨#[98, 103, 110]⟩, .string ⟨#[98, 103, 97, 107]⟩, .string ⟨#[101, 110, 100]⟩, .string ⟨#[101, 110, 100, 97, 107]⟩, .string ⟨#[114, 115]⟩, .string ⟨#[114, 115, 97, 107]⟩, .string ⟨#[98, 103, 114, 101, 106]⟩, .string ⟨#[115, 100]⟩, .string ⟨#[101, 114]⟩, .string ⟨#[112, 111, 108, 108]⟩, .string ⟨#[115, 116, 97, 116]⟩, .string ⟨#[117, 115, 116, 97, 116]⟩, .string ⟨#[117, 100]⟩, .string ⟨#[109, 100]⟩, .string ⟨#[101, 114, 97, 107]⟩] 9) = w2 at *
    generalize w1.heap.size = g at *
    have hwr : IntKind.i64.wrap ((m : Int) + 1 - 1) = (m : Int) := by rw [IntKind.wrap_i64]; omega
    go_wp2_with fail
    refine (HNM.out _ HN2.out).mono ?_
    rintro e w3 ⟨rfl, hb3⟩
    have HB3 := Lib.hid (HB2.out.trans (hb3.mono HB2.out.size))
    clear hb3
    go_wp2_with fail
    go_ret
    exact ⟨rfl, HB3.out⟩
  · have HNM := Lib.hid (fun W (h : NamesIn W) => by have h := pdu_name k 0 0 0 0 none 0 0 false ⟨#[]⟩ W h; rw [if_neg hk] at h; exact h)
    have dd : decide (1 ≤ k) = true ∧ decide (k ≤ 15) = false ∨ decide (1 ≤ k) = false := by
      by_cases h : 1 ≤ k
      · left; exact ⟨decide_eq_true h, decide_eq_false (fun h2 => hk ⟨h, h2⟩)⟩
      · right; exact decide_eq_false h
    clear hk h1 h2
    rcases dd with ⟨d1, d2⟩ | d1
    all_goals
      go_enter Tryd.func4, Tryd.ntmps4
      go_wp2_with fail
      refine HAW.out.mono ?_
      rintro e w1 ⟨rfl, hb1⟩
      have HN1 := Lib.hid (HN.out.next hb1)
      have HB1 := Lib.hid hb1
      clear hb1
      have HN2 := Lib.hid (HN1.out.next ((Below.refl _ w1).alloc (Nat.le_refl _) (.cells nameRow 9)))
      have HB2 := Lib.hid (HB1.out.alloc HB1.out.size (.cells nameRow 9))
      unfold nameRow at HN2 HB2
      go_upto_region 4 with fail
      generalize w1.alloc (.cells #[.string ⟨#[98, 103, 110]⟩, .string ⟨#[98, 103, 97, 107]⟩, .string ⟨#[101, 110, 100]⟩, .string ⟨#[101, 110, 100, 97, 107]⟩, .string ⟨#[114, 115]⟩, .string ⟨#[114, 115, 97, 107]⟩, .string ⟨#[98, 103, 114, 101, 106]⟩, .string ⟨#[115, 100]⟩, .string ⟨#[101, 114]⟩, .string ⟨#[112, 111, 108, 108]⟩, .string ⟨#[115, 116, 97, 116]⟩, .string ⟨#[117, 115, 116, 97, 116]⟩, .string ⟨#[117, 100]⟩, .string ⟨#[109, 100]⟩, .string ⟨#[101, 114, 97, 107]⟩] 9) = w2 at *
      go_wp2_with fail
      refine (HNM.out _ HN2.out).mono ?_
      rintro e w3 ⟨rfl, hb3⟩
      have HB3 := Lib.hid (HB2.out.trans (hb3.mono HB2.out.size))
      clear hb3
      go_wp2_with fail
      go_ret
      exact ⟨rfl, HB3.out⟩
end Go.Proofs.YtammcohjddjaeaaDoor
