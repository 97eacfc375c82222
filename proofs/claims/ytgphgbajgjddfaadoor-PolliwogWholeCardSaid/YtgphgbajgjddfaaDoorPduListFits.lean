/- The contract of package pdu's listFits. Conditions: the variables lie as their initialisers leave them; the row lies as a row does. -/
import Derived.Test.YtgphgbajgjddfaaDoorPduList
import Derived.Test.YtgphgbajgjddfaaDoorPduCheck
namespace Go.Proofs.YtgphgbajgjddfaaDoor
open Go.RowKit
set_option linter.unusedVariables false
set_option linter.unusedSimpArgs false

def listFitsV (k : Nat) (xs : List Int) : Bool := !anyBig xs && (if listOf k = 2 then ((xs.length : Int) % 2 == 0) else if listOf k = 1 then ((xs.length : Int) == 2) else ((xs.length : Int) == 0))
set_option maxHeartbeats 4000000 in
set_option maxRecDepth 100000 in
theorem pdu_listFits (k : Nat) (sq n ps mr : Int) (p : Option Addr) (len cap : Nat) (xs : List Int) (se : Bool) (d : ByteArray) (w : World) (hk : k < 16) (hS : ShapesIn w) (hl : len = xs.length) (hr : NumRow w (.slice p len cap) xs) :
    Calls Tryd.prog 24 #[.agg #[.int .i64 (k : Int), .int .i64 sq, .int .u32 n, .int .u32 ps, .int .u32 mr, .slice p len cap, .bool se, .string d]] w fun e w' => e = .returned (.bool (listFitsV k xs)) ∧ Below w.heap.size w w' := by
  have hlen : (len : Int) ≤ 1048576 := by obtain ⟨_, _, _, h, _⟩ := hr; omega
  have hr1 := hr.below ((Below.refl _ w).alloc (Nat.le_refl _) (.cells #[.int .i64 (k : Int), .int .i64 sq, .int .u32 n, .int .u32 ps, .int .u32 mr, .slice p len cap, .bool se, .string d] 32))
  have hn := heap_alloc_new w (.cells #[.int .i64 (k : Int), .int .i64 sq, .int .u32 n, .int .u32 ps, .int .u32 mr, .slice p len cap, .bool se, .string d] 32)
  have x0 : (w.alloc (.cells #[.int .i64 (k : Int), .int .i64 sq, .int .u32 n, .int .u32 ps, .int .u32 mr, .slice p len cap, .bool se, .string d] 32)).cell? ⟨w.heap.size, 0, none⟩ = some (.int .i64 (k : Int)) := by rw [cell_of_row _ _ 0 _ _ (0, 0) hn]; rfl
  have x1 : (w.alloc (.cells #[.int .i64 (k : Int), .int .i64 sq, .int .u32 n, .int .u32 ps, .int .u32 mr, .slice p len cap, .bool se, .string d] 32)).cell? ⟨w.heap.size, 1, none⟩ = some (.int .i64 sq) := by rw [cell_of_row _ _ 1 _ _ (0, 0) hn]; rfl
  have x2 : (w.alloc (.cells #[.int .i64 (k : Int), .int .i64 sq, .int .u32 n, .int .u32 ps, .int .u32 mr, .slice p len cap, .bool se, .string d] 32)).cell? ⟨w.heap.size, 2, none⟩ = some (.int .u32 n) := by rw [cell_of_row _ _ 2 _ _ (0, 0) hn]; rfl
  have x3 : (w.alloc (.cells #[.int .i64 (k : Int), .int .i64 sq, .int .u32 n, .int .u32 ps, .int .u32 mr, .slice p len cap, .bool se, .string d] 32)).cell? ⟨w.heap.size, 3, none⟩ = some (.int .u32 ps) := by rw [cell_of_row _ _ 3 _ _ (0, 0) hn]; rfl
  have x4 : (w.alloc (.cells #[.int .i64 (k : Int), .int .i64 sq, .int .u32 n, .int .u32 ps, .int .u32 mr, .slice p len cap, .bool se, .string d] 32)).cell? ⟨w.heap.size, 4, none⟩ = some (.int .u32 mr) := by rw [cell_of_row _ _ 4 _ _ (0, 0) hn]; rfl
  have x5 : (w.alloc (.cells #[.int .i64 (k : Int), .int .i64 sq, .int .u32 n, .int .u32 ps, .int .u32 mr, .slice p len cap, .bool se, .string d] 32)).cell? ⟨w.heap.size, 5, none⟩ = some (.slice p len cap) := by rw [cell_of_row _ _ 5 _ _ (0, 0) hn]; rfl
  have x6 : (w.alloc (.cells #[.int .i64 (k : Int), .int .i64 sq, .int .u32 n, .int .u32 ps, .int .u32 mr, .slice p len cap, .bool se, .string d] 32)).cell? ⟨w.heap.size, 6, none⟩ = some (.bool se) := by rw [cell_of_row _ _ 6 _ _ (0, 0) hn]; rfl
  have x7 : (w.alloc (.cells #[.int .i64 (k : Int), .int .i64 sq, .int .u32 n, .int .u32 ps, .int .u32 mr, .slice p len cap, .bool se, .string d] 32)).cell? ⟨w.heap.size, 7, none⟩ = some (.string d) := by rw [cell_of_row _ _ 7 _ _ (0, 0) hn]; rfl
  have hb := (Below.refl _ w).alloc (Nat.le_refl _) (.cells #[.int .i64 (k : Int), .int .i64 sq, .int .u32 n, .int .u32 ps, .int .u32 mr, .slice p len cap, .bool se, .string d] 32)
  have hS1 := hS.next hb
  obtain ⟨v0, v1, v2, v3, v4, v5, v6⟩ := shape_all k hk
  have s0 := hS1 k 0 hk (by decide)
  have s1 := hS1 k 1 hk (by decide)
  have s2 := hS1 k 2 hk (by decide)
  have s3 := hS1 k 3 hk (by decide)
  have s4 := hS1 k 4 hk (by decide)
  have s5 := hS1 k 5 hk (by decide)
  have s6 := hS1 k 6 hk (by decide)
  rw [Nat.add_zero] at s0
  rw [v0] at s0
  rw [v1] at s1
  rw [v2] at s2
  rw [v3] at s3
  rw [v4] at s4
  rw [v5] at s5
  rw [v6] at s6
  have HB := Lib.hid hb
  have hk0 : (0 : Int) ≤ (k : Int) := by omega
  have hk1 : (k : Int) < 16 := by omega
  clear hn hb hS hS1 v0 v1 v2 v3 v4 v5 v6
  have HCF := Lib.hid (contains_big (.slice p len cap) xs _ hr1)
  have hval : listFitsV k xs = (!anyBig xs && (if listOf k = 2 then ((len : Int) % 2 == 0) else if listOf k = 1 then ((len : Int) == 2) else ((len : Int) == 0))) := by rw [hl]; rfl
  have HV := Lib.hid hval
  have hcase : listOf k = 2 ∨ listOf k = 1 ∨ listOf k = 0 := by
    unfold listOf
    by_cases e1 : k = 11
    · left; rw [if_pos e1]
    · rw [if_neg e1]
      by_cases e2 : k = 12
      · right; left; rw [if_pos e2]
      · right; right; rw [if_neg e2]
  clear hr hr1 hval hl
  go_enter Tryd.func24, Tryd.ntmps24
  go_upto_region 1 with fail
  generalize w.alloc (.cells #[.int .i64 (k : Int), .int .i64 sq, .int .u32 n, .int .u32 ps, .int .u32 mr, .slice p len cap, .bool se, .string d] 32) = W at *
  cases hany : anyBig xs with
  | true =>
    rw [hany] at HCF HV
    go_wp2_with fail
    refine HCF.out.mono ?_
    rintro e w3 ⟨rfl, rfl⟩
    go_wp2_with fail
    go_ret
    exact ⟨by rw [HV.out]; rfl, HB.out⟩
  | false =>
    rw [hany] at HCF HV
    rcases hcase with hc | hc | hc
    all_goals
      rw [hc] at s5 HV
      have HC := Lib.hid hc
      clear hc
      go_wp2_with fail
      refine HCF.out.mono ?_
      rintro e w3 ⟨rfl, rfl⟩
      go_wp2_with fail
      go_ret
      exact ⟨by rw [HV.out]; rfl, HB.out⟩
end Go.Proofs.YtgphgbajgjddfaaDoor
