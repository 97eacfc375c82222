/- The contract of package pdu's seam. Conditions: the end lies within a text. -/
import Derived.Test.YtgphgbajgjddfaaDoorPduWords
namespace Go.Proofs.YtgphgbajgjddfaaDoor
open Go.RowKit
set_option linter.unusedVariables false
set_option linter.unusedSimpArgs false

def cntB (b : Bool) : Int := if b = true then 1 else 0
def seamV (k : Nat) (e : Int) : Int :=
  if listOf k = 2 then min (e - (cntB (hasSQ k) + cntB (hasPS k) + cntB (hasMR k)) * 4) 0
  else if listOf k = 1 then e - (cntB (hasSQ k) + cntB (hasPS k) + cntB (hasMR k) + 2) * 4
  else e - (cntB (hasSQ k) + cntB (hasPS k) + cntB (hasMR k)) * 4
def cnt (a b c : Bool) (i : Nat) : Int := cntB (a && decide (0 < i)) + cntB (b && decide (1 < i)) + cntB (c && decide (2 < i))

set_option maxHeartbeats 2000000 in
set_option maxRecDepth 100000 in
theorem pdu_seam (k : Nat) (e : Int) (w : World) (hk : k < 16) (he : 0 ≤ e ∧ e ≤ 1000000) :
    Calls Tryd.prog 35 #[.agg #[.bool (hasSQ k), .bool (hasPS k), .bool (hasMR k), .bool (hasN k), .bool (hasSelf k), .int .i64 (listOf k), .int .i64 (most k)], .int .i64 e] w fun e' w' => e' = .returned (.int .i64 (seamV k e)) ∧ Below w.heap.size w w' := by
  have hn := heap_alloc_new w (.cells #[.bool (hasSQ k), .bool (hasPS k), .bool (hasMR k), .bool (hasN k), .bool (hasSelf k), .int .i64 (listOf k), .int .i64 (most k)] 69)
  have HB := Lib.hid ((Below.refl _ w).alloc (Nat.le_refl _) (.cells #[.bool (hasSQ k), .bool (hasPS k), .bool (hasMR k), .bool (hasN k), .bool (hasSelf k), .int .i64 (listOf k), .int .i64 (most k)] 69))
  have HY : (w.alloc (.cells #[.bool (hasSQ k), .bool (hasPS k), .bool (hasMR k), .bool (hasN k), .bool (hasSelf k), .int .i64 (listOf k), .int .i64 (most k)] 69)).cell? ⟨w.heap.size, 0, none⟩ = some (.bool (hasSQ k)) ∧ (w.alloc (.cells #[.bool (hasSQ k), .bool (hasPS k), .bool (hasMR k), .bool (hasN k), .bool (hasSelf k), .int .i64 (listOf k), .int .i64 (most k)] 69)).cell? ⟨w.heap.size, 1, none⟩ = some (.bool (hasPS k)) ∧ (w.alloc (.cells #[.bool (hasSQ k), .bool (hasPS k), .bool (hasMR k), .bool (hasN k), .bool (hasSelf k), .int .i64 (listOf k), .int .i64 (most k)] 69)).cell? ⟨w.heap.size, 2, none⟩ = some (.bool (hasMR k)) ∧ (w.alloc (.cells #[.bool (hasSQ k), .bool (hasPS k), .bool (hasMR k), .bool (hasN k), .bool (hasSelf k), .int .i64 (listOf k), .int .i64 (most k)] 69)).cell? ⟨w.heap.size, 5, none⟩ = some (.int .i64 (listOf k)) := by
    refine ⟨?_, ?_, ?_, ?_⟩
    · rw [cell_of_row _ _ 0 _ _ (0, 0) hn]; rfl
    · rw [cell_of_row _ _ 1 _ _ (0, 0) hn]; rfl
    · rw [cell_of_row _ _ 2 _ _ (0, 0) hn]; rfl
    · rw [cell_of_row _ _ 5 _ _ (0, 0) hn]; rfl
  obtain ⟨y0, y1, y2, y5⟩ := HY
  have hlist : listOf k = 2 ∨ listOf k = 1 ∨ listOf k = 0 := by
    unfold listOf
    repeat' split
    all_goals simp
  have HV : Hid (seamV k e = if listOf k = 2 then min (e - (cntB (hasSQ k) + cntB (hasPS k) + cntB (hasMR k)) * 4) 0 else if listOf k = 1 then e - (cntB (hasSQ k) + cntB (hasPS k) + cntB (hasMR k) + 2) * 4 else e - (cntB (hasSQ k) + cntB (hasPS k) + cntB (hasMR k)) * 4) := rfl
  clear hn
  go_enter Tryd.func35, Tryd.ntmps35
  go_upto_region 1 with fail
  generalize w.alloc (.cells #[.bool (hasSQ k), .bool (hasPS k), .bool (hasMR k), .bool (hasN k), .bool (hasSelf k), .int .i64 (listOf k), .int .i64 (most k)] 69) = W at *
  generalize listOf k = li at *
  generalize hasSQ k = A at *
  generalize hasPS k = B at *
  generalize hasMR k = C at *
  have i0 : ∀ w, (Instr.index 97 (.agg #[.bool A, .bool B, .bool C]) (.int .i64 0)).run Tryd.prog w = .ok (.bool A) w := fun _ => by kernel_rfl
  have i1 : ∀ w, (Instr.index 97 (.agg #[.bool A, .bool B, .bool C]) (.int .i64 1)).run Tryd.prog w = .ok (.bool B) w := fun _ => by kernel_rfl
  have i2 : ∀ w, (Instr.index 97 (.agg #[.bool A, .bool B, .bool C]) (.int .i64 2)).run Tryd.prog w = .ok (.bool C) w := fun _ => by kernel_rfl
  go_wp2_with fail
  go_loop [5, 15] (fun n i => ∃ j : Nat, j ≤ 3 ∧ i = .int .i64 j ∧ n = .int .i64 (cnt A B C j)) (fun _ i => 3 - (intOf i).toNat)
  case atStart => exact ⟨0, by omega, rfl, by cases A <;> cases B <;> cases C <;> rfl⟩
  case round =>
    obtain ⟨j, hj, rfl, rfl⟩ := hrel
    have hc : j = 0 ∨ j = 1 ∨ j = 2 ∨ j = 3 := by omega
    rcases hc with rfl | rfl | rfl | rfl
    · have HC : Hid (cnt A B C 1 = cnt A B C 0 + cntB A ∧ cnt A B C 0 = 0) := by cases A <;> cases B <;> cases C <;> exact ⟨rfl, rfl⟩
      rw [HC.out.2]
      simp only [Int.ofNat_zero]
      cases A
      all_goals
        go_wp2_with fail
        go_round
        case rel => exact ⟨1, by omega, rfl, by rw [HC.out.1, HC.out.2]; rfl⟩
        case measure => simp [intOf]
    · have HC : Hid (cnt A B C 2 = cnt A B C 1 + cntB B) := by cases A <;> cases B <;> cases C <;> rfl
      have hc : 0 ≤ cnt A B C 1 ∧ cnt A B C 1 ≤ 3 := by cases A <;> cases B <;> cases C <;> decide
      generalize cnt A B C 1 = n1 at *
      simp only [Int.ofNat_one]
      cases B
      all_goals
        go_wp2_with fail
        go_round
        case rel => exact ⟨2, by omega, rfl, by rw [HC.out]; first | rfl | (rw [show cntB false = 0 by rfl, Int.add_zero])⟩
        case measure => simp [intOf]
    · have HC : Hid (cnt A B C 3 = cnt A B C 2 + cntB C) := by cases A <;> cases B <;> cases C <;> rfl
      have hc : 0 ≤ cnt A B C 2 ∧ cnt A B C 2 ≤ 3 := by cases A <;> cases B <;> cases C <;> decide
      generalize cnt A B C 2 = n1 at *
      cases C
      all_goals
        go_wp2_with fail
        go_round
        case rel => exact ⟨3, by omega, rfl, by rw [HC.out]; first | rfl | (rw [show cntB false = 0 by rfl, Int.add_zero])⟩
        case measure => simp [intOf]
    · have HC : Hid (cntB A + cntB B + cntB C = cnt A B C 3) := by cases A <;> cases B <;> cases C <;> rfl
      rw [HC.out] at HV
      have hc : 0 ≤ cnt A B C 3 ∧ cnt A B C 3 ≤ 3 := by cases A <;> cases B <;> cases C <;> decide
      generalize cnt A B C 3 = n1 at *
      rcases hlist with rfl | rfl | rfl
      · go_wp2_with fail
        all_goals go_ret
        all_goals exact ⟨retInt (by rw [HV.out]; simp only [if_true]; omega), HB.out⟩
      · go_wp2_with fail
        go_ret
        exact ⟨retInt (by rw [HV.out]; rfl), HB.out⟩
      · go_wp2_with fail
        go_ret
        exact ⟨retInt (by rw [HV.out]; rfl), HB.out⟩
end Go.Proofs.YtgphgbajgjddfaaDoor
