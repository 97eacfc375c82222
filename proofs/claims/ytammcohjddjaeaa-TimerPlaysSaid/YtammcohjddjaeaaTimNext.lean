/- The contract of package timer's Next, and plain facts on what it answers. Conditions: the bank lies in a block of its own; the numbers are those of ticks. -/
import Derived.Test.YtammcohjddjaeaaTimFns
namespace Go.Proofs.Ytammcohjddjaeaa
open Go.RowKit
set_option linter.unusedVariables false
set_option linter.unusedSimpArgs false

def nextTo (L : Nat → Int) : Nat → Int
  | 0 => 0
  | j + 1 => if 0 < L j ∧ (nextTo L j = 0 ∨ L j < nextTo L j) then L j else nextTo L j
theorem nextTo_is (L : Nat → Int) (hL : ∀ t, t < 5 → 0 ≤ L t ∧ L t ≤ 1048576) : ∀ j, j ≤ 5 → (nextTo L j = 0 ∧ ∀ t, t < j → L t = 0) ∨ (0 < nextTo L j ∧ nextTo L j ≤ 1048576 ∧ (∃ t, t < j ∧ L t = nextTo L j) ∧ ∀ t, t < j → L t = 0 ∨ nextTo L j ≤ L t) := by
  intro j
  induction j with
  | zero => intro _; exact .inl ⟨rfl, fun t h => by omega⟩
  | succ j ih =>
    intro hj
    have h1 := hL j (by omega)
    unfold nextTo
    rcases ih (by omega) with ⟨e, h⟩ | ⟨hp, hm, ⟨t, ht, e⟩, h⟩
    · by_cases hz : 0 < L j
      · rw [if_pos ⟨hz, .inl e⟩]
        right
        refine ⟨hz, h1.2, ⟨j, by omega, rfl⟩, fun t ht => ?_⟩
        by_cases ej : t = j
        · subst ej; right; omega
        · left; exact h t (by omega)
      · rw [if_neg (fun h => hz h.1)]
        left
        refine ⟨e, fun t ht => ?_⟩
        by_cases ej : t = j
        · subst ej; omega
        · exact h t (by omega)
    · right
      by_cases hz : 0 < L j ∧ (nextTo L j = 0 ∨ L j < nextTo L j)
      · rw [if_pos hz]
        refine ⟨hz.1, h1.2, ⟨j, by omega, rfl⟩, fun t ht => ?_⟩
        by_cases ej : t = j
        · subst ej; right; omega
        · have := h t (by omega); omega
      · rw [if_neg hz]
        refine ⟨hp, hm, ⟨t, by omega, e⟩, fun t ht => ?_⟩
        by_cases ej : t = j
        · subst ej; omega
        · exact h t (by omega)

set_option maxHeartbeats 2000000 in
set_option maxRecDepth 100000 in
theorem tim_next (g : Nat) (L : Nat → Int) (w : World) (h : BankAt w g L) (hL : ∀ t, t < 5 → 0 ≤ L t ∧ L t ≤ 1048576) :
    Calls Try.prog 14 #[.pointer (some ⟨g, 0, none⟩)] w fun e w' => e = .returned (.tuple #[.int .i64 (nextTo L 5), .bool (decide (0 < nextTo L 5))]) ∧ w = w' := by
  have c0 := h.cell (t := 0) (by decide)
  have c1 := h.cell (t := 1) (by decide)
  have c2 := h.cell (t := 2) (by decide)
  have c3 := h.cell (t := 3) (by decide)
  have c4 := h.cell (t := 4) (by decide)
  have HI : Hid (∀ j : Nat, j < 5 → ∀ w, (Instr.index 24 (.agg #[.int .i64 (L 0), .int .i64 (L 1), .int .i64 (L 2), .int .i64 (L 3), .int .i64 (L 4)]) (.int .i64 (j : Int))).run Try.prog w = .ok (.int .i64 (L j)) w) := fun j hj w => index5 L j hj w
  have HN : Hid (∀ j, nextTo L (j + 1) = if 0 < L j ∧ (nextTo L j = 0 ∨ L j < nextTo L j) then L j else nextTo L j) := fun j => rfl
  clear h
  go_enter Try.func14, Try.ntmps14
  go_wp2_with fail
  clear c0 c1 c2 c3 c4
  go_loop [4, 11] (fun n i => ∃ (j : Nat), j ≤ 5 ∧ n = .int .i64 (nextTo L j) ∧ i = .int .i64 j) (fun _ i => 5 - (intOf i).toNat)
  case atStart => exact ⟨0, by omega, rfl, rfl⟩
  case round =>
    obtain ⟨j, hj, rfl, rfl⟩ := hrel
    by_cases hlt : j < 5
    · have hix := HI.out j hlt
      have HNJ := Lib.hid (HN.out j)
      generalize nextTo L j = n at *
      generalize L j = x at *
      by_cases d1 : 0 < x
      · have e1 : decide (0 < x) = true := decide_eq_true d1
        by_cases d2 : n = 0
        · have e2 : (n == 0) = true := by rw [beq_iff_eq]; exact d2
          have HNK := Lib.hid (HNJ.out.trans (if_pos ⟨d1, .inl d2⟩))
          clear d1 d2
          go_wp2_with fail
          go_round
          case rel => exact ⟨j + 1, by omega, by rw [HNK.out], by go_num⟩
          case measure => simp [intOf]; omega
        · have e2 : (n == 0) = false := by rw [beq_eq_false_iff_ne]; exact d2
          by_cases d3 : x < n
          · have e3 : decide (x < n) = true := decide_eq_true d3
            have HNK := Lib.hid (HNJ.out.trans (if_pos ⟨d1, .inr d3⟩))
            clear d1 d2 d3
            go_wp2_with fail
            go_round
            case rel => exact ⟨j + 1, by omega, by rw [HNK.out], by go_num⟩
            case measure => simp [intOf]; omega
          · have e3 : decide (x < n) = false := decide_eq_false d3
            have HNK := Lib.hid (HNJ.out.trans (if_neg (fun h => h.2.elim d2 d3)))
            clear d1 d2 d3
            go_wp2_with fail
            go_round
            case rel => exact ⟨j + 1, by omega, by rw [HNK.out], by go_num⟩
            case measure => simp [intOf]; omega
      · have e1 : decide (0 < x) = false := decide_eq_false d1
        have HNK := Lib.hid (HNJ.out.trans (if_neg (fun h => d1 h.1)))
        clear d1
        go_wp2_with fail
        go_round
        case rel => exact ⟨j + 1, by omega, by rw [HNK.out], by go_num⟩
        case measure => simp [intOf]; omega
    · have hj5 : j = 5 := by omega
      subst hj5
      go_wp2_with fail
      go_ret2
      exact ⟨rfl, rfl⟩
end Go.Proofs.Ytammcohjddjaeaa
