/- The walks of the statements of layer seq that take numbers alone: each call returns true. Conditions: the arguments fit their kinds. -/
import Derived.Test.YtamnmablodgdjaaSeqFns
namespace Go.Proofs.Ytamnmablodgdjaa
open Go.RowKit
set_option linter.unusedVariables false

theorem ahead_moves (a b n : Int) : aheadB ((a + n) % 16777216) ((b + n) % 16777216) = aheadB a b := by
  have e : ((b + n) % 16777216 - (a + n) % 16777216) % 16777216 = (b - a) % 16777216 := by omega
  unfold aheadB; rw [e]
theorem within_moves (a b n : Int) : withinB ((a + n) % 16777216) ((b + n) % 16777216) ((a + n + 7) % 16777216) = withinB a b ((a + 7) % 16777216) := by
  have e : ((b + n) % 16777216 - (a + n) % 16777216) % 16777216 = (b - a) % 16777216 := by omega
  have e2 : ((a + n + 7) % 16777216 - (a + n) % 16777216) % 16777216 = ((a + 7) % 16777216 - a) % 16777216 := by omega
  unfold withinB; rw [e, e2]

set_option linter.unusedSimpArgs false
theorem seq_awake (w : World) : Calls Try.prog 14 #[] w fun e w' => e = .returned (.bool true) ∧ w = w' := by
  go_enter Try.func14, Try.ntmps14
  go_wp2_with (first
    | (go_at_call 19; refine (seq_to _ _ _ (by decide) (by decide) (by decide) (by decide)).mono ?_; rintro e w' ⟨rfl, rfl⟩)
    | (go_at_call 16; refine (seq_of _ _ (by decide) (by decide)).mono ?_; rintro e w' ⟨rfl, rfl⟩)
    | (go_at_call 18; refine (seq_add _ _ _ (by decide) (by decide) (by decide) (by decide)).mono ?_; rintro e w' ⟨rfl, rfl⟩)
    | (go_at_call 22; refine (seq_within _ _ _ _ (by decide) (by decide) (by decide) (by decide) (by decide) (by decide)).mono ?_; rintro e w' ⟨rfl, rfl⟩))
  go_ret
  exact ⟨retBool (by decide), rfl⟩

theorem walk_SeqOne (x n a : Int) (x1 : -9223372036854775808 ≤ x) (x2 : x ≤ 9223372036854775807) (n1 : -9223372036854775808 ≤ n) (n2 : n ≤ 9223372036854775807)
    (a1 : 0 ≤ a) (a2 : a < 4294967296) (w : World) :
    Calls Try.prog 3 #[.int .i64 x, .int .i64 n, .int .u32 a] w fun e w' => e = .returned (.bool true) ∧ w = w' := by
  go_enter Try.func3, Try.ntmps3
  go_wp2_with (first
    | (go_at_call 14; refine (seq_awake _).mono ?_; rintro e w' ⟨rfl, rfl⟩)
    | (go_at_call 15; refine (ref_of _ _ (by omega) (by omega)).mono ?_; rintro e w' ⟨rfl, rfl⟩)
    | (go_at_call 17; refine (seq_low _ _ (by omega) (by omega)).mono ?_; rintro e w' ⟨rfl, rfl⟩)
    | (go_at_call 19; refine (seq_to _ _ _ (by omega) (by omega) (by omega) (by omega)).mono ?_; rintro e w' ⟨rfl, rfl⟩)
    | (go_at_call 16; refine (seq_of _ _ (by omega) (by omega)).mono ?_; rintro e w' ⟨rfl, rfl⟩)
    | (go_at_call 18; refine (seq_add _ _ _ (by omega) (by omega) (by omega) (by omega)).mono ?_; rintro e w' ⟨rfl, rfl⟩))
  all_goals go_ret
  all_goals exact ⟨retBool (by simp; omega), rfl⟩

theorem walk_SeqTwo (a b : Int) (a1 : 0 ≤ a) (a2 : a < 4294967296) (b1 : 0 ≤ b) (b2 : b < 4294967296) (w : World) :
    Calls Try.prog 4 #[.int .u32 a, .int .u32 b] w fun e w' => e = .returned (.bool true) ∧ w = w' := by
  go_enter Try.func4, Try.ntmps4
  go_wp2_with (first
    | (go_at_call 14; refine (seq_awake _).mono ?_; rintro e w' ⟨rfl, rfl⟩)
    | (go_at_call 20; refine (ref_to _ _ _ (by omega) (by omega) (by omega) (by omega)).mono ?_; rintro e w' ⟨rfl, rfl⟩)
    | (go_at_call 17; refine (seq_low _ _ (by omega) (by omega)).mono ?_; rintro e w' ⟨rfl, rfl⟩)
    | (go_at_call 19; refine (seq_to _ _ _ (by omega) (by omega) (by omega) (by omega)).mono ?_; rintro e w' ⟨rfl, rfl⟩)
    | (go_at_call 21; refine (seq_ahead _ _ _ (by omega) (by omega) (by omega) (by omega)).mono ?_; rintro e w' ⟨rfl, rfl⟩)
    | (go_at_call 18; refine (seq_add _ _ _ (by omega) (by omega) (by omega) (by omega)).mono ?_; rintro e w' ⟨rfl, rfl⟩))
  all_goals go_ret
  all_goals first
    | exact ⟨rfl, rfl⟩
    | (exfalso; simp [aheadB] at *; omega)
    | exact ⟨retBool (by simp [aheadB]; omega), rfl⟩

theorem walk_SeqMoves (a b n : Int) (a1 : 0 ≤ a) (a2 : a < 4294967296) (b1 : 0 ≤ b) (b2 : b < 4294967296) (n1 : -9223372036854775808 ≤ n) (n2 : n ≤ 9223372036854775807) (w : World) :
    Calls Try.prog 5 #[.int .u32 a, .int .u32 b, .int .i64 n] w fun e w' => e = .returned (.bool true) ∧ w = w' := by
  go_enter Try.func5, Try.ntmps5
  go_wp2_with (first
    | (go_at_call 14; refine (seq_awake _).mono ?_; rintro e w' ⟨rfl, rfl⟩)
    | (go_at_call 19; refine (seq_to _ _ _ (by omega) (by omega) (by omega) (by omega)).mono ?_; rintro e w' ⟨rfl, rfl⟩)
    | (go_at_call 22; refine (seq_within _ _ _ _ (by omega) (by omega) (by omega) (by omega) (by omega) (by omega)).mono ?_; rintro e w' ⟨rfl, rfl⟩)
    | (go_at_call 21; refine (seq_ahead _ _ _ (by omega) (by omega) (by omega) (by omega)).mono ?_; rintro e w' ⟨rfl, rfl⟩)
    | (go_at_call 18; refine (seq_add _ _ _ (by omega) (by omega) (by omega) (by omega)).mono ?_; rintro e w' ⟨rfl, rfl⟩))
  all_goals go_ret
  all_goals first
    | (exfalso; exact absurd (ahead_moves a b n) (by assumption))
    | exact ⟨retBool (by rw [within_moves]; simp), rfl⟩
end Go.Proofs.Ytamnmablodgdjaa
