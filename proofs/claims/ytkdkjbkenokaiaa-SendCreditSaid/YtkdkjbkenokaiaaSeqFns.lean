/- The contracts of package seq's functions (and of the document's own Of and To): what each call answers, as a number. Conditions: the arguments fit their kinds. -/
import Derived.Test.YtkdkjbkenokaiaaRows
import Derived.WalkKit
import Derived.Laws.BitsAll
import Derived.Lib.Hide
import Derived.Test.YtkdkjbkenokaiaaSeqBase
namespace Go.Proofs.Ytkdkjbkenokaiaa
open Go.RowKit
set_option linter.unusedVariables false


theorem seq_of (x : Int) (w : World) (h1 : -9223372036854775808 ≤ x) (h2 : x ≤ 9223372036854775807) :
    Calls Try.prog 7 #[.int .i64 x] w fun e w' => e = .returned (.int .u32 (x % 16777216)) ∧ w = w' := by
  go_enter Try.func7, Try.ntmps7
  go_wp2
  go_ret
  exact ⟨retInt (by rw [u32_mask24 _ (by omega) (by omega)]; omega), rfl⟩

theorem seq_low (a : Int) (w : World) (h1 : 0 ≤ a) (h2 : a < 4294967296) :
    Calls Try.prog 19 #[.int .u32 a] w fun e w' => e = .returned (.int .u32 (a % 16777216)) ∧ w = w' := by
  go_enter Try.func19, Try.ntmps19
  go_wp2
  go_ret
  exact ⟨retInt (by rw [u32_mask24 _ (by omega) (by omega)]), rfl⟩

theorem seq_add (a n : Int) (w : World) (h1 : 0 ≤ a) (h2 : a < 4294967296) (h3 : -9223372036854775808 ≤ n) (h4 : n ≤ 9223372036854775807) :
    Calls Try.prog 10 #[.int .u32 a, .int .i64 n] w fun e w' => e = .returned (.int .u32 ((a + n) % 16777216)) ∧ w = w' := by
  go_enter Try.func10, Try.ntmps10
  go_wp2_with (go_at_call 7; refine (seq_of _ _ (by omega) (by omega)).mono ?_; rintro e w' ⟨rfl, rfl⟩)
  go_ret
  exact ⟨retInt (by rw [u32_mask24 _ (by omega) (by omega)]; omega), rfl⟩

theorem seq_to (a b : Int) (w : World) (h1 : 0 ≤ a) (h2 : a < 4294967296) (h3 : 0 ≤ b) (h4 : b < 4294967296) :
    Calls Try.prog 23 #[.int .u32 a, .int .u32 b] w fun e w' => e = .returned (.int .i64 ((b - a) % 16777216)) ∧ w = w' := by
  go_enter Try.func23, Try.ntmps23
  go_wp2
  go_ret
  exact ⟨retInt (by rw [u32_mask24 _ (by omega) (by omega)]; first | omega | (unfold wrap64; omega)), rfl⟩

def aheadB (a b : Int) : Bool := decide (0 < (b - a) % 16777216) && decide ((b - a) % 16777216 < 8388608)
theorem seq_ahead (a b : Int) (w : World) (h1 : 0 ≤ a) (h2 : a < 4294967296) (h3 : 0 ≤ b) (h4 : b < 4294967296) :
    Calls Try.prog 31 #[.int .u32 a, .int .u32 b] w fun e w' => e = .returned (.bool (aheadB a b)) ∧ w = w' := by
  unfold aheadB
  by_cases c : 0 < (b - a) % 16777216
  all_goals
    go_enter Try.func31, Try.ntmps31
    go_wp2_with (go_at_call 23; refine (seq_to _ _ _ h1 h2 h3 h4).mono ?_; rintro e w' ⟨rfl, rfl⟩)
    go_ret
    exact ⟨retBool (by first | (simp; omega) | simp), rfl⟩

def withinB (a x b : Int) : Bool := decide ((x - a) % 16777216 ≤ (b - a) % 16777216)
theorem seq_within (a x b : Int) (w : World) (h1 : 0 ≤ a) (h2 : a < 4294967296) (h3 : 0 ≤ x) (h4 : x < 4294967296) (h5 : 0 ≤ b) (h6 : b < 4294967296) :
    Calls Try.prog 28 #[.int .u32 a, .int .u32 x, .int .u32 b] w fun e w' => e = .returned (.bool (withinB a x b)) ∧ w = w' := by
  go_enter Try.func28, Try.ntmps28
  go_wp2_with (go_at_call 23; refine (seq_to _ _ _ (by omega) (by omega) (by omega) (by omega)).mono ?_; rintro e w' ⟨rfl, rfl⟩)
  go_ret
  exact ⟨retBool (by simp [withinB]), rfl⟩
end Go.Proofs.Ytkdkjbkenokaiaa
