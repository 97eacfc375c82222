/- The contracts of package seq's functions (and of the document's own Of and To): what each call answers, as a number. Conditions: the arguments fit their kinds. -/
import Derived.Test.YtogbifggaomfjaaRows
import Derived.WalkKit
import Derived.Laws.BitsAll
import Derived.Lib.Hide
import Derived.Test.YtogbifggaomfjaaSeqBase
namespace Go.Proofs.Ytogbifggaomfjaa
open Go.RowKit
set_option linter.unusedVariables false
theorem ref_of (x : Int) (w : World) (h1 : -9223372036854775808 ≤ x) (h2 : x ≤ 9223372036854775807) :
    Calls Try.prog 25 #[.int .i64 x] w fun e w' => e = .returned (.int .i64 (x % 16777216)) ∧ w = w' := by
  go_enter Try.func25, Try.ntmps25
  go_wp2
  all_goals go_ret
  · exact ⟨retInt (by have := tmod24 x; unfold wrap64; omega), rfl⟩
  · exact ⟨retInt (by have := tmod24 x; omega), rfl⟩

theorem ref_to (a b : Int) (w : World) (h1 : -9223372036854775808 ≤ a) (h2 : a ≤ 9223372036854775807) (h3 : -9223372036854775808 ≤ b) (h4 : b ≤ 9223372036854775807) :
    Calls Try.prog 23 #[.int .i64 a, .int .i64 b] w fun e w' => e = .returned (.int .i64 ((b - a) % 16777216)) ∧ w = w' := by
  go_enter Try.func23, Try.ntmps23
  go_wp2_with (go_at_call 25; refine (ref_of _ _ (by omega) (by omega)).mono ?_; rintro e w' ⟨rfl, rfl⟩)
  go_ret
  exact ⟨retInt (by omega), rfl⟩

theorem seq_of (x : Int) (w : World) (h1 : -9223372036854775808 ≤ x) (h2 : x ≤ 9223372036854775807) :
    Calls Try.prog 27 #[.int .i64 x] w fun e w' => e = .returned (.int .u32 (x % 16777216)) ∧ w = w' := by
  go_enter Try.func27, Try.ntmps27
  go_wp2
  go_ret
  exact ⟨retInt (by rw [u32_mask24 _ (by omega) (by omega)]; omega), rfl⟩

theorem seq_low (a : Int) (w : World) (h1 : 0 ≤ a) (h2 : a < 4294967296) :
    Calls Try.prog 16 #[.int .u32 a] w fun e w' => e = .returned (.int .u32 (a % 16777216)) ∧ w = w' := by
  go_enter Try.func16, Try.ntmps16
  go_wp2
  go_ret
  exact ⟨retInt (by rw [u32_mask24 _ (by omega) (by omega)]), rfl⟩

theorem seq_add (a n : Int) (w : World) (h1 : 0 ≤ a) (h2 : a < 4294967296) (h3 : -9223372036854775808 ≤ n) (h4 : n ≤ 9223372036854775807) :
    Calls Try.prog 20 #[.int .u32 a, .int .i64 n] w fun e w' => e = .returned (.int .u32 ((a + n) % 16777216)) ∧ w = w' := by
  go_enter Try.func20, Try.ntmps20
  go_wp2_with (go_at_call 27; refine (seq_of _ _ (by omega) (by omega)).mono ?_; rintro e w' ⟨rfl, rfl⟩)
  go_ret
  exact ⟨retInt (by rw [u32_mask24 _ (by omega) (by omega)]; omega), rfl⟩

theorem seq_to (a b : Int) (w : World) (h1 : 0 ≤ a) (h2 : a < 4294967296) (h3 : 0 ≤ b) (h4 : b < 4294967296) :
    Calls Try.prog 38 #[.int .u32 a, .int .u32 b] w fun e w' => e = .returned (.int .i64 ((b - a) % 16777216)) ∧ w = w' := by
  go_enter Try.func38, Try.ntmps38
  go_wp2
  go_ret
  exact ⟨retInt (by rw [u32_mask24 _ (by omega) (by omega)]; first | omega | (unfold wrap64; omega)), rfl⟩

def aheadB (a b : Int) : Bool := decide (0 < (b - a) % 16777216) && decide ((b - a) % 16777216 < 8388608)
theorem seq_ahead (a b : Int) (w : World) (h1 : 0 ≤ a) (h2 : a < 4294967296) (h3 : 0 ≤ b) (h4 : b < 4294967296) :
    Calls Try.prog 88 #[.int .u32 a, .int .u32 b] w fun e w' => e = .returned (.bool (aheadB a b)) ∧ w = w' := by
  unfold aheadB
  by_cases c : 0 < (b - a) % 16777216
  all_goals
    go_enter Try.func88, Try.ntmps88
    go_wp2_with (go_at_call 38; refine (seq_to _ _ _ h1 h2 h3 h4).mono ?_; rintro e w' ⟨rfl, rfl⟩)
    go_ret
    exact ⟨retBool (by first | (simp; omega) | simp), rfl⟩

def withinB (a x b : Int) : Bool := decide ((x - a) % 16777216 ≤ (b - a) % 16777216)
theorem seq_within (a x b : Int) (w : World) (h1 : 0 ≤ a) (h2 : a < 4294967296) (h3 : 0 ≤ x) (h4 : x < 4294967296) (h5 : 0 ≤ b) (h6 : b < 4294967296) :
    Calls Try.prog 85 #[.int .u32 a, .int .u32 x, .int .u32 b] w fun e w' => e = .returned (.bool (withinB a x b)) ∧ w = w' := by
  go_enter Try.func85, Try.ntmps85
  go_wp2_with (go_at_call 38; refine (seq_to _ _ _ (by omega) (by omega) (by omega) (by omega)).mono ?_; rintro e w' ⟨rfl, rfl⟩)
  go_ret
  exact ⟨retBool (by simp [withinB]), rfl⟩
end Go.Proofs.Ytogbifggaomfjaa
