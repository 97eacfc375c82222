/- The contracts of package seq's functions (and of the document's own Of and To): what each call answers, as a number. Conditions: the arguments fit their kinds. -/
import Derived.Test.YtimmineopkmdmaaRows
import Derived.WalkKit
import Derived.Laws.BitsAll
import Derived.Lib.Hide
namespace Go.Proofs.Ytimmineopkmdmaa
open Go.RowKit
set_option linter.unusedVariables false

theorem u32_mask24 (a : Int) (h1 : 0 ≤ a) (h2 : a < 4294967296) : bits .and .u32 a 16777215 = a % 16777216 := by
  rw [u32_and a 16777215 h1 h2 (by decide) (by decide)]
  have e : (16777215 : Int).toNat = 16777215 := rfl
  rw [e, nat_mask24]; omega

theorem retInt {k : IntKind} {a b : Int} (h : a = b) : Ending.returned (.int k a) = .returned (.int k b) := by rw [h]
theorem retBool {a b : Bool} (h : a = b) : Ending.returned (.bool a) = .returned (.bool b) := by rw [h]

theorem tmod24 (x : Int) : (x.tmod 16777216 < 0 → x.tmod 16777216 + 16777216 = x % 16777216) ∧ (0 ≤ x.tmod 16777216 → x.tmod 16777216 = x % 16777216) ∧ -16777216 < x.tmod 16777216 ∧ x.tmod 16777216 < 16777216 := by
  have h1 := Int.mul_tdiv_add_tmod x 16777216
  have h2 := Int.lt_tmod_of_pos x (b := 16777216) (by decide)
  have h3 := Int.tmod_lt_of_pos x (b := 16777216) (by decide)
  refine ⟨fun h => ?_, fun h => ?_, h2, h3⟩ <;> omega



theorem seq_of (x : Int) (w : World) (h1 : -9223372036854775808 ≤ x) (h2 : x ≤ 9223372036854775807) :
    Calls Try.prog 39 #[.int .i64 x] w fun e w' => e = .returned (.int .u32 (x % 16777216)) ∧ w = w' := by
  go_enter Try.func39, Try.ntmps39
  go_wp2
  go_ret
  exact ⟨retInt (by rw [u32_mask24 _ (by omega) (by omega)]; omega), rfl⟩

theorem seq_low (a : Int) (w : World) (h1 : 0 ≤ a) (h2 : a < 4294967296) :
    Calls Try.prog 23 #[.int .u32 a] w fun e w' => e = .returned (.int .u32 (a % 16777216)) ∧ w = w' := by
  go_enter Try.func23, Try.ntmps23
  go_wp2
  go_ret
  exact ⟨retInt (by rw [u32_mask24 _ (by omega) (by omega)]), rfl⟩

theorem seq_add (a n : Int) (w : World) (h1 : 0 ≤ a) (h2 : a < 4294967296) (h3 : -9223372036854775808 ≤ n) (h4 : n ≤ 9223372036854775807) :
    Calls Try.prog 25 #[.int .u32 a, .int .i64 n] w fun e w' => e = .returned (.int .u32 ((a + n) % 16777216)) ∧ w = w' := by
  go_enter Try.func25, Try.ntmps25
  go_wp2_with (go_at_call 39; refine (seq_of _ _ (by omega) (by omega)).mono ?_; rintro e w' ⟨rfl, rfl⟩)
  go_ret
  exact ⟨retInt (by rw [u32_mask24 _ (by omega) (by omega)]; omega), rfl⟩

theorem seq_to (a b : Int) (w : World) (h1 : 0 ≤ a) (h2 : a < 4294967296) (h3 : 0 ≤ b) (h4 : b < 4294967296) :
    Calls Try.prog 27 #[.int .u32 a, .int .u32 b] w fun e w' => e = .returned (.int .i64 ((b - a) % 16777216)) ∧ w = w' := by
  go_enter Try.func27, Try.ntmps27
  go_wp2
  go_ret
  exact ⟨retInt (by rw [u32_mask24 _ (by omega) (by omega)]; first | omega | (unfold wrap64; omega)), rfl⟩

def aheadB (a b : Int) : Bool := decide (0 < (b - a) % 16777216) && decide ((b - a) % 16777216 < 8388608)

def withinB (a x b : Int) : Bool := decide ((x - a) % 16777216 ≤ (b - a) % 16777216)
theorem seq_within (a x b : Int) (w : World) (h1 : 0 ≤ a) (h2 : a < 4294967296) (h3 : 0 ≤ x) (h4 : x < 4294967296) (h5 : 0 ≤ b) (h6 : b < 4294967296) :
    Calls Try.prog 26 #[.int .u32 a, .int .u32 x, .int .u32 b] w fun e w' => e = .returned (.bool (withinB a x b)) ∧ w = w' := by
  go_enter Try.func26, Try.ntmps26
  go_wp2_with (go_at_call 27; refine (seq_to _ _ _ (by omega) (by omega) (by omega) (by omega)).mono ?_; rintro e w' ⟨rfl, rfl⟩)
  go_ret
  exact ⟨retBool (by simp [withinB]), rfl⟩
end Go.Proofs.Ytimmineopkmdmaa
