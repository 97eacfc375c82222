/- The contracts of package seq's functions (and of the document's own Of and To): what each call answers, as a number. Conditions: the arguments fit their kinds. -/
import Derived.Test.YtgfdgcpbmjhmmaaRows
import Derived.WalkKit
import Derived.Laws.BitsAll
import Derived.Lib.Hide
namespace Go.Proofs.Ytgfdgcpbmjhmmaa
open Go.RowKit
set_option linter.unusedVariables false

theorem u32_mask24 (a : Int) (h1 : 0 ≤ a) (h2 : a < 4294967296) : bits .and .u32 a 16777215 = a % 16777216 := by
  rw [u32_and a 16777215 h1 h2 (by decide) (by decide)]
  have e : (16777215 : Int).toNat = 16777215 := rfl
  rw [e, nat_mask24]; omega

theorem retInt {k : IntKind} {a b : Int} (h : a = b) : Ending.returned (.int k a) = .returned (.int k b) := by rw [h]
theorem retBool {a b : Bool} (h : a = b) : Ending.returned (.bool a) = .returned (.bool b) := by rw [h]

theorem tmod24 (x : Int) : (x.tmod 16777216 < 0 → x.tmod 16777216 + 16777216 = x % 16777216) ∧ (0 ≤ x.tmod 16777216 → x.tmod 16777216 = x % 16777216) ∧ -16777216 < x.tmod 16777216 ∧ x.tmod 16777216 < 16777216 := by
  have h1 := Int.mul_tdiv_add_tmod x 16777216
  have h2 := Int.lt_tmod_of_pos x (b := 16777216) (by decide)
  have h3 := Int.tmod_lt_of_pos x (b := 16777216) (by decide)
  refine ⟨fun h => ?_, fun h => ?_, h2, h3⟩ <;> omega

end Go.Proofs.Ytgfdgcpbmjhmmaa
