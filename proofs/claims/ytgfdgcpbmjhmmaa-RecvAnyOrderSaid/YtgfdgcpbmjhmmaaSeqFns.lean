/- The contracts of package seq's functions (and of the document's own Of and To): what each call answers, as a number. Conditions: the arguments fit their kinds. -/
import Derived.Test.YtgfdgcpbmjhmmaaRows
import Derived.WalkKit
import Derived.Laws.BitsAll
import Derived.Lib.Hide
import Derived.Test.YtgfdgcpbmjhmmaaSeqBase
namespace Go.Proofs.Ytgfdgcpbmjhmmaa
open Go.RowKit
set_option linter.unusedVariables false


theorem seq_of (x : Int) (w : World) (h1 : -9223372036854775808 ≤ x) (h2 : x ≤ 9223372036854775807) :
    Calls Try.prog 9 #[.int .i64 x] w fun e w' => e = .returned (.int .u32 (x % 16777216)) ∧ w = w' := by
  go_enter Try.func9, Try.ntmps9
  go_wp2
  go_ret
  exact ⟨retInt (by rw [u32_mask24 _ (by omega) (by omega)]; omega), rfl⟩

theorem seq_add (a n : Int) (w : World) (h1 : 0 ≤ a) (h2 : a < 4294967296) (h3 : -9223372036854775808 ≤ n) (h4 : n ≤ 9223372036854775807) :
    Calls Try.prog 12 #[.int .u32 a, .int .i64 n] w fun e w' => e = .returned (.int .u32 ((a + n) % 16777216)) ∧ w = w' := by
  go_enter Try.func12, Try.ntmps12
  go_wp2_with (go_at_call 9; refine (seq_of _ _ (by omega) (by omega)).mono ?_; rintro e w' ⟨rfl, rfl⟩)
  go_ret
  exact ⟨retInt (by rw [u32_mask24 _ (by omega) (by omega)]; omega), rfl⟩

theorem seq_to (a b : Int) (w : World) (h1 : 0 ≤ a) (h2 : a < 4294967296) (h3 : 0 ≤ b) (h4 : b < 4294967296) :
    Calls Try.prog 18 #[.int .u32 a, .int .u32 b] w fun e w' => e = .returned (.int .i64 ((b - a) % 16777216)) ∧ w = w' := by
  go_enter Try.func18, Try.ntmps18
  go_wp2
  go_ret
  exact ⟨retInt (by rw [u32_mask24 _ (by omega) (by omega)]; first | omega | (unfold wrap64; omega)), rfl⟩

end Go.Proofs.Ytgfdgcpbmjhmmaa
