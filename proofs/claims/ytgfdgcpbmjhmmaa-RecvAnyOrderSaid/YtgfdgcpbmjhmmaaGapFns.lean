/- The contracts of package gaps' small functions: size, rises. Conditions: the numbers fit their kinds, the rows lie as rows do. -/
import Derived.Test.YtgfdgcpbmjhmmaaNumRow
import Derived.Test.YtgfdgcpbmjhmmaaSeqFns
import Derived.Test.YtgfdgcpbmjhmmaaGapMath
namespace Go.Proofs.Ytgfdgcpbmjhmmaa
open Go.RowKit Sp
set_option linter.unusedVariables false

theorem g_size (a b : Int) (w : World) (h1 : 0 ≤ a) (h2 : a < 4294967296) (h3 : 0 ≤ b) (h4 : b < 4294967296) :
    Calls Try.prog 31 #[.int .u32 a, .int .u32 b] w fun e w' => e = .returned (.int .i64 (sz a b)) ∧ w = w' := by
  have HC := Lib.hid (seq_to a b w h1 h2 h3 h4)
  have hz : sz a b = if (b - a) % 16777216 ≤ 8388608 then (b - a) % 16777216 else 0 := rfl
  have HZ := Lib.hid hz
  clear hz
  have hd0 : 0 ≤ (b - a) % 16777216 ∧ (b - a) % 16777216 < 16777216 := by omega
  generalize (b - a) % 16777216 = d at *
  by_cases hd : d ≤ 8388608
  · have hg : decide (8388608 < d) = false := by simp; omega
    go_enter Try.func31, Try.ntmps31
    go_wp2_with (go_at_call 18; refine HC.out.mono ?_; rintro e w' ⟨rfl, rfl⟩)
    go_ret
    exact ⟨retInt (by rw [HZ.out, if_pos hd]), rfl⟩
  · have hg : decide (8388608 < d) = true := by simp; omega
    go_enter Try.func31, Try.ntmps31
    go_wp2_with (go_at_call 18; refine HC.out.mono ?_; rintro e w' ⟨rfl, rfl⟩)
    go_ret
    exact ⟨retInt (by rw [HZ.out, if_neg (by omega)]), rfl⟩

end Go.Proofs.Ytgfdgcpbmjhmmaa
