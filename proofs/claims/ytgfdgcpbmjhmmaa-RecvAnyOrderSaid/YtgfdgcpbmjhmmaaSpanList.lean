/- The contract of span's List. Conditions: the set is of numbers that may be, of at most 65536 of them. -/
import Derived.Test.YtgfdgcpbmjhmmaaSpanPut
namespace Go.Proofs.Ytgfdgcpbmjhmmaa
open Go.RowKit Sp
set_option linter.unusedVariables false

theorem nums_take {s : List Span} {k : Nat} (hk : k < s.length) : nums (s.take (k + 1)) = nums (s.take k) ++ range s[k].1 s[k].2 := by
  rw [List.take_succ_eq_append_getElem hk, nums_append]
  congr 1
  simp [nums]
theorem nums_take_le (s : List Span) (k : Nat) : (nums (s.take k)).length ≤ (nums s).length := by
  have h := nums_append (s.take k) (s.drop k)
  rw [List.take_append_drop] at h
  rw [h, List.length_append]
  omega
theorem ownForm1 {w : World} {base n : Nat} {e : TypeId} {v : Value} {l : List Value} (h : w.ownsRow base e 1 v n l) : ∃ A cap, v = .slice A n cap ∧ n ≤ cap ∧ cap ≤ maxLen := by
  rcases h.2 with ⟨rfl, rfl⟩ | ⟨g, cap, cur, rfl, _, _, h1, h2, _⟩
  · exact ⟨none, 0, rfl, Nat.le_refl _, by decide⟩
  · exact ⟨_, cap, rfl, h1, h2⟩

theorem ne_own {v v' : Value} {g n : Nat} (h : v.ownBlock ≠ some g) (hv : v'.ownBlock = v.ownBlock ∨ v'.ownBlock = some n) (hn : g < n) : v'.ownBlock ≠ some g := by
  rcases hv with e | e
  · rw [e]; exact h
  · rw [e]; intro h; injection h with h; omega

end Go.Proofs.Ytgfdgcpbmjhmmaa
