/- The contract of the law's own question whether a set is just some numbers, where it is. Conditions: the set is of numbers that may be, of at most 65536 of them, its row is not long. -/
import Derived.Test.YtgfdgcpbmjhmmaaSpanHas
import Derived.Test.YtgfdgcpbmjhmmaaSpanSame
import Derived.Test.YtgfdgcpbmjhmmaaSpanEnds
namespace Go.Proofs.Ytgfdgcpbmjhmmaa
open Go.RowKit Sp Go.Sort
set_option linter.unusedVariables false

theorem flat_length (s : List Span) : (flat s).length = 2 * s.length := by
  induction s with
  | nil => rfl
  | cons x s ih => simp only [flat, List.flatMap_cons, List.length_append, List.length_cons, List.length_nil] at ih ⊢; omega
theorem flat_get : ∀ (s : List Span) (i : Nat) (x : Span), s[i]? = some x → (flat s)[2 * i]? = some x.1 ∧ (flat s)[2 * i + 1]? = some x.2
  | [], i, x, h => by simp at h
  | y :: s, 0, x, h => by simp at h; subst h; exact ⟨rfl, rfl⟩
  | y :: s, i + 1, x, h => by
    have := flat_get s i x (by simpa using h)
    rw [show 2 * (i + 1) = 2 * i + 2 by omega, show 2 * i + 2 + 1 = (2 * i + 1) + 2 by omega]
    exact this
theorem IntRow.get {w : World} {A : Option Addr} {n cap k : Nat} {l : List Int} {x : Int} (h : IntRow w (.slice A n cap) l) (hk : l[k]? = some x) : ∃ b off, A = some ⟨b, off, none⟩ ∧ b < w.heap.size ∧ w.cell? ⟨b, off + k, none⟩ = some (.int .i64 x) := by
  obtain ⟨A', c', e, _, hc⟩ := h
  rw [Value.slice.injEq] at e
  obtain ⟨rfl, rfl, rfl⟩ := e
  rcases hc with hc | ⟨b, off, e, hb, hc⟩
  · rw [hc] at hk; simp at hk
  · exact ⟨b, off, e, hb, hc k x hk⟩
theorem IntRow.form {w : World} {v : Value} {l : List Int} (h : IntRow w v l) : ∃ A cap, v = .slice A l.length cap := by obtain ⟨A, cap, e, _⟩ := h; exact ⟨A, cap, e⟩

end Go.Proofs.Ytgfdgcpbmjhmmaa
