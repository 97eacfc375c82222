/- The contracts of slices.Grow and slices.Concat at sets, and of span's Add. Conditions: the sets are small, the rows are not long. -/
import Derived.Test.YtgfdgcpbmjhmmaaSpanOf
import Derived.Test.YtgfdgcpbmjhmmaaAppendSrc
namespace Go.Proofs.Ytgfdgcpbmjhmmaa
open Go.RowKit Sp
set_option linter.unusedVariables false
theorem intCast0 : ((0 : Nat) : Int) = 0 := rfl
/-- What a row of spans hands an append. -/
theorem spRow_src {w : World} {A : Option Addr} {n cap : Nat} {s : List Span} (h : SpRow w (.slice A n cap) s) : n = s.length ∧ (A = none → s.length = 0) ∧ ∀ ad, A = some ad → ∀ j u, (encs s)[j]? = some u → w.cell? (ad.add j) = some u := by
  obtain ⟨A', c', he, _, _, _, hc⟩ := h
  rw [Value.slice.injEq] at he
  obtain ⟨rfl, rfl, rfl⟩ := he
  refine ⟨rfl, fun hA => ?_, fun ad hA j u hu => ?_⟩
  · rcases hc with hc | ⟨b, off, e, _⟩
    · rw [hc]; rfl
    · rw [hA] at e; cases e
  · rcases hc with hc | ⟨b, off, e, _, hc⟩
    · rw [hc] at hu; simp [encs] at hu
    · rw [hA] at e
      injection e with e
      subst e
      have hj : j < s.length * 2 := by rw [← encs_length]; exact (List.getElem?_eq_some_iff.1 hu).1
      have hd : j / 2 < s.length := by omega
      have ex := List.getElem?_eq_getElem hd
      obtain ⟨e1, e2⟩ := encs_get s (j / 2) _ ex
      obtain ⟨g1, g2⟩ := hc (j / 2) _ ex
      generalize s[j / 2] = y at *
      rw [Addr.add_lit]
      rcases Nat.mod_two_eq_zero_or_one j with hm | hm
      · rw [show j / 2 * 2 = j by omega] at e1 g1
        rw [e1] at hu; injection hu with hu; rw [← hu]; exact g1
      · rw [show j / 2 * 2 + 1 = j by omega] at e2
        rw [e2] at hu; injection hu with hu; rw [← hu, show off + j = off + j / 2 * 2 + 1 by omega]; exact g2
theorem encs_one (s : List Span) : ∀ u ∈ encs s, u.oneCell' = true := by
  intro u hu
  unfold encs at hu
  obtain ⟨x, _, hx⟩ := List.mem_flatMap.1 hu
  simp [encS] at hx
  rcases hx with rfl | rfl <;> rfl

theorem spRow_one (w : World) (a d : Int) (t : TypeId) : SpRow (w.alloc (.cells #[.int .i64 a, .int .i64 d] t)) (.slice (some ⟨w.heap.size, 0, none⟩) 1 1) [(a, d)] := by
  refine ⟨_, 1, rfl, by simp, by decide, by simp, .inr ⟨w.heap.size, 0, rfl, by simp, fun i x hx => ?_⟩⟩
  match i with
  | 0 =>
    simp at hx
    subst hx
    have h0 := cells_two_new w (.int .i64 a) (.int .i64 d) t 0 _ rfl
    have h1 := cells_two_new w (.int .i64 a) (.int .i64 d) t 1 _ rfl
    rw [Addr.add_lit] at h0 h1
    exact ⟨h0, h1⟩
  | i + 1 => simp at hx

/-- A set of small numbers, written in one way, in a row. -/
structure SetAt (w : World) (v : Value) (s : List Span) : Prop where
  row : SpRow w v s
  canon : Canon s
  small : ∀ x, x ∈ s → Small x
  few : s.length ≤ 10000
theorem SetAt.below {w w' : World} {v : Value} {s : List Span} (h : SetAt w v s) (hb : Below w.heap.size w w') : SetAt w' v s := ⟨h.row.below hb, h.canon, h.small, h.few⟩
theorem SetAt.form {w : World} {v : Value} {s : List Span} (h : SetAt w v s) : ∃ A cap, v = .slice A s.length cap := by obtain ⟨A, cap, e, _⟩ := h.row; exact ⟨A, cap, e⟩

end Go.Proofs.Ytgfdgcpbmjhmmaa
