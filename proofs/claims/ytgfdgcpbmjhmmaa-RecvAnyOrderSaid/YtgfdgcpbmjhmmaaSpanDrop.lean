/- The contract of span's Drop. Conditions: the sets are small, written in one way, the rows are not long. -/
import Derived.Test.YtgfdgcpbmjhmmaaSpanTwoSets
namespace Go.Proofs.Ytgfdgcpbmjhmmaa
open Go.RowKit Sp
set_option linter.unusedVariables false

theorem canon_len : ∀ (s : List Span) (lo : Int), Canon s → (∀ x, x ∈ s → lo ≤ x.1 ∧ x.2 ≤ 4096) → lo ≤ 4096 → (s.length : Int) ≤ 4096 - lo
  | [], lo, _, _, h => by simp; omega
  | x :: s, lo, hc, hb, h => by
    obtain ⟨h1, h2, h3⟩ := canon_cons.1 hc
    have hx := hb x List.mem_cons_self
    have := canon_len s x.2 h3 (fun y hy => ⟨by have := h2 y hy; omega, (hb y (List.mem_cons_of_mem _ hy)).2⟩) (by omega)
    rw [List.length_cons]
    omega
theorem small_of_mem {o s : List Span} (hc : Canon o) (hm : ∀ n, Mem o n → Mem s n) (hs : ∀ x, x ∈ s → Small x) : ∀ y, y ∈ o → Small y := by
  intro y hy
  have h1 := hc.1 y hy
  obtain ⟨z, hz, z1, z2⟩ := hm y.1 ⟨y, hy, by omega, h1⟩
  obtain ⟨z', hz', z3, z4⟩ := hm (y.2 - 1) ⟨y, hy, by omega, by omega⟩
  have := hs z hz
  have := hs z' hz'
  unfold Small at *
  omega
/-- A set of small numbers is of few spans. -/
theorem setAt_of {w : World} {v : Value} {o : List Span} (h : SpRow w v o) (hc : Canon o) (hs : ∀ y, y ∈ o → Small y) : SetAt w v o :=
  ⟨h, hc, hs, by have := canon_len o (-4096) hc (fun x hx => by have := hs x hx; unfold Small at this; omega) (by omega); omega⟩

end Go.Proofs.Ytgfdgcpbmjhmmaa
