/- The contract of span's Has. Conditions: the set is of numbers that may be, written in one way, its row is not long. -/
import Derived.Test.YtgfdgcpbmjhmmaaSpanList
namespace Go.Proofs.Ytgfdgcpbmjhmmaa
open Go.RowKit Sp Go.Sort
set_option linter.unusedVariables false

/-- Which span may have x: behind all that end at x or ahead of it. -/
def place (s : List Span) (x : Int) : Nat := s.countP fun y => !decide (x < y.2)
theorem place_le (s : List Span) (x : Int) : place s x ≤ s.length := List.countP_le_length
theorem place_mem : ∀ {s : List Span} (x : Int), Canon s → ((∃ y, s[place s x]? = some y ∧ y.1 ≤ x) ↔ Mem s x)
  | [], x, _ => by
    constructor
    · rintro ⟨y, h, _⟩; simp at h
    · rintro ⟨y, h, _⟩; cases h
  | y :: t, x, h => by
    obtain ⟨h1, h2, h3⟩ := canon_cons.1 h
    have ih := place_mem x h3
    rw [mem_cons]
    by_cases hx : x < y.2
    · have hp : place (y :: t) x = 0 := by
        unfold place
        rw [List.countP_eq_zero]
        intro z hz
        rcases List.mem_cons.1 hz with rfl | hz
        · simp [hx]
        · have := h2 z hz
          have := h3.1 z hz
          simp
          omega
      rw [hp]
      constructor
      · rintro ⟨z, hz, hz1⟩
        simp at hz
        subst hz
        exact .inl ⟨hz1, hx⟩
      · rintro (hm | ⟨z, hz, hm, _⟩)
        · exact ⟨y, rfl, hm.1⟩
        · have := h2 z hz
          omega
    · have hp : place (y :: t) x = place t x + 1 := by
        unfold place
        rw [List.countP_cons]
        simp [hx]
      rw [hp, List.getElem?_cons_succ, ih]
      exact ⟨.inr, fun h => h.elim (fun h => absurd h.2 hx) id⟩
theorem place_mono {s : List Span} (h : Canon s) (x : Int) (a b : Nat) (hab : a ≤ b) (hb : b < s.length) (hx : x < (s.toArray[a]!).2) : x < (s.toArray[b]!).2 := by
  by_cases e : a = b
  · subst e; exact hx
  · have hp := List.pairwise_iff_getElem.1 h.2 a b (by omega) hb (by omega)
    have h1 := h.1 s[b] (List.getElem_mem hb)
    rw [getElem!_pos s.toArray a (by simp; omega)] at hx
    rw [getElem!_pos s.toArray b (by simpa using hb)]
    simp at hx ⊢
    omega

end Go.Proofs.Ytgfdgcpbmjhmmaa
