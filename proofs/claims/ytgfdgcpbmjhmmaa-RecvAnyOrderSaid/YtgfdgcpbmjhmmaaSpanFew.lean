/- The law's own cut of spans: at most twelve small ones, and their numbers. Conditions: the slice lies as a slice does. -/
import Derived.Test.YtgfdgcpbmjhmmaaSpanIs
import Derived.Test.YtgfdgcpbmjhmmaaPairRow
namespace Go.Proofs.Ytgfdgcpbmjhmmaa
open Go.RowKit Sp Go.Sort
set_option linter.unusedVariables false

/-- At most twelve spans of at most forty small numbers, and these, rising. -/
structure FewOut (out : List Span) (all : List Int) : Prop where
  tiny : ∀ x, x ∈ out → -100 ≤ x.1 ∧ x.1 ≤ 100 ∧ -100 ≤ x.2 ∧ x.2 ≤ 100 ∧ x.2 ≤ x.1 + 40
  rise : all.Pairwise (· < ·)
  mem : ∀ n, n ∈ all ↔ Mem out n
  few : all.length ≤ 40 * out.length
theorem IntRow.kept {w w' : World} {v : Value} {l : List Int} (h : IntRow w v l) (hs : w.heap.size ≤ w'.heap.size) (hk : ∀ b i x, v.ownBlock = some b → w.cell? ⟨b, i, none⟩ = some x → w'.cell? ⟨b, i, none⟩ = some x) : IntRow w' v l := by
  obtain ⟨A, cap, rfl, hl, hc⟩ := h
  exact ⟨A, cap, rfl, hl, hc.imp id fun ⟨b, off, e, hbl, hc⟩ => ⟨b, off, e, Nat.lt_of_lt_of_le hbl hs, fun i x hx => hk b _ _ (by rw [e]; rfl) (hc i x hx)⟩⟩

theorem few_next {out : List Span} {all all' : List Int} {F T m : Int} (h : FewOut out all) (hr : all'.Pairwise (· < ·)) (hm : ∀ n, n ∈ all' ↔ Mem out n ∨ (F ≤ n ∧ n < m)) (h1 : T ≤ m) (h2 : m ≤ T ∨ m = F)
    (hF1 : -100 ≤ F) (hF2 : F ≤ 100) (hT1 : -100 ≤ T) (hT2 : T ≤ 100) (hT3 : T ≤ F + 40) (hl : (all'.length : Int) ≤ all.length + (m - F)) : FewOut (out ++ [(F, T)]) all' := by
  refine ⟨fun x hx => ?_, hr, fun n => ?_, ?_⟩
  · rcases List.mem_append.1 hx with hx | hx
    · exact h.tiny x hx
    · simp at hx; subst hx; exact ⟨hF1, hF2, hT1, hT2, hT3⟩
  · rw [hm n, mem_append, mem_one]
    simp only
    constructor
    · rintro (h | h)
      · exact .inl h
      · exact .inr (by omega)
    · rintro (h | h)
      · exact .inl h
      · exact .inr (by omega)
  · have := h.few
    simp only [List.length_append, List.length_cons, List.length_nil]
    omega
theorem mem_put_next {out : List Span} {all : List Int} {F m : Int} (h : ∀ n, n ∈ all ↔ Mem out n ∨ (F ≤ n ∧ n < m)) (hF : F ≤ m) : ∀ n, n ∈ put all m ↔ Mem out n ∨ (F ≤ n ∧ n < m + 1) := by
  intro n
  rw [mem_put, h n]
  constructor
  · rintro (h | h | h)
    · exact .inr (by omega)
    · exact .inl h
    · exact .inr (by omega)
  · rintro (h | h)
    · exact .inr (.inl h)
    · by_cases e : n = m
      · exact .inl e
      · exact .inr (.inr (by omega))

end Go.Proofs.Ytgfdgcpbmjhmmaa
