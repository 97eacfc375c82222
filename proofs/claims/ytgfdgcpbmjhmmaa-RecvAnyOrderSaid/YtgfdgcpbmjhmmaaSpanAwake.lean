/- The law's own fixed fact of layer 3. No conditions. -/
import Derived.Test.YtgfdgcpbmjhmmaaSpanLen
import Derived.Laws.StructEq
namespace Go.Proofs.Ytgfdgcpbmjhmmaa
open Go.RowKit Sp Go.Sort
set_option linter.unusedVariables false

theorem of3 (s : List Span) (h : IsSet s [(5, 7), (1, 3), (6, 9)]) : s = [(1, 3), (5, 9)] := by
  refine canon_unique _ _ h.1 ?_ fun n => ?_
  · exact canon_cons.2 ⟨by decide, by simp, canon_one (by decide)⟩
  · rw [h.2.1 n]
    simp only [mem_cons]
    have := mem_nil n
    constructor
    · rintro (h | h | h | h)
      · exact .inr (.inl (by omega))
      · exact .inl (by omega)
      · exact .inr (.inl (by omega))
      · exact absurd h this
    · rintro (h | h | h)
      · exact .inr (.inl (by omega))
      · by_cases h7 : n < 7
        · exact .inl (by omega)
        · exact .inr (.inr (.inl (by omega)))
      · exact absurd h this

end Go.Proofs.Ytgfdgcpbmjhmmaa
