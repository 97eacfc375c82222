/- The document's Has on a list, and span's Len. Conditions: the rows lie as rows do; the set is of numbers that may be. -/
import Derived.Test.YtgfdgcpbmjhmmaaSpanTwoSets
import Derived.Test.YtgfdgcpbmjhmmaaIntRow
namespace Go.Proofs.Ytgfdgcpbmjhmmaa
open Go.RowKit Sp
set_option linter.unusedVariables false
theorem lenOf_snoc (s : List Span) (x : Span) : lenOf (s ++ [x]) = lenOf s + (x.2 - x.1) := by unfold lenOf; simp
theorem lenOf_take {s : List Span} (hc : Canon s) (hw : Within s) : ∀ k, k ≤ s.length → 0 ≤ lenOf (s.take k) ∧ lenOf (s.take k) ≤ (k : Int) * 2199023255554
  | 0, _ => by simp [lenOf]
  | k + 1, hk => by
    obtain ⟨h1, h2⟩ := lenOf_take hc hw k (by omega)
    have hm : s[k] ∈ s := List.getElem_mem _
    have h3 := hc.1 _ hm
    have h4 := hw _ hm
    unfold least behind at h4
    rw [List.take_succ_eq_append_getElem (by omega)]
    rw [lenOf_snoc]
    omega

end Go.Proofs.Ytgfdgcpbmjhmmaa
