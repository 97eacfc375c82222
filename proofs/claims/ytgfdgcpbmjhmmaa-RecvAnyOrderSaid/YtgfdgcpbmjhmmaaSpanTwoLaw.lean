/- The walk of the law SpanTwo. Conditions: the slices lie as slices do. -/
import Derived.Test.YtgfdgcpbmjhmmaaSpanOfLaw
import Derived.Test.YtgfdgcpbmjhmmaaSpanGaps
namespace Go.Proofs.Ytgfdgcpbmjhmmaa
open Go.RowKit Sp Go.Sort
set_option linter.unusedVariables false
set_option linter.unusedSimpArgs false

structure TwoAt (w : World) (fv gv su tu : Value) (s t : List Span) : Prop where
  f : IntRow w fv (nums s)
  g : IntRow w gv (nums t)
  s : SetAt w su s
  t : SetAt w tu t
theorem TwoAt.below {w w' : World} {fv gv su tu : Value} {s t : List Span} (h : TwoAt w fv gv su tu s t) (hb : Below w.heap.size w w') : TwoAt w' fv gv su tu s t :=
  ⟨h.f.below hb, h.g.below hb, h.s.below hb, h.t.below hb⟩
theorem filter_next {l : List Int} {k : Nat} {p : Int → Bool} (h : k < l.length) : (l.take (k + 1)).filter p = if p l[k] = true then (l.take k).filter p ++ [l[k]] else (l.take k).filter p := by
  rw [List.take_succ_eq_append_getElem h, List.filter_append]
  split
  · rename_i hp; simp [List.filter_cons, hp]
  · rename_i hp; simp [List.filter_cons, hp]
theorem filter_len {l : List Int} {k : Nat} {p : Int → Bool} : ((l.take k).filter p).length ≤ k := by
  have h1 := List.length_filter_le p (l.take k)
  have h2 := List.length_take_le k l
  omega
/-- A canonical set's list, sifted, is the list of a canonical set with just these numbers. -/
theorem nums_sift {s q : List Span} {p : Int → Bool} (hs : Canon s) (hq : Canon q) (h : ∀ n, Mem q n ↔ Mem s n ∧ p n = true) : (nums s).filter p = nums q :=
  nums_eq hq ((nums_rise hs).filter _) fun n => by rw [List.mem_filter, mem_nums, h n]
theorem WideAt.of {w : World} {v : Value} {q s : List Span} (hr : SpRow w v q) (hc : Canon q) (hm : ∀ n, Mem q n → Mem s n) (hs : ∀ x, x ∈ s → Small x) : WideAt w v q := (setAt_of hr hc (small_of_mem hc hm hs)).wide

end Go.Proofs.Ytgfdgcpbmjhmmaa
