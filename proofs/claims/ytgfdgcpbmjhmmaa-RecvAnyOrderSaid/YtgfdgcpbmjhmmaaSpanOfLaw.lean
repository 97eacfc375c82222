/- The walk of the law SpanOf. Conditions: the slice lies as a slice does. -/
import Derived.Test.YtgfdgcpbmjhmmaaSpanFew
import Derived.Test.YtgfdgcpbmjhmmaaSpanAwake
import Derived.Test.YtgfdgcpbmjhmmaaAppendSrcG
namespace Go.Proofs.Ytgfdgcpbmjhmmaa
open Go.RowKit Sp Go.Sort
set_option linter.unusedVariables false

theorem FewOut.small {out : List Span} {all : List Int} (h : FewOut out all) : ∀ x, x ∈ out → Small x := fun x hx => by have := h.tiny x hx; unfold Small; omega
theorem SpRow.kept {w w' : World} {v : Value} {s : List Span} (h : SpRow w v s) (hs : w.heap.size ≤ w'.heap.size) (hk : ∀ b i x, v.ownBlock = some b → w.cell? ⟨b, i, none⟩ = some x → w'.cell? ⟨b, i, none⟩ = some x) : SpRow w' v s := by
  obtain ⟨A, cap, rfl, h1, h2, h3, hc⟩ := h
  exact ⟨A, cap, rfl, h1, h2, h3, hc.imp id fun ⟨b, off, e, hbl, hc⟩ => ⟨b, off, e, Nat.lt_of_lt_of_le hbl hs, fun i x hx => ⟨hk b _ _ (by rw [e]; rfl) (hc i x hx).1, hk b _ _ (by rw [e]; rfl) (hc i x hx).2⟩⟩⟩
theorem IsSet.setAt {w : World} {u : Value} {s l : List Span} (hu : SpRow w u s) (hs : IsSet s l) (hl : l.length ≤ 24) : SetAt w u s := ⟨hu, hs.1, hs.2.2.2, by have := hs.2.2.1; omega⟩
/-- A set of the few's numbers has them. -/
theorem FewOut.nums {out s : List Span} {all : List Int} (h : FewOut out all) (hs : IsSet s out) : all = nums s := nums_eq hs.1 h.rise fun n => by rw [h.mem n, hs.2.1 n]
/-- The source of an append that is a row of spans. -/
theorem spRow_src2 {w : World} {A : Option Addr} {n cap : Nat} {s : List Span} (h : SpRow w (.slice A n cap) s) : ∀ ad, A = some ad → ∀ j u, (encs s)[j]? = some u → w.cell? (ad.add j) = some u := by
  intro ad he j u hj
  subst he
  have hlt : j < s.length * 2 := by have := (List.getElem?_eq_some_iff.1 hj).1; rw [encs_length] at this; exact this
  have hd : j / 2 < s.length := by omega
  have ex := List.getElem?_eq_getElem hd
  obtain ⟨b, off, e, _, c0, c1⟩ := h.get ex
  obtain ⟨g0, g1⟩ := encs_get s (j / 2) _ ex
  injection e with e
  subst e
  rw [Addr.add_lit]
  rcases Nat.mod_two_eq_zero_or_one j with hm | hm
  · rw [show j / 2 * 2 = j by omega] at g0 c0
    rw [g0] at hj; rw [← hj]; exact c0
  · rw [show j / 2 * 2 + 1 = j by omega] at g1
    rw [show off + j / 2 * 2 + 1 = off + j by omega] at c1
    rw [g1] at hj; rw [← hj]; exact c1

theorem spRow_nil0 {w : World} {A : Option Addr} {n cap : Nat} {s : List Span} (h : SpRow w (.slice A n cap) s) : A = none → n = 0 := by
  intro hA
  obtain ⟨A', c', e, _, _, _, hc⟩ := h
  rw [Value.slice.injEq] at e
  obtain ⟨rfl, rfl, rfl⟩ := e
  rcases hc with rfl | ⟨b, off, e, _⟩
  · rfl
  · rw [hA] at e; cases e
theorem encs_one2 (s : List Span) : ∀ u ∈ encs s, u.oneCell' = true := by
  intro u hu
  unfold encs at hu
  rw [List.mem_flatMap] at hu
  obtain ⟨x, _, hx⟩ := hu
  simp [encS] at hx
  rcases hx with rfl | rfl <;> rfl
theorem IsSet.self {s t : List Span} (hc : Canon s) (h : IsSet t s) : t = s := canon_unique _ _ h.1 hc h.2.1
theorem IsSet.twice {s t l : List Span} (hs : IsSet s l) (h : IsSet t (l ++ l)) : t = s := canon_unique _ _ h.1 hs.1 fun n => by rw [h.2.1 n, hs.2.1 n, mem_append]; exact ⟨fun h => h.elim id id, .inl⟩

end Go.Proofs.Ytgfdgcpbmjhmmaa
