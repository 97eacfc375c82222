/- The document's spans of a rising list, two ends a span. Conditions: the list lies as a row does, its numbers are small, it is not long. -/
import Derived.Test.YtgfdgcpbmjhmmaaIntRow
import Derived.Test.YtgfdgcpbmjhmmaaAppendSrc
import Derived.Test.YtgfdgcpbmjhmmaaSpanMath
import Derived.Deep.OwnRows
import Derived.IntWalk
import Derived.RegionTactic
namespace Go.Proofs.Ytgfdgcpbmjhmmaa
open Go.RowKit Sp
set_option linter.unusedVariables false

theorem ends_snoc : ∀ (l out : List Int) (prev : Option Int) (x : Int), ends out prev (l ++ [x]) = endStep (ends out prev l) (l.getLast?.or prev) x
  | [], out, prev, x => by simp [ends]
  | a :: l, out, prev, x => by
    rw [List.cons_append]
    show ends (endStep out prev a) (some a) (l ++ [x]) = endStep (ends (endStep out prev a) (some a) l) _ x
    rw [ends_snoc l, List.getLast?_cons]
    cases l.getLast? <;> rfl
theorem ends_take {l : List Int} {k : Nat} (hk : k < l.length) : ends [] none (l.take (k + 1)) = endStep (ends [] none (l.take k)) (if k = 0 then none else l[k - 1]?) l[k] := by
  rw [List.take_succ_eq_append_getElem hk, ends_snoc]
  congr 1
  rw [Option.or_none]
  split
  · subst k; rfl
  · rw [List.getLast?_take]
    rename_i h0
    rw [if_neg h0, List.getElem?_eq_getElem (by omega)]
    rfl
theorem endStep_len (out : List Int) (prev : Option Int) (x : Int) : 1 ≤ (endStep out prev x).length ∧ (endStep out prev x).length ≤ out.length + 2 := by
  unfold endStep; split <;> simp <;> omega
theorem set_last2 (out : List Int) (x : Int) : ((out.map (Value.int .i64)) ++ [Value.int .i64 x, Value.int .i64 x]).set (out.length + 1) (.int .i64 (x + 1)) = (out ++ [x, x + 1]).map (Value.int .i64) := by
  rw [List.set_append_right _ _ (by simp)]
  simp
theorem set_last1 (out : List Int) (x : Int) (n : Nat) (h : out.length = n + 1) : (out.map (Value.int .i64)).set n (.int .i64 (x + 1)) = (out.dropLast ++ [x + 1]).map (Value.int .i64) := by
  rcases List.eq_nil_or_concat out with rfl | ⟨init, z, rfl⟩
  · simp at h
  · rw [List.concat_eq_append] at h ⊢
    simp at h
    subst h
    rw [List.dropLast_concat, List.map_append, List.set_append_right _ _ (by simp)]
    simp
theorem ownFormS {w : World} {base : Nat} {e : TypeId} {size : Nat} {v : Value} {n : Nat} {xs : List Value} (h : w.ownsRow base e size v n xs) (hn : 0 < n) : ∃ g cap, v = .slice (some ⟨g, 0, none⟩) n cap ∧ base ≤ g ∧ g < w.heap.size ∧ n ≤ cap ∧ cap ≤ maxLen := by
  rcases h.2 with ⟨_, h0⟩ | ⟨g, cap, cur, rfl, hb, hg, hnc, hcm, _⟩
  · omega
  · exact ⟨g, cap, rfl, hb, (Array.getElem?_eq_some_iff.1 hg).1, hnc, hcm⟩
theorem two_src {w : World} {b : Nat} {x y : Value} (h0 : w.cell? ⟨b, 0, none⟩ = some x) (h1 : w.cell? ⟨b, 1, none⟩ = some y) : ∀ ad, some (⟨b, 0, none⟩ : Addr) = some ad → ∀ j u, [x, y][j]? = some u → w.cell? (ad.add j) = some u := by
  intro ad he j u hj
  injection he with he
  subst he
  match j with
  | 0 => simp at hj; subst hj; rw [Addr.add_lit]; exact h0
  | 1 => simp at hj; subst hj; rw [Addr.add_lit]; exact h1
  | j + 2 => simp at hj
theorem two_new (w : World) (x y : Value) (t : TypeId) : (w.alloc (.cells #[x, y] t)).cell? ⟨w.heap.size, 0, none⟩ = some x ∧ (w.alloc (.cells #[x, y] t)).cell? ⟨w.heap.size, 1, none⟩ = some y := by
  constructor
  · rw [cell_of_row _ _ 0 _ _ (0, 0) (heap_alloc_new w _)]; rfl
  · rw [cell_of_row _ _ 1 _ _ (0, 0) (heap_alloc_new w _)]; rfl
theorem infoIntS : (Try.prog.info? 3).map (fun i => (i.zero, i.size, i.bytes)) = some (some (.int .i64 0), 1, 8) := by kernel_rfl

end Go.Proofs.Ytgfdgcpbmjhmmaa
