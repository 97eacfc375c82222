/- What slices.Delete leaves of a row of the walk's own whose head is taken off. Plain facts; no condition. -/
import Derived.Test.YtgfdgcpbmjhmmaaRecvAt
import Derived.Deep.Upon
namespace Go.Proofs.Ytgfdgcpbmjhmmaa
open Go.RowKit
set_option linter.unusedVariables false
/-- The cells of a block behind writes in a row. -/
theorem heap_setCells_same {g : Nat} {e : TypeId} : ∀ (vs : List Value) (o : Nat) (w : World) (cur : Array Value), w.heap[g]? = some (.cells cur e (0, 0)) →
    ∃ cur' : Array Value, (w.setCells g o vs).heap[g]? = some (.cells cur' e (0, 0)) ∧ cur'.size = cur.size ∧ ∀ j, j < cur.size → cur'[j]? = if o ≤ j ∧ j < o + vs.length then vs[j - o]? else cur[j]?
  | [], o, w, cur, h => ⟨cur, h, rfl, fun j _ => by rw [if_neg (by simp)]⟩
  | v :: r, o, w, cur, h => by
    obtain ⟨c, h1, h2, h3⟩ := heap_setCells_same r (o + 1) (w.setCell ⟨g, o, none⟩ v) (cur.setIfInBounds o v) (rset_heap h o v)
    rw [Array.size_setIfInBounds] at h2 h3
    refine ⟨c, h1, h2, fun j hj => ?_⟩
    rw [h3 j hj]
    by_cases e1 : j = o
    · subst e1
      rw [if_neg (by omega), if_pos (by simp), Nat.sub_self, Array.getElem?_setIfInBounds, if_pos rfl, if_pos hj]
      rfl
    · by_cases e2 : o + 1 ≤ j ∧ j < o + 1 + r.length
      · rw [if_pos e2, if_pos (by simp; omega), show j - o = (j - (o + 1)) + 1 by omega, List.getElem?_cons_succ]
      · rw [if_neg e2, if_neg (by simp; omega), Array.getElem?_setIfInBounds, if_neg (fun h => e1 h.symm)]
/-- 'clear(s)' of elements of any size. -/
theorem run_clear_any {P : Program} (w : World) (t e ty : TypeId) (z : Value) (ht : P.underlying t = some (.slice e)) (hv : ∀ w, (zeroValue e).run P w = .ok z w) (b o n c : Nat) (hn : 0 < n) (zs : List Value) (hzs : (Builtin.zeroCells z.cells n).toList = zs)
    (hc : ∀ j, j < zs.length → (w.cell? ⟨b, o + j, none⟩).isSome = true) (hf : ∀ j, j < zs.length → w.frozen? ⟨b, o + j, none⟩ = false) (h1 : ∀ v ∈ zs, v.oneCell' = true) :
    (Builtin.clear_ #[t] ty #[.slice (some ⟨b, o, none⟩) n c]).run P w = .ok (.tuple #[]) (w.setCells b o zs) := by
  have hst := run_storeCells_cells (P := P) b o zs 0 w (by simpa using hc) (by simpa using hf) h1
  simp only [Nat.add_zero] at hst
  obtain ⟨m, rfl⟩ : ∃ m, n = m + 1 := ⟨n - 1, by omega⟩
  simp [Builtin.clear_, run_underlying ht, hv, hzs, hst]
/-- The row behind Delete: what lay from the k-th element on lies at the head, the rest is cleared. -/
theorem delRow {w : World} {base g n cap size k : Nat} {e : TypeId} {xs zs : List Value} (h : w.ownsRow base e size (.slice (some ⟨g, 0, none⟩) n cap) n xs) (hk : k ≤ n) (hz : zs.length = k * size) :
    ((w.setCells g 0 (xs.drop (k * size))).setCells g ((n - k) * size) zs).ownsRow base e size (.slice (some ⟨g, 0, none⟩) (n - k) cap) (n - k) (xs.drop (k * size)) ∧ w.grownBy ((w.setCells g 0 (xs.drop (k * size))).setCells g ((n - k) * size) zs) (some g) := by
  obtain ⟨hl, hr⟩ := h
  rcases hr with ⟨hn, _⟩ | ⟨g', cap', cur, hv, hb, hg, h1, h2, h3, h4⟩
  · cases hn
  cases hv
  have hle : k * size ≤ n * size := Nat.mul_le_mul_right _ hk
  have hcs : n * size ≤ cap * size := Nat.mul_le_mul_right _ h1
  have hnk : (n - k) * size = n * size - k * size := Nat.sub_mul _ _ _
  have hdl : (xs.drop (k * size)).length = (n - k) * size := by rw [List.length_drop, hl, hnk]
  obtain ⟨c1, g1, s1, e1⟩ := heap_setCells_same (xs.drop (k * size)) 0 w cur hg
  obtain ⟨c2, g2, s2, e2⟩ := heap_setCells_same zs ((n - k) * size) _ c1 g1
  refine ⟨⟨hdl, .inr ⟨g, cap, c2, rfl, hb, g2, by omega, h2, by omega, ?_⟩⟩, ?_⟩
  · apply List.ext_getElem?
    intro j
    rw [List.getElem?_take]
    by_cases hj : j < (n - k) * size
    · rw [if_pos hj, Array.getElem?_toList, e2 j (by omega), if_neg (by omega), e1 j (by omega), if_pos (by omega), Nat.sub_zero]
    · rw [if_neg hj, List.getElem?_eq_none (by omega)]
  · have hlt : g < w.heap.size := rblk_lt hg
    have hsz : ∀ (vs : List Value) (o : Nat) (w : World), (w.setCells g o vs).heap.size = w.heap.size := by
      intro vs
      induction vs with
      | nil => intro o w; rfl
      | cons v r ih => intro o w; rw [World.setCells, ih]; simp [World.setCell]
    have k1 := World.keptBut_setCells g (may := fun _ => True) (xs.drop (k * size)) 0 w (fun _ _ => trivial)
    refine ⟨?_, ?_, ?_, ?_, ?_⟩
    · rw [World.os_setCells, World.os_setCells]
    · have t1 : ∀ (vs : List Value) (o : Nat) (w : World), (w.setCells g o vs).tape = w.tape := by
        intro vs
        induction vs with
        | nil => intro o w; rfl
        | cons v r ih => intro o w; rw [World.setCells, ih]; rfl
      rw [t1, t1]
    · rw [World.output_setCells, World.output_setCells]
    · rw [hsz, hsz]
      exact Nat.le_refl _
    · intro i hi hne
      have hne' : i ≠ g := fun e => hne (by rw [e])
      rw [World.heap_setCells_other _ _ _ _ (by rw [hsz]; exact hi) hne', World.heap_setCells_other _ _ _ _ hi hne']
end Go.Proofs.Ytgfdgcpbmjhmmaa
