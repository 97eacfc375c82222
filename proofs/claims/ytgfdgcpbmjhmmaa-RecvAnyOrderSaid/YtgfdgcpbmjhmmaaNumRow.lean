/- Rows of numbers of 24 bits. Conditions: the rows lie as rows do. -/
import Derived.Test.YtgfdgcpbmjhmmaaIntRow
namespace Go.Proofs.Ytgfdgcpbmjhmmaa
open Go.RowKit
set_option linter.unusedVariables false

/-- v is a row of the numbers xs. -/
def NumRow (w : World) (v : Value) (xs : List Int) : Prop :=
  ∃ (A : Option Addr) (cap : Nat), v = .slice A xs.length cap ∧ xs.length ≤ 1048576 ∧ (xs = [] ∨ ∃ b off, A = some ⟨b, off, none⟩ ∧ b < w.heap.size ∧ ∀ i x, xs[i]? = some x → w.cell? ⟨b, off + i, none⟩ = some (.int .u32 x))
theorem numRow_nil (w : World) : NumRow w (.slice none 0 0) [] := ⟨none, 0, rfl, by decide, .inl rfl⟩
theorem NumRow.below {w w' : World} {v : Value} {xs : List Int} (h : NumRow w v xs) (hb : Below w.heap.size w w') : NumRow w' v xs := by
  obtain ⟨A, cap, rfl, hl, hc⟩ := h
  refine ⟨A, cap, rfl, hl, hc.imp id fun ⟨b, off, e, hbl, hc⟩ => ⟨b, off, e, Nat.lt_of_lt_of_le hbl hb.size, fun i x hx => ?_⟩⟩
  rw [hb.cell (p := ⟨b, off + i, none⟩) hbl]
  exact hc i x hx
theorem NumRow.of_heap {w w' : World} {v : Value} {xs : List Int} (h : NumRow w v xs) (e : w.heap = w'.heap) : NumRow w' v xs := by
  obtain ⟨A, cap, rfl, hl, hc⟩ := h
  exact ⟨A, cap, rfl, hl, hc.imp id fun ⟨b, off, e1, hbl, hc⟩ => ⟨b, off, e1, by rw [← e]; exact hbl, fun i x hx => by rw [← hc i x hx]; simp [World.cell?, e]⟩⟩
theorem NumRow.drewN {w : World} {v : Value} {xs : List Int} (h : NumRow w v xs) (n : Nat) : NumRow (w.drewN n) v xs := h.of_heap rfl
/-- A row that was appended to. -/
theorem numRow_own {w : World} {base : Nat} {e : TypeId} {v : Value} {xs : List Int} (h : w.ownsRow base e 1 v xs.length (xs.map (Value.int .u32))) (hl : xs.length ≤ 1048576) : NumRow w v xs := by
  rcases h.2 with ⟨rfl, h0⟩ | ⟨g, cap, cur, rfl, _, hg, _⟩
  · rw [List.eq_nil_of_length_eq_zero h0]; exact numRow_nil w
  · refine ⟨_, cap, rfl, hl, .inr ⟨g, 0, rfl, (Array.getElem?_eq_some_iff.1 hg).1, fun i x hx => ?_⟩⟩
    have hc := h.cells (g := g) rfl i (.int .u32 x) (by rw [List.getElem?_map, hx]; rfl)
    rw [Addr.add_lit, Nat.zero_add] at hc
    rw [Nat.zero_add]; exact hc
theorem NumRow.get {w : World} {A : Option Addr} {n cap k : Nat} {l : List Int} {x : Int} (h : NumRow w (.slice A n cap) l) (hk : l[k]? = some x) : ∃ b off, A = some ⟨b, off, none⟩ ∧ b < w.heap.size ∧ w.cell? ⟨b, off + k, none⟩ = some (.int .u32 x) := by
  obtain ⟨A', c', e, _, hc⟩ := h
  rw [Value.slice.injEq] at e
  obtain ⟨rfl, rfl, rfl⟩ := e
  rcases hc with hc | ⟨b, off, e, hb, hc⟩
  · rw [hc] at hk; simp at hk
  · exact ⟨b, off, e, hb, hc k x hk⟩
theorem NumRow.form {w : World} {v : Value} {l : List Int} (h : NumRow w v l) : ∃ A cap, v = .slice A l.length cap := by obtain ⟨A, cap, e, _⟩ := h; exact ⟨A, cap, e⟩
theorem NumRow.small {w : World} {v : Value} {l : List Int} (h : NumRow w v l) : l.length ≤ 1048576 := by obtain ⟨A, cap, e, h, _⟩ := h; exact h
/-- A row of two, of a block that is laid anew. -/
theorem numRow_two {w : World} {b : Nat} {x y : Int} (hb : b < w.heap.size) (h0 : w.cell? ⟨b, 0, none⟩ = some (.int .u32 x)) (h1 : w.cell? ⟨b, 1, none⟩ = some (.int .u32 y)) (cap : Nat) : NumRow w (.slice (some ⟨b, 0, none⟩) 2 cap) [x, y] := by
  refine ⟨_, cap, rfl, by simp, .inr ⟨b, 0, rfl, hb, fun i z hz => ?_⟩⟩
  match i with
  | 0 => simp at hz; subst hz; exact h0
  | 1 => simp at hz; subst hz; exact h1
  | i + 2 => simp at hz
end Go.Proofs.Ytgfdgcpbmjhmmaa
