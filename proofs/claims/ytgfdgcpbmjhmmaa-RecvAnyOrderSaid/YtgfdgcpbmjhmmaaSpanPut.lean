/- The document's Put on a rising list. Conditions: the list lies as a row does, rises, and is not long. -/
import Derived.Test.YtgfdgcpbmjhmmaaSpanLen
import Derived.Test.YtgfdgcpbmjhmmaaAppendSrc
namespace Go.Proofs.Ytgfdgcpbmjhmmaa
open Go.RowKit Sp
set_option linter.unusedVariables false

/-- What is done of a Put when k numbers have been looked at. -/
def PutAt (l : List Int) (x : Int) (k : Nat) (out : List Int) (done : Bool) : Prop :=
  (done = false ∧ out = l.take k ∧ ∀ y, y ∈ l.take k → y < x) ∨ (done = true ∧ out = (l.take k).filter (· < x) ++ x :: (l.take k).filter (x < ·) ∧ ∃ z, z ∈ l.take k ∧ x < z)
theorem filter_lt {l : List Int} {x : Int} (h : ∀ y, y ∈ l → y < x) : l.filter (· < x) = l ∧ l.filter (x < ·) = [] :=
  ⟨List.filter_eq_self.2 fun y hy => by simpa using h y hy, List.filter_eq_nil_iff.2 fun y hy => by have := h y hy; simp; omega⟩
theorem putAt_new {l : List Int} {x : Int} {k : Nat} {out : List Int} (hk : k < l.length) (h : PutAt l x k out false) (hy : x < l[k]) : PutAt l x (k + 1) (out ++ [x] ++ [l[k]]) true := by
  rcases h with ⟨_, rfl, h⟩ | ⟨h, _⟩
  · refine .inr ⟨rfl, ?_, l[k], by rw [List.take_succ_eq_append_getElem hk]; exact List.mem_append_right _ List.mem_cons_self, hy⟩
    obtain ⟨h1, h2⟩ := filter_lt h
    rw [List.take_succ_eq_append_getElem hk, List.filter_append, List.filter_append, h1, h2]
    have : ¬ l[k] < x := by omega
    simp [this, hy]
  · cases h
theorem putAt_low {l : List Int} {x : Int} {k : Nat} {out : List Int} (hk : k < l.length) (h : PutAt l x k out false) (hy : l[k] < x) : PutAt l x (k + 1) (out ++ [l[k]]) false := by
  rcases h with ⟨_, rfl, h⟩ | ⟨h, _⟩
  · refine .inl ⟨rfl, by rw [List.take_succ_eq_append_getElem hk], fun y hy' => ?_⟩
    rw [List.take_succ_eq_append_getElem hk, List.mem_append] at hy'
    rcases hy' with h' | h'
    · exact h y h'
    · simp at h'; omega
  · cases h
theorem putAt_high {l : List Int} {x : Int} {k : Nat} {out : List Int} (hr : l.Pairwise (· < ·)) (hk : k < l.length) (h : PutAt l x k out true) : PutAt l x (k + 1) (out ++ [l[k]]) true := by
  rcases h with ⟨h, _⟩ | ⟨_, rfl, z, hz, hxz⟩
  · cases h
  · have hzk : z < l[k] := by
      have hp := hr
      rw [← List.take_append_drop k l, List.pairwise_append] at hp
      exact hp.2.2 z hz _ (by rw [List.drop_eq_getElem_cons hk]; exact List.mem_cons_self)
    refine .inr ⟨rfl, ?_, z, by rw [List.take_succ_eq_append_getElem hk]; exact List.mem_append_left _ hz, hxz⟩
    rw [List.take_succ_eq_append_getElem hk, List.filter_append, List.filter_append]
    have h1 : ¬ l[k] < x := by omega
    have h2 : x < l[k] := by omega
    simp [h1, h2]
theorem putAt_end {l : List Int} {x : Int} {out : List Int} {done : Bool} (hx : x ∉ l) (h : PutAt l x l.length out done) : (if done then out else out ++ [x]) = put l x := by
  unfold put
  rw [if_neg hx]
  rcases h with ⟨rfl, rfl, h⟩ | ⟨rfl, rfl, _⟩
  · rw [List.take_of_length_le (Nat.le_refl _)] at h ⊢
    obtain ⟨h1, h2⟩ := filter_lt h
    rw [h1, h2]
    rfl
  · rw [List.take_of_length_le (Nat.le_refl _)]
    rfl
theorem one_src {w : World} {b : Nat} {x : Value} (h : w.cell? ⟨b, 0, none⟩ = some x) : ∀ ad, some (⟨b, 0, none⟩ : Addr) = some ad → ∀ j u, [x][j]? = some u → w.cell? (ad.add j) = some u := by
  intro ad he j u hj
  injection he with he
  subst he
  match j with
  | 0 => simp at hj; subst hj; rw [Addr.add_lit]; exact h
  | j + 1 => simp at hj
theorem one_new (w : World) (x : Value) (t : TypeId) : (w.alloc (.cells #[x] t)).cell? ⟨w.heap.size, 0, none⟩ = some x := by rw [cell_of_row _ _ 0 _ _ (0, 0) (heap_alloc_new w _)]; rfl
theorem infoInt0 : (Try.prog.info? 3).map (fun i => (i.zero, i.size, i.bytes)) = some (some (.int .i64 0), 1, 8) := by kernel_rfl

end Go.Proofs.Ytgfdgcpbmjhmmaa
