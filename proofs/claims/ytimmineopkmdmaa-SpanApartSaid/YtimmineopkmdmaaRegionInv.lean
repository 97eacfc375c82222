/- A law on a region that draws its order: what holds at the start, and is kept by each operation whose forerunners have come up, holds at the end, in whatever order. No conditions but that each operation waits for earlier ones alone. -/
import Derived.RegionTactic
import Derived.Test.YtimmineopkmdmaaRows
namespace Go.Proofs.Ytimmineopkmdmaa.Reg
open Go
set_option linter.unusedVariables false

section
variable {P : Program} {ops : Array Oper} {Q : Exit → Act → World → Prop} {md : Region.Mode}

theorem getD_set (L : Array Bool) (i j : Nat) (d : Bool) (hi : i < L.size) : (L.setIfInBounds i true).getD j d = if j = i then true else L.getD j d := by
  simp only [Array.getD_eq_getD_getElem?, Array.getElem?_setIfInBounds]
  by_cases e : j = i
  · subst e; simp [hi]
  · rw [if_neg (fun h => e h.symm), if_neg e]

theorem getD_any (L : Array Bool) (j : Nat) (hj : j < L.size) (d d' : Bool) : L.getD j d = L.getD j d' := by
  simp [Array.getD_eq_getD_getElem?, hj]

/-- How many have not come up. -/
def unl (L : Array Bool) : Nat := L.toList.countP (fun b => !b)

theorem unl_set (L : Array Bool) (i : Nat) (hi : i < L.size) (h : L.getD i true = false) : unl (L.setIfInBounds i true) + 1 = unl L := by
  unfold unl
  rw [Array.toList_setIfInBounds, List.set_eq_take_append_cons_drop, if_pos (by simpa using hi)]
  have hl : L.toList = L.toList.take i ++ L.toList[i]'(by simpa using hi) :: L.toList.drop (i + 1) := by
    rw [← List.drop_eq_getElem_cons (by simpa using hi), List.take_append_drop]
  have hv : L.toList[i]'(by simpa using hi) = false := by
    rw [Array.getD_eq_getD_getElem?, Array.getElem?_eq_getElem hi] at h
    simpa using h
  conv => rhs; rw [hl]
  rw [List.countP_append, List.countP_append, List.countP_cons, List.countP_cons, hv]
  simp
  omega

theorem all_of_unl (L : Array Bool) (h : unl L = 0) (i : Nat) (hi : i < L.size) : L.getD i true = true := by
  unfold unl at h
  rw [List.countP_eq_zero] at h
  have := h (L[i]) (by simp)
  rw [Array.getD_eq_getD_getElem?, Array.getElem?_eq_getElem hi]
  simpa using this

theorem wpAny_inv (I : Array Bool → Act → World → Prop)
    (hac : ∀ (i : Nat) (o : Oper), ops[i]? = some o → ∀ e ∈ o.after, Region.binds md e = true → e.on < i)
    (hstep : ∀ (i : Nat) (o : Oper), ops[i]? = some o → ∀ L a w, L.size = ops.size → I L a w → L.getD i true = false → (∀ e ∈ o.after, Region.binds md e = true → L.getD e.on false = true) → wpOp P ops Q i (I (L.setIfInBounds i true)) a w)
    (hdone : ∀ L a w, L.size = ops.size → I L a w → (∀ i, i < ops.size → L.getD i true = true) → Q .normal a w) :
    ∀ fuel L a w, L.size = ops.size → unl L ≤ fuel → I L a w → wpAny P md ops Q fuel L a w := by
  intro fuel
  induction fuel with
  | zero =>
    intro L a w hs hf hI
    have hall : ∀ i, i < ops.size → L.getD i true = true := fun i hi => all_of_unl L (by omega) i (by omega)
    refine ⟨?_, hdone L a w hs hI hall⟩
    unfold Region.ready
    rw [List.filter_eq_nil_iff]
    intro i hi
    rw [hall i (List.mem_range.1 hi)]
    simp
  | succ fuel ih =>
    intro L a w hs hf hI
    refine ⟨fun hr => ?_, fun i hi => ?_⟩
    · apply hdone L a w hs hI
      intro i
      induction i using Nat.strongRecOn with
      | ind i ihi =>
        intro hi
        cases hb : L.getD i true with
        | true => rfl
        | false =>
          exfalso
          have hm : i ∈ Region.ready md ops L := by
            unfold Region.ready
            rw [List.mem_filter]
            refine ⟨List.mem_range.2 hi, ?_⟩
            rw [hb, Array.getElem?_eq_getElem hi]
            simp only [Bool.not_false, Bool.true_and, Option.map_some, Option.getD_some]
            rw [Array.all_eq_true_iff_forall_mem]
            intro e he
            cases hbd : Region.binds md e with
            | false => rfl
            | true =>
              have hlt := hac i _ (Array.getElem?_eq_getElem hi) e he hbd
              have := ihi e.on hlt (by omega)
              rw [getD_any L e.on (by omega) true false] at this
              rw [this]; rfl
          rw [hr] at hm
          cases hm
    · unfold Region.ready at hi
      rw [List.mem_filter] at hi
      obtain ⟨h1, h2⟩ := hi
      have hi' := List.mem_range.1 h1
      rw [Array.getElem?_eq_getElem hi'] at h2
      simp only [Option.map_some, Option.getD_some, Bool.and_eq_true, Bool.not_eq_true'] at h2
      obtain ⟨h3, h4⟩ := h2
      rw [Array.all_eq_true_iff_forall_mem] at h4
      have hsz : i < L.size := by omega
      refine wpOp_mono (fun a' w' hI' => ih (L.setIfInBounds i true) a' w' (by rw [Array.size_setIfInBounds]; exact hs) ?_ hI') (hstep i ops[i] (Array.getElem?_eq_getElem hi') L a w hs hI h3 ?_)
      · have := unl_set L i hsz h3; omega
      · intro e he hb
        have := h4 e he
        rw [hb] at this
        simpa using this

/-- 'Each operation waits for earlier ones alone', as one closed look. -/
theorem hac_of (h : ((List.range ops.size).all fun i => match ops[i]? with | none => true | some o => o.after.all fun e => !Region.binds md e || decide (e.on < i)) = true) :
    ∀ (i : Nat) (o : Oper), ops[i]? = some o → ∀ e ∈ o.after, Region.binds md e = true → e.on < i := by
  intro i o ho e he hb
  rw [List.all_eq_true] at h
  have hi : i < ops.size := (Array.getElem?_eq_some_iff.1 ho).1
  have h1 := h i (List.mem_range.2 hi)
  rw [ho] at h1
  have h2 := (Array.all_eq_true_iff_forall_mem.1 h1) e he
  rw [hb] at h2
  simpa using h2

/-- One edge, as a closed look. -/
theorem edge {o : Oper} {L : Array Bool} (hE : ∀ e ∈ o.after, Region.binds md e = true → L.getD e.on false = true) (j : Nat) (h : (o.after.toList.any fun e => e.on == j && Region.binds md e) = true) : L.getD j false = true := by
  rw [List.any_eq_true] at h
  obtain ⟨e, he, h2⟩ := h
  have he := Array.mem_toList_iff.1 he
  rw [Bool.and_eq_true, beq_iff_eq] at h2
  have := hE e he h2.2
  rw [h2.1] at this
  exact this

/-- The frame at hand under a name. -/
theorem wp_region_named {id : Nat} {b : Bool} {a : Act} {w : World} (h : ∀ a0 : Act, a0 = a → (Code.region id ops b).wp P Q a0 w) : (Code.region id ops b).wp P Q a w := h a rfl

/-- An operation without a guard that yields a value. -/
theorem wpOp_run {i : Nat} {o : Oper} {a : Act} {w w' : World} {v : Value} {K : Act → World → Prop} (hi : ops[i]? = some o) (hg : o.guard = none)
    (hr : (execOp a.eval o).run P w = .ok (.value v) w') (hK : K (a.put o.dst v) w') : wpOp P ops Q i K a w := by
  unfold wpOp
  rw [hi]
  have hw : Region.wanted o (yielded ops a.tmps) = true := by simp [Region.wanted, hg]
  simp only [hw, if_true]
  refine .inl ?_
  unfold Oper.wp
  rw [hr]
  exact hK

theorem put_get (a : Act) (i j : Nat) (v : Value) (hi : i < a.tmps.size) : (a.put (some i) v).tmps.getD j undef = if j = i then v else a.tmps.getD j undef := by
  simp only [Act.put, Array.getD_eq_getD_getElem?, Array.getElem?_setIfInBounds]
  by_cases e : j = i
  · subst e; simp [hi]
  · rw [if_neg (fun h => e h.symm), if_neg e]
theorem put_size (a : Act) (i : Nat) (v : Value) : (a.put (some i) v).tmps.size = a.tmps.size := by simp [Act.put]
theorem put_defers (a : Act) (i : Nat) (v : Value) : (a.put (some i) v).defers = a.defers := rfl

theorem arr_eta (a : Array Value) (n : Nat) (h : a.size = n) : a = ((List.range n).map fun i => a.getD i undef).toArray := by
  apply Array.ext_getElem?
  intro i
  simp only [List.getElem?_toArray, List.getElem?_map]
  by_cases hi : i < n
  · rw [List.getElem?_range hi, Array.getElem?_eq_getElem (by omega)]
    simp [h, hi]
  · rw [Array.getElem?_eq_none (by omega), List.getElem?_eq_none (by simp; omega)]
    rfl

theorem wp_region_inv {id : Nat} {a : Act} {w : World} (I : Array Bool → Act → World → Prop) (hm : P.follows .mixedOrders = true)
    (hac : ∀ (i : Nat) (o : Oper), ops[i]? = some o → ∀ e ∈ o.after, Region.binds .any e = true → e.on < i)
    (hstart : I (Array.replicate ops.size false) a w.drew)
    (hstep : ∀ (i : Nat) (o : Oper), ops[i]? = some o → ∀ L a w, L.size = ops.size → I L a w → L.getD i true = false → (∀ e ∈ o.after, Region.binds .any e = true → L.getD e.on false = true) → wpOp P ops Q i (I (L.setIfInBounds i true)) a w)
    (hdone : ∀ L a w, L.size = ops.size → I L a w → (∀ i, i < ops.size → L.getD i true = true) → Q .normal a w) : (Code.region id ops true).wp P Q a w :=
  wp_region_any hm (wpAny_inv I hac hstep hdone ops.size _ a _ (by simp) (by
    unfold unl
    rw [Array.toList_replicate]
    exact Nat.le_trans List.countP_le_length (by simp)) hstart)
end
end Go.Proofs.Ytimmineopkmdmaa.Reg
