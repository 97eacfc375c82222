/- The region of SpanApart, whose operations come up in an open order: what each leaves in its slot. Conditions: what stands ahead of it. -/
import Derived.Test.YtimmineopkmdmaaRegionInv
import Derived.Test.YtimmineopkmdmaaPolliwogRoundLaw
namespace Go.Proofs.Ytimmineopkmdmaa.Ap
open Go Go.RowKit Go.Proofs.Ytimmineopkmdmaa Reg Sp
set_option linter.unusedVariables false
set_option linter.unusedSimpArgs false

section
variable {w : World} {ev : Operand → Value} {o : Oper}
theorem run_move (x : Operand) (h : o.op = .move x) : (execOp ev o).run Try.prog w = .ok (.value (ev x)) w := by
  unfold execOp; simp only [h]; go_simp
theorem run_assign (x : Operand) (h : o.op = .assign x) : (execOp ev o).run Try.prog w = .ok (.value (ev x)) w := by
  unfold execOp; simp only [h]; go_simp
theorem run_load (x : Operand) (h : o.op = .load 35 x) (g : Nat) (a b : Int) (hx : ev x = .pointer (some ⟨g, 0, none⟩)) (c0 : w.cell? ⟨g, 0, none⟩ = some (.int .i64 a)) (c1 : w.cell? ⟨g, 1, none⟩ = some (.int .i64 b)) :
    (execOp ev o).run Try.prog w = .ok (.value (.agg #[.int .i64 a, .int .i64 b])) w := by
  unfold execOp; simp only [h, hx]
  go_simp
theorem run_call1 (f : FuncId) (x : Operand) (ts : Array TypeId) (h : o.op = .call { callee := .value (.func f), args := #[x], argTypes := ts }) (hf : ev (.func f) = .func (.func f) #[] #[]) (eg : ∀ args w, (callFunc f args).run Try.prog w = .ok (.enter f args) w) :
    (execOp ev o).run Try.prog w = .ok (.enter f #[ev x]) w := by
  unfold execOp; simp only [h, hf]
  go_simp
theorem run_call2 (f : FuncId) (x y : Operand) (ts : Array TypeId) (h : o.op = .call { callee := .value (.func f), args := #[x, y], argTypes := ts }) (hf : ev (.func f) = .func (.func f) #[] #[]) (eg : ∀ args w, (callFunc f args).run Try.prog w = .ok (.enter f args) w) :
    (execOp ev o).run Try.prog w = .ok (.enter f #[ev x, ev y]) w := by
  unfold execOp; simp only [h, hf]
  go_simp
theorem run_pick (x y z : Operand) (h : o.op = .pick x y z) (hx : ev x = .bool true) : (execOp ev o).run Try.prog w = .ok (.value (ev y)) w := by
  unfold execOp; simp only [h, hx]
  go_simp
theorem run_sub (x y : Operand) (t : TypeId) (h : o.op = .binOp .sub 3 x y t) (a b c : Int) (hx : ev x = .int .i64 a) (hy : ev y = .int .i64 b) (hc : a - b = c) (h1 : -9223372036854775808 ≤ c) (h2 : c ≤ 9223372036854775807) :
    (execOp ev o).run Try.prog w = .ok (.value (.int .i64 c)) w := by
  unfold execOp; simp only [h, hx, hy]
  have : IntKind.i64.wrap c = c := by rw [IntKind.wrap_i64]; omega
  go_simp
theorem run_eql (x y : Operand) (t : TypeId) (h : o.op = .binOp .eql 3 x y t) (a : Int) (hx : ev x = .int .i64 a) (hy : ev y = .int .i64 a) :
    (execOp ev o).run Try.prog w = .ok (.value (.bool true)) w := by
  unfold execOp; simp only [h, hx, hy]
  go_simp
end

/-! ### What stands in the slots -/
structure Ins where
  s : List Span
  a : Span
  b : Span
  su : Value
  ga : Nat
  gb : Nat
  SA : List Span
  SAmB : List Span
  SmB : List Span
  SAB : List Span
  SB : List Span
  SmA : List Span
  SmAB : List Span
  G : List Span

def agg (x : Span) : Value := .agg #[.int .i64 x.1, .int .i64 x.2]
def dst (j : Nat) : Nat := if j < 51 then 50 + j else j - 45
def known (I : Ins) (j : Nat) : Option Value :=
  if j ∈ [0, 5, 12, 17, 25, 30, 38, 42, 46] then some I.su
  else if j ∈ [1, 8, 13, 20, 26, 33, 39, 43] then some (agg I.a)
  else if j ∈ [3, 6, 15, 18, 28, 31] then some (agg I.b)
  else if j ∈ [10, 11, 22, 23, 24, 35, 36, 37, 49, 50, 51] then some (.bool true)
  else if j ∈ [41, 48] then some (.int .i64 (lenOf I.G))
  else if j ∈ [45] then some (.int .i64 (lenOf I.SA))
  else if j ∈ [47] then some (.int .i64 (lenOf I.s))
  else none
def setOf (I : Ins) (j : Nat) : Option (List Span) :=
  if j ∈ [0, 5, 12, 17, 25, 30, 38, 42, 46] then some I.s
  else if j ∈ [2, 14, 44] then some I.SA
  else if j ∈ [4, 9] then some I.SAmB
  else if j ∈ [7, 32] then some I.SmB
  else if j ∈ [16, 21] then some I.SAB
  else if j ∈ [19] then some I.SB
  else if j ∈ [27] then some I.SmA
  else if j ∈ [29, 34] then some I.SmAB
  else if j ∈ [40] then some I.G
  else none
def Good (I : Ins) (j : Nat) (v : Value) (w : World) : Prop := (∀ u, known I j = some u → v = u) ∧ ∀ S, setOf I j = some S → SetAt w v S
theorem Good.below {I : Ins} {j : Nat} {v : Value} {w w' : World} (h : Good I j v w) (hb : Below w.heap.size w w') : Good I j v w' := ⟨h.1, fun S hS => (h.2 S hS).below hb⟩
theorem Good.ofKnown {I : Ins} {j : Nat} {v u : Value} {w : World} (h : known I j = some u) (h2 : setOf I j = none) (e : v = u) : Good I j v w :=
  ⟨fun u' hu => by rw [h] at hu; injection hu with hu; rw [e, hu], fun S hS => by rw [h2] at hS; cases hS⟩
theorem Good.ofSet {I : Ins} {j : Nat} {v : Value} {S : List Span} {w : World} (h : known I j = none) (h2 : setOf I j = some S) (e : SetAt w v S) : Good I j v w :=
  ⟨(fun u' hu => by rw [h] at hu; cases hu), fun S' hS => by rw [h2] at hS; injection hS with hS; rw [← hS]; exact e⟩

theorem Good.ofBoth {I : Ins} {j : Nat} {v u : Value} {S : List Span} {w : World} (h : known I j = some u) (h2 : setOf I j = some S) (e : v = u) (hS : SetAt w v S) : Good I j v w :=
  ⟨(fun u' hu => by rw [h] at hu; injection hu with hu; rw [e, hu]), fun S' hS' => by rw [h2] at hS'; injection hS' with hS'; rw [← hS']; exact hS⟩

structure Inv (I : Ins) (w0 : World) (a0 : Act) (L : Array Bool) (a : Act) (w : World) : Prop where
  defers : a.defers = a0.defers
  size : a.tmps.size = 101
  rest : ∀ t, (∀ j, j < 52 → dst j ≠ t) → a.tmps.getD t undef = a0.tmps.getD t undef
  good : ∀ j, j < 52 → L.getD j true = true → Good I j (a.tmps.getD (dst j) undef) w
  set : SetAt w I.su I.s
  la : I.ga < w.heap.size
  lb : I.gb < w.heap.size
  ca : w.cell? ⟨I.ga, 0, none⟩ = some (.int .i64 I.a.1) ∧ w.cell? ⟨I.ga, 1, none⟩ = some (.int .i64 I.a.2)
  cb : w.cell? ⟨I.gb, 0, none⟩ = some (.int .i64 I.b.1) ∧ w.cell? ⟨I.gb, 1, none⟩ = some (.int .i64 I.b.2)
  below : Below w0.heap.size w0 w
theorem Inv.of {I : Ins} {w0 : World} {a0 : Act} {L : Array Bool} {a : Act} {w : World} (h : Inv I w0 a0 L a w) (hsz : L.size = 52) (j : Nat) (hj : j < 52) (hL : L.getD j false = true) : Good I j (a.tmps.getD (dst j) undef) w :=
  h.good j hj (by rw [getD_any L j (by omega) true false]; exact hL)
theorem dst_inj (i j : Nat) (hi : i < 52) (hj : j < 52) (h : dst i = dst j) : i = j := by
  unfold dst at h
  split at h <;> split at h <;> omega
theorem dst_lt (i : Nat) (hi : i < 52) : dst i < 101 := by unfold dst; split <;> omega

theorem inv_put {I : Ins} {w0 : World} {a0 : Act} {L : Array Bool} {a : Act} {w w' : World} {i : Nat} {v : Value} (hI : Inv I w0 a0 L a w) (hsz : L.size = 52) (hi : i < 52) (hb : Below w.heap.size w w') (hgood : Good I i v w') :
    Inv I w0 a0 (L.setIfInBounds i true) (a.put (some (dst i)) v) w' := by
  have hlt : dst i < a.tmps.size := by rw [hI.size]; exact dst_lt i hi
  refine ⟨hI.defers, by rw [put_size]; exact hI.size, fun t ht => ?_, fun j hj hL => ?_, hI.set.below hb, Nat.lt_of_lt_of_le hI.la hb.size, Nat.lt_of_lt_of_le hI.lb hb.size, ?_, ?_, hI.below.trans (hb.mono hI.below.size)⟩
  · rw [put_get _ _ _ _ hlt, if_neg (fun e => ht i hi e.symm)]; exact hI.rest t ht
  · rw [put_get _ _ _ _ hlt]
    rw [getD_set _ _ _ _ (by omega)] at hL
    by_cases e : j = i
    · subst e; rw [if_pos rfl]; exact hgood
    · rw [if_neg e] at hL
      rw [if_neg (fun h => e (dst_inj j i hj hi h))]
      exact (hI.good j hj hL).below hb
  · rw [hb.cell (p := ⟨I.ga, 0, none⟩) hI.la, hb.cell (p := ⟨I.ga, 1, none⟩) hI.la]; exact hI.ca
  · rw [hb.cell (p := ⟨I.gb, 0, none⟩) hI.lb, hb.cell (p := ⟨I.gb, 1, none⟩) hI.lb]; exact hI.cb

section
variable {ops : Array Oper} {Q : Exit → Act → World → Prop} {I : Ins} {w0 : World} {a0 : Act} {L : Array Bool} {a : Act} {w : World} {i : Nat} {o : Oper}

theorem wanted_none (hg : o.guard = none) : Region.wanted o (yielded ops a.tmps) = true := by simp [Region.wanted, hg]
theorem wanted_at {k d : Nat} {ok : Oper} (hg : o.guard = some (k, true)) (hk : ops[k]? = some ok) (hd : ok.dst = some d) (hs : d < a.tmps.size) (hv : a.tmps.getD d undef = .bool true) : Region.wanted o (yielded ops a.tmps) = true := by
  have h1 : a.tmps[d]? = some (.bool true) := by
    rw [Array.getD_eq_getD_getElem?, Array.getElem?_eq_getElem hs] at hv
    rw [Array.getElem?_eq_getElem hs]
    simpa using hv
  simp [Region.wanted, hg, yielded, hk, hd, h1]

theorem stepRun {v : Value} (hI : Inv I w0 a0 L a w) (hsz : L.size = 52) (hi : i < 52) (ho : ops[i]? = some o) (hw : Region.wanted o (yielded ops a.tmps) = true) (hd : o.dst = some (dst i))
    (hr : (execOp a.eval o).run Try.prog w = .ok (.value v) w) (hgood : Good I i v w) : wpOp Try.prog ops Q i (Inv I w0 a0 (L.setIfInBounds i true)) a w := by
  unfold wpOp
  rw [ho]
  simp only [hw, if_true]
  refine .inl ?_
  unfold Oper.wp
  rw [hr, Oper.upon_value, hd]
  exact inv_put hI hsz hi (Below.refl _ _) hgood
theorem stepCall {f : FuncId} {args : Array Value} (hI : Inv I w0 a0 L a w) (hsz : L.size = 52) (hi : i < 52) (ho : ops[i]? = some o) (hw : Region.wanted o (yielded ops a.tmps) = true) (hd : o.dst = some (dst i))
    (hr : (execOp a.eval o).run Try.prog w = .ok (.enter f args) w) (hc : Calls Try.prog f args w fun e w' => ∃ v, e = .returned v ∧ Good I i v w' ∧ Below w.heap.size w w') : wpOp Try.prog ops Q i (Inv I w0 a0 (L.setIfInBounds i true)) a w := by
  unfold wpOp
  rw [ho]
  simp only [hw, if_true]
  refine .inl ?_
  unfold Oper.wp
  rw [hr, Oper.upon_enter]
  refine hc.mono ?_
  rintro e w' ⟨v, rfl, hg, hb⟩
  show Inv _ _ _ _ _ _
  rw [hd]
  exact inv_put hI hsz hi hb hg
theorem addArm (hI : Inv I w0 a0 L a w) (hsz : L.size = 52) (hi : i < 52) (ho : ops[i]? = some o) (hw : Region.wanted o (yielded ops a.tmps) = true) (hd : o.dst = some (dst i)) {x y : Operand} {ts : Array TypeId}
    (hop : o.op = .call { callee := .value (.func 17), args := #[x, y], argTypes := ts }) {S T : List Span} {c : Span} (hS : SetAt w (a.eval x) S) (hy : a.eval y = agg c) (hc : Small c)
    (hT : Canon T) (hm : ∀ n, Mem T n ↔ Mem S n ∨ Mem [c] n) (hk : known I i = none) (hs : setOf I i = some T) : wpOp Try.prog ops Q i (Inv I w0 a0 (L.setIfInBounds i true)) a w := by
  refine stepCall hI hsz hi ho hw hd (run_call2 _ _ _ _ hop rfl (enters_of Try.func17 (by kernel_rfl) rfl)) ?_
  rw [hy]
  refine (add S c _ w hS hc).mono ?_
  rintro e w' ⟨u, s', rfl, hr, hs', hb⟩
  obtain rfl : s' = T := canon_unique _ _ hs'.1 hT fun n => by rw [hs'.2.1 n, mem_append, hm n]
  exact ⟨u, rfl, Good.ofSet hk hs (setAt_of hr hs'.1 hs'.2.2.2), hb⟩
theorem dropArm (hI : Inv I w0 a0 L a w) (hsz : L.size = 52) (hi : i < 52) (ho : ops[i]? = some o) (hw : Region.wanted o (yielded ops a.tmps) = true) (hd : o.dst = some (dst i)) {x y : Operand} {ts : Array TypeId}
    (hop : o.op = .call { callee := .value (.func 18), args := #[x, y], argTypes := ts }) {S T : List Span} {c : Span} (hS : SetAt w (a.eval x) S) (hy : a.eval y = agg c) (hc : Small c)
    (hT : Canon T) (hm : ∀ n, Mem T n ↔ Mem S n ∧ ¬ Mem [c] n) (hk : known I i = none) (hs : setOf I i = some T) : wpOp Try.prog ops Q i (Inv I w0 a0 (L.setIfInBounds i true)) a w := by
  refine stepCall hI hsz hi ho hw hd (run_call2 _ _ _ _ hop rfl (enters_of Try.func18 (by kernel_rfl) rfl)) ?_
  rw [hy]
  refine (drop S c _ w hS hc).mono ?_
  rintro e w' ⟨u, s', rfl, hr, hm', hb⟩
  obtain rfl : s' = T := canon_unique _ _ hr.canon hT fun n => by rw [hm' n, hm n]
  exact ⟨u, rfl, Good.ofSet hk hs hr, hb⟩
theorem gapsArm (hI : Inv I w0 a0 L a w) (hsz : L.size = 52) (hi : i < 52) (ho : ops[i]? = some o) (hw : Region.wanted o (yielded ops a.tmps) = true) (hd : o.dst = some (dst i)) {x y : Operand} {ts : Array TypeId}
    (hop : o.op = .call { callee := .value (.func 19), args := #[x, y], argTypes := ts }) {S T : List Span} {c : Span} (hS : SetAt w (a.eval x) S) (hy : a.eval y = agg c) (hc : Small c)
    (hT : Canon T) (hm : ∀ n, Mem T n ↔ Mem [c] n ∧ ¬ Mem S n) (hk : known I i = none) (hs : setOf I i = some T) : wpOp Try.prog ops Q i (Inv I w0 a0 (L.setIfInBounds i true)) a w := by
  refine stepCall hI hsz hi ho hw hd (run_call2 _ _ _ _ hop rfl (enters_of Try.func19 (by kernel_rfl) rfl)) ?_
  rw [hy]
  refine (gaps S c _ w hS hc).mono ?_
  rintro e w' ⟨u, s', rfl, hr, hm', hb⟩
  obtain rfl : s' = T := canon_unique _ _ hr.canon hT fun n => by rw [hm' n, hm n]
  exact ⟨u, rfl, Good.ofSet hk hs hr, hb⟩
theorem lenArm (hI : Inv I w0 a0 L a w) (hsz : L.size = 52) (hi : i < 52) (ho : ops[i]? = some o) (hw : Region.wanted o (yielded ops a.tmps) = true) (hd : o.dst = some (dst i)) {x : Operand} {ts : Array TypeId}
    (hop : o.op = .call { callee := .value (.func 22), args := #[x], argTypes := ts }) {S : List Span} (hS : SetAt w (a.eval x) S)
    (hk : known I i = some (.int .i64 (lenOf S))) (hs : setOf I i = none) : wpOp Try.prog ops Q i (Inv I w0 a0 (L.setIfInBounds i true)) a w := by
  refine stepCall hI hsz hi ho hw hd (run_call1 _ _ _ hop rfl (enters_of Try.func22 (by kernel_rfl) rfl)) ?_
  refine (len S _ w hS.wide).mono ?_
  rintro e w' ⟨rfl, hb⟩
  exact ⟨_, rfl, Good.ofKnown hk hs rfl, hb⟩
theorem sameArm (hI : Inv I w0 a0 L a w) (hsz : L.size = 52) (hi : i < 52) (ho : ops[i]? = some o) (hw : Region.wanted o (yielded ops a.tmps) = true) (hd : o.dst = some (dst i)) {x y : Operand} {ts : Array TypeId}
    (hop : o.op = .call { callee := .value (.func 15), args := #[x, y], argTypes := ts }) {S : List Span} (hS : SetAt w (a.eval x) S) (hS' : SetAt w (a.eval y) S)
    (hk : known I i = some (.bool true)) (hs : setOf I i = none) : wpOp Try.prog ops Q i (Inv I w0 a0 (L.setIfInBounds i true)) a w := by
  refine stepCall hI hsz hi ho hw hd (run_call2 _ _ _ _ hop rfl (enters_of Try.func15 (by kernel_rfl) rfl)) ?_
  refine (same S S _ _ w hS.row hS'.row).mono ?_
  rintro e w' ⟨rfl, q, rfl⟩
  rw [decide_eq_true rfl]
  exact ⟨_, rfl, Good.ofKnown hk hs rfl, below_drewN' (Below.refl _ _) q⟩
end
end Go.Proofs.Ytimmineopkmdmaa.Ap
