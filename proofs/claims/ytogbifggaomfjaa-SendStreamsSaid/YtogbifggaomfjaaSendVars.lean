/- Package send's Vars. Conditions: the sender is the law's own, nothing is to go again. -/
import Derived.Test.YtogbifggaomfjaaSendNext
import Derived.Laws.Rows
namespace Go.Proofs.Ytogbifggaomfjaa
open Go.RowKit Go.Maps
set_option linter.unusedVariables false
variable {w0 w w' : World} {gs r mb most n : Nat} {S S' : Nat → Prop} {s a ms ps pa polls out : Int} {l l' : List Value} {ks : List Int}

theorem infoNumS : (Try.prog.info? 24).map (fun i => (i.zero, i.size, i.bytes)) = some (some (.int .u32 0), 1, 4) := by kernel_rfl
theorem wpList_append_none {P : Program} (w : World) {ops : Array Oper} {rest : List Oper} {o : Oper} {a : Act} {Q : Exit → Act → World → Prop}
    (hg : o.guard = none) (s x : Operand) (t : TypeId) (hop : o.op = Op.call { callee := Callee.builtin Builtin.append, args := #[s, x], argTypes := #[t, t] })
    (e : TypeId) (i : TypeInfo) (ht : P.underlying t = some (.slice e)) (hi : P.info? e = some i) (hs : a.eval s = .slice none 0 0) (hx : a.eval x = .slice none 0 0)
    (hK : wpList P ops Q rest (a.put o.dst (.slice none 0 0)) w) : wpList P ops Q (o :: rest) a w := by
  have hrun : (Builtin.append_ #[t, t] o.type #[.slice none 0 0, .slice none 0 0]).run P w = .ok (.slice none 0 0) w := by
    simp [Builtin.append_, run_underlying ht, sizeOf, typeInfo, hi, Builtin.lenOf, Builtin.firstCells]
  refine wpList_plain hg fun K hK' => ?_
  unfold Oper.wp
  simp [execOp, hop, resolve, invoke, builtin, hs, hx, hrun, Result.andThen]
  exact hK' _ _ hK

theorem still_len {H : Type} {P : Program} {ops : Array Oper} {w : World} {Q : Act → Prop} {a : Act} {o : Oper} {rest : List Oper} (hg : o.guard = none) (m : Operand) (t : TypeId) (hop : o.op = Op.call { callee := Callee.builtin Builtin.len, args := #[m], argTypes := #[t] })
    (k e : TypeId) (ht : P.underlying t = some (.map k e)) (R : Value → Option (DataW H × List MemPlace)) (b n : Nat) (D : DataW H) (hm : a.eval m = .map (some b)) (hown : w.ownsMap P k R b n D)
    (hK : wpStill P ops w Q rest (a.put o.dst (.int .i64 (Maps.size D)))) : wpStill P ops w Q (o :: rest) a := by
  have hw : Region.wanted o (yielded ops a.tmps) = true := by simp [Region.wanted, hg]
  refine wpStill_step fun K hK' => ?_
  rw [if_pos hw]
  unfold Oper.still
  simp [execOp, hop, resolve, invoke, builtin, hm, hown.len ht o.type, Result.andThen, Oper.stillUpon]
  exact hK' _ hK

theorem snd_copied (w : World) : Calls Try.prog 84 #[.slice none 0 0] w fun e w' => e = .returned (.slice none 0 0) ∧ w' = w := by
  obtain ⟨i0, hi, hz0, hz1, hz2⟩ := info_parts infoNumS
  go_enter Try.func84, Try.ntmps84
  go_wp2_with (at_builtin; refine wpList_append_none _ rfl _ _ 26 rfl 24 i0 Try.underlying26 hi rfl rfl ?_)
  go_ret
  exact ⟨rfl, rfl⟩

theorem infoVars : (Try.prog.info? 86).map (·.size) = some 9 := by kernel_rfl
theorem vars_one (a1 a2 a3 a4 a5 a6 a7 a8 : Int) : (#[.int .u32 a1, .int .u32 a2, .int .u32 a3, .int .u32 a4, .int .u32 a5, .int .i64 a6, .int .i64 a7, .int .i64 a8, .slice none 0 0] : Array Value).all (·.oneCell') = true := by simp [Value.oneCell']

set_option maxHeartbeats 8000000 in
set_option maxRecDepth 100000 in
theorem snd_vars (h : SndAt w0 w gs r mb S s a ms ps pa polls out l most ks n) (hk : ks.Nodup) :
    Calls Try.prog 52 #[.pointer (some ⟨gs, 0, none⟩)] w fun e w' => e = .returned (.agg #[.int .u32 s, .int .u32 a, .int .u32 ms, .int .u32 ps, .int .u32 pa, .int .i64 out, .int .i64 (l.length : Int), .int .i64 (ks.length : Int), .slice none 0 0]) ∧ Below w.heap.size w w' := by
  obtain ⟨D, hD1, hD2⟩ := h.map
  have HSZ := Lib.hid (hD2.size hD1 hk)
  have hb1 := (Below.refl w.heap.size w).alloc (Nat.le_refl _) (.cells #[.int .u32 0, .int .u32 0, .int .u32 0, .int .u32 0, .int .u32 0, .int .i64 0, .int .i64 0, .int .i64 0, .slice none 0 0] 86)
  have hn := heap_alloc_new w (.cells #[.int .u32 0, .int .u32 0, .int .u32 0, .int .u32 0, .int .u32 0, .int .i64 0, .int .i64 0, .int .i64 0, .slice none 0 0] 86)
  have H1 := Lib.hid (h.below hb1)
  have HB1 := Lib.hid hb1
  have HN := Lib.hid hn
  have hmap : Try.prog.underlying 117 = some (.map 24 122) := Try.underlying117
  have HMD : Hid ((w.alloc (.cells #[.int .u32 0, .int .u32 0, .int .u32 0, .int .u32 0, .int .u32 0, .int .i64 0, .int .i64 0, .int .i64 0, .slice none 0 0] 86)).ownsMap Try.prog 24 anyElem mb n D) := ownsMap_blk hD1 (hb1.block _ hD1.lt)
  clear h hb1 hn hD1 hD2
  go_enter Try.func52, Try.ntmps52
  go_upto_region 1 with fail
  generalize w.alloc (.cells #[.int .u32 0, .int .u32 0, .int .u32 0, .int .u32 0, .int .u32 0, .int .i64 0, .int .i64 0, .int .i64 0, .slice none 0 0] 86) = W at *
  obtain ⟨c0, c1, c2, c3, c4, c5, c6, c7, c8, c9, f⟩ := H1.out.cells
  have HL : Hid (Calls Try.prog 82 #[.pointer (some ⟨r, 0, none⟩)] W.drew fun e w' => e = .returned (.int .i64 (l.length : Int)) ∧ w' = W.drew) := (string.len W.drew S r most l (H1.out.ring.drewN 1)).mono fun e w' hh => ⟨hh.1, hh.2.symm⟩
  have HC := Lib.hid (snd_copied W.drew)
  clear f
  refine wp_region_still_tail 40 (by kernel_rfl) (by kernel_rfl) ?_
  simp only [List.take_succ_cons, List.take_zero, List.drop_succ_cons, List.drop_zero]
  repeat still_step
  still_call HL.out
  repeat still_step
  refine still_len rfl _ _ rfl _ _ hmap anyElem mb n D rfl HMD.out ?_
  rw [HSZ.out]
  repeat still_step
  still_call HC.out
  repeat still_step
  refine wpStill_nil ?_
  change wpList _ _ _ _ _ W.drew
  have HV : Hid (W.drew.heap[w.heap.size]? = some (.cells #[.int .u32 0, .int .u32 0, .int .u32 0, .int .u32 0, .int .u32 0, .int .i64 0, .int .i64 0, .int .i64 0, .slice none 0 0] 86 (0, 0))) := HN.out
  have HBV := Lib.hid (below_setRow (HB1.out.drew) (Nat.le_refl _) #[.int .u32 s, .int .u32 a, .int .u32 ms, .int .u32 ps, .int .u32 pa, .int .i64 out, .int .i64 (l.length : Int), .int .i64 (ks.length : Int), .slice none 0 0])
  have Hend : Hid (∀ (tmps : Array Value) (_ : tmps.getD 2 undef = .pointer (some ⟨w.heap.size, 0, none⟩)), (results Try.f52 tmps).run Try.prog (W.drew.setRow w.heap.size #[.int .u32 s, .int .u32 a, .int .u32 ms, .int .u32 ps, .int .u32 pa, .int .i64 out, .int .i64 (l.length : Int), .int .i64 (ks.length : Int), .slice none 0 0]) = .ok (.agg #[.int .u32 s, .int .u32 a, .int .u32 ms, .int .u32 ps, .int .u32 pa, .int .i64 out, .int .i64 (l.length : Int), .int .i64 (ks.length : Int), .slice none 0 0]) (W.drew.setRow w.heap.size #[.int .u32 s, .int .u32 a, .int .u32 ms, .int .u32 ps, .int .u32 pa, .int .i64 out, .int .i64 (l.length : Int), .int .i64 (ks.length : Int), .slice none 0 0])) := fun tmps ht => results_cell_row (by kernel_rfl) tmps _ w.heap.size 86 #[.int .u32 s, .int .u32 a, .int .u32 ms, .int .u32 ps, .int .u32 pa, .int .i64 out, .int .i64 (l.length : Int), .int .i64 (ks.length : Int), .slice none 0 0] (0, 0) _ ht (setRow_heap _ _ _ _ _ _ HV.out) Try.underlying86 rfl infoVars
  clear c0 c1 c2 c3 c4 c5 c6 c7 c8 c9 HL HC H1 HB1 HN
  go_wp2_with (refine wpList_store_row rfl 86 (.tmp 2) (.tmp 42) rfl w.heap.size #[.int .u32 s, .int .u32 a, .int .u32 ms, .int .u32 ps, .int .u32 pa, .int .i64 out, .int .i64 (l.length : Int), .int .i64 (ks.length : Int), .slice none 0 0] rfl rfl 86 _ HV.out infoVars rfl (vars_one _ _ _ _ _ _ _ _) ?_)
  exact bodyPost_ret (Hend.out _ rfl) rfl ⟨rfl, HBV.out⟩
end Go.Proofs.Ytogbifggaomfjaa
