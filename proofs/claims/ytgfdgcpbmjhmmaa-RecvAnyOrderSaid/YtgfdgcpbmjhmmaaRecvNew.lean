/- Package recv's New and Vars. Conditions: the receiver is the law's own, its numbers are small. -/
import Derived.Test.YtgfdgcpbmjhmmaaRecvAt
import Derived.Deep.QuietTactic
import Derived.Deep.OwnRows
namespace Go.Proofs.Ytgfdgcpbmjhmmaa
open Go.RowKit Go.Maps Sp
set_option linter.unusedVariables false
variable {w0 w w' : World} {gr mb nb : Nat} {st window next behind most : Int} {bs : List (Int × ByteArray)} {inV unV : Value} {ib : List ByteArray} {un : List Span}

set_option maxHeartbeats 2000000 in
set_option maxRecDepth 100000 in
theorem rcv_new (st q : Int) (w : World) (h1 : 0 ≤ st ∧ st < 4294967296) (hq : 1 ≤ q ∧ q ≤ 64) :
    Calls Try.prog 8 #[.int .u32 st, .int .i64 q] w fun e w' => ∃ gr mb, e = .returned (.pointer (some ⟨gr, 0, none⟩)) ∧ RcvAt w w' gr mb st q 0 0 q [] 0 (.slice none 0 0) [] (.slice none 0 0) [] := by
  have hmm := @run_makeMap Try.prog
  obtain ⟨q1, q2⟩ := hq
  obtain ⟨s1, s2⟩ := h1
  go_enter Try.func8, Try.ntmps8
  go_wp2_with fail
  go_ret
  have hb2 := ((Below.refl w.heap.size w).alloc (Nat.le_refl _) (.map #[] 0)).alloc (by simp) (.cells (rcvRow st q 0 0 q w.heap.size (.slice none 0 0) (.slice none 0 0)) 54)
  have hn := heap_alloc_new (w.alloc (.map #[] 0)) (.cells (rcvRow st q 0 0 q w.heap.size (.slice none 0 0) (.slice none 0 0)) 54)
  simp only [World.size_alloc] at hn
  have hm := (World.ownsMap_made (H := Unit) w Try.prog 3 ML.msgElem).alloc (.cells (rcvRow st q 0 0 q w.heap.size (.slice none 0 0) (.slice none 0 0)) 54)
  refine ⟨w.heap.size + 1, w.heap.size, rfl, hn, ⟨_, hm, ML.Laid.nil⟩, World.ownsRow_nil _ _ _ _, World.ownsRow_nil _ _ _ _, ⟨by omega, by simp [Value.ownBlock], by simp [Value.ownBlock], by simp [Value.ownBlock], by simp [Value.ownBlock], fun b e => by simp [Value.ownBlock] at e⟩, ⟨by omega, Nat.le_refl _⟩, by simp, hb2⟩

theorem rstill_len {H : Type} {P : Program} {ops : Array Oper} {w : World} {Q : Act → Prop} {a : Act} {o : Oper} {rest : List Oper} (hg : o.guard = none) (m : Operand) (t : TypeId) (hop : o.op = Op.call { callee := Callee.builtin Builtin.len, args := #[m], argTypes := #[t] })
    (k e : TypeId) (ht : P.underlying t = some (.map k e)) (R : Value → Option (DataW H × List MemPlace)) (b n : Nat) (D : DataW H) (hm : a.eval m = .map (some b)) (hown : w.ownsMap P k R b n D)
    (hK : wpStill P ops w Q rest (a.put o.dst (.int .i64 (Maps.size D)))) : wpStill P ops w Q (o :: rest) a := by
  have hw : Region.wanted o (yielded ops a.tmps) = true := by simp [Region.wanted, hg]
  refine wpStill_step fun K hK' => ?_
  rw [if_pos hw]
  unfold Oper.still
  simp [execOp, hop, resolve, invoke, builtin, hm, hown.len ht o.type, Result.andThen, Oper.stillUpon]
  exact hK' _ hK
theorem rvars_one (a1 a2 a3 a4 a5 a6 : Int) : (#[.int .u32 a1, .int .u32 a2, .int .u32 a3, .int .i64 a4, .int .i64 a5, .int .i64 a6] : Array Value).all (·.oneCell') = true := by simp [Value.oneCell']
theorem infoRVars : (Try.prog.info? 34).map (·.size) = some 6 := by kernel_rfl
theorem rbelow_setRow {B : Nat} {w w' : World} (h : Below B w w') {g : Nat} (hg : B ≤ g) (cs : Array Value) : Below B w (w'.setRow g cs) :=
  ⟨h.os, h.tape, h.output, by rw [setRow_size]; exact h.size, fun i hi => by rw [setRow_other _ _ _ _ (by omega)]; exact h.block i hi⟩
theorem ownForm {w : World} {base n size : Nat} {e : TypeId} {v : Value} {l : List Value} (h : w.ownsRow base e size v n l) : ∃ A cap, v = .slice A n cap := by
  rcases h.2 with ⟨rfl, rfl⟩ | ⟨g, cap, cur, rfl, _, _, h1, h2, _⟩
  · exact ⟨none, 0, rfl⟩
  · exact ⟨_, cap, rfl⟩

set_option maxHeartbeats 8000000 in
set_option maxRecDepth 100000 in
theorem rcv_vars (h : RcvAt w0 w gr mb st window next behind most bs nb inV ib unV un) (hs : 0 ≤ st ∧ st < 4294967296) (hn : -1099511627776 ≤ next ∧ next ≤ 1099511627776) (hb : -1099511627776 ≤ behind ∧ behind ≤ 1099511627776) (hm : -1099511627776 ≤ most ∧ most ≤ 1099511627776) :
    Calls Try.prog 14 #[.pointer (some ⟨gr, 0, none⟩)] w fun e w' => e = .returned (.agg #[.int .u32 ((st + next) % 16777216), .int .u32 ((st + behind) % 16777216), .int .u32 ((st + most) % 16777216), .int .i64 (bs.length : Int), .int .i64 (ib.length : Int), .int .i64 (un.length : Int)]) ∧ Below w.heap.size w w' := by
  obtain ⟨D, hD1, hD2⟩ := h.buf
  have HSZ := Lib.hid (hD2.size rcvKey hD1 h.nod)
  obtain ⟨Ai, ci, rfl⟩ := ownForm h.inb
  obtain ⟨Au, cu, rfl⟩ := ownForm h.unt
  have hb1 := (Below.refl w.heap.size w).alloc (Nat.le_refl _) (.cells #[.int .u32 0, .int .u32 0, .int .u32 0, .int .i64 0, .int .i64 0, .int .i64 0] 34)
  have hn1 := heap_alloc_new w (.cells #[.int .u32 0, .int .u32 0, .int .u32 0, .int .i64 0, .int .i64 0, .int .i64 0] 34)
  have H1 := Lib.hid (h.below hb1)
  have HB1 := Lib.hid hb1
  have HN := Lib.hid hn1
  have hmap : Try.prog.underlying 51 = some (.map 3 56) := Try.underlying51
  have HMD : Hid ((w.alloc (.cells #[.int .u32 0, .int .u32 0, .int .u32 0, .int .i64 0, .int .i64 0, .int .i64 0] 34)).ownsMap Try.prog 3 ML.msgElem mb nb D) := rOwnsMap_blk hD1 (hb1.block _ hD1.lt)
  clear h hb1 hn1 hD1 hD2
  go_enter Try.func14, Try.ntmps14
  go_upto_region 1 with fail
  generalize w.alloc (.cells #[.int .u32 0, .int .u32 0, .int .u32 0, .int .i64 0, .int .i64 0, .int .i64 0] 34) = W at *
  obtain ⟨c0, c1, c2, c3, c4, c5, c6, c7, f⟩ := H1.out.cells
  have N1 := Lib.hid (rcv_number (H1.out.cells.drewN 1) hs next hn)
  have N2 := Lib.hid (rcv_number (H1.out.cells.drewN 1) hs behind hb)
  have N3 := Lib.hid (rcv_number (H1.out.cells.drewN 1) hs most hm)
  clear f
  refine wp_region_still_tail 34 (by kernel_rfl) (by kernel_rfl) ?_
  simp only [List.take_succ_cons, List.take_zero, List.drop_succ_cons, List.drop_zero]
  repeat still_step
  still_call N1.out
  repeat still_step
  still_call N2.out
  repeat still_step
  still_call N3.out
  repeat still_step
  refine rstill_len rfl _ _ rfl _ _ hmap ML.msgElem mb nb D rfl HMD.out ?_
  rw [HSZ.out]
  repeat still_step
  refine wpStill_nil ?_
  change wpList _ _ _ _ _ W.drew
  have HV : Hid (W.drew.heap[w.heap.size]? = some (.cells #[.int .u32 0, .int .u32 0, .int .u32 0, .int .i64 0, .int .i64 0, .int .i64 0] 34 (0, 0))) := HN.out
  have HBV := Lib.hid (rbelow_setRow (HB1.out.drew) (Nat.le_refl _) #[.int .u32 ((st + next) % 16777216), .int .u32 ((st + behind) % 16777216), .int .u32 ((st + most) % 16777216), .int .i64 (bs.length : Int), .int .i64 (ib.length : Int), .int .i64 (un.length : Int)])
  have Hend : Hid (∀ (tmps : Array Value) (_ : tmps.getD 2 undef = .pointer (some ⟨w.heap.size, 0, none⟩)), (results Try.f14 tmps).run Try.prog (W.drew.setRow w.heap.size #[.int .u32 ((st + next) % 16777216), .int .u32 ((st + behind) % 16777216), .int .u32 ((st + most) % 16777216), .int .i64 (bs.length : Int), .int .i64 (ib.length : Int), .int .i64 (un.length : Int)]) = .ok (.agg #[.int .u32 ((st + next) % 16777216), .int .u32 ((st + behind) % 16777216), .int .u32 ((st + most) % 16777216), .int .i64 (bs.length : Int), .int .i64 (ib.length : Int), .int .i64 (un.length : Int)]) (W.drew.setRow w.heap.size #[.int .u32 ((st + next) % 16777216), .int .u32 ((st + behind) % 16777216), .int .u32 ((st + most) % 16777216), .int .i64 (bs.length : Int), .int .i64 (ib.length : Int), .int .i64 (un.length : Int)])) := fun tmps ht => results_cell_row (by kernel_rfl) tmps _ w.heap.size 34 #[.int .u32 ((st + next) % 16777216), .int .u32 ((st + behind) % 16777216), .int .u32 ((st + most) % 16777216), .int .i64 (bs.length : Int), .int .i64 (ib.length : Int), .int .i64 (un.length : Int)] (0, 0) _ ht (setRow_heap _ _ _ _ _ _ HV.out) Try.underlying34 rfl infoRVars
  clear c0 c1 c2 c3 c4 c5 c6 c7 H1 HB1 HN N1 N2 N3
  go_wp2_with (refine wpList_store_row rfl 34 (.tmp 2) (.tmp 36) rfl w.heap.size #[.int .u32 ((st + next) % 16777216), .int .u32 ((st + behind) % 16777216), .int .u32 ((st + most) % 16777216), .int .i64 (bs.length : Int), .int .i64 (ib.length : Int), .int .i64 (un.length : Int)] rfl rfl 34 _ HV.out infoRVars rfl (rvars_one _ _ _ _ _ _) ?_)
  exact bodyPost_ret (Hend.out _ rfl) rfl ⟨rfl, HBV.out⟩
end Go.Proofs.Ytgfdgcpbmjhmmaa
