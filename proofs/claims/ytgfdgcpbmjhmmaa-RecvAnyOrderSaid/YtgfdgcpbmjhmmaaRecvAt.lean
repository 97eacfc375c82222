/- A receiver of the law's own, as it lies: its box, its buffer, its inbox and its gaps; what each write to it leaves. Plain facts; no condition. -/
import Derived.Test.YtgfdgcpbmjhmmaaRecvFns
import Derived.Test.YtgfdgcpbmjhmmaaSpanMath
import Derived.Test.YtgfdgcpbmjhmmaaAppendSrc
import Derived.Maps.OwnSet
import Derived.Deep.RegionLaw
import Derived.Deep.RegionHeld3
import Derived.Deep.CutBlock
import Derived.RegionTactic
import Derived.IntWalk
namespace Go.Proofs.Ytgfdgcpbmjhmmaa
open Go.RowKit Go.Maps Sp
set_option linter.unusedVariables false

/-- How gaps lie. -/
def gapCells (s : List Span) : List Value := s.flatMap fun x => [.int .i64 x.1, .int .i64 x.2]
def rcvRow (st window next behind most : Int) (mb : Nat) (inV unV : Value) : Array Value := #[.int .u32 st, .int .i64 window, .int .i64 next, .int .i64 behind, .int .i64 most, .map (some mb), inV, unV]
/-- A receiver of the law's own in block gr. -/
structure RcvAt (w0 w : World) (gr mb : Nat) (st window next behind most : Int) (bs : List (Int × ByteArray)) (nb : Nat) (inV : Value) (ib : List ByteArray) (unV : Value) (un : List Span) : Prop where
  box : w.heap[gr]? = some (.cells (rcvRow st window next behind most mb inV unV) 54 (0, 0))
  buf : BufIn w mb nb bs
  inb : w.ownsRow w0.heap.size 9 1 inV ib.length (ib.map Value.string)
  unt : w.ownsRow w0.heap.size 59 2 unV un.length (gapCells un)
  sep : gr ≠ mb ∧ inV.ownBlock ≠ some gr ∧ inV.ownBlock ≠ some mb ∧ unV.ownBlock ≠ some gr ∧ unV.ownBlock ≠ some mb ∧ ∀ b, inV.ownBlock = some b → unV.ownBlock ≠ some b
  low : w0.heap.size ≤ gr ∧ w0.heap.size ≤ mb
  nod : (bs.map (·.1)).Nodup
  bel : Below w0.heap.size w0 w
variable {w0 w w' : World} {gr mb nb : Nat} {st window next behind most : Int} {bs : List (Int × ByteArray)} {inV unV : Value} {ib : List ByteArray} {un : List Span}
theorem rblk_cell {w : World} {g : Nat} {cs : Array Value} {t : TypeId} (h : w.heap[g]? = some (.cells cs t (0, 0))) (i : Nat) : w.cell? ⟨g, i, none⟩ = cs[i]? := by
  simp [World.cell?, h]
theorem rblk_frozen {w : World} {g : Nat} {cs : Array Value} {t : TypeId} (h : w.heap[g]? = some (.cells cs t (0, 0))) (i : Nat) : w.frozen? ⟨g, i, none⟩ = false := by
  simp [World.frozen?, h]
theorem rblk_lt {w : World} {g : Nat} {o : Obj} (h : w.heap[g]? = some o) : g < w.heap.size := (Array.getElem?_eq_some_iff.1 h).1
theorem RcvAt.cells (h : RcvAt w0 w gr mb st window next behind most bs nb inV ib unV un) : RcvCells w gr st window next behind most mb inV unV :=
  ⟨by rw [rblk_cell h.box]; rfl, by rw [rblk_cell h.box]; rfl, by rw [rblk_cell h.box]; rfl, by rw [rblk_cell h.box]; rfl, by rw [rblk_cell h.box]; rfl, by rw [rblk_cell h.box]; rfl, by rw [rblk_cell h.box]; rfl, by rw [rblk_cell h.box]; rfl, fun i => rblk_frozen h.box i⟩
theorem RcvAt.lt (h : RcvAt w0 w gr mb st window next behind most bs nb inV ib unV un) : gr < w.heap.size := rblk_lt h.box
theorem RcvAt.lts (h : RcvAt w0 w gr mb st window next behind most bs nb inV ib unV un) : w0.heap.size ≤ w.heap.size := h.bel.size
theorem BufIn.lt (h : BufIn w mb nb bs) : mb < w.heap.size := by
  obtain ⟨D, h1, _⟩ := h
  exact h1.lt
theorem rOwnsMap_blk {H : Type} {P : Program} {k : TypeId} {R : Value → Option (DataW H × List MemPlace)} {w w' : World} {b n : Nat} {D : DataW H} (h : w.ownsMap P k R b n D) (e : w'.heap[b]? = w.heap[b]?) : w'.ownsMap P k R b n D := by
  obtain ⟨es, clock, hb, r⟩ := h
  exact ⟨es, clock, e.trans hb, r⟩
theorem BufIn.blk (h : BufIn w mb nb bs) (e : w'.heap[mb]? = w.heap[mb]?) : BufIn w' mb nb bs := by
  obtain ⟨D, h1, h2⟩ := h
  exact ⟨D, rOwnsMap_blk h1 e, h2⟩
theorem rrow_blk {base size n : Nat} {e : TypeId} {v : Value} {xs : List Value} (h : w.ownsRow base e size v n xs) (hb : ∀ g, v.ownBlock = some g → w'.heap[g]? = w.heap[g]?) : w'.ownsRow base e size v n xs := by
  refine ⟨h.1, ?_⟩
  rcases h.2 with hn | ⟨g, cap, cur, rfl, hb', hgg, rest⟩
  · exact .inl hn
  · refine .inr ⟨g, cap, cur, rfl, hb', ?_, rest⟩
    rw [hb g (by simp [Value.ownBlock])]
    exact hgg
/-- The blocks that are the receiver's. -/
def Mine (gr mb : Nat) (inV unV : Value) (k : Nat) : Prop := k = gr ∨ k = mb ∨ inV.ownBlock = some k ∨ unV.ownBlock = some k
theorem RcvAt.of (h : RcvAt w0 w gr mb st window next behind most bs nb inV ib unV un) (hk : ∀ k, Mine gr mb inV unV k → w'.heap[k]? = w.heap[k]?) (hb : Below w0.heap.size w0 w') : RcvAt w0 w' gr mb st window next behind most bs nb inV ib unV un :=
  ⟨by rw [hk gr (.inl rfl)]; exact h.box, h.buf.blk (hk mb (.inr (.inl rfl))), rrow_blk h.inb fun g hg => hk g (.inr (.inr (.inl hg))), rrow_blk h.unt fun g hg => hk g (.inr (.inr (.inr hg))), h.sep, h.low, h.nod, hb⟩
theorem RcvAt.mine_lt (h : RcvAt w0 w gr mb st window next behind most bs nb inV ib unV un) {k : Nat} (hk : Mine gr mb inV unV k) : k < w.heap.size ∧ w0.heap.size ≤ k := by
  rcases hk with rfl | rfl | e | e
  · exact ⟨h.lt, h.low.1⟩
  · exact ⟨h.buf.lt, h.low.2⟩
  · exact ⟨(h.inb.lt _ e).2, (h.inb.lt _ e).1⟩
  · exact ⟨(h.unt.lt _ e).2, (h.unt.lt _ e).1⟩
theorem RcvAt.below (h : RcvAt w0 w gr mb st window next behind most bs nb inV ib unV un) (hb : Below w.heap.size w w') : RcvAt w0 w' gr mb st window next behind most bs nb inV ib unV un :=
  h.of (fun k hk => hb.block k (h.mine_lt hk).1) (h.bel.trans (hb.mono h.bel.size))
theorem RcvAt.drewN (h : RcvAt w0 w gr mb st window next behind most bs nb inV ib unV un) (q : Nat) : RcvAt w0 (w.drewN q) gr mb st window next behind most bs nb inV ib unV un := h.below ⟨rfl, rfl, rfl, Nat.le_refl _, fun _ _ => rfl⟩
theorem RcvAt.drew (h : RcvAt w0 w gr mb st window next behind most bs nb inV ib unV un) : RcvAt w0 w.drew gr mb st window next behind most bs nb inV ib unV un := h.below ⟨rfl, rfl, rfl, Nat.le_refl _, fun _ _ => rfl⟩
theorem RcvAt.alloc (h : RcvAt w0 w gr mb st window next behind most bs nb inV ib unV un) (o : Obj) : RcvAt w0 (w.alloc o) gr mb st window next behind most bs nb inV ib unV un := h.below ((Below.refl _ _).alloc (Nat.le_refl _) o)
theorem rset_heap {w : World} {g : Nat} {cs : Array Value} {t : TypeId} (h : w.heap[g]? = some (.cells cs t (0, 0))) (i : Nat) (u : Value) : (w.setCell ⟨g, i, none⟩ u).heap[g]? = some (.cells (cs.setIfInBounds i u) t (0, 0)) := by
  simp [World.setCell, Array.getElem?_modify, h]
/-- A store into the receiver's own numbers. -/
theorem RcvAt.store (h : RcvAt w0 w gr mb st window next behind most bs nb inV ib unV un) (i : Nat) (v : Value) {next' behind' most' : Int} (e : (rcvRow st window next behind most mb inV unV).setIfInBounds i v = rcvRow st window next' behind' most' mb inV unV) : RcvAt w0 (w.setCell ⟨gr, i, none⟩ v) gr mb st window next' behind' most' bs nb inV ib unV un := by
  have hb : ∀ k, k ≠ gr → (w.setCell ⟨gr, i, none⟩ v).heap[k]? = w.heap[k]? := fun k hk => Below.heap_setCell _ _ _ _ (by exact hk)
  refine ⟨by rw [rset_heap h.box, e], h.buf.blk (hb mb fun e => h.sep.1 e.symm), rrow_blk h.inb fun g hg => hb g fun e => h.sep.2.1 (e ▸ hg), rrow_blk h.unt fun g hg => hb g fun e => h.sep.2.2.2.1 (e ▸ hg), h.sep, h.low, h.nod, h.bel.setCell (p := ⟨gr, i, none⟩) h.low.1 v⟩
/-- A write to the receiver's map. -/
theorem RcvAt.mapped (h : RcvAt w0 w gr mb st window next behind most bs nb inV ib unV un) {bs' : List (Int × ByteArray)} {nb' : Nat} (hm : BufIn w' mb nb' bs') (hn : (bs'.map (·.1)).Nodup) (hg : w.grownBy w' (some mb)) : RcvAt w0 w' gr mb st window next behind most bs' nb' inV ib unV un := by
  have hb : ∀ k, k < w.heap.size → k ≠ mb → w'.heap[k]? = w.heap[k]? := fun k hk hne => hg.block k hk (by simp; exact hne)
  refine ⟨by rw [hb gr h.lt h.sep.1]; exact h.box, hm, rrow_blk h.inb fun g hg => hb g (h.inb.lt g hg).2 fun e => h.sep.2.2.1 (e ▸ hg), rrow_blk h.unt fun g hg => hb g (h.unt.lt g hg).2 fun e => h.sep.2.2.2.2.1 (e ▸ hg), h.sep, h.low, hn, ?_⟩
  exact h.bel.grown hg h.bel.size fun j hj => by cases hj; exact h.low.2
/-- A new inbox. -/
theorem RcvAt.inbox (h : RcvAt w0 w gr mb st window next behind most bs nb inV ib unV un) {inV' : Value} {ib' : List ByteArray} (hown : w'.ownsRow w0.heap.size 9 1 inV' ib'.length (ib'.map Value.string)) (hg : w.grownBy w' inV.ownBlock) (hv : inV'.ownBlock = inV.ownBlock ∨ ∃ b, inV'.ownBlock = some b ∧ w.heap.size ≤ b) : RcvAt w0 (w'.setCell ⟨gr, 6, none⟩ inV') gr mb st window next behind most bs nb inV' ib' unV un := by
  have hb1 : ∀ k, k < w.heap.size → inV.ownBlock ≠ some k → w'.heap[k]? = w.heap[k]? := fun k hk hne => hg.block k hk (fun e => hne e.symm)
  have hb2 : ∀ k, k ≠ gr → (w'.setCell ⟨gr, 6, none⟩ inV').heap[k]? = w'.heap[k]? := fun k hk => Below.heap_setCell _ _ _ _ (by exact hk)
  have hbox : w'.heap[gr]? = some (.cells (rcvRow st window next behind most mb inV unV) 54 (0, 0)) := by rw [hb1 gr h.lt h.sep.2.1]; exact h.box
  have hne : ∀ k, (k = gr ∨ k = mb ∨ unV.ownBlock = some k) → inV'.ownBlock ≠ some k := by
    intro k hk e
    rcases hv with e2 | ⟨b2, e2, e3⟩
    · rw [e2] at e
      rcases hk with rfl | rfl | e4
      · exact h.sep.2.1 e
      · exact h.sep.2.2.1 e
      · exact h.sep.2.2.2.2.2 k e e4
    · rw [e2] at e
      injection e with e
      subst e
      have := h.mine_lt (k := b2) (hk.elim .inl fun x => .inr (x.elim .inl fun x => .inr (.inr x)))
      omega
  refine ⟨by rw [rset_heap hbox]; rfl, ?_, ?_, ?_, ⟨h.sep.1, hne gr (.inl rfl), hne mb (.inr (.inl rfl)), h.sep.2.2.2.1, h.sep.2.2.2.2.1, fun b e e2 => hne b (.inr (.inr e2)) e⟩, h.low, h.nod, ?_⟩
  · exact h.buf.blk (by rw [hb2 mb fun e => h.sep.1 e.symm, hb1 mb h.buf.lt h.sep.2.2.1])
  · exact rrow_blk hown fun g hg => hb2 g fun e => hne gr (.inl rfl) (e ▸ hg)
  · exact rrow_blk h.unt fun g hg => by rw [hb2 g fun e => h.sep.2.2.2.1 (e ▸ hg), hb1 g (h.unt.lt g hg).2 fun e => h.sep.2.2.2.2.2 g e hg]
  · exact (h.bel.grown hg h.bel.size fun j hj => (h.inb.lt j hj).1).setCell (p := ⟨gr, 6, none⟩) h.low.1 inV'
/-- New gaps. -/
theorem RcvAt.gaps (h : RcvAt w0 w gr mb st window next behind most bs nb inV ib unV un) {unV' : Value} {un' : List Span} (hown : w'.ownsRow w0.heap.size 59 2 unV' un'.length (gapCells un')) (hg : w.grownBy w' unV.ownBlock) (hv : unV'.ownBlock = unV.ownBlock ∨ ∃ b, unV'.ownBlock = some b ∧ w.heap.size ≤ b) : RcvAt w0 (w'.setCell ⟨gr, 7, none⟩ unV') gr mb st window next behind most bs nb inV ib unV' un' := by
  have hb1 : ∀ k, k < w.heap.size → unV.ownBlock ≠ some k → w'.heap[k]? = w.heap[k]? := fun k hk hne => hg.block k hk (fun e => hne e.symm)
  have hb2 : ∀ k, k ≠ gr → (w'.setCell ⟨gr, 7, none⟩ unV').heap[k]? = w'.heap[k]? := fun k hk => Below.heap_setCell _ _ _ _ (by exact hk)
  have hbox : w'.heap[gr]? = some (.cells (rcvRow st window next behind most mb inV unV) 54 (0, 0)) := by rw [hb1 gr h.lt h.sep.2.2.2.1]; exact h.box
  have hne : ∀ k, (k = gr ∨ k = mb ∨ inV.ownBlock = some k) → unV'.ownBlock ≠ some k := by
    intro k hk e
    rcases hv with e2 | ⟨b2, e2, e3⟩
    · rw [e2] at e
      rcases hk with rfl | rfl | e4
      · exact h.sep.2.2.2.1 e
      · exact h.sep.2.2.2.2.1 e
      · exact h.sep.2.2.2.2.2 k e4 e
    · rw [e2] at e
      injection e with e
      subst e
      have := h.mine_lt (k := b2) (hk.elim .inl fun x => .inr (x.elim .inl fun x => .inr (.inl x)))
      omega
  refine ⟨by rw [rset_heap hbox]; rfl, ?_, ?_, ?_, ⟨h.sep.1, h.sep.2.1, h.sep.2.2.1, hne gr (.inl rfl), hne mb (.inr (.inl rfl)), fun b e e2 => hne b (.inr (.inr e)) e2⟩, h.low, h.nod, ?_⟩
  · exact h.buf.blk (by rw [hb2 mb fun e => h.sep.1 e.symm, hb1 mb h.buf.lt h.sep.2.2.2.2.1])
  · exact rrow_blk h.inb fun g hg => by rw [hb2 g fun e => h.sep.2.1 (e ▸ hg), hb1 g (h.inb.lt g hg).2 fun e => h.sep.2.2.2.2.2 g hg e]
  · exact rrow_blk hown fun g hg => hb2 g fun e => hne gr (.inl rfl) (e ▸ hg)
  · exact (h.bel.grown hg h.bel.size fun j hj => (h.unt.lt j hj).1).setCell (p := ⟨gr, 7, none⟩) h.low.1 unV'

theorem zeroRUnit (w : World) : (zeroValue 56).run Try.prog w = .ok (.agg #[.string ⟨#[]⟩]) w := by kernel_rfl
def pick (bs : List (Int × ByteArray)) (x : Int) : ByteArray := match bs.find? (fun p => decide (p.1 = x)) with
  | some p => p.2
  | none => ⟨#[]⟩
theorem pick_in {bs : List (Int × ByteArray)} {x : Int} (h : x ∈ bs.map (·.1)) : (x, pick bs x) ∈ bs := by
  obtain ⟨p, hp, rfl⟩ := List.mem_map.1 h
  unfold pick
  cases hf : bs.find? (fun q => decide (q.1 = p.1)) with
  | none =>
    have := List.find?_eq_none.1 hf p hp
    simp at this
  | some q =>
    have h1 := List.find?_some hf
    have h2 := List.mem_of_find?_eq_some hf
    simp at h1
    obtain ⟨a, b⟩ := q
    simp at h1
    subst h1
    exact h2
theorem pick_none {bs : List (Int × ByteArray)} {x : Int} (h : ¬ x ∈ bs.map (·.1)) : pick bs x = ⟨#[]⟩ := by
  unfold pick
  cases hf : bs.find? (fun q => decide (q.1 = x)) with
  | none => rfl
  | some q =>
    have h1 := List.find?_some hf
    have h2 := List.mem_of_find?_eq_some hf
    simp at h1
    exact absurd (List.mem_map.2 ⟨q, h2, h1⟩) h
/-- What is looked up in the buffer. -/
theorem BufIn.look (h : BufIn w mb nb bs) (x : Int) (hx : -1099511627776 ≤ x ∧ x ≤ 1099511627776) : (Instr.lookup 51 (.map (some mb)) (.int .i64 x) true).run Try.prog w = .ok (.tuple #[.agg #[.string (pick bs x)], .bool (decide (x ∈ bs.map (·.1)))]) w := by
  obtain ⟨D, h1, h2⟩ := h
  have hkey : keyOf Try.prog 3 (.int .i64 x) = some (.int .i64 x) := keyOf_int_mk Try.underlying3 (WalkArith.wf_i64 (by omega))
  obtain ⟨v, ps, hr, hv⟩ := h1.look_ok rcvKey Try.underlying51 (zeroRUnit w) (ML.msgElem_mk ⟨#[]⟩) hkey
  obtain ⟨m, rfl, hm⟩ := ML.msgElem_inv hv
  rw [h2.has] at hr
  have h4 : D.atKey (.int .i64 x) (ML.msgDat ⟨#[]⟩) = ML.msgDat m := congrArg Prod.fst hm
  have e : m = pick bs x := by
    by_cases hin : x ∈ bs.map (·.1)
    · have h3 := h2.2 (x, pick bs x) (pick_in hin) (ML.msgDat ⟨#[]⟩)
      exact ML.msgDat_inj (h4.symm.trans h3)
    · have h3 : Maps.has D (.int .i64 x) = false := by rw [h2.has]; exact decide_eq_false hin
      rw [atKey_of_not_has h3] at h4
      rw [pick_none hin]
      exact (ML.msgDat_inj h4).symm
  rw [← e]
  exact hr
theorem BufIn.drew (h : BufIn w mb nb bs) : BufIn w.drew mb nb bs := h.blk rfl
theorem BufIn.alloc (h : BufIn w mb nb bs) (o : Obj) : BufIn (w.alloc o) mb nb bs := h.blk (by
  have := ((Below.refl w.heap.size w).alloc (Nat.le_refl _) o).block mb h.lt
  exact this)
end Go.Proofs.Ytgfdgcpbmjhmmaa
