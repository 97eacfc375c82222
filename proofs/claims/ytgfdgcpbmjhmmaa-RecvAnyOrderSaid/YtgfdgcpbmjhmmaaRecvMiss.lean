/- Package recv's missing: the set of the places of a span that have nothing that came. Conditions: the receiver is the law's own, its places are near one another. -/
import Derived.Test.YtgfdgcpbmjhmmaaRecvData
import Derived.Test.YtgfdgcpbmjhmmaaSpanNew
import Derived.Maps.RangeWalk
namespace Go.Proofs.Ytgfdgcpbmjhmmaa
open Go.RowKit Go.Maps Sp
set_option linter.unusedVariables false
variable {w0 w w' : World} {gr mb nb : Nat} {st window next behind most : Int} {bs : List (Int × ByteArray)} {inV unV : Value} {ib : List ByteArray} {un : List Span}

/-- What has been gone over: the places that came, counted from R on. -/
def CameAt (next : Int) (ks : List Int) (left : Lit → Bool) (l : List Span) : Prop :=
  (∀ y ∈ l, ∃ x ∈ ks, y = (x - next, x - next + 1)) ∧ ∀ x ∈ ks, left (.int .i64 x) = true ∨ (x - next, x - next + 1) ∈ l
theorem CameAt.step {next : Int} {ks : List Int} {left : Lit → Bool} {l : List Span} (h : CameAt next ks left l) {x : Int} (hx : x ∈ ks) : CameAt next ks (fun z => left z && !z.sameKey (.int .i64 x)) (l ++ [(x - next, x - next + 1)]) := by
  refine ⟨fun y hy => ?_, fun y hy => ?_⟩
  · rcases List.mem_append.1 hy with hy | hy
    · exact h.1 y hy
    · simp at hy
      exact ⟨x, hx, hy⟩
  · by_cases e : y = x
    · subst e
      exact .inr (List.mem_append_right _ (by simp))
    · rcases h.2 y hy with h1 | h1
      · left
        show (left (.int .i64 y) && !(Lit.int .i64 y).sameKey (.int .i64 x)) = true
        rw [ML.sameInt, h1]
        simp [e]
      · exact .inr (List.mem_append_left _ h1)
theorem CameAt.mem {next : Int} {ks : List Int} {left : Lit → Bool} {l : List Span} (h : CameAt next ks left l) (h0 : ∀ z, left z = false) (n : Int) : Mem l n ↔ n + next ∈ ks := by
  constructor
  · rintro ⟨y, hy, h1, h2⟩
    obtain ⟨x, hx, rfl⟩ := h.1 y hy
    simp only at h1 h2
    rw [show n + next = x by omega]
    exact hx
  · intro hx
    rcases h.2 _ hx with h1 | h1
    · rw [h0] at h1; cases h1
    · exact ⟨_, h1, by simp only; omega, by simp only; omega⟩
theorem gap_row {w : World} {base : Nat} {v : Value} {l : List Span} (h : w.ownsRow base 59 2 v l.length (gapCells l)) (hl : l.length ≤ 100000) : SpRow w v l := by
  rcases h.2 with ⟨rfl, hz⟩ | ⟨g, cap, cur, rfl, hb, hg, h1, h2, h3, h4⟩
  · have : l = [] := List.eq_nil_of_length_eq_zero hz
    subst this
    exact spRow_nil w
  · refine ⟨_, cap, rfl, h1, h2, hl, .inr ⟨g, 0, rfl, rblk_lt hg, fun i x hx => ?_⟩⟩
    have hc := h.cells (g := g) rfl
    have e := encs_get l i x hx
    rw [show (0 : Nat) + i * 2 = i * 2 by omega]
    have c0 := hc (i * 2) _ e.1
    have c1 := hc (i * 2 + 1) _ e.2
    rw [Addr.add_lit, Nat.zero_add] at c0 c1
    exact ⟨c0, c1⟩
/-- What missing answers. -/
def MissOut (w : World) (next a b : Int) (ks : List Int) (e : Ending) (w' : World) : Prop := ∃ u o, e = .returned u ∧ SetAt w' u o ∧ (∀ n, Mem o n ↔ (max (a - next) 0 ≤ n ∧ n < b - next) ∧ ¬ n + next ∈ ks) ∧ Below w.heap.size w w' ∧ ∀ b, u.ownBlock = some b → w.heap.size ≤ b
def NearKeys (next : Int) (bs : List (Int × ByteArray)) : Prop := ∀ x ∈ bs.map (·.1), 0 ≤ x - next ∧ x - next ≤ 1000

set_option maxHeartbeats 8000000 in
set_option maxRecDepth 100000 in
theorem rcv_missing (h : RcvAt w0 w gr mb st window next behind most bs nb inV ib unV un) (hn : 0 ≤ next ∧ next ≤ 1000000) (hl : bs.length ≤ 1000) (hk : NearKeys next bs) (a b : Int) (ha : -4096 ≤ a - next ∧ a - next ≤ 4096) (hb : -4096 ≤ b - next ∧ b - next ≤ 4096) :
    Calls Try.prog 27 #[.pointer (some ⟨gr, 0, none⟩), .agg #[.int .i64 a, .int .i64 b]] w (MissOut w next a b (bs.map (·.1))) := by
  obtain ⟨i1, hi1, hg0, hg1, hg2⟩ := rinfo_parts infoGap
  have Hi1 := Lib.hid hi1
  have Hg0 := Lib.hid hg0
  have Hg1 := Lib.hid hg1
  have Hg2 := Lib.hid hg2
  clear hi1 hg0 hg1 hg2
  have HNK := Lib.hid hk
  have hbx := (Below.refl w.heap.size w).alloc (Nat.le_refl _) (.cells #[.int .i64 a, .int .i64 b] 59)
  have H1 := Lib.hid (h.below hbx)
  have HB1 := Lib.hid hbx
  have HX1 := Lib.hid (heap_alloc_new w (.cells #[.int .i64 a, .int .i64 b] 59))
  have hsz1 : (w.alloc (.cells #[.int .i64 a, .int .i64 b] 59)).heap.size = w.heap.size + 1 := by simp
  have HSZ1 := Lib.hid hsz1
  have hlo : Hid (∀ k, Mine gr mb inV unV k → k < w.heap.size) := fun k hk => (h.mine_lt hk).1
  obtain ⟨D, hD1, hD2⟩ := H1.out.buf
  have HSZ := Lib.hid (hD2.size rcvKey hD1 h.nod)
  have HD1 := Lib.hid hD1
  have HD2 := Lib.hid hD2
  clear h hbx hk hD1 hD2 hsz1
  go_enter Try.func27, Try.ntmps27
  go_upto_region 1 with fail
  generalize w.alloc (.cells #[.int .i64 a, .int .i64 b] 59) = W at *
  have c5 := H1.out.cells.c5
  go_wp2_with (at_range; refine wpList_range_own _ rfl _ _ rfl 3 56 rcvKey Try.underlying51 ML.msgElem mb nb D rfl HD1.out ?_; intro w1 hrg0 hg0 hs0)
  go_frame
  have hbw : Below W.heap.size W w1 := ⟨hg0.os, hg0.tape, hg0.output, hg0.size, fun k hk => hg0.block k hk (by simp)⟩
  have HW1 := Lib.hid (H1.out.below hbw)
  have HBW := Lib.hid (HB1.out.trans (hbw.mono HB1.out.size))
  have HXB : Hid (w1.heap[w.heap.size]? = some (.cells #[.int .i64 a, .int .i64 b] 59 (0, 0))) := (hbw.block _ (rblk_lt HX1.out)).trans HX1.out
  have HRG0 := Lib.hid hrg0
  have HS1 : Hid (W.heap.size + 1 ≤ w1.heap.size) := by show _ ≤ _; omega
  clear H1 HB1 HX1 HD1 c5 hg0 hs0 hbw hrg0
  go_loopw [5] (fun v0 wr => ∃ (v : Value) (left : Lit → Bool) (cnt : Nat) (l : List Span), v = v0 ∧ Hid (wr.ranges Try.prog 3 ML.msgElem mb W.heap.size nb D left cnt) ∧ Hid (RcvAt w0 wr gr mb st window next behind most bs nb inV ib unV un) ∧ Hid (wr.heap[w.heap.size]? = some (.cells #[.int .i64 a, .int .i64 b] 59 (0, 0))) ∧ Hid (Below w.heap.size w wr) ∧ Hid (wr.ownsRow (W.heap.size + 1) 59 2 v l.length (gapCells l)) ∧ Hid (CameAt next (bs.map (·.1)) left l) ∧ Hid (∀ z, left z = true → Maps.has D z = true) ∧ Hid (l.length + cnt ≤ bs.length) ∧ Hid (W.heap.size + 1 ≤ wr.heap.size)) (fun _ wr => wr.rangeLeft mb W.heap.size)
  case atStart =>
    refine ⟨_, Maps.has D, _, [], rfl, HRG0, HW1, HXB, HBW, World.ownsRow_nil _ _ _ _, ⟨(fun y hy => by cases hy), fun x hx => .inl (by rw [HD2.out.has]; exact decide_eq_true hx)⟩, fun z h => h, (by show _ ≤ _; rw [HSZ.out]; simp), HS1⟩
  case round =>
    obtain ⟨v, left, cnt, l, rfl, HRG, HRR, HBX, HBB, HOW, HCA, HLH, HLC, HS2⟩ := hrel
    clear HW1 HXB HBW HRG0 HS1
    go_wp2_with (at_next; refine wpList_next_ranges _ rfl _ rfl 3 rcvKey ML.msgElem (fun x : Int => Value.int .i64 x) (fun c : ByteArray => Value.agg #[.string c]) (fun key kl hkey => by obtain ⟨x, rfl, _⟩ := keyOf_int_inv Try.underlying3 hkey; exact ⟨x, rfl⟩) (fun v y hv => by obtain ⟨m, e, _⟩ := ML.msgElem_inv hv; exact ⟨m, e⟩) mb W.heap.size nb _ _ _ rfl HRG.out ?_ ?_)
    · intro hc0 hl0
      have HMEM := Lib.hid (HCA.out.mem hl0)
      have HSML : Hid (∀ y ∈ l, Small y) := fun y hy => by
        obtain ⟨x, hx, rfl⟩ := HCA.out.1 y hy
        have := HNK.out x hx
        unfold Small
        simp only
        omega
      clear HCA HRG HLH
      have hll : l.length ≤ 1000 := by have := HLC.out; omega
      have hsr := gap_row HOW.out (by omega)
      have HOF := Lib.hid (fun W (hW : Below wr.heap.size wr W) => of_ l v W (hsr.below hW) (by omega) (fun y hy => HSML.out y hy))
      obtain ⟨Av, cv, rfl⟩ := ownForm HOW.out
      have x0 : wr.cell? ⟨w.heap.size, 0, none⟩ = some (.int .i64 a) := by rw [rblk_cell HBX.out]; rfl
      have x1 : wr.cell? ⟨w.heap.size, 1, none⟩ = some (.int .i64 b) := by rw [rblk_cell HBX.out]; rfl
      have c2 := HRR.out.cells.c2
      have hw1 : IntKind.i64.wrap (a - next) = a - next := IntWalk.i64_in _ (by omega)
      have hw2 : IntKind.i64.wrap (b - next) = b - next := IntWalk.i64_in _ (by omega)
      go_upto_region 6 with fail
      have HGP := Lib.hid (fun s u W (hW : SetAt W u s) => gaps_new s (max (a - next) 0, b - next) u W hW (by unfold Small; simp only; omega))
      have hdr := (Below.refl wr.heap.size wr).drew
      have HDR := Lib.hid hdr
      have HX0 : Hid (∀ W, Below wr.heap.size wr W → W.cell? ⟨w.heap.size, 0, none⟩ = some (.int .i64 a) ∧ W.cell? ⟨w.heap.size, 1, none⟩ = some (.int .i64 b) ∧ W.cell? ⟨gr, 2, none⟩ = some (.int .i64 next)) := fun W hW => ⟨by rw [hW.cell (p := ⟨w.heap.size, 0, none⟩) (rblk_lt HBX.out)]; exact x0, by rw [hW.cell (p := ⟨w.heap.size, 1, none⟩) (rblk_lt HBX.out)]; exact x1, by rw [hW.cell (p := ⟨gr, 2, none⟩) HRR.out.lt]; exact c2⟩
      go_region_held3 (fun w' => w'.cell? ⟨w.heap.size, 0, none⟩ = some (.int .i64 a) ∧ w'.cell? ⟨w.heap.size, 1, none⟩ = some (.int .i64 b) ∧ w'.cell? ⟨gr, 2, none⟩ = some (.int .i64 next))
        (first | go_keep)
        (first
          | (go_at_call 33; (with_reducible refine (HOF.out _ HDR.out).mono ?_); rintro e wa ⟨u, s, rfl, hsp, hset, hba⟩
             have HBA := Lib.hid (HDR.out.trans hba)
             obtain ⟨Au, cu, eu, _⟩ := id hsp
             subst eu
             have HST := Lib.hid (SetAt.mk hsp hset.1 hset.2.2.2 (by have := hset.2.2.1; omega))
             obtain ⟨a0, a1, a2⟩ := HX0.out _ HBA.out
             have HSM := Lib.hid hset.2.1
             clear hba hsp hset)
          | (go_at_call 34; (with_reducible refine (HGP.out _ _ _ HST.out).mono ?_); rintro e wb ⟨u2, o, rfl, hso, hmo, hbb, hnw⟩
             obtain ⟨Au2, cu2, eu2⟩ := hso.form
             subst eu2
             have HBZ := Lib.hid (HBA.out.trans (hbb.mono HBA.out.size))
             have HSO := Lib.hid hso
             have HNW : Hid (∀ b, (Value.slice Au2 o.length cu2).ownBlock = some b → w.heap.size ≤ b) := fun b hb => Nat.le_trans (Nat.le_trans HBB.out.size HBA.out.size) (hnw b hb)
             have HMO := Lib.hid hmo
             obtain ⟨b0, b1, b2⟩ := HX0.out _ HBZ.out
             clear hbb hso hmo hnw)
          | fail)
      all_goals go_wp2_with fail
      all_goals go_ret
      all_goals
        refine ⟨_, o, rfl, HSO.out, fun n => ?_, HBB.out.trans (HBZ.out.mono HBB.out.size), HNW.out⟩
        rw [HMO.out n, HSM.out n, HMEM.out n, mem_one]
    · intro x cm kl yD yP w2 cnt' hkey hlk hv hat hrg hlt hgr hsz hen
      obtain ⟨x', ex, rfl, hwx⟩ := keyOf_int_inv Try.underlying3 hkey
      injection ex with _ ex
      subst ex
      have hin : x ∈ bs.map (·.1) := by
        have h1 := HLH.out _ hlk
        rw [HD2.out.has] at h1
        exact of_decide_eq_true h1
      have HIN := Lib.hid hin
      have HRG2 := Lib.hid hrg
      have hgn : ∀ k, k < wr.heap.size → k ≠ W.heap.size → w2.heap[k]? = wr.heap[k]? := fun k hk hne => hgr.block k hk (by simp; exact hne)
      have hWw : w.heap.size + 1 = W.heap.size := HSZ1.out.symm
      have hloS := HS2.out
      have H2 : Hid (RcvAt w0 w2 gr mb st window next behind most bs nb inV ib unV un) := HRR.out.of (fun k hk => hgn k (HRR.out.mine_lt hk).1 (by have := hlo.out k hk; omega)) (HRR.out.bel.grown hgr HRR.out.bel.size (fun j hj => by cases hj; have := HRR.out.low.1; have := hlo.out gr (.inl rfl); omega))
      have HBX2 : Hid (w2.heap[w.heap.size]? = some (.cells #[.int .i64 a, .int .i64 b] 59 (0, 0))) := (hgn _ (by omega) (by omega)).trans HBX.out
      have HBB2 : Hid (Below w.heap.size w w2) := HBB.out.grown hgr HBB.out.size (fun j hj => by cases hj; omega)
      have HOW2 : Hid (w2.ownsRow (W.heap.size + 1) 59 2 v l.length (gapCells l)) := rrow_blk HOW.out fun g hg => hgn g (HOW.out.lt g hg).2 (by have := (HOW.out.lt g hg).1; omega)
      have HCA2 := Lib.hid (HCA.out.step hin)
      have HLH2 : Hid (∀ z, (left z && !z.sameKey (.int .i64 x)) = true → Maps.has D z = true) := fun z hz => HLH.out z (by revert hz; cases left z <;> simp)
      have HLC2 : Hid (l.length + 1 + cnt' ≤ bs.length) := by have := HLC.out; show _ ≤ _; omega
      have HS3 : Hid (W.heap.size + 1 ≤ w2.heap.size) := by show _ ≤ _; omega
      have HLT := Lib.hid hlt
      have HLE := Lib.hid HRG.out.left_eq
      have hxb := HNK.out x hin
      have hll : l.length ≤ 1000 := by have := HLC.out; omega
      clear hkey hlk hv hat hrg hlt hgr hsz HRR HBX HBB HOW HCA HLH HLC HRG hwx hin hgn hWw HS2
      have c2 := H2.out.cells.c2
      have d2 := (H2.out.alloc (.cells #[.int .i64 (x - next), .int .i64 (x - next + 1)] 59)).cells.c2
      have hw1 : IntKind.i64.wrap (x - next) = x - next := IntWalk.i64_in _ (by omega)
      have hw2 : IntKind.i64.wrap (x - next + 1) = x - next + 1 := IntWalk.i64_in _ (by omega)
      obtain ⟨Av, cv, rfl⟩ := ownForm HOW2.out
      go_upto_region 5 with fail
      go_region_law (first
        | (refine step_append_src _ rfl (.tmp 16) (.tmp 31) 52 rfl (W.heap.size + 1) 59 i1 (.agg #[.int .i64 0, .int .i64 0]) 2 16 Try.underlying52 Hi1.out Hg0.out Hg1.out Hg2.out rfl (by decide) (.slice Av l.length cv) l.length (gapCells l) (by rfl) (by repeat (with_reducible first | exact HOW2.out | refine World.ownsRow.drew ?_ | refine World.ownsRow.alloc ?_ _)) (some ⟨w2.heap.size, 0, none⟩) 1 1 [.int .i64 (x - next), .int .i64 (x - next + 1)] (by rfl) rfl (fun h => by cases h) (by first | exact two_srcR (two_newR w2 _ _ _) | exact two_srcR (two_newR w2.drew _ _ _)) (fun u hu => by simp at hu; rcases hu with rfl | rfl <;> rfl) (by unfold maxLen; omega) (by omega) (by have := HS3.out; simp; omega) ?_
           intro v5 w5 hown4 hg4 hv5
           obtain ⟨A5, c5, rfl⟩ := ownForm hown4
           have HO5 := Lib.hid hown4
           have HK5 : Hid (w2.grownBy w5 (Value.slice Av l.length cv).ownBlock) := ⟨hg4.os, hg4.tape, hg4.output, Nat.le_trans (by simp) hg4.size, fun k hk hne => (hg4.block k (by simp; omega) hne).trans (by first | exact heap_alloc_old w2 _ k hk | exact heap_alloc_old w2.drew _ k hk)⟩
           clear hown4 hg4 hv5))
      all_goals
        go_wp2_with fail
        go_roundw
        case rel =>
          have hrow : ∀ g, (Value.slice Av l.length cv).ownBlock = some g → W.heap.size + 1 ≤ g := fun g hg => (HOW2.out.lt g hg).1
          have hWw : w.heap.size + 1 = W.heap.size := HSZ1.out.symm
          have hkk : ∀ k, k < w2.heap.size → k ≤ W.heap.size → w5.heap[k]? = w2.heap[k]? := fun k hk hle => HK5.out.block k hk (fun e => by have := hrow k e.symm; omega)
          refine ⟨_, cnt', HRG2.out.kept HK5.out (fun e => by have := hrow mb e.symm; have := hlo.out mb (.inr (.inl rfl)); omega) (fun e => by have := hrow _ e.symm; omega), H2.out.of (fun k hk => hkk k (H2.out.mine_lt hk).1 (by have := hlo.out k hk; omega)) (H2.out.bel.grown HK5.out H2.out.bel.size (fun j hj => by have := hrow j hj; have := H2.out.low.1; have := hlo.out gr (.inl rfl); omega)), (hkk _ (rblk_lt HBX2.out) (by omega)).trans HBX2.out, HBB2.out.grown HK5.out HBB2.out.size (fun j hj => by have := hrow j hj; omega), l ++ [(x - next, x - next + 1)], ?_, HCA2.out, HLH2.out, ?_, ?_⟩
          · show World.ownsRow _ _ _ _ _ _ _
            rw [gapCells_snoc, List.length_append]
            exact HO5.out
          · show _ ≤ _
            rw [List.length_append]
            exact HLC2.out
          · exact Nat.le_trans HS3.out HK5.out.size
        case measure =>
          have h5 : w5.rangeLeft mb W.heap.size = cnt' := (HRG2.out.kept HK5.out (fun e => by have := (HOW2.out.lt mb e.symm).1; have := hlo.out mb (.inr (.inl rfl)); have := HSZ1.out; omega) (fun e => by have := (HOW2.out.lt _ e.symm).1; omega)).left_eq
          rw [HLE.out, h5]
          exact HLT.out
end Go.Proofs.Ytgfdgcpbmjhmmaa
