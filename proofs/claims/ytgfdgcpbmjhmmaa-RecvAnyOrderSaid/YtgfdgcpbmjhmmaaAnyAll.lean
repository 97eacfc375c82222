/- Several texts joined: StrRow, StrIn, AnyPut, AnyFn, AnySame, RecvDelS, RecvTake, RecvAnyLaw. -/
import Derived.WalkKit
import Derived.Below
import Derived.Test.YtgfdgcpbmjhmmaaRows
import Derived.Lib.Hide
import Derived.Test.YtgfdgcpbmjhmmaaNamesLaw
import Derived.Test.YtgfdgcpbmjhmmaaRecvAwake
import Derived.Deep.RegionHeld3
import Derived.Test.YtgfdgcpbmjhmmaaRecvDlv
import Derived.BigQuiet
import Derived.Test.YtgfdgcpbmjhmmaaDelRow
import Derived.Test.YtgfdgcpbmjhmmaaRecvData
import Derived.Lib.SlicesDelete
import Derived.Deep.MidRow
import Derived.IntWalk
namespace Go.Proofs.Ytgfdgcpbmjhmmaa
open Go.RowKit

/-- A slice of texts that came in. -/
def StrRow (w : World) (A : Option Addr) (len : Nat) : Prop :=
  len ≤ maxLen ∧ (len = 0 ∨ ∃ b off, A = some ⟨b, off, none⟩ ∧ ∀ i, i < len → ∃ s : ByteArray, s.size ≤ maxLen ∧ w.cell? ⟨b, off + i, none⟩ = some (.string s))

theorem strRow_mk {w : World} {x : Addr} {len cap : Nat} {ss : List ByteArray} (hl : len ≤ cap) (hm : cap ≤ maxLen) (hz : ss.length = cap)
    (hcell : ∀ i, i < ss.length → w.cell? (x.add i) = some (.string (ss.getD i ByteArray.empty))) (hws : ∀ s ∈ ss, s.size ≤ maxLen) : StrRow w (some x) len := by
  refine ⟨Nat.le_trans hl hm, ?_⟩
  by_cases h0 : len = 0
  · exact .inl h0
  · obtain ⟨b, off, spot⟩ := x
    have hc := hcell 0 (by omega)
    have hspot : spot = none := by simpa [Addr.add] using World.cell?_spot hc
    subst hspot
    refine .inr ⟨b, off, rfl, fun k hk => ⟨ss.getD k ByteArray.empty, ?_, ?_⟩⟩
    · apply hws
      rw [List.getD_eq_getElem?_getD, List.getElem?_eq_getElem (by omega)]
      exact List.getElem_mem _
    · have h1 := hcell k (by omega)
      by_cases hk0 : k = 0
      · subst hk0; simpa [Addr.add] using h1
      · simpa [Addr.add, hk0] using h1

end Go.Proofs.Ytgfdgcpbmjhmmaa
namespace Go.Proofs.Ytgfdgcpbmjhmmaa
open Go.RowKit
set_option linter.unusedVariables false
def cutS (s : ByteArray) (n : Nat) : ByteArray := if n < s.size then s.extract 0 n else s
theorem law_cut (s : ByteArray) (n : Nat) (w : World) (hs : s.size ≤ maxLen) (hn : n ≤ 100000) :
    Calls Try.prog 13 #[.string s, .int .i64 (n : Int)] w fun e w' => e = .returned (.string (cutS s n)) ∧ w = w' := by
  unfold maxLen at hs
  by_cases h : n < s.size
  · have e : Hid (cutS s n = s.extract 0 n) := if_pos h
    go_enter Try.func13, Try.ntmps13
    go_wp2
    go_ret
    exact ⟨by rw [e.out]; rfl, rfl⟩
  · have e : Hid (cutS s n = s) := if_neg h
    go_enter Try.func13, Try.ntmps13
    go_wp2
    go_ret
    exact ⟨by rw [e.out]; rfl, rfl⟩

/-- Texts that came in, one by one. -/
def StrIn (w : World) (A : Option Addr) (len : Nat) (f : Nat → ByteArray) : Prop :=
  len ≤ maxLen ∧ (len = 0 ∨ ∃ b off, A = some ⟨b, off, none⟩ ∧ b < w.heap.size ∧ ∀ i, i < len → (f i).size ≤ maxLen ∧ w.cell? ⟨b, off + i, none⟩ = some (.string (f i)))
theorem StrRow.list {w : World} {A : Option Addr} {len : Nat} (h : StrRow w A len) : ∃ f, StrIn w A len f := by
  obtain ⟨h1, h2⟩ := h
  rcases h2 with h0 | ⟨b, off, rfl, hc⟩
  · exact ⟨fun _ => ⟨#[]⟩, h1, .inl h0⟩
  · by_cases h0 : len = 0
    · exact ⟨fun _ => ⟨#[]⟩, h1, .inl h0⟩
    · have hx : ∀ i, ∃ s : ByteArray, i < len → s.size ≤ maxLen ∧ w.cell? ⟨b, off + i, none⟩ = some (.string s) := by
        intro i
        by_cases hi : i < len
        · obtain ⟨s, hs⟩ := hc i hi
          exact ⟨s, fun _ => hs⟩
        · exact ⟨⟨#[]⟩, fun h => absurd h hi⟩
      obtain ⟨f, hf⟩ := Classical.axiomOfChoice hx
      exact ⟨f, h1, .inr ⟨b, off, rfl, World.block_lt_of_cell? w ⟨b, off + 0, none⟩ (hf 0 (by omega)).2, hf⟩⟩
theorem StrIn.below {w w' : World} {A : Option Addr} {len : Nat} {f : Nat → ByteArray} (h : StrIn w A len f) (hb : Below w.heap.size w w') : StrIn w' A len f := by
  obtain ⟨h1, h2⟩ := h
  refine ⟨h1, h2.imp id fun ⟨b, off, e, hl, hc⟩ => ⟨b, off, e, Nat.lt_of_lt_of_le hl hb.size, fun i hi => ⟨(hc i hi).1, ?_⟩⟩⟩
  rw [hb.cell (p := ⟨b, off + i, none⟩) hl]
  exact (hc i hi).2
theorem StrIn.get {w : World} {A : Option Addr} {len k : Nat} {f : Nat → ByteArray} (h : StrIn w A len f) (hk : k < len) : ∃ b off, A = some ⟨b, off, none⟩ ∧ b < w.heap.size ∧ (f k).size ≤ maxLen ∧ w.cell? ⟨b, off + k, none⟩ = some (.string (f k)) := by
  obtain ⟨_, h2⟩ := h
  rcases h2 with h0 | ⟨b, off, rfl, hl, hc⟩
  · omega
  · exact ⟨b, off, rfl, hl, hc k hk⟩

end Go.Proofs.Ytgfdgcpbmjhmmaa
namespace Go.Proofs.Ytgfdgcpbmjhmmaa
open Go.RowKit Go.Maps Sp
set_option linter.unusedVariables false
set_option linter.unusedSimpArgs false
variable {w0 w w' : World} {gr mb nb : Nat} {st window next behind most : Int} {bs : List (Int × ByteArray)} {inV unV : Value} {ib : List ByteArray} {un : List Span}
/-- The messages of the numbers below n. -/
def msgs (M : Nat → ByteArray) (n : Nat) : List ByteArray := (List.range n).map M
theorem msgs_add (M : Nat → ByteArray) (n m : Nat) : msgs M (n + m) = msgs M n ++ (List.range m).map fun i => M (n + i) := by
  unfold msgs
  rw [List.range_add, List.map_append, List.map_map]
  rfl
theorem DlvTo.msgs {bs' : List (Int × ByteArray)} {nx' : Int} {out : List ByteArray} {M : Nat → ByteArray} {n : Nat} (h : DlvTo bs (n : Int) bs' nx' out) (hm : ∀ p ∈ bs, ∀ i : Nat, p.1 = i → p.2 = M i) : (∀ p ∈ bs', ∀ i : Nat, p.1 = i → p.2 = M i) ∧ ∃ m : Nat, nx' = ((n + m : Nat) : Int) ∧ out = (List.range m).map fun i => M (n + i) := by
  induction h with
  | refl => exact ⟨hm, 0, by omega, rfl⟩
  | step h hin ih =>
    rename_i b nx o
    obtain ⟨h1, m, rfl, rfl⟩ := ih
    refine ⟨fun p hp => h1 p (List.mem_filter.1 hp).1, m + 1, by omega, ?_⟩
    have e : pick b ((n + m : Nat) : Int) = M (n + m) := h1 _ (pick_in hin) (n + m) rfl
    rw [e, List.range_succ, List.map_append]
    rfl
/-- The receiver, and the messages that came. -/
structure AnR (w0 w : World) (gr mb : Nat) (st : Int) (k : Nat) (M : Nat → ByteArray) (C : List Int) (high next : Int) (bs : List (Int × ByteArray)) (nb : Nat) (inV : Value) (ib : List ByteArray) (unV : Value) (un : List Span) : Prop where
  nm : NmR w0 w gr mb st k C high next bs nb inV ib unV un
  msg : ∀ p ∈ bs, ∀ i : Nat, p.1 = i → p.2 = M i
  inb : ib = msgs M ib.length
/-- What put's call of Data answers. -/
def AnOut (w0 w : World) (gr mb : Nat) (st : Int) (k : Nat) (M : Nat → ByteArray) (C : List Int) (n : Int) (inV : Value) (ib : List ByteArray) (unV : Value) (e : Ending) (w' : World) : Prop :=
  ∃ A c out high' next' bs' nb' inV' unV' un', e = .returned (.slice A out.length c) ∧ w'.ownsRow w0.heap.size 9 1 (.slice A out.length c) out.length (out.map Value.string) ∧ out.length ≤ 64 ∧ AnR w0 w' gr mb st (k + 1) M (addK C n) high' next' bs' nb' inV' (ib ++ out) unV' un' ∧ RCh w w' (Mine gr mb inV unV) (Mine gr mb inV' unV')
theorem any_data {k : Nat} {M : Nat → ByteArray} {C : List Int} {high : Int} (h : AnR w0 w gr mb st k M C high next bs nb inV ib unV un) (hs : 0 ≤ st ∧ st < 16777216) (hk : k ≤ 800) (n : Int) (hn : 0 ≤ n ∧ n ≤ 63) (i : Nat) (hi : n = i) :
    Calls Try.prog 11 #[.pointer (some ⟨gr, 0, none⟩), .int .u32 ((st + n) % 16777216), .string (M i)] w (AnOut w0 w gr mb st k M C n inV ib unV) := by
  have hlo := h.nm.nm.lo
  have hhi := h.nm.nm.hi
  have hlen := h.nm.nm.len
  have hpl := place_names st next n hn hlo
  by_cases hin : n ∈ C
  · have hno : placeOf st next ((st + n) % 16777216) ∈ bs.map (·.1) ∨ 64 ≤ placeOf st next ((st + n) % 16777216) := by
      rw [hpl]
      by_cases hge : next ≤ n
      · rw [if_pos hge]
        left
        rw [h.nm.nm.keys]
        exact ⟨hin, by
          have : n ≠ next := fun e => h.nm.nm.no (e ▸ hin)
          omega⟩
      · rw [if_neg hge]
        right
        omega
    refine (rcv_dataNo h.nm.rcv (by omega) (by omega) _ (by omega) (M i) hno).mono ?_
    rintro e w' ⟨rfl, hr, hb⟩
    have e1 : addK C n = C := if_pos hin
    refine ⟨none, 0, [], high, next, bs, nb, inV, unV, un, rfl, World.ownsRow_nil _ _ _ _, by simp, ?_, (RCh.refl _ _).below hb⟩
    rw [e1, List.append_nil]
    exact ⟨⟨hr, h.nm.nm, by have := h.nm.nbk; omega, by have := h.nm.bsk; omega, h.nm.unk⟩, h.msg, h.inb⟩
  · have hge : next ≤ n := by
      rcases Int.lt_or_le n next with hlt | hge
      · exact absurd (h.nm.nm.all n hn.1 hlt) hin
      · exact hge
    have hp : placeOf st next ((st + n) % 16777216) = n := by rw [hpl, if_pos hge]
    have hd := rcv_dataYes h.nm.rcv (by omega) (by omega) ((st + n) % 16777216) (by omega) (M i) (by have := h.nm.bsk; omega) (by omega) (by have := h.nm.unk; omega) (by omega) (by have := h.nm.nbk; omega) (by rw [hp, h.nm.nm.keys]; exact fun g => hin g.1) (by rw [hp]; omega)
    rw [hp] at hd
    refine hd.mono ?_
    rintro e w' ⟨v, bs', next', out, inV', unV', rfl, hov, hdl, hni, hr, hc⟩
    obtain ⟨A, c, rfl⟩ := ownForm hov
    have e1 : addK C n = C ++ [n] := if_neg hin
    have hnd : ((bs ++ [(n, M i)]).map (·.1)).Nodup := by
      rw [List.map_append]
      refine List.nodup_append.2 ⟨h.nm.rcv.nod, by simp, ?_⟩
      intro a ha b hb e
      simp at hb
      subst hb
      subst e
      exact hin ((h.nm.nm.keys a).1 ha).1
    have hsz := hdl.sizes hnd
    have hst := h.nm.nm.step hin hn h.nm.rcv.nod hdl hni
    have hdl2 := hdl
    rw [← hlen] at hdl2
    obtain ⟨hm2, m, hnx, hout⟩ := hdl2.msgs (M := M) (by
      intro p hp j hj
      rcases List.mem_append.1 hp with hp | hp
      · exact h.msg p hp j hj
      · simp at hp
        subst hp
        simp only at hj
        obtain rfl : i = j := by omega
        rfl)
    refine ⟨A, c, out, max high (n + 1), next', bs', nb + 1, inV', unV', unNext un high n, rfl, hov, ?_, ⟨⟨hr, ?_, by have := h.nm.nbk; omega, ?_, ?_⟩, hm2, ?_⟩, hc⟩
    · have := hst.lo
      have := hsz.2.1
      omega
    · rw [e1, List.length_append]
      exact hst
    · have := h.nm.bsk
      have := hsz.1
      simp at this
      omega
    · unfold unNext
      split
      · rename_i g
        rw [List.length_append]
        simp
        omega
      · exact h.nm.unk
    · rw [List.length_append, show out.length = m by rw [hout]; simp, msgs_add, ← h.inb, ← hout]
end Go.Proofs.Ytgfdgcpbmjhmmaa
namespace Go.Proofs.Ytgfdgcpbmjhmmaa
open Go.RowKit Go.Maps Sp
set_option linter.unusedVariables false
set_option linter.unusedSimpArgs false
/-- What the law knows: the receiver, what was gathered, and the variables that put writes. -/
structure AnB (w0 w : World) (gr mb tg tr : Nat) (st : Int) (k : Nat) (M : Nat → ByteArray) (C : List Int) (high next : Int) (bs : List (Int × ByteArray)) (nb : Nat) (inV : Value) (ib : List ByteArray) (unV : Value) (un : List Span) (gV : Value) : Prop where
  an : AnR w0 w gr mb st k M C high next bs nb inV ib unV un
  bg : w.heap[tg]? = some (.cells #[gV] 22 (0, 0))
  br : w.heap[tr]? = some (.cells #[.pointer (some ⟨gr, 0, none⟩)] 25 (0, 0))
  row : w.ownsRow w0.heap.size 9 1 gV ib.length (ib.map Value.string)
  ntg : ¬ Mine gr mb inV unV tg
  ntr : ¬ Mine gr mb inV unV tr
  gtr : tg ≠ tr
  lo : w0.heap.size ≤ tg ∧ w0.heap.size ≤ tr
  own : ∀ b, gV.ownBlock = some b → ¬ Mine gr mb inV unV b ∧ b ≠ tg ∧ b ≠ tr
def AnAt (w0 w : World) (gr mb tg tr : Nat) (st : Int) (k : Nat) (M : Nat → ByteArray) (C : List Int) : Prop :=
  ∃ high next bs nb inV ib unV un gV, AnB w0 w gr mb tg tr st k M C high next bs nb inV ib unV un gV
section
variable {w0 w w' : World} {gr mb tg tr k nb : Nat} {st high next : Int} {M : Nat → ByteArray} {C : List Int} {bs : List (Int × ByteArray)} {inV unV gV : Value} {ib : List ByteArray} {un : List Span}
theorem AnR.below (h : AnR w0 w gr mb st k M C high next bs nb inV ib unV un) (hb : Below w.heap.size w w') : AnR w0 w' gr mb st k M C high next bs nb inV ib unV un :=
  ⟨⟨h.nm.rcv.below hb, h.nm.nm, h.nm.nbk, h.nm.bsk, h.nm.unk⟩, h.msg, h.inb⟩
theorem AnB.below (h : AnB w0 w gr mb tg tr st k M C high next bs nb inV ib unV un gV) (hb : Below w.heap.size w w') : AnB w0 w' gr mb tg tr st k M C high next bs nb inV ib unV un gV :=
  ⟨h.an.below hb, (hb.block _ (rblk_lt h.bg)).trans h.bg, (hb.block _ (rblk_lt h.br)).trans h.br, rrow_blk h.row fun b hb' => hb.block b (h.row.lt b hb').2, h.ntg, h.ntr, h.gtr, h.lo, h.own⟩
/-- Behind what Data answered was gathered. -/
theorem AnB.gather (h : AnB w0 w gr mb tg tr st k M C high next bs nb inV ib unV un gV) {w5 w6 : World} {k' nb' : Nat} {C' : List Int} {high' next' : Int} {bs' : List (Int × ByteArray)} {inV' unV' gV' : Value} {out : List ByteArray} {un' : List Span}
    (hn : AnR w0 w5 gr mb st k' M C' high' next' bs' nb' inV' (ib ++ out) unV' un') (hc : RCh w w5 (Mine gr mb inV unV) (Mine gr mb inV' unV'))
    (ho : w6.ownsRow w0.heap.size 9 1 gV' (ib.length + out.length) (ib.map Value.string ++ out.map Value.string)) (hg : w5.grownBy w6 gV.ownBlock) (hv : gV'.ownBlock = gV.ownBlock ∨ gV'.ownBlock = some w5.heap.size) :
    AnB w0 (w6.setCell ⟨tg, 0, none⟩ gV') gr mb tg tr st k' M C' high' next' bs' nb' inV' (ib ++ out) unV' un' gV' := by
  have hm1 : ∀ b, b < w.heap.size → ¬ Mine gr mb inV unV b → ¬ Mine gr mb inV' unV' b := fun b hb hn hm => (hc.own b hm).elim hn fun e => by omega
  have htg := rblk_lt h.bg
  have htr := rblk_lt h.br
  have hgl : ∀ b, gV.ownBlock = some b → b < w.heap.size := fun b hb => (h.row.lt b hb).2
  have hsz := hc.size
  have hrow : ∀ b, gV.ownBlock = some b → ¬ Mine gr mb inV' unV' b := fun b hb => hm1 b (hgl b hb) (h.own b hb).1
  have hk6 : ∀ b, Mine gr mb inV' unV' b → (w6.setCell ⟨tg, 0, none⟩ gV').heap[b]? = w5.heap[b]? := fun b hb => by
    have h1 := (hn.nm.rcv.mine_lt hb).1
    rw [Below.heap_setCell _ _ _ _ (fun e => hm1 tg htg h.ntg (by show Mine _ _ _ _ tg; rw [← show b = tg from e]; exact hb))]
    exact hg.block b h1 (fun e => hrow b e.symm hb)
  have h5g : w5.heap[tg]? = some (.cells #[gV] 22 (0, 0)) := (hc.keep tg htg h.ntg).trans h.bg
  have h6g : w6.heap[tg]? = some (.cells #[gV] 22 (0, 0)) := (hg.block tg (by omega) (fun e => (h.own tg e.symm).2.1 rfl)).trans h5g
  have h5r : w5.heap[tr]? = some (.cells #[.pointer (some ⟨gr, 0, none⟩)] 25 (0, 0)) := (hc.keep tr htr h.ntr).trans h.br
  have h6r : w6.heap[tr]? = some (.cells #[.pointer (some ⟨gr, 0, none⟩)] 25 (0, 0)) := (hg.block tr (by omega) (fun e => (h.own tr e.symm).2.2 rfl)).trans h5r
  have hb6 : Below w0.heap.size w0 w6 := hn.nm.rcv.bel.grown hg hn.nm.rcv.bel.size (fun j hj => (h.row.lt j hj).1)
  have hown' : ∀ b, gV'.ownBlock = some b → ¬ Mine gr mb inV' unV' b ∧ b ≠ tg ∧ b ≠ tr := fun b hb => by
    rcases hv with e | e
    · rw [e] at hb
      exact ⟨hrow b hb, (h.own b hb).2⟩
    · rw [e] at hb
      have : w5.heap.size = b := Option.some.inj hb
      exact ⟨fun hm => by have := (hn.nm.rcv.mine_lt hm).1; omega, by omega, by omega⟩
  refine ⟨⟨⟨hn.nm.rcv.of hk6 (hb6.setCell (p := ⟨tg, 0, none⟩) h.lo.1 gV'), hn.nm.nm, hn.nm.nbk, hn.nm.bsk, hn.nm.unk⟩, hn.msg, hn.inb⟩, ?_, ?_, ?_, hm1 tg htg h.ntg, hm1 tr htr h.ntr, h.gtr, h.lo, hown'⟩
  · rw [rset_heap h6g]
    rfl
  · rw [Below.heap_setCell _ _ _ _ (fun e => h.gtr (show tr = tg from e).symm)]
    exact h6r
  · rw [List.length_append, List.map_append]
    exact rrow_blk ho fun b hb => Below.heap_setCell _ _ _ _ (fun e => (hown' b hb).2.1 e)
end
set_option maxHeartbeats 8000000 in
set_option maxRecDepth 100000 in
theorem any_put {w0 w : World} {gr mb tg tr ts tm k ln cm : Nat} {st st0 : Int} {M f : Nat → ByteArray} {C : List Int} {Am : Option Addr} (h : AnAt w0 w gr mb tg tr st k M C) (hs : -9223372036854775808 ≤ st0 ∧ st0 ≤ 9223372036854775807) (hst : st = st0 % 16777216)
    (hts : w0.heap[ts]? = some (.cells #[.int .i64 st0] 3 (0, 0))) (htm : w0.heap[tm]? = some (.cells #[.slice Am ln cm] 22 (0, 0))) (hf : StrIn w0 Am ln f) (hM : ∀ i, M i = cutS (f i) 5) (hk : k ≤ 800) (i : Nat) (hi : i < ln) (hi2 : i ≤ 63) :
    Calls Try.prog 10 #[.int .i64 (i : Int), .pointer (some ⟨tg, 0, none⟩), .pointer (some ⟨tr, 0, none⟩), .pointer (some ⟨ts, 0, none⟩), .pointer (some ⟨tm, 0, none⟩)] w fun e w' => e = .returned (.tuple #[]) ∧ AnAt w0 w' gr mb tg tr st (k + 1) M (addK C i) := by
  obtain ⟨high, next, bs, nb, inV, ib, unV, un, gV, hb⟩ := h
  obtain ⟨i0, hi0, hz0, hz1, hz2⟩ := rinfo_parts infoText
  have Hi := Lib.hid hi0
  have Hz0 := Lib.hid hz0
  have Hz1 := Lib.hid hz1
  have Hz2 := Lib.hid hz2
  obtain ⟨Ag, cg, rfl⟩ := ownForm hb.row
  have hst1 : 0 ≤ st ∧ st < 16777216 := by omega
  have HOF := Lib.hid (fun W => seq_of st0 W hs.1 hs.2)
  rw [← hst] at HOF
  have HAD := Lib.hid (fun W => seq_add st i W hst1.1 (by omega) (by omega) (by omega))
  obtain ⟨bm, off, rfl, hbl, hsz, hcm⟩ := hf.get hi
  have HCU := Lib.hid (fun W => law_cut (f i) 5 W hsz (by decide))
  rw [← hM i] at HCU
  have HDA := Lib.hid (any_data (hb.below ((Below.refl w.heap.size w).drew)).an hst1 hk i (by omega) i rfl)
  have hbel := hb.an.nm.rcv.bel
  have hlo := hb.an.nm.rcv.lts
  have k1 : w.cell? ⟨tg, 0, none⟩ = some (.slice Ag ib.length cg) := by rw [rblk_cell hb.bg]; rfl
  have k2 : w.cell? ⟨tr, 0, none⟩ = some (.pointer (some ⟨gr, 0, none⟩)) := by rw [rblk_cell hb.br]; rfl
  have k3 : w.cell? ⟨ts, 0, none⟩ = some (.int .i64 st0) := by rw [hbel.cell (p := ⟨ts, 0, none⟩) (rblk_lt hts), rblk_cell hts]; rfl
  have k4 : w.cell? ⟨tm, 0, none⟩ = some (.slice (some ⟨bm, off, none⟩) ln cm) := by rw [hbel.cell (p := ⟨tm, 0, none⟩) (rblk_lt htm), rblk_cell htm]; rfl
  have k5 : w.cell? ⟨bm, off + i, none⟩ = some (.string (f i)) := by rw [hbel.cell (p := ⟨bm, off + i, none⟩) hbl]; exact hcm
  have HB := Lib.hid hb
  have hibl : ib.length ≤ 64 := by have h1 := hb.an.nm.nm.len; have h2 := hb.an.nm.nm.lo; omega
  have n1 : tr ≠ tg := fun e => hb.gtr e.symm
  have n2 : ts ≠ tg := fun e => by have := rblk_lt hts; have := hb.lo; omega
  have n3 : tm ≠ tg := fun e => by have := rblk_lt htm; have := hb.lo; omega
  have n4 : bm ≠ tg := fun e => by have := hb.lo; omega
  have HL3 := Lib.hid (rblk_lt hts)
  have HL4 := Lib.hid (rblk_lt htm)
  have HW3 : Hid (w0.cell? ⟨ts, 0, none⟩ = some (.int .i64 st0)) := by show _ = _; rw [rblk_cell hts]; rfl
  have HW4 : Hid (w0.cell? ⟨tm, 0, none⟩ = some (.slice (some ⟨bm, off, none⟩) ln cm)) := by show _ = _; rw [rblk_cell htm]; rfl
  clear hi0 hz0 hz1 hz2 hb hst hM hts htm hf hbel
  go_enter Try.func10, Try.ntmps10
  refine wp_region_held_drew (S := (fun w' => w'.cell? ⟨tr, 0, none⟩ = some (.pointer (some ⟨gr, 0, none⟩)) ∧ w'.cell? ⟨ts, 0, none⟩ = some (.int .i64 st0) ∧ w'.cell? ⟨tm, 0, none⟩ = some (.slice (some ⟨bm, off, none⟩) ln cm) ∧ w'.cell? ⟨bm, off + i, none⟩ = some (.string (f i)))) (by kernel_rfl) ⟨k2, k3, k4, k5⟩ (fun hHeld => ?_)
  refine wpAnyH_take (i := 1) (v := ?v1a) rfl (by kernel_rfl) (by kernel_rfl) (by kernel_rfl) (fun _ _ _ h => h) (Or.inl ⟨by rfl, ?y1a⟩) (by assumption) ?r1a
  case y1a => (intro w hSw; (try dsimp only at hSw); go_simp; try with_reducible rfl)
  try simp only [Act.put, List.setIfInBounds_toArray, List.set_cons_zero, List.set_cons_succ]
  refine wpAnyH_take (i := 2) (v := ?v2b) rfl (by kernel_rfl) (by kernel_rfl) (by kernel_rfl) (fun _ _ _ h => h) (Or.inl ⟨by rfl, ?y2b⟩) (by assumption) ?r2b
  case y2b => (intro w hSw; (try dsimp only at hSw); go_simp; try with_reducible rfl)
  try simp only [Act.put, List.setIfInBounds_toArray, List.set_cons_zero, List.set_cons_succ]
  refine wpAnyH_take (i := 4) (v := ?v4c) rfl (by kernel_rfl) (by kernel_rfl) (by kernel_rfl) (fun _ _ _ h => h) (Or.inl ⟨by rfl, ?y4c⟩) (by assumption) ?r4c
  case y4c => (intro w hSw; (try dsimp only at hSw); go_simp; try with_reducible rfl)
  try simp only [Act.put, List.setIfInBounds_toArray, List.set_cons_zero, List.set_cons_succ]
  refine wpAnyH_take (i := 6) (v := ?v6d) rfl (by kernel_rfl) (by kernel_rfl) (by kernel_rfl) (fun _ _ _ h => h) (Or.inl ⟨by rfl, ?y6d⟩) (by assumption) ?r6d
  case y6d => (intro w hSw; (try dsimp only at hSw); go_simp; try with_reducible rfl)
  try simp only [Act.put, List.setIfInBounds_toArray, List.set_cons_zero, List.set_cons_succ]
  refine wpAnyH_take (i := 7) (v := ?v7e) rfl (by kernel_rfl) (by kernel_rfl) (by kernel_rfl) (fun _ _ _ h => h) (Or.inl ⟨by rfl, ?y7e⟩) (by assumption) ?r7e
  case y7e => (intro w hSw; (try dsimp only at hSw); go_simp; try with_reducible rfl)
  try simp only [Act.put, List.setIfInBounds_toArray, List.set_cons_zero, List.set_cons_succ]
  refine wpAnyH_take (i := 8) (v := ?v8f) rfl (by kernel_rfl) (by kernel_rfl) (by kernel_rfl) (fun _ _ _ h => h) (Or.inl ⟨by rfl, ?y8f⟩) (by assumption) ?r8f
  case y8f => (intro w hSw; (try dsimp only at hSw); go_simp; try with_reducible rfl)
  try simp only [Act.put, List.setIfInBounds_toArray, List.set_cons_zero, List.set_cons_succ]
  refine wpAnyH_take (i := 9) (v := ?v9g) rfl (by kernel_rfl) (by kernel_rfl) (by kernel_rfl) (fun _ _ _ h => h) (Or.inl ⟨by rfl, ?y9g⟩) (by assumption) ?r9g
  case y9g => (intro w hSw; (try dsimp only at hSw); go_simp; try with_reducible rfl)
  try simp only [Act.put, List.setIfInBounds_toArray, List.set_cons_zero, List.set_cons_succ]
  refine wpAnyH_ready (rs := [0, 3]) (by kernel_rfl) (by simp) ?_
  refine AllReadyH.cons rfl (fun K hK => ?_) ?_
  · skip
    go_simp
    refine hK.out _ _ (by first | exact hHeld | exact ⟨b2, b3, b4, b5⟩ | exact ⟨g2, g3, g4, g5⟩ | exact ⟨s2, s3, s4, s5⟩) (fun hHeld => ?_)
    clear hK K
    try simp only [Act.put, List.setIfInBounds_toArray, List.set_cons_zero, List.set_cons_succ]
    refine wpAnyH_ready (rs := [3]) (by kernel_rfl) (by simp) ?_
    refine AllReadyH.cons rfl (fun K hK => ?_) ?_
    · skip
      go_simp
      go_at_call 9
      refine (HOF.out _).mono ?_
      rintro e w' ⟨rfl, rfl⟩
      refine hK.out _ _ (by first | exact hHeld | exact ⟨b2, b3, b4, b5⟩ | exact ⟨g2, g3, g4, g5⟩ | exact ⟨s2, s3, s4, s5⟩) (fun hHeld => ?_)
      clear hK K
      try simp only [Act.put, List.setIfInBounds_toArray, List.set_cons_zero, List.set_cons_succ]
      refine wpAnyH_ready (rs := [5]) (by kernel_rfl) (by simp) ?_
      refine AllReadyH.cons rfl (fun K hK => ?_) ?_
      · skip
        go_simp
        go_at_call 12
        refine (HAD.out _).mono ?_
        rintro e w' ⟨rfl, rfl⟩
        refine hK.out _ _ (by first | exact hHeld | exact ⟨b2, b3, b4, b5⟩ | exact ⟨g2, g3, g4, g5⟩ | exact ⟨s2, s3, s4, s5⟩) (fun hHeld => ?_)
        clear hK K
        try simp only [Act.put, List.setIfInBounds_toArray, List.set_cons_zero, List.set_cons_succ]
        refine wpAnyH_ready (rs := [10]) (by kernel_rfl) (by simp) ?_
        refine AllReadyH.cons rfl (fun K hK => ?_) ?_
        · skip
          go_simp
          go_at_call 13
          refine (HCU.out _).mono ?_
          rintro e w' ⟨rfl, rfl⟩
          refine hK.out _ _ (by first | exact hHeld | exact ⟨b2, b3, b4, b5⟩ | exact ⟨g2, g3, g4, g5⟩ | exact ⟨s2, s3, s4, s5⟩) (fun hHeld => ?_)
          clear hK K
          try simp only [Act.put, List.setIfInBounds_toArray, List.set_cons_zero, List.set_cons_succ]
          refine wpAnyH_ready (rs := [11]) (by kernel_rfl) (by simp) ?_
          refine AllReadyH.cons rfl (fun K hK => ?_) ?_
          · skip
            go_simp
            go_at_call 11
            (with_reducible refine (HDA.out).mono ?_)
            rintro e w5 ⟨A5, c5, out, high', next', bs', nb', inV', unV', un', rfl, hown, hol, han, hch⟩
            have HAN := Lib.hid han
            have HCH := Lib.hid hch
            have HOL : Hid ((out.map Value.string).length = out.length * 1) := by show _ = _; simp
            have HO0 : Hid (A5 = none → out.length = 0) := fun e => by
              subst e
              rcases hown.2 with ⟨_, hz⟩ | ⟨g, cap, cur, e, _⟩
              · exact hz
              · cases e
            have HSC := Lib.hid (ownCells1 hown)
            have HOC : Hid (∀ u ∈ out.map Value.string, u.oneCell' = true) := fun u hu => by
              obtain ⟨x, _, rfl⟩ := List.mem_map.1 hu
              rfl
            have HBZ := Lib.hid han.nm.rcv.lts
            have HG5 : Hid (w5.ownsRow w0.heap.size 9 1 (.slice Ag ib.length cg) ib.length (ib.map Value.string)) := rrow_blk HB.out.row fun b hb => hch.keep b (HB.out.row.lt b hb).2 (HB.out.own b hb).1
            have b1 : w5.cell? ⟨tg, 0, none⟩ = some (.slice Ag ib.length cg) := by rw [World.cell?_of_block (w := w) (hch.keep tg (rblk_lt HB.out.bg) HB.out.ntg)]; exact k1
            have b2 : w5.cell? ⟨tr, 0, none⟩ = some (.pointer (some ⟨gr, 0, none⟩)) := by rw [World.cell?_of_block (w := w) (hch.keep tr (rblk_lt HB.out.br) HB.out.ntr)]; exact k2
            have b3 : w5.cell? ⟨ts, 0, none⟩ = some (.int .i64 st0) := by rw [han.nm.rcv.bel.cell (p := ⟨ts, 0, none⟩) HL3.out]; exact HW3.out
            have b4 : w5.cell? ⟨tm, 0, none⟩ = some (.slice (some ⟨bm, off, none⟩) ln cm) := by rw [han.nm.rcv.bel.cell (p := ⟨tm, 0, none⟩) HL4.out]; exact HW4.out
            have b5 : w5.cell? ⟨bm, off + i, none⟩ = some (.string (f i)) := by rw [han.nm.rcv.bel.cell (p := ⟨bm, off + i, none⟩) hbl]; exact hcm
            clear hown han hch
            refine hK.out _ _ (by first | exact hHeld | exact ⟨b2, b3, b4, b5⟩ | exact ⟨g2, g3, g4, g5⟩ | exact ⟨s2, s3, s4, s5⟩) (fun hHeld => ?_)
            clear hK K
            try simp only [Act.put, List.setIfInBounds_toArray, List.set_cons_zero, List.set_cons_succ]
            refine wpAnyH_ready (rs := [12]) (by kernel_rfl) (by simp) ?_
            refine AllReadyH.cons rfl (fun K hK => ?_) ?_
            · skip
              refine step_append_src _ rfl (.tmp 6) (.tmp 17) 22 rfl w0.heap.size 9 i0 (.string ⟨#[]⟩) 1 16 Try.underlying22 Hi.out Hz0.out Hz1.out Hz2.out rfl (by decide) (.slice Ag ib.length cg) ib.length (ib.map Value.string) (by rfl) HG5.out A5 out.length c5 (out.map Value.string) (by rfl) HOL.out HO0.out HSC.out HOC.out (by unfold maxLen; omega) (by omega) HBZ.out ?_
              intro v6 w6 hown6 hg6 hv6
              obtain ⟨A6, c6, rfl⟩ := ownForm hown6
              have HO6 := Lib.hid hown6
              have HG6 := Lib.hid hg6
              have HV6 := Lib.hid hv6
              have hrl : ∀ b, (Value.slice Ag ib.length cg).ownBlock = some b → w0.heap.size ≤ b ∧ b ≠ tg ∧ b ≠ tr := fun b hb => ⟨(HB.out.row.lt b hb).1, (HB.out.own b hb).2⟩
              have hbl6 : Below w0.heap.size w0 w6 := HAN.out.nm.rcv.bel.grown hg6 HAN.out.nm.rcv.bel.size (fun j hj => (hrl j hj).1)
              have g1 : w6.cell? ⟨tg, 0, none⟩ = some (.slice Ag ib.length cg) := by rw [World.cell?_of_block (w := w5) (hg6.block tg (Nat.lt_of_lt_of_le (rblk_lt HB.out.bg) HCH.out.size) (fun e => (hrl tg e.symm).2.1 rfl))]; exact b1
              have g2 : w6.cell? ⟨tr, 0, none⟩ = some (.pointer (some ⟨gr, 0, none⟩)) := by rw [World.cell?_of_block (w := w5) (hg6.block tr (Nat.lt_of_lt_of_le (rblk_lt HB.out.br) HCH.out.size) (fun e => (hrl tr e.symm).2.2 rfl))]; exact b2
              have g3 : w6.cell? ⟨ts, 0, none⟩ = some (.int .i64 st0) := by rw [hbl6.cell (p := ⟨ts, 0, none⟩) HL3.out]; exact HW3.out
              have g4 : w6.cell? ⟨tm, 0, none⟩ = some (.slice (some ⟨bm, off, none⟩) ln cm) := by rw [hbl6.cell (p := ⟨tm, 0, none⟩) HL4.out]; exact HW4.out
              have g5 : w6.cell? ⟨bm, off + i, none⟩ = some (.string (f i)) := by rw [hbl6.cell (p := ⟨bm, off + i, none⟩) hbl]; exact hcm
              have gf : w6.frozen? ⟨tg, 0, none⟩ = false := by
                rw [World.frozen?_of_block (w := w5) (hg6.block tg (Nat.lt_of_lt_of_le (rblk_lt HB.out.bg) HCH.out.size) (fun e => (hrl tg e.symm).2.1 rfl)), World.frozen?_of_block (w := w) (HCH.out.keep tg (rblk_lt HB.out.bg) HB.out.ntg)]
                exact rblk_frozen HB.out.bg 0
              have s2 : (w6.setCell ⟨tg, 0, none⟩ (.slice A6 (ib.length + out.length) c6)).cell? ⟨tr, 0, none⟩ = some (.pointer (some ⟨gr, 0, none⟩)) := by rw [World.cell?_of_block (w := w6) (Below.heap_setCell _ _ _ _ (by exact n1))]; exact g2
              have s3 : (w6.setCell ⟨tg, 0, none⟩ (.slice A6 (ib.length + out.length) c6)).cell? ⟨ts, 0, none⟩ = some (.int .i64 st0) := by rw [World.cell?_of_block (w := w6) (Below.heap_setCell _ _ _ _ (by exact n2))]; exact g3
              have s4 : (w6.setCell ⟨tg, 0, none⟩ (.slice A6 (ib.length + out.length) c6)).cell? ⟨tm, 0, none⟩ = some (.slice (some ⟨bm, off, none⟩) ln cm) := by rw [World.cell?_of_block (w := w6) (Below.heap_setCell _ _ _ _ (by exact n3))]; exact g4
              have s5 : (w6.setCell ⟨tg, 0, none⟩ (.slice A6 (ib.length + out.length) c6)).cell? ⟨bm, off + i, none⟩ = some (.string (f i)) := by rw [World.cell?_of_block (w := w6) (Below.heap_setCell _ _ _ _ (by exact n4))]; exact g5
              clear hown6 hg6 hv6 hrl hbl6
              refine hK.out _ _ (by first | exact hHeld | exact ⟨b2, b3, b4, b5⟩ | exact ⟨g2, g3, g4, g5⟩ | exact ⟨s2, s3, s4, s5⟩) (fun hHeld => ?_)
              clear hK K
              try simp only [Act.put, List.setIfInBounds_toArray, List.set_cons_zero, List.set_cons_succ]
              refine wpAnyH_ready (rs := [13]) (by kernel_rfl) (by simp) ?_
              refine AllReadyH.cons rfl (fun K hK => ?_) ?_
              · skip
                go_simp
                refine hK.out _ _ (by first | exact hHeld | exact ⟨b2, b3, b4, b5⟩ | exact ⟨g2, g3, g4, g5⟩ | exact ⟨s2, s3, s4, s5⟩) (fun hHeld => ?_)
                clear hK K
                try simp only [Act.put, List.setIfInBounds_toArray, List.set_cons_zero, List.set_cons_succ]
                refine wpAnyH_done (by kernel_rfl) ?_ _
                try simp only [Act.put, List.setIfInBounds_toArray, List.set_cons_zero, List.set_cons_succ]
                go_wp2_with fail
                go_end0
                exact ⟨rfl, _, _, _, _, _, _, _, _, _, HB.out.gather HAN.out ⟨HCH.out.size, HCH.out.keep, HCH.out.own⟩ HO6.out HG6.out HV6.out⟩
              exact AllReadyH.nil
            exact AllReadyH.nil
          exact AllReadyH.nil
        exact AllReadyH.nil
      exact AllReadyH.nil
    exact AllReadyH.nil
  refine AllReadyH.cons rfl (fun K hK => ?_) ?_
  · skip
    go_simp
    go_at_call 9
    refine (HOF.out _).mono ?_
    rintro e w' ⟨rfl, rfl⟩
    refine hK.out _ _ (by first | exact hHeld | exact ⟨b2, b3, b4, b5⟩ | exact ⟨g2, g3, g4, g5⟩ | exact ⟨s2, s3, s4, s5⟩) (fun hHeld => ?_)
    clear hK K
    try simp only [Act.put, List.setIfInBounds_toArray, List.set_cons_zero, List.set_cons_succ]
    refine wpAnyH_ready (rs := [0, 5]) (by kernel_rfl) (by simp) ?_
    refine AllReadyH.cons rfl (fun K hK => ?_) ?_
    · skip
      go_simp
      refine hK.out _ _ (by first | exact hHeld | exact ⟨b2, b3, b4, b5⟩ | exact ⟨g2, g3, g4, g5⟩ | exact ⟨s2, s3, s4, s5⟩) (fun hHeld => ?_)
      clear hK K
      try simp only [Act.put, List.setIfInBounds_toArray, List.set_cons_zero, List.set_cons_succ]
      refine wpAnyH_ready (rs := [5]) (by kernel_rfl) (by simp) ?_
      refine AllReadyH.cons rfl (fun K hK => ?_) ?_
      · skip
        go_simp
        go_at_call 12
        refine (HAD.out _).mono ?_
        rintro e w' ⟨rfl, rfl⟩
        refine hK.out _ _ (by first | exact hHeld | exact ⟨b2, b3, b4, b5⟩ | exact ⟨g2, g3, g4, g5⟩ | exact ⟨s2, s3, s4, s5⟩) (fun hHeld => ?_)
        clear hK K
        try simp only [Act.put, List.setIfInBounds_toArray, List.set_cons_zero, List.set_cons_succ]
        refine wpAnyH_ready (rs := [10]) (by kernel_rfl) (by simp) ?_
        refine AllReadyH.cons rfl (fun K hK => ?_) ?_
        · skip
          go_simp
          go_at_call 13
          refine (HCU.out _).mono ?_
          rintro e w' ⟨rfl, rfl⟩
          refine hK.out _ _ (by first | exact hHeld | exact ⟨b2, b3, b4, b5⟩ | exact ⟨g2, g3, g4, g5⟩ | exact ⟨s2, s3, s4, s5⟩) (fun hHeld => ?_)
          clear hK K
          try simp only [Act.put, List.setIfInBounds_toArray, List.set_cons_zero, List.set_cons_succ]
          refine wpAnyH_ready (rs := [11]) (by kernel_rfl) (by simp) ?_
          refine AllReadyH.cons rfl (fun K hK => ?_) ?_
          · skip
            go_simp
            go_at_call 11
            (with_reducible refine (HDA.out).mono ?_)
            rintro e w5 ⟨A5, c5, out, high', next', bs', nb', inV', unV', un', rfl, hown, hol, han, hch⟩
            have HAN := Lib.hid han
            have HCH := Lib.hid hch
            have HOL : Hid ((out.map Value.string).length = out.length * 1) := by show _ = _; simp
            have HO0 : Hid (A5 = none → out.length = 0) := fun e => by
              subst e
              rcases hown.2 with ⟨_, hz⟩ | ⟨g, cap, cur, e, _⟩
              · exact hz
              · cases e
            have HSC := Lib.hid (ownCells1 hown)
            have HOC : Hid (∀ u ∈ out.map Value.string, u.oneCell' = true) := fun u hu => by
              obtain ⟨x, _, rfl⟩ := List.mem_map.1 hu
              rfl
            have HBZ := Lib.hid han.nm.rcv.lts
            have HG5 : Hid (w5.ownsRow w0.heap.size 9 1 (.slice Ag ib.length cg) ib.length (ib.map Value.string)) := rrow_blk HB.out.row fun b hb => hch.keep b (HB.out.row.lt b hb).2 (HB.out.own b hb).1
            have b1 : w5.cell? ⟨tg, 0, none⟩ = some (.slice Ag ib.length cg) := by rw [World.cell?_of_block (w := w) (hch.keep tg (rblk_lt HB.out.bg) HB.out.ntg)]; exact k1
            have b2 : w5.cell? ⟨tr, 0, none⟩ = some (.pointer (some ⟨gr, 0, none⟩)) := by rw [World.cell?_of_block (w := w) (hch.keep tr (rblk_lt HB.out.br) HB.out.ntr)]; exact k2
            have b3 : w5.cell? ⟨ts, 0, none⟩ = some (.int .i64 st0) := by rw [han.nm.rcv.bel.cell (p := ⟨ts, 0, none⟩) HL3.out]; exact HW3.out
            have b4 : w5.cell? ⟨tm, 0, none⟩ = some (.slice (some ⟨bm, off, none⟩) ln cm) := by rw [han.nm.rcv.bel.cell (p := ⟨tm, 0, none⟩) HL4.out]; exact HW4.out
            have b5 : w5.cell? ⟨bm, off + i, none⟩ = some (.string (f i)) := by rw [han.nm.rcv.bel.cell (p := ⟨bm, off + i, none⟩) hbl]; exact hcm
            clear hown han hch
            refine hK.out _ _ (by first | exact hHeld | exact ⟨b2, b3, b4, b5⟩ | exact ⟨g2, g3, g4, g5⟩ | exact ⟨s2, s3, s4, s5⟩) (fun hHeld => ?_)
            clear hK K
            try simp only [Act.put, List.setIfInBounds_toArray, List.set_cons_zero, List.set_cons_succ]
            refine wpAnyH_ready (rs := [12]) (by kernel_rfl) (by simp) ?_
            refine AllReadyH.cons rfl (fun K hK => ?_) ?_
            · skip
              refine step_append_src _ rfl (.tmp 6) (.tmp 17) 22 rfl w0.heap.size 9 i0 (.string ⟨#[]⟩) 1 16 Try.underlying22 Hi.out Hz0.out Hz1.out Hz2.out rfl (by decide) (.slice Ag ib.length cg) ib.length (ib.map Value.string) (by rfl) HG5.out A5 out.length c5 (out.map Value.string) (by rfl) HOL.out HO0.out HSC.out HOC.out (by unfold maxLen; omega) (by omega) HBZ.out ?_
              intro v6 w6 hown6 hg6 hv6
              obtain ⟨A6, c6, rfl⟩ := ownForm hown6
              have HO6 := Lib.hid hown6
              have HG6 := Lib.hid hg6
              have HV6 := Lib.hid hv6
              have hrl : ∀ b, (Value.slice Ag ib.length cg).ownBlock = some b → w0.heap.size ≤ b ∧ b ≠ tg ∧ b ≠ tr := fun b hb => ⟨(HB.out.row.lt b hb).1, (HB.out.own b hb).2⟩
              have hbl6 : Below w0.heap.size w0 w6 := HAN.out.nm.rcv.bel.grown hg6 HAN.out.nm.rcv.bel.size (fun j hj => (hrl j hj).1)
              have g1 : w6.cell? ⟨tg, 0, none⟩ = some (.slice Ag ib.length cg) := by rw [World.cell?_of_block (w := w5) (hg6.block tg (Nat.lt_of_lt_of_le (rblk_lt HB.out.bg) HCH.out.size) (fun e => (hrl tg e.symm).2.1 rfl))]; exact b1
              have g2 : w6.cell? ⟨tr, 0, none⟩ = some (.pointer (some ⟨gr, 0, none⟩)) := by rw [World.cell?_of_block (w := w5) (hg6.block tr (Nat.lt_of_lt_of_le (rblk_lt HB.out.br) HCH.out.size) (fun e => (hrl tr e.symm).2.2 rfl))]; exact b2
              have g3 : w6.cell? ⟨ts, 0, none⟩ = some (.int .i64 st0) := by rw [hbl6.cell (p := ⟨ts, 0, none⟩) HL3.out]; exact HW3.out
              have g4 : w6.cell? ⟨tm, 0, none⟩ = some (.slice (some ⟨bm, off, none⟩) ln cm) := by rw [hbl6.cell (p := ⟨tm, 0, none⟩) HL4.out]; exact HW4.out
              have g5 : w6.cell? ⟨bm, off + i, none⟩ = some (.string (f i)) := by rw [hbl6.cell (p := ⟨bm, off + i, none⟩) hbl]; exact hcm
              have gf : w6.frozen? ⟨tg, 0, none⟩ = false := by
                rw [World.frozen?_of_block (w := w5) (hg6.block tg (Nat.lt_of_lt_of_le (rblk_lt HB.out.bg) HCH.out.size) (fun e => (hrl tg e.symm).2.1 rfl)), World.frozen?_of_block (w := w) (HCH.out.keep tg (rblk_lt HB.out.bg) HB.out.ntg)]
                exact rblk_frozen HB.out.bg 0
              have s2 : (w6.setCell ⟨tg, 0, none⟩ (.slice A6 (ib.length + out.length) c6)).cell? ⟨tr, 0, none⟩ = some (.pointer (some ⟨gr, 0, none⟩)) := by rw [World.cell?_of_block (w := w6) (Below.heap_setCell _ _ _ _ (by exact n1))]; exact g2
              have s3 : (w6.setCell ⟨tg, 0, none⟩ (.slice A6 (ib.length + out.length) c6)).cell? ⟨ts, 0, none⟩ = some (.int .i64 st0) := by rw [World.cell?_of_block (w := w6) (Below.heap_setCell _ _ _ _ (by exact n2))]; exact g3
              have s4 : (w6.setCell ⟨tg, 0, none⟩ (.slice A6 (ib.length + out.length) c6)).cell? ⟨tm, 0, none⟩ = some (.slice (some ⟨bm, off, none⟩) ln cm) := by rw [World.cell?_of_block (w := w6) (Below.heap_setCell _ _ _ _ (by exact n3))]; exact g4
              have s5 : (w6.setCell ⟨tg, 0, none⟩ (.slice A6 (ib.length + out.length) c6)).cell? ⟨bm, off + i, none⟩ = some (.string (f i)) := by rw [World.cell?_of_block (w := w6) (Below.heap_setCell _ _ _ _ (by exact n4))]; exact g5
              clear hown6 hg6 hv6 hrl hbl6
              refine hK.out _ _ (by first | exact hHeld | exact ⟨b2, b3, b4, b5⟩ | exact ⟨g2, g3, g4, g5⟩ | exact ⟨s2, s3, s4, s5⟩) (fun hHeld => ?_)
              clear hK K
              try simp only [Act.put, List.setIfInBounds_toArray, List.set_cons_zero, List.set_cons_succ]
              refine wpAnyH_ready (rs := [13]) (by kernel_rfl) (by simp) ?_
              refine AllReadyH.cons rfl (fun K hK => ?_) ?_
              · skip
                go_simp
                refine hK.out _ _ (by first | exact hHeld | exact ⟨b2, b3, b4, b5⟩ | exact ⟨g2, g3, g4, g5⟩ | exact ⟨s2, s3, s4, s5⟩) (fun hHeld => ?_)
                clear hK K
                try simp only [Act.put, List.setIfInBounds_toArray, List.set_cons_zero, List.set_cons_succ]
                refine wpAnyH_done (by kernel_rfl) ?_ _
                try simp only [Act.put, List.setIfInBounds_toArray, List.set_cons_zero, List.set_cons_succ]
                go_wp2_with fail
                go_end0
                exact ⟨rfl, _, _, _, _, _, _, _, _, _, HB.out.gather HAN.out ⟨HCH.out.size, HCH.out.keep, HCH.out.own⟩ HO6.out HG6.out HV6.out⟩
              exact AllReadyH.nil
            exact AllReadyH.nil
          exact AllReadyH.nil
        exact AllReadyH.nil
      exact AllReadyH.nil
    refine AllReadyH.cons rfl (fun K hK => ?_) ?_
    · skip
      go_simp
      go_at_call 12
      refine (HAD.out _).mono ?_
      rintro e w' ⟨rfl, rfl⟩
      refine hK.out _ _ (by first | exact hHeld | exact ⟨b2, b3, b4, b5⟩ | exact ⟨g2, g3, g4, g5⟩ | exact ⟨s2, s3, s4, s5⟩) (fun hHeld => ?_)
      clear hK K
      try simp only [Act.put, List.setIfInBounds_toArray, List.set_cons_zero, List.set_cons_succ]
      refine wpAnyH_ready (rs := [0, 10]) (by kernel_rfl) (by simp) ?_
      refine AllReadyH.cons rfl (fun K hK => ?_) ?_
      · skip
        go_simp
        refine hK.out _ _ (by first | exact hHeld | exact ⟨b2, b3, b4, b5⟩ | exact ⟨g2, g3, g4, g5⟩ | exact ⟨s2, s3, s4, s5⟩) (fun hHeld => ?_)
        clear hK K
        try simp only [Act.put, List.setIfInBounds_toArray, List.set_cons_zero, List.set_cons_succ]
        refine wpAnyH_ready (rs := [10]) (by kernel_rfl) (by simp) ?_
        refine AllReadyH.cons rfl (fun K hK => ?_) ?_
        · skip
          go_simp
          go_at_call 13
          refine (HCU.out _).mono ?_
          rintro e w' ⟨rfl, rfl⟩
          refine hK.out _ _ (by first | exact hHeld | exact ⟨b2, b3, b4, b5⟩ | exact ⟨g2, g3, g4, g5⟩ | exact ⟨s2, s3, s4, s5⟩) (fun hHeld => ?_)
          clear hK K
          try simp only [Act.put, List.setIfInBounds_toArray, List.set_cons_zero, List.set_cons_succ]
          refine wpAnyH_ready (rs := [11]) (by kernel_rfl) (by simp) ?_
          refine AllReadyH.cons rfl (fun K hK => ?_) ?_
          · skip
            go_simp
            go_at_call 11
            (with_reducible refine (HDA.out).mono ?_)
            rintro e w5 ⟨A5, c5, out, high', next', bs', nb', inV', unV', un', rfl, hown, hol, han, hch⟩
            have HAN := Lib.hid han
            have HCH := Lib.hid hch
            have HOL : Hid ((out.map Value.string).length = out.length * 1) := by show _ = _; simp
            have HO0 : Hid (A5 = none → out.length = 0) := fun e => by
              subst e
              rcases hown.2 with ⟨_, hz⟩ | ⟨g, cap, cur, e, _⟩
              · exact hz
              · cases e
            have HSC := Lib.hid (ownCells1 hown)
            have HOC : Hid (∀ u ∈ out.map Value.string, u.oneCell' = true) := fun u hu => by
              obtain ⟨x, _, rfl⟩ := List.mem_map.1 hu
              rfl
            have HBZ := Lib.hid han.nm.rcv.lts
            have HG5 : Hid (w5.ownsRow w0.heap.size 9 1 (.slice Ag ib.length cg) ib.length (ib.map Value.string)) := rrow_blk HB.out.row fun b hb => hch.keep b (HB.out.row.lt b hb).2 (HB.out.own b hb).1
            have b1 : w5.cell? ⟨tg, 0, none⟩ = some (.slice Ag ib.length cg) := by rw [World.cell?_of_block (w := w) (hch.keep tg (rblk_lt HB.out.bg) HB.out.ntg)]; exact k1
            have b2 : w5.cell? ⟨tr, 0, none⟩ = some (.pointer (some ⟨gr, 0, none⟩)) := by rw [World.cell?_of_block (w := w) (hch.keep tr (rblk_lt HB.out.br) HB.out.ntr)]; exact k2
            have b3 : w5.cell? ⟨ts, 0, none⟩ = some (.int .i64 st0) := by rw [han.nm.rcv.bel.cell (p := ⟨ts, 0, none⟩) HL3.out]; exact HW3.out
            have b4 : w5.cell? ⟨tm, 0, none⟩ = some (.slice (some ⟨bm, off, none⟩) ln cm) := by rw [han.nm.rcv.bel.cell (p := ⟨tm, 0, none⟩) HL4.out]; exact HW4.out
            have b5 : w5.cell? ⟨bm, off + i, none⟩ = some (.string (f i)) := by rw [han.nm.rcv.bel.cell (p := ⟨bm, off + i, none⟩) hbl]; exact hcm
            clear hown han hch
            refine hK.out _ _ (by first | exact hHeld | exact ⟨b2, b3, b4, b5⟩ | exact ⟨g2, g3, g4, g5⟩ | exact ⟨s2, s3, s4, s5⟩) (fun hHeld => ?_)
            clear hK K
            try simp only [Act.put, List.setIfInBounds_toArray, List.set_cons_zero, List.set_cons_succ]
            refine wpAnyH_ready (rs := [12]) (by kernel_rfl) (by simp) ?_
            refine AllReadyH.cons rfl (fun K hK => ?_) ?_
            · skip
              refine step_append_src _ rfl (.tmp 6) (.tmp 17) 22 rfl w0.heap.size 9 i0 (.string ⟨#[]⟩) 1 16 Try.underlying22 Hi.out Hz0.out Hz1.out Hz2.out rfl (by decide) (.slice Ag ib.length cg) ib.length (ib.map Value.string) (by rfl) HG5.out A5 out.length c5 (out.map Value.string) (by rfl) HOL.out HO0.out HSC.out HOC.out (by unfold maxLen; omega) (by omega) HBZ.out ?_
              intro v6 w6 hown6 hg6 hv6
              obtain ⟨A6, c6, rfl⟩ := ownForm hown6
              have HO6 := Lib.hid hown6
              have HG6 := Lib.hid hg6
              have HV6 := Lib.hid hv6
              have hrl : ∀ b, (Value.slice Ag ib.length cg).ownBlock = some b → w0.heap.size ≤ b ∧ b ≠ tg ∧ b ≠ tr := fun b hb => ⟨(HB.out.row.lt b hb).1, (HB.out.own b hb).2⟩
              have hbl6 : Below w0.heap.size w0 w6 := HAN.out.nm.rcv.bel.grown hg6 HAN.out.nm.rcv.bel.size (fun j hj => (hrl j hj).1)
              have g1 : w6.cell? ⟨tg, 0, none⟩ = some (.slice Ag ib.length cg) := by rw [World.cell?_of_block (w := w5) (hg6.block tg (Nat.lt_of_lt_of_le (rblk_lt HB.out.bg) HCH.out.size) (fun e => (hrl tg e.symm).2.1 rfl))]; exact b1
              have g2 : w6.cell? ⟨tr, 0, none⟩ = some (.pointer (some ⟨gr, 0, none⟩)) := by rw [World.cell?_of_block (w := w5) (hg6.block tr (Nat.lt_of_lt_of_le (rblk_lt HB.out.br) HCH.out.size) (fun e => (hrl tr e.symm).2.2 rfl))]; exact b2
              have g3 : w6.cell? ⟨ts, 0, none⟩ = some (.int .i64 st0) := by rw [hbl6.cell (p := ⟨ts, 0, none⟩) HL3.out]; exact HW3.out
              have g4 : w6.cell? ⟨tm, 0, none⟩ = some (.slice (some ⟨bm, off, none⟩) ln cm) := by rw [hbl6.cell (p := ⟨tm, 0, none⟩) HL4.out]; exact HW4.out
              have g5 : w6.cell? ⟨bm, off + i, none⟩ = some (.string (f i)) := by rw [hbl6.cell (p := ⟨bm, off + i, none⟩) hbl]; exact hcm
              have gf : w6.frozen? ⟨tg, 0, none⟩ = false := by
                rw [World.frozen?_of_block (w := w5) (hg6.block tg (Nat.lt_of_lt_of_le (rblk_lt HB.out.bg) HCH.out.size) (fun e => (hrl tg e.symm).2.1 rfl)), World.frozen?_of_block (w := w) (HCH.out.keep tg (rblk_lt HB.out.bg) HB.out.ntg)]
                exact rblk_frozen HB.out.bg 0
              have s2 : (w6.setCell ⟨tg, 0, none⟩ (.slice A6 (ib.length + out.length) c6)).cell? ⟨tr, 0, none⟩ = some (.pointer (some ⟨gr, 0, none⟩)) := by rw [World.cell?_of_block (w := w6) (Below.heap_setCell _ _ _ _ (by exact n1))]; exact g2
              have s3 : (w6.setCell ⟨tg, 0, none⟩ (.slice A6 (ib.length + out.length) c6)).cell? ⟨ts, 0, none⟩ = some (.int .i64 st0) := by rw [World.cell?_of_block (w := w6) (Below.heap_setCell _ _ _ _ (by exact n2))]; exact g3
              have s4 : (w6.setCell ⟨tg, 0, none⟩ (.slice A6 (ib.length + out.length) c6)).cell? ⟨tm, 0, none⟩ = some (.slice (some ⟨bm, off, none⟩) ln cm) := by rw [World.cell?_of_block (w := w6) (Below.heap_setCell _ _ _ _ (by exact n3))]; exact g4
              have s5 : (w6.setCell ⟨tg, 0, none⟩ (.slice A6 (ib.length + out.length) c6)).cell? ⟨bm, off + i, none⟩ = some (.string (f i)) := by rw [World.cell?_of_block (w := w6) (Below.heap_setCell _ _ _ _ (by exact n4))]; exact g5
              clear hown6 hg6 hv6 hrl hbl6
              refine hK.out _ _ (by first | exact hHeld | exact ⟨b2, b3, b4, b5⟩ | exact ⟨g2, g3, g4, g5⟩ | exact ⟨s2, s3, s4, s5⟩) (fun hHeld => ?_)
              clear hK K
              try simp only [Act.put, List.setIfInBounds_toArray, List.set_cons_zero, List.set_cons_succ]
              refine wpAnyH_ready (rs := [13]) (by kernel_rfl) (by simp) ?_
              refine AllReadyH.cons rfl (fun K hK => ?_) ?_
              · skip
                go_simp
                refine hK.out _ _ (by first | exact hHeld | exact ⟨b2, b3, b4, b5⟩ | exact ⟨g2, g3, g4, g5⟩ | exact ⟨s2, s3, s4, s5⟩) (fun hHeld => ?_)
                clear hK K
                try simp only [Act.put, List.setIfInBounds_toArray, List.set_cons_zero, List.set_cons_succ]
                refine wpAnyH_done (by kernel_rfl) ?_ _
                try simp only [Act.put, List.setIfInBounds_toArray, List.set_cons_zero, List.set_cons_succ]
                go_wp2_with fail
                go_end0
                exact ⟨rfl, _, _, _, _, _, _, _, _, _, HB.out.gather HAN.out ⟨HCH.out.size, HCH.out.keep, HCH.out.own⟩ HO6.out HG6.out HV6.out⟩
              exact AllReadyH.nil
            exact AllReadyH.nil
          exact AllReadyH.nil
        exact AllReadyH.nil
      refine AllReadyH.cons rfl (fun K hK => ?_) ?_
      · skip
        go_simp
        go_at_call 13
        refine (HCU.out _).mono ?_
        rintro e w' ⟨rfl, rfl⟩
        refine hK.out _ _ (by first | exact hHeld | exact ⟨b2, b3, b4, b5⟩ | exact ⟨g2, g3, g4, g5⟩ | exact ⟨s2, s3, s4, s5⟩) (fun hHeld => ?_)
        clear hK K
        try simp only [Act.put, List.setIfInBounds_toArray, List.set_cons_zero, List.set_cons_succ]
        refine wpAnyH_ready (rs := [0, 11]) (by kernel_rfl) (by simp) ?_
        refine AllReadyH.cons rfl (fun K hK => ?_) ?_
        · skip
          go_simp
          refine hK.out _ _ (by first | exact hHeld | exact ⟨b2, b3, b4, b5⟩ | exact ⟨g2, g3, g4, g5⟩ | exact ⟨s2, s3, s4, s5⟩) (fun hHeld => ?_)
          clear hK K
          try simp only [Act.put, List.setIfInBounds_toArray, List.set_cons_zero, List.set_cons_succ]
          refine wpAnyH_ready (rs := [11]) (by kernel_rfl) (by simp) ?_
          refine AllReadyH.cons rfl (fun K hK => ?_) ?_
          · skip
            go_simp
            go_at_call 11
            (with_reducible refine (HDA.out).mono ?_)
            rintro e w5 ⟨A5, c5, out, high', next', bs', nb', inV', unV', un', rfl, hown, hol, han, hch⟩
            have HAN := Lib.hid han
            have HCH := Lib.hid hch
            have HOL : Hid ((out.map Value.string).length = out.length * 1) := by show _ = _; simp
            have HO0 : Hid (A5 = none → out.length = 0) := fun e => by
              subst e
              rcases hown.2 with ⟨_, hz⟩ | ⟨g, cap, cur, e, _⟩
              · exact hz
              · cases e
            have HSC := Lib.hid (ownCells1 hown)
            have HOC : Hid (∀ u ∈ out.map Value.string, u.oneCell' = true) := fun u hu => by
              obtain ⟨x, _, rfl⟩ := List.mem_map.1 hu
              rfl
            have HBZ := Lib.hid han.nm.rcv.lts
            have HG5 : Hid (w5.ownsRow w0.heap.size 9 1 (.slice Ag ib.length cg) ib.length (ib.map Value.string)) := rrow_blk HB.out.row fun b hb => hch.keep b (HB.out.row.lt b hb).2 (HB.out.own b hb).1
            have b1 : w5.cell? ⟨tg, 0, none⟩ = some (.slice Ag ib.length cg) := by rw [World.cell?_of_block (w := w) (hch.keep tg (rblk_lt HB.out.bg) HB.out.ntg)]; exact k1
            have b2 : w5.cell? ⟨tr, 0, none⟩ = some (.pointer (some ⟨gr, 0, none⟩)) := by rw [World.cell?_of_block (w := w) (hch.keep tr (rblk_lt HB.out.br) HB.out.ntr)]; exact k2
            have b3 : w5.cell? ⟨ts, 0, none⟩ = some (.int .i64 st0) := by rw [han.nm.rcv.bel.cell (p := ⟨ts, 0, none⟩) HL3.out]; exact HW3.out
            have b4 : w5.cell? ⟨tm, 0, none⟩ = some (.slice (some ⟨bm, off, none⟩) ln cm) := by rw [han.nm.rcv.bel.cell (p := ⟨tm, 0, none⟩) HL4.out]; exact HW4.out
            have b5 : w5.cell? ⟨bm, off + i, none⟩ = some (.string (f i)) := by rw [han.nm.rcv.bel.cell (p := ⟨bm, off + i, none⟩) hbl]; exact hcm
            clear hown han hch
            refine hK.out _ _ (by first | exact hHeld | exact ⟨b2, b3, b4, b5⟩ | exact ⟨g2, g3, g4, g5⟩ | exact ⟨s2, s3, s4, s5⟩) (fun hHeld => ?_)
            clear hK K
            try simp only [Act.put, List.setIfInBounds_toArray, List.set_cons_zero, List.set_cons_succ]
            refine wpAnyH_ready (rs := [12]) (by kernel_rfl) (by simp) ?_
            refine AllReadyH.cons rfl (fun K hK => ?_) ?_
            · skip
              refine step_append_src _ rfl (.tmp 6) (.tmp 17) 22 rfl w0.heap.size 9 i0 (.string ⟨#[]⟩) 1 16 Try.underlying22 Hi.out Hz0.out Hz1.out Hz2.out rfl (by decide) (.slice Ag ib.length cg) ib.length (ib.map Value.string) (by rfl) HG5.out A5 out.length c5 (out.map Value.string) (by rfl) HOL.out HO0.out HSC.out HOC.out (by unfold maxLen; omega) (by omega) HBZ.out ?_
              intro v6 w6 hown6 hg6 hv6
              obtain ⟨A6, c6, rfl⟩ := ownForm hown6
              have HO6 := Lib.hid hown6
              have HG6 := Lib.hid hg6
              have HV6 := Lib.hid hv6
              have hrl : ∀ b, (Value.slice Ag ib.length cg).ownBlock = some b → w0.heap.size ≤ b ∧ b ≠ tg ∧ b ≠ tr := fun b hb => ⟨(HB.out.row.lt b hb).1, (HB.out.own b hb).2⟩
              have hbl6 : Below w0.heap.size w0 w6 := HAN.out.nm.rcv.bel.grown hg6 HAN.out.nm.rcv.bel.size (fun j hj => (hrl j hj).1)
              have g1 : w6.cell? ⟨tg, 0, none⟩ = some (.slice Ag ib.length cg) := by rw [World.cell?_of_block (w := w5) (hg6.block tg (Nat.lt_of_lt_of_le (rblk_lt HB.out.bg) HCH.out.size) (fun e => (hrl tg e.symm).2.1 rfl))]; exact b1
              have g2 : w6.cell? ⟨tr, 0, none⟩ = some (.pointer (some ⟨gr, 0, none⟩)) := by rw [World.cell?_of_block (w := w5) (hg6.block tr (Nat.lt_of_lt_of_le (rblk_lt HB.out.br) HCH.out.size) (fun e => (hrl tr e.symm).2.2 rfl))]; exact b2
              have g3 : w6.cell? ⟨ts, 0, none⟩ = some (.int .i64 st0) := by rw [hbl6.cell (p := ⟨ts, 0, none⟩) HL3.out]; exact HW3.out
              have g4 : w6.cell? ⟨tm, 0, none⟩ = some (.slice (some ⟨bm, off, none⟩) ln cm) := by rw [hbl6.cell (p := ⟨tm, 0, none⟩) HL4.out]; exact HW4.out
              have g5 : w6.cell? ⟨bm, off + i, none⟩ = some (.string (f i)) := by rw [hbl6.cell (p := ⟨bm, off + i, none⟩) hbl]; exact hcm
              have gf : w6.frozen? ⟨tg, 0, none⟩ = false := by
                rw [World.frozen?_of_block (w := w5) (hg6.block tg (Nat.lt_of_lt_of_le (rblk_lt HB.out.bg) HCH.out.size) (fun e => (hrl tg e.symm).2.1 rfl)), World.frozen?_of_block (w := w) (HCH.out.keep tg (rblk_lt HB.out.bg) HB.out.ntg)]
                exact rblk_frozen HB.out.bg 0
              have s2 : (w6.setCell ⟨tg, 0, none⟩ (.slice A6 (ib.length + out.length) c6)).cell? ⟨tr, 0, none⟩ = some (.pointer (some ⟨gr, 0, none⟩)) := by rw [World.cell?_of_block (w := w6) (Below.heap_setCell _ _ _ _ (by exact n1))]; exact g2
              have s3 : (w6.setCell ⟨tg, 0, none⟩ (.slice A6 (ib.length + out.length) c6)).cell? ⟨ts, 0, none⟩ = some (.int .i64 st0) := by rw [World.cell?_of_block (w := w6) (Below.heap_setCell _ _ _ _ (by exact n2))]; exact g3
              have s4 : (w6.setCell ⟨tg, 0, none⟩ (.slice A6 (ib.length + out.length) c6)).cell? ⟨tm, 0, none⟩ = some (.slice (some ⟨bm, off, none⟩) ln cm) := by rw [World.cell?_of_block (w := w6) (Below.heap_setCell _ _ _ _ (by exact n3))]; exact g4
              have s5 : (w6.setCell ⟨tg, 0, none⟩ (.slice A6 (ib.length + out.length) c6)).cell? ⟨bm, off + i, none⟩ = some (.string (f i)) := by rw [World.cell?_of_block (w := w6) (Below.heap_setCell _ _ _ _ (by exact n4))]; exact g5
              clear hown6 hg6 hv6 hrl hbl6
              refine hK.out _ _ (by first | exact hHeld | exact ⟨b2, b3, b4, b5⟩ | exact ⟨g2, g3, g4, g5⟩ | exact ⟨s2, s3, s4, s5⟩) (fun hHeld => ?_)
              clear hK K
              try simp only [Act.put, List.setIfInBounds_toArray, List.set_cons_zero, List.set_cons_succ]
              refine wpAnyH_ready (rs := [13]) (by kernel_rfl) (by simp) ?_
              refine AllReadyH.cons rfl (fun K hK => ?_) ?_
              · skip
                go_simp
                refine hK.out _ _ (by first | exact hHeld | exact ⟨b2, b3, b4, b5⟩ | exact ⟨g2, g3, g4, g5⟩ | exact ⟨s2, s3, s4, s5⟩) (fun hHeld => ?_)
                clear hK K
                try simp only [Act.put, List.setIfInBounds_toArray, List.set_cons_zero, List.set_cons_succ]
                refine wpAnyH_done (by kernel_rfl) ?_ _
                try simp only [Act.put, List.setIfInBounds_toArray, List.set_cons_zero, List.set_cons_succ]
                go_wp2_with fail
                go_end0
                exact ⟨rfl, _, _, _, _, _, _, _, _, _, HB.out.gather HAN.out ⟨HCH.out.size, HCH.out.keep, HCH.out.own⟩ HO6.out HG6.out HV6.out⟩
              exact AllReadyH.nil
            exact AllReadyH.nil
          exact AllReadyH.nil
        refine AllReadyH.cons rfl (fun K hK => ?_) ?_
        · skip
          go_simp
          go_at_call 11
          (with_reducible refine (HDA.out).mono ?_)
          rintro e w5 ⟨A5, c5, out, high', next', bs', nb', inV', unV', un', rfl, hown, hol, han, hch⟩
          have HAN := Lib.hid han
          have HCH := Lib.hid hch
          have HOL : Hid ((out.map Value.string).length = out.length * 1) := by show _ = _; simp
          have HO0 : Hid (A5 = none → out.length = 0) := fun e => by
            subst e
            rcases hown.2 with ⟨_, hz⟩ | ⟨g, cap, cur, e, _⟩
            · exact hz
            · cases e
          have HSC := Lib.hid (ownCells1 hown)
          have HOC : Hid (∀ u ∈ out.map Value.string, u.oneCell' = true) := fun u hu => by
            obtain ⟨x, _, rfl⟩ := List.mem_map.1 hu
            rfl
          have HBZ := Lib.hid han.nm.rcv.lts
          have HG5 : Hid (w5.ownsRow w0.heap.size 9 1 (.slice Ag ib.length cg) ib.length (ib.map Value.string)) := rrow_blk HB.out.row fun b hb => hch.keep b (HB.out.row.lt b hb).2 (HB.out.own b hb).1
          have b1 : w5.cell? ⟨tg, 0, none⟩ = some (.slice Ag ib.length cg) := by rw [World.cell?_of_block (w := w) (hch.keep tg (rblk_lt HB.out.bg) HB.out.ntg)]; exact k1
          have b2 : w5.cell? ⟨tr, 0, none⟩ = some (.pointer (some ⟨gr, 0, none⟩)) := by rw [World.cell?_of_block (w := w) (hch.keep tr (rblk_lt HB.out.br) HB.out.ntr)]; exact k2
          have b3 : w5.cell? ⟨ts, 0, none⟩ = some (.int .i64 st0) := by rw [han.nm.rcv.bel.cell (p := ⟨ts, 0, none⟩) HL3.out]; exact HW3.out
          have b4 : w5.cell? ⟨tm, 0, none⟩ = some (.slice (some ⟨bm, off, none⟩) ln cm) := by rw [han.nm.rcv.bel.cell (p := ⟨tm, 0, none⟩) HL4.out]; exact HW4.out
          have b5 : w5.cell? ⟨bm, off + i, none⟩ = some (.string (f i)) := by rw [han.nm.rcv.bel.cell (p := ⟨bm, off + i, none⟩) hbl]; exact hcm
          clear hown han hch
          refine hK.out _ _ (by first | exact hHeld | exact ⟨b2, b3, b4, b5⟩ | exact ⟨g2, g3, g4, g5⟩ | exact ⟨s2, s3, s4, s5⟩) (fun hHeld => ?_)
          clear hK K
          try simp only [Act.put, List.setIfInBounds_toArray, List.set_cons_zero, List.set_cons_succ]
          refine wpAnyH_ready (rs := [0]) (by kernel_rfl) (by simp) ?_
          refine AllReadyH.cons rfl (fun K hK => ?_) ?_
          · skip
            go_simp
            refine hK.out _ _ (by first | exact hHeld | exact ⟨b2, b3, b4, b5⟩ | exact ⟨g2, g3, g4, g5⟩ | exact ⟨s2, s3, s4, s5⟩) (fun hHeld => ?_)
            clear hK K
            try simp only [Act.put, List.setIfInBounds_toArray, List.set_cons_zero, List.set_cons_succ]
            refine wpAnyH_ready (rs := [12]) (by kernel_rfl) (by simp) ?_
            refine AllReadyH.cons rfl (fun K hK => ?_) ?_
            · skip
              refine step_append_src _ rfl (.tmp 6) (.tmp 17) 22 rfl w0.heap.size 9 i0 (.string ⟨#[]⟩) 1 16 Try.underlying22 Hi.out Hz0.out Hz1.out Hz2.out rfl (by decide) (.slice Ag ib.length cg) ib.length (ib.map Value.string) (by rfl) HG5.out A5 out.length c5 (out.map Value.string) (by rfl) HOL.out HO0.out HSC.out HOC.out (by unfold maxLen; omega) (by omega) HBZ.out ?_
              intro v6 w6 hown6 hg6 hv6
              obtain ⟨A6, c6, rfl⟩ := ownForm hown6
              have HO6 := Lib.hid hown6
              have HG6 := Lib.hid hg6
              have HV6 := Lib.hid hv6
              have hrl : ∀ b, (Value.slice Ag ib.length cg).ownBlock = some b → w0.heap.size ≤ b ∧ b ≠ tg ∧ b ≠ tr := fun b hb => ⟨(HB.out.row.lt b hb).1, (HB.out.own b hb).2⟩
              have hbl6 : Below w0.heap.size w0 w6 := HAN.out.nm.rcv.bel.grown hg6 HAN.out.nm.rcv.bel.size (fun j hj => (hrl j hj).1)
              have g1 : w6.cell? ⟨tg, 0, none⟩ = some (.slice Ag ib.length cg) := by rw [World.cell?_of_block (w := w5) (hg6.block tg (Nat.lt_of_lt_of_le (rblk_lt HB.out.bg) HCH.out.size) (fun e => (hrl tg e.symm).2.1 rfl))]; exact b1
              have g2 : w6.cell? ⟨tr, 0, none⟩ = some (.pointer (some ⟨gr, 0, none⟩)) := by rw [World.cell?_of_block (w := w5) (hg6.block tr (Nat.lt_of_lt_of_le (rblk_lt HB.out.br) HCH.out.size) (fun e => (hrl tr e.symm).2.2 rfl))]; exact b2
              have g3 : w6.cell? ⟨ts, 0, none⟩ = some (.int .i64 st0) := by rw [hbl6.cell (p := ⟨ts, 0, none⟩) HL3.out]; exact HW3.out
              have g4 : w6.cell? ⟨tm, 0, none⟩ = some (.slice (some ⟨bm, off, none⟩) ln cm) := by rw [hbl6.cell (p := ⟨tm, 0, none⟩) HL4.out]; exact HW4.out
              have g5 : w6.cell? ⟨bm, off + i, none⟩ = some (.string (f i)) := by rw [hbl6.cell (p := ⟨bm, off + i, none⟩) hbl]; exact hcm
              have gf : w6.frozen? ⟨tg, 0, none⟩ = false := by
                rw [World.frozen?_of_block (w := w5) (hg6.block tg (Nat.lt_of_lt_of_le (rblk_lt HB.out.bg) HCH.out.size) (fun e => (hrl tg e.symm).2.1 rfl)), World.frozen?_of_block (w := w) (HCH.out.keep tg (rblk_lt HB.out.bg) HB.out.ntg)]
                exact rblk_frozen HB.out.bg 0
              have s2 : (w6.setCell ⟨tg, 0, none⟩ (.slice A6 (ib.length + out.length) c6)).cell? ⟨tr, 0, none⟩ = some (.pointer (some ⟨gr, 0, none⟩)) := by rw [World.cell?_of_block (w := w6) (Below.heap_setCell _ _ _ _ (by exact n1))]; exact g2
              have s3 : (w6.setCell ⟨tg, 0, none⟩ (.slice A6 (ib.length + out.length) c6)).cell? ⟨ts, 0, none⟩ = some (.int .i64 st0) := by rw [World.cell?_of_block (w := w6) (Below.heap_setCell _ _ _ _ (by exact n2))]; exact g3
              have s4 : (w6.setCell ⟨tg, 0, none⟩ (.slice A6 (ib.length + out.length) c6)).cell? ⟨tm, 0, none⟩ = some (.slice (some ⟨bm, off, none⟩) ln cm) := by rw [World.cell?_of_block (w := w6) (Below.heap_setCell _ _ _ _ (by exact n3))]; exact g4
              have s5 : (w6.setCell ⟨tg, 0, none⟩ (.slice A6 (ib.length + out.length) c6)).cell? ⟨bm, off + i, none⟩ = some (.string (f i)) := by rw [World.cell?_of_block (w := w6) (Below.heap_setCell _ _ _ _ (by exact n4))]; exact g5
              clear hown6 hg6 hv6 hrl hbl6
              refine hK.out _ _ (by first | exact hHeld | exact ⟨b2, b3, b4, b5⟩ | exact ⟨g2, g3, g4, g5⟩ | exact ⟨s2, s3, s4, s5⟩) (fun hHeld => ?_)
              clear hK K
              try simp only [Act.put, List.setIfInBounds_toArray, List.set_cons_zero, List.set_cons_succ]
              refine wpAnyH_ready (rs := [13]) (by kernel_rfl) (by simp) ?_
              refine AllReadyH.cons rfl (fun K hK => ?_) ?_
              · skip
                go_simp
                refine hK.out _ _ (by first | exact hHeld | exact ⟨b2, b3, b4, b5⟩ | exact ⟨g2, g3, g4, g5⟩ | exact ⟨s2, s3, s4, s5⟩) (fun hHeld => ?_)
                clear hK K
                try simp only [Act.put, List.setIfInBounds_toArray, List.set_cons_zero, List.set_cons_succ]
                refine wpAnyH_done (by kernel_rfl) ?_ _
                try simp only [Act.put, List.setIfInBounds_toArray, List.set_cons_zero, List.set_cons_succ]
                go_wp2_with fail
                go_end0
                exact ⟨rfl, _, _, _, _, _, _, _, _, _, HB.out.gather HAN.out ⟨HCH.out.size, HCH.out.keep, HCH.out.own⟩ HO6.out HG6.out HV6.out⟩
              exact AllReadyH.nil
            exact AllReadyH.nil
          exact AllReadyH.nil
        exact AllReadyH.nil
      exact AllReadyH.nil
    exact AllReadyH.nil
  exact AllReadyH.nil
end Go.Proofs.Ytgfdgcpbmjhmmaa
namespace Go.Proofs.Ytgfdgcpbmjhmmaa
open Go.RowKit
set_option linter.unusedVariables false
set_option maxHeartbeats 4000000 in
set_option maxRecDepth 100000 in
theorem law_same {w : World} {B1 B2 : Nat} {v1 v2 : Value} {l : List ByteArray} (h1 : w.ownsRow B1 9 1 v1 l.length (l.map Value.string)) (h2 : w.ownsRow B2 9 1 v2 l.length (l.map Value.string)) (hl : l.length ≤ 1000) :
    Calls Try.prog 15 #[v1, v2] w fun e w' => e = .returned (.bool true) ∧ Below w.heap.size w w' := by
  obtain ⟨A1, c1, rfl⟩ := ownForm h1
  obtain ⟨A2, c2, rfl⟩ := ownForm h2
  have H1 := Lib.hid h1
  have H2 := Lib.hid h2
  clear h1 h2
  go_enter Try.func15, Try.ntmps15
  go_wp2_with fail
  go_loopw [13] (fun i wr => ∃ k : Nat, k ≤ l.length ∧ i = .int .i64 k ∧ Hid (Below w.heap.size w wr)) (fun i _ => l.length - (intOf i).toNat)
  case atStart => exact ⟨0, by omega, rfl, Below.refl _ _⟩
  case round =>
    obtain ⟨k, hk, rfl, HB⟩ := hrel
    by_cases hlt : k < l.length
    · have e1 : decide ((k : Int) < (l.length : Int)) = true := decide_eq_true (by omega)
      have hx : (l.map Value.string)[k]? = some (.string l[k]) := by rw [List.getElem?_map, List.getElem?_eq_getElem hlt]; rfl
      have g1 : ∃ g, A1 = some ⟨g, 0, none⟩ := by
        rcases H1.out.2 with ⟨e, hz⟩ | ⟨g, cap, cur, e, _⟩
        · omega
        · rw [Value.slice.injEq] at e
          exact ⟨g, e.1⟩
      have g2 : ∃ g, A2 = some ⟨g, 0, none⟩ := by
        rcases H2.out.2 with ⟨e, hz⟩ | ⟨g, cap, cur, e, _⟩
        · omega
        · rw [Value.slice.injEq] at e
          exact ⟨g, e.1⟩
      obtain ⟨g1, rfl⟩ := g1
      obtain ⟨g2, rfl⟩ := g2
      have x1 : wr.cell? ⟨g1, k, none⟩ = some (.string l[k]) := by
        rw [HB.out.cell (p := ⟨g1, k, none⟩) (H1.out.lt g1 rfl).2]
        have := H1.out.cells (g := g1) rfl k _ hx
        rwa [Addr.add_lit, Nat.zero_add] at this
      have x2 : wr.cell? ⟨g2, k, none⟩ = some (.string l[k]) := by
        rw [HB.out.cell (p := ⟨g2, k, none⟩) (H2.out.lt g2 rfl).2]
        have := H2.out.cells (g := g2) rfl k _ hx
        rwa [Addr.add_lit, Nat.zero_add] at this
      generalize l[k] = s at *
      clear hx
      go_upto_region 6 with fail
      go_quiet (fail)
      go_wp2_with fail
      go_roundw
      case rel => exact ⟨k + 1, by omega, by go_num, HB.out.trans (show Below w.heap.size wr _ from ⟨rfl, rfl, rfl, Nat.le_refl _, fun _ _ => rfl⟩)⟩
      case measure => simp [intOf]; omega
    · have e1 : decide ((k : Int) < (l.length : Int)) = false := decide_eq_false (by omega)
      go_wp2_with fail
      go_ret
      exact ⟨rfl, HB.out⟩
end Go.Proofs.Ytgfdgcpbmjhmmaa
namespace Go.Proofs.Ytgfdgcpbmjhmmaa
open Go.RowKit Go.Maps Sp
set_option linter.unusedVariables false
theorem zeroText (w : World) : (zeroValue 9).run Try.prog w = .ok (.string ⟨#[]⟩) w := by kernel_rfl

set_option maxHeartbeats 4000000 in
set_option maxRecDepth 100000 in
theorem del_texts {w : World} {base n k : Nat} {v : Value} {xs : List Value} (h : w.ownsRow base 9 1 v n xs) (hk : 0 < k ∧ k ≤ n) (hn : n ≤ 100000) (h1 : ∀ u ∈ xs, u.oneCell' = true) :
    Calls Try.prog 24 #[v, .int .i64 0, .int .i64 (k : Int)] w fun e w' => ∃ v', e = .returned v' ∧ w'.ownsRow base 9 1 v' (n - k) (xs.drop k) ∧ w.grownBy w' v.ownBlock ∧ v'.ownBlock = v.ownBlock := by
  obtain ⟨i1, hi1, hg0, hg1, hg2⟩ := rinfo_parts infoText
  obtain ⟨g, cap, rfl, hcap⟩ : ∃ g cap, v = .slice (some ⟨g, 0, none⟩) n cap ∧ (n ≤ cap ∧ cap ≤ 9223372036854775807) := by
    rcases h.2 with ⟨_, hz⟩ | ⟨g', cap', cur, hv, hb, hg, a1, a2, a3, a4⟩
    · omega
    · exact ⟨g', cap', hv, a1, a2⟩
  have hdr := delRow (w := w.drew) (k := k) (zs := (Builtin.zeroCells #[.string ⟨#[]⟩] k).toList) h.drew hk.2 (by simp [Builtin.zeroCells])
  simp only [Nat.mul_one] at hdr
  have HDR := Lib.hid hdr
  obtain ⟨news, hnews⟩ : ∃ news, news = xs.drop k := ⟨_, rfl⟩
  have hlx := h.1
  have hcell : ∀ j, j < n → w.cell? ⟨g, j, none⟩ = xs[j]? := fun j hj => h.cellAt j (by omega)
  have hsome : ∀ j, j < n → (w.cell? ⟨g, j, none⟩).isSome = true := fun j hj => by rw [hcell j hj, List.getElem?_eq_getElem (by omega)]; rfl
  have hfro : ∀ j, w.frozen? ⟨g, j, none⟩ = false := fun j => h.frozenAt j
  obtain ⟨A, hA, hsrc⟩ : ∃ A : Addr, (if cap = k then some (⟨g, 0, none⟩ : Addr) else some ⟨g, k, none⟩) = some A ∧ Hid (∀ t u, news[t]? = some u → w.drew.cell? (A.add t) = some u) := by
    by_cases e : cap = k
    · refine ⟨⟨g, 0, none⟩, by simp [e], fun t u hu => ?_⟩
      have h0 : news.length = 0 := by rw [hnews, List.length_drop]; omega
      rw [List.length_eq_zero_iff.1 h0] at hu
      simp at hu
    · refine ⟨⟨g, k, none⟩, by simp [e], fun t u hu => ?_⟩
      have ht := (List.getElem?_eq_some_iff.1 hu).1
      rw [hnews, List.length_drop] at ht
      rw [hnews, List.getElem?_drop] at hu
      rw [Addr.add_lit]
      exact (hcell (k + t) (by omega)).trans hu
  have s1 : Hid (news.length = (n - k) * 1) := by show _ = _; rw [hnews, List.length_drop]; omega
  have s2 : Hid (∀ u ∈ news, u.oneCell' = true) := fun u hu => h1 u (by rw [hnews] at hu; exact List.mem_of_mem_drop hu)
  have s3 : Hid (∀ t, t < news.length → (w.drew.cell? ⟨g, 0 + 0 * 1 + t, none⟩).isSome = true ∧ w.drew.frozen? ⟨g, 0 + 0 * 1 + t, none⟩ = false) := by
    intro t ht
    rw [hnews, List.length_drop] at ht
    rw [show 0 + 0 * 1 + t = t by omega]
    exact ⟨hsome t (by omega), hfro t⟩
  obtain ⟨W1, hW1⟩ : ∃ W1, W1 = w.drew.setCells g (0 + 0 * 1) news := ⟨_, rfl⟩
  have hW : Hid (W1 = w.drew.setCells g (0 + 0 * 1) news) := hW1
  have hcl : ∀ ty, (Builtin.clear_ #[22] ty #[.slice (some ⟨g, (n - k), none⟩) (n - (n - k)) (cap - (n - k))]).run Try.prog W1 = .ok (.tuple #[]) (W1.setCells g ((n - k)) (Builtin.zeroCells #[.string ⟨#[]⟩] k).toList) :=
    fun ty => by
      rw [show n - (n - k) = k by omega]
      exact run_clear_any W1 _ 9 ty (.string ⟨#[]⟩) Try.underlying22 zeroText g ((n - k)) k _ hk.1 _ rfl (fun t ht => by rw [hW1]; exact World.isSome_setCells g news _ _ _ (hsome _ (by simp [Builtin.zeroCells] at ht; omega))) (fun t ht => by rw [hW1, World.frozen?_setCells]; exact hfro _) (fun u hu => by
      simp [Builtin.zeroCells] at hu
      obtain ⟨a, ha, rfl⟩ := hu
      rw [Nat.mod_one]
      rfl)
  have hkc : k ≤ cap := by omega
  have hkn := hk.2
  have hk0 := hk.1
  clear hW1 hdr hcell hsome hfro hlx h h1 hk
  go_enter Try.func24, Try.ntmps24
  go_wp2_with fail
  go_region_law (refine step_append_room rfl (.tmp 22) (.tmp 25) 22 rfl 9 i1 1 Try.underlying22 hi1 hg1 g 0 0 cap (by simp [Act.eval, Act.put]) A (n - k) (cap - k) news (by simp [Act.eval, Act.put]) s1.out hsrc.out s2.out (by omega) s3.out ?_; rw [← hW.out])
  go_wp2
  go_ret
  refine ⟨.slice (some ⟨g, 0, none⟩) (n - k) cap, rfl, ?_, ?_, rfl⟩
  · have := HDR.out.1
    rw [hW.out, hnews]
    exact this
  · have := HDR.out.2
    rw [← hnews] at this
    rw [hW.out]
    exact ⟨this.os, this.tape, this.output, this.size, this.block⟩
set_option maxHeartbeats 4000000 in
set_option maxRecDepth 100000 in
theorem del_none {A : Option Addr} {n cap : Nat} (w : World) (hc : n ≤ cap) (hm : cap ≤ 9223372036854775807) (h0 : A = none → n = 0 ∧ cap = 0) :
    Calls Try.prog 24 #[.slice A n cap, .int .i64 0, .int .i64 0] w fun e w' => e = .returned (.slice A n cap) ∧ w' = w := by
  cases A with
  | none =>
    obtain ⟨rfl, rfl⟩ := h0 rfl
    clear h0 hc hm
    go_enter Try.func24, Try.ntmps24
    go_wp2_with fail
    go_ret
    exact ⟨rfl, rfl⟩
  | some a =>
    clear h0
    go_enter Try.func24, Try.ntmps24
    go_wp2_with fail
    go_ret
    exact ⟨rfl, rfl⟩
end Go.Proofs.Ytgfdgcpbmjhmmaa
namespace Go.Proofs.Ytgfdgcpbmjhmmaa
open Go.RowKit Go.Maps Sp
set_option linter.unusedVariables false
variable {w0 w w' : World} {gr mb nb : Nat} {st window next behind most : Int} {bs : List (Int × ByteArray)} {inV unV : Value} {ib : List ByteArray} {un : List Span}
/-- What Take answers. -/
def TakeOut (w0 w : World) (gr mb : Nat) (st window next behind most : Int) (bs : List (Int × ByteArray)) (nb : Nat) (inV : Value) (ib : List ByteArray) (unV : Value) (un : List Span) (k : Nat) (e : Ending) (w' : World) : Prop :=
  ∃ v inV', e = .returned v ∧ w'.ownsRow w.heap.size 9 1 v k ((ib.take k).map Value.string) ∧ RcvAt w0 w' gr mb st window next behind most bs nb inV' (ib.drop k) unV un ∧ RCh w w' (Mine gr mb inV unV) (Mine gr mb inV' unV) ∧ ∀ b, v.ownBlock = some b → ¬ Mine gr mb inV' unV b

set_option maxHeartbeats 8000000 in
set_option maxRecDepth 100000 in
theorem rcv_take (h : RcvAt w0 w gr mb st window next behind most bs nb inV ib unV un) (n : Int) (hn : 0 ≤ n ∧ n ≤ 1000000) (k : Nat) (hk : (k : Int) = min n (ib.length : Int)) (hi : ib.length ≤ 1000) :
    Calls Try.prog 16 #[.pointer (some ⟨gr, 0, none⟩), .int .i64 n] w (TakeOut w0 w gr mb st window next behind most bs nb inV ib unV un k) := by
  obtain ⟨i0, hi0, hz0, hz1, hz2⟩ := rinfo_parts infoText
  have Hi := Lib.hid hi0
  have Hz0 := Lib.hid hz0
  have Hz1 := Lib.hid hz1
  have Hz2 := Lib.hid hz2
  clear hi0 hz0 hz1 hz2
  obtain ⟨Ai, ci, rfl⟩ := ownForm h.inb
  have hkl : k ≤ ib.length := by omega
  have H := Lib.hid h
  have hcap : ib.length ≤ ci ∧ ci ≤ 9223372036854775807 ∧ (Ai = none → ib.length = 0 ∧ ci = 0) ∧ (∀ g, Ai = some g → g = ⟨g.block, 0, none⟩) := by
    rcases h.inb.2 with ⟨e, hz⟩ | ⟨g, cap, cur, e, hb, hg, a1, a2, a3, a4⟩
    · rw [Value.slice.injEq] at e
      obtain ⟨rfl, e1, rfl⟩ := e
      exact ⟨by omega, by omega, fun _ => ⟨e1, rfl⟩, fun g h => (by cases h)⟩
    · rw [Value.slice.injEq] at e
      obtain ⟨rfl, _, rfl⟩ := e
      exact ⟨a1, a2, fun h => (by cases h), fun g h => by cases h; rfl⟩
  obtain ⟨hc1, hc2, hc3, hc4⟩ := hcap
  have HC3 := Lib.hid hc3
  have HC4 := Lib.hid hc4
  have hkc : k ≤ ci := by omega
  have c6 := h.cells.c6
  have HK := Lib.hid hk
  clear h hk hc3 hc4
  go_enter Try.func16, Try.ntmps16
  go_upto_region 1 with fail
  go_cut [1] (fun s w' => s = .int .i64 (k : Int) ∧ w = w')
  case first =>
    rcases Int.le_total n (ib.length : Int) with hle | hle
    · obtain rfl : n = (k : Int) := by have := HK.out; omega
      clear HK
      go_wp2_with fail
      all_goals go_meet
      all_goals exact ⟨by first | rfl | (congr 1; omega), rfl⟩
    · obtain rfl : k = ib.length := by have := HK.out; omega
      clear HK
      go_wp2_with fail
      all_goals go_meet
      all_goals exact ⟨by first | rfl | (congr 1; omega), rfl⟩
  case rest =>
    obtain ⟨rfl, rfl⟩ := hcut
    have HTL : Hid (((ib.take k).map Value.string).length = k * 1) := by show _ = _; simp; omega
    have HT1 : Hid (∀ u ∈ (ib.take k).map Value.string, u.oneCell' = true) := fun u hu => by
      obtain ⟨x, _, rfl⟩ := List.mem_map.1 hu
      rfl
    have HCL := Lib.hid (ownCells1 H.out.inb)
    have HSR : Hid (∀ ad, Ai = some ad → ∀ j u, ((ib.take k).map Value.string)[j]? = some u → w.cell? (ad.add j) = some u) := fun ad e j u hu => by
      refine HCL.out ad e j u ?_
      rw [List.getElem?_map, List.getElem?_take] at hu
      rw [List.getElem?_map]
      split at hu
      · exact hu
      · simp at hu
    have HLO := Lib.hid (fun b hb => (H.out.inb.lt b hb))
    clear HK HCL
    go_upto_region 3 with (at_builtin; refine wpList_append_src _ rfl (.const (.slice none 0 0)) (.tmp 19) 22 rfl w.heap.size 9 i0 (.string ⟨#[]⟩) 1 16 Try.underlying22 Hi.out Hz0.out Hz1.out Hz2.out rfl (by decide) (.slice none 0 0) 0 [] rfl (World.ownsRow_nil _ _ _ _) Ai k ci ((ib.take k).map Value.string) rfl HTL.out (fun e => by have := HC3.out e; omega) HSR.out HT1.out (by unfold maxLen; omega) (by omega) (Nat.le_refl _) ?_; intro v5 w5 hown4 hg4 hv5; have HO5 := Lib.hid hown4; have HG5 := Lib.hid hg4; have HV5 := Lib.hid hv5; clear hown4 hg4 hv5)
    obtain ⟨A5, c5, rfl⟩ := ownForm HO5.out
    have hbel : Below w.heap.size w w5 := ⟨HG5.out.os, HG5.out.tape, HG5.out.output, HG5.out.size, fun i hi => HG5.out.block i hi (by simp [Value.ownBlock])⟩
    have H5 := Lib.hid (H.out.below hbel)
    have HC5 : Hid (RCh w w5 (Mine gr mb (.slice Ai ib.length ci) unV) (Mine gr mb (.slice Ai ib.length ci) unV)) := (RCh.refl _ _).below hbel
    have HDE : Hid (Calls Try.prog 24 #[.slice Ai ib.length ci, .int .i64 0, .int .i64 (k : Int)] w5 fun e w' => ∃ v', e = .returned v' ∧ w'.ownsRow w0.heap.size 9 1 v' (ib.drop k).length ((ib.drop k).map Value.string) ∧ w5.grownBy w' (Value.slice Ai ib.length ci).ownBlock ∧ v'.ownBlock = (Value.slice Ai ib.length ci).ownBlock) := by
      by_cases hk0 : k = 0
      · subst hk0
        refine (del_none w5 hc1 hc2 HC3.out).mono ?_
        rintro e w' ⟨rfl, rfl⟩
        exact ⟨_, rfl, H5.out.inb, ⟨rfl, rfl, rfl, Nat.le_refl _, fun _ _ _ => rfl⟩, rfl⟩
      · refine (del_texts (k := k) H5.out.inb ⟨by omega, hkl⟩ (by omega) (fun u hu => by obtain ⟨x, _, rfl⟩ := List.mem_map.1 hu; rfl)).mono ?_
        rintro e w' ⟨v', rfl, hown, hgr, hob⟩
        refine ⟨v', rfl, ?_, hgr, hob⟩
        rw [List.length_drop, List.map_drop]
        exact hown
    have hne : ∀ b, (Value.slice Ai ib.length ci).ownBlock = some b → b ≠ gr := fun b hb e => H.out.sep.2.1 (e ▸ hb)
    have HLB := Lib.hid hbel.size
    have d6 := H5.out.cells.c6
    clear hbel c6 HSR HT1 HTL HG5 HV5
    go_wp2_with fail
    refine HDE.out.mono ?_
    rintro e w6 ⟨v', rfl, hown, hgr, hob⟩
    obtain ⟨Av, cv, rfl⟩ := ownForm hown
    have hlt5 := H5.out.lt
    have c62 : w6.cell? ⟨gr, 6, none⟩ = some (.slice Ai ib.length ci) := by
      rw [World.cell?_of_block (w := w5) (hgr.block gr hlt5 (fun e => hne gr e.symm rfl))]
      exact d6
    have f62 : w6.frozen? ⟨gr, 6, none⟩ = false := by
      rw [World.frozen?_of_block (w := w5) (hgr.block gr hlt5 (fun e => hne gr e.symm rfl))]
      exact H5.out.cells.f 6
    have H7 := Lib.hid (H5.out.inbox hown hgr (.inl hob))
    have HC7 : Hid (RCh w (w6.setCell ⟨gr, 6, none⟩ (.slice Av (ib.drop k).length cv)) (Mine gr mb (.slice Ai ib.length ci) unV) (Mine gr mb (.slice Av (ib.drop k).length cv) unV)) := by
      have h1 := (HC5.out.grown hgr (fun b e => .inl (.inr (.inr (.inl e))))).set ⟨gr, 6, none⟩ (.slice Av (ib.drop k).length cv) (.inl (.inl rfl))
      exact h1.to (fun b hb => .inl (by rcases hb with e | e | e | e; exact .inl e; exact .inr (.inl e); exact .inr (.inr (.inl (by rw [hob] at e; exact e))); exact .inr (.inr (.inr e))))
    have HFR : Hid (∀ b, (Value.slice A5 (0 + k) c5).ownBlock = some b → w.heap.size ≤ b ∧ b < w5.heap.size) := fun b hb => HO5.out.lt b hb
    have HML : Hid (∀ b, Mine gr mb (.slice Av (ib.drop k).length cv) unV b → b < w.heap.size) := fun b hb => by
      rcases hb with e | e | e | e
      · exact (H.out.mine_lt (.inl e)).1
      · exact (H.out.mine_lt (.inr (.inl e))).1
      · rw [hob] at e
        exact (H.out.mine_lt (.inr (.inr (.inl e)))).1
      · exact (H.out.mine_lt (.inr (.inr (.inr e)))).1
    have HO7 : Hid ((w6.setCell ⟨gr, 6, none⟩ (.slice Av (ib.drop k).length cv)).ownsRow w.heap.size 9 1 (.slice A5 (0 + k) c5) (0 + k) ([] ++ (ib.take k).map Value.string)) := rrow_blk HO5.out fun b hb => by
      have h1 := HFR.out b hb
      have h2 := H.out.lt
      rw [Below.heap_setCell _ _ _ _ (by show b ≠ gr; omega)]
      exact hgr.block b h1.2 (fun e => by have := HLO.out b e.symm; omega)
    clear hown hgr hob HC5 H5 HDE HO5 d6 hne hlt5
    rw [List.length_drop] at H7 HC7 HO7 HML
    go_wp2_with fail
    go_ret
    refine ⟨_, _, rfl, ?_, H7.out, HC7.out, fun b hb hm => ?_⟩
    · have := HO7.out
      rw [Nat.zero_add] at this
      exact this
    · have h1 := HML.out b hm
      have h2 := HFR.out b (by rw [Nat.zero_add]; exact hb)
      omega
end Go.Proofs.Ytgfdgcpbmjhmmaa
namespace Go.Proofs.Ytgfdgcpbmjhmmaa
open Go.RowKit Go.Maps Sp
set_option linter.unusedVariables false
set_option linter.unusedSimpArgs false
theorem tmod_bd (a : Int) {n : Nat} (hn : 0 < n) : -(n : Int) < a.tmod n ∧ a.tmod n < n := by
  have hn' : (0 : Int) < n := by omega
  rcases Int.le_total 0 a with h | h
  · rw [Int.tmod_eq_emod_of_nonneg h]
    have h1 := Int.emod_nonneg a (Int.ne_of_gt hn')
    have h2 := Int.emod_lt_of_pos a hn'
    omega
  · have e : a.tmod n = -((-a).tmod n) := by rw [Int.neg_tmod, Int.neg_neg]
    rw [e, Int.tmod_eq_emod_of_nonneg (by omega)]
    have h1 := Int.emod_nonneg (-a) (Int.ne_of_gt hn')
    have h2 := Int.emod_lt_of_pos (-a) hn'
    omega
set_option maxHeartbeats 8000000 in
set_option maxRecDepth 100000 in
theorem walk_RecvAnyOrder (st0 : Int) (Am : Option Addr) (ln cm : Nat) (Ao : Option Addr) (lo co : Nat) (w : World) (fs : Nat → ByteArray) (fi : Nat → Int) (h1 : StrIn w Am ln fs) (h2 : IntIn w Ao lo fi) (hs : -9223372036854775808 ≤ st0 ∧ st0 ≤ 9223372036854775807) :
    Calls Try.prog 3 #[.int .i64 st0, .slice Am ln cm, .slice Ao lo co] w fun e w' => e = .returned (.bool true) ∧ Below w.heap.size w w' := by
  have HOF := Lib.hid (fun W => seq_of st0 W hs.1 hs.2)
  have hst : 0 ≤ st0 % 16777216 ∧ st0 % 16777216 < 16777216 := by omega
  have hl1 := h1.1
  have hl2 := h2.1
  unfold maxLen at hl1 hl2
  have hb0 : Below w.heap.size w ((w.alloc (.cells #[.int .i64 st0] 3)).alloc (.cells #[.slice Am ln cm] 22)) := ((Below.refl w.heap.size w).alloc (Nat.le_refl _) _).alloc (by simp) _
  have hts0 : ((w.alloc (.cells #[.int .i64 st0] 3)).alloc (.cells #[.slice Am ln cm] 22)).heap[w.heap.size]? = some (.cells #[.int .i64 st0] 3 (0, 0)) := (((Below.refl _ (w.alloc (.cells #[.int .i64 st0] 3))).alloc (Nat.le_refl _) (.cells #[.slice Am ln cm] 22)).block w.heap.size (by simp)).trans (heap_alloc_new w _)
  have htm0 : ((w.alloc (.cells #[.int .i64 st0] 3)).alloc (.cells #[.slice Am ln cm] 22)).heap[w.heap.size + 1]? = some (.cells #[.slice Am ln cm] 22 (0, 0)) := by
    have := heap_alloc_new (w.alloc (.cells #[.int .i64 st0] 3)) (.cells #[.slice Am ln cm] 22)
    rwa [World.size_alloc] at this
  have HB0 := Lib.hid hb0
  have HT0 := Lib.hid hts0
  have HM0 := Lib.hid htm0
  have H1 := Lib.hid h1
  have H2 := Lib.hid h2
  clear hb0 hts0 htm0 h1 h2
  go_enter Try.func3, Try.ntmps3
  go_upto_region 1 with fail
  generalize (w.alloc (.cells #[.int .i64 st0] 3)).alloc (.cells #[.slice Am ln cm] 22) = W0 at *
  have HAW := Lib.hid (recv_awake W0)
  go_wp2_with fail
  refine HAW.out.mono ?_
  rintro e w1 ⟨rfl, hb1⟩
  have HB1 := Lib.hid (HB0.out.trans (hb1.mono HB0.out.size))
  have HTS := Lib.hid ((hb1.block _ (rblk_lt HT0.out)).trans HT0.out)
  have HTM := Lib.hid ((hb1.block _ (rblk_lt HM0.out)).trans HM0.out)
  have HST := Lib.hid (H1.out.below HB1.out)
  have HIN := Lib.hid (H2.out.below HB1.out)
  have k3 : w1.cell? ⟨w.heap.size, 0, none⟩ = some (.int .i64 st0) := by rw [rblk_cell HTS.out]; rfl
  have k4 : w1.cell? ⟨w.heap.size + 1, 0, none⟩ = some (.slice Am ln cm) := by rw [rblk_cell HTM.out]; rfl
  clear hb1 HB0 HT0 HM0 HAW H1 H2
  go_upto_region 3 with fail
  obtain ⟨n, hn⟩ : ∃ n : Nat, n = min ln 60 := ⟨_, rfl⟩
  have HNN := Lib.hid hn
  have hn60 : n ≤ 60 ∧ n ≤ ln := by omega
  clear hn
  go_cut [7] (fun s w' => s = .int .i64 (n : Int) ∧ w1 = w')
  case first =>
    rcases Nat.le_total ln 60 with hle | hle
    · obtain rfl : n = ln := by have := HNN.out; omega
      go_wp2_with fail
      all_goals go_meet
      all_goals exact ⟨by first | rfl | (congr 1; omega), rfl⟩
    · obtain rfl : n = 60 := by have := HNN.out; omega
      go_wp2_with fail
      all_goals go_meet
      all_goals exact ⟨by first | rfl | (congr 1; omega), rfl⟩
  case rest =>
    obtain ⟨rfl, rfl⟩ := hcut
    have HNEW := Lib.hid (rcv_new (st0 % 16777216) 64 w1 (by omega) (by decide))
    go_wp2_with (go_at_call 9; refine (HOF.out _).mono ?_; rintro e w' ⟨rfl, rfl⟩)
    refine HNEW.out.mono ?_
    rintro e w2 ⟨gr, mb, rfl, h2⟩
    have HR2 := Lib.hid h2
    clear h2 HNEW
    go_upto_region 9 with fail
    have HA0 : Hid (AnAt w1 ((w2.alloc (.cells #[.pointer (some ⟨gr, 0, none⟩)] 25)).alloc (.cells #[.slice none 0 0] 22)) gr mb (w2.heap.size + 1) w2.heap.size (st0 % 16777216) 0 (fun i => cutS (fs i) 5) []) := by
      have hm : ∀ b, Mine gr mb (.slice none 0 0) (.slice none 0 0) b → b < w2.heap.size := fun b hb => (HR2.out.mine_lt hb).1
      refine ⟨0, 0, [], 0, _, [], _, [], .slice none 0 0, ⟨⟨⟨(HR2.out.alloc _).alloc _, NamesAt.start, Nat.le_refl _, Nat.le_refl _, by simp⟩, (fun p hp => by cases hp), rfl⟩, ?_, ?_, World.ownsRow_nil _ _ _ _, (fun h => by have := hm _ h; omega), (fun h => by have := hm _ h; omega), by omega, ⟨by have := HR2.out.lts; omega, HR2.out.lts⟩, (fun b hb => by cases hb)⟩⟩
      · have := heap_alloc_new (w2.alloc (.cells #[.pointer (some ⟨gr, 0, none⟩)] 25)) (.cells #[.slice none 0 0] 22)
        rwa [World.size_alloc] at this
      · exact (((Below.refl _ (w2.alloc (.cells #[.pointer (some ⟨gr, 0, none⟩)] 25))).alloc (Nat.le_refl _) (.cells #[.slice none 0 0] 22)).block w2.heap.size (by simp)).trans (heap_alloc_new w2 _)
    have HBW : Hid (w.heap.size ≤ w1.heap.size) := HB1.out.size
    clear HR2 k3 k4
    generalize (w2.alloc (.cells #[.pointer (some ⟨gr, 0, none⟩)] 25)).alloc (.cells #[.slice none 0 0] 22) = w3 at *
    generalize w2.heap.size + 1 = tg at *
    generalize w2.heap.size = tr at *
    have HST0 : Hid (st0 % 16777216 = st0 % 16777216) := rfl
    obtain ⟨st, hste⟩ : ∃ st, st = st0 % 16777216 := ⟨_, rfl⟩
    have HSE := Lib.hid hste
    rw [← hste] at HA0 HOF hst
    rw [← hste]
    clear hste HST0
    go_wp2_with fail
    go_loopw [11] (fun i wr => ∃ (k : Nat) (C : List Int), k ≤ 100 ∧ k ≤ lo ∧ i = .int .i64 k ∧ Hid (AnAt w1 wr gr mb tg tr st k (fun i => cutS (fs i) 5) C) ∧ Hid (∀ x ∈ C, 0 ≤ x ∧ x < n)) (fun i _ => 100 - (intOf i).toNat)
    case atStart => exact ⟨0, [], by omega, by omega, rfl, HA0, (fun x hx => by cases hx)⟩
    case round =>
      obtain ⟨k, C, hk1, hk2, rfl, HA, HC⟩ := hrel
      clear HA0
      have HBB : Hid (Below w1.heap.size w1 wr) := by
        obtain ⟨_, _, _, _, _, _, _, _, _, h⟩ := HA.out
        exact h.an.nm.rcv.bel
      by_cases hgo : k < lo ∧ k < 100 ∧ 0 < n
      · obtain ⟨hl, h100, hn1⟩ := hgo
        obtain ⟨b, off, rfl, hbl, c0, hf0, hf1⟩ := (HIN.out.below HBB.out).get hl
        have e1 : decide (k < lo) = true := decide_eq_true hl
        have e2 : decide ((k : Int) < (lo : Int)) = true := decide_eq_true (by omega)
        have e3 : decide ((k : Int) < 100) = true := decide_eq_true (by omega)
        have e4 : decide ((0 : Int) < (n : Int)) = true := decide_eq_true (by omega)
        have hr := tmod_bd (fi k) hn1
        have hr2 := tmod_bd ((fi k).tmod n + n) hn1
        have hr3 : 0 ≤ ((fi k).tmod n + n).tmod n := Int.tmod_nonneg _ (by omega)
        obtain ⟨j, hj⟩ : ∃ j : Nat, (j : Int) = ((fi k).tmod n + n).tmod n := ⟨(((fi k).tmod n + n).tmod n).toNat, by omega⟩
        have hjn : j < n := by omega
        have HPU := Lib.hid (any_put HA.out hs HSE.out HTS.out HTM.out HST.out (fun _ => rfl) (by omega) j (by omega) (by omega))
        have hj' := hj.symm
        have hw1 : IntKind.i64.wrap ((fi k).tmod n) = (fi k).tmod n := IntWalk.i64_in _ (by omega)
        have hw2 : IntKind.i64.wrap ((fi k).tmod n + n) = (fi k).tmod n + n := IntWalk.i64_in _ (by omega)
        have hw3 : IntKind.i64.wrap (j : Int) = (j : Int) := IntWalk.i64_in _ (by omega)
        clear hj hr2 hr3
        go_wp2_with fail
        refine HPU.out.mono ?_
        rintro e w5 ⟨rfl, hat⟩
        have HA5 := Lib.hid hat
        have HC5 : Hid (∀ x ∈ addK C (j : Int), 0 ≤ x ∧ x < n) := fun x hx => by
          rcases (mem_addK C (j : Int) x).1 hx with h | h
          · exact HC.out x h
          · omega
        clear hat HPU hj' hw1 hw2 hw3 hr HA HC
        go_wp2_with fail
        go_roundw
        case rel => exact ⟨k + 1, addK C (j : Int), by omega, by omega, by go_num, HA5, HC5⟩
        case measure => simp [intOf]; omega
      · by_cases hl : k < lo
        · have e1 : decide (k < lo) = true := decide_eq_true hl
          have e2 : decide ((k : Int) < (lo : Int)) = true := decide_eq_true (by omega)
          by_cases h100 : k < 100
          · have e3 : decide ((k : Int) < 100) = true := decide_eq_true (by omega)
            have e4 : decide ((0 : Int) < (n : Int)) = false := decide_eq_false (by omega)
            have e5 : decide (0 < n) = false := decide_eq_false (by omega)
            clear hgo hl h100
            go_wp2_with fail
            clear e1 e2
            go_loopw [52] (fun i wx => ∃ (t kk : Nat) (C2 : List Int), t ≤ n ∧ i = .int .i64 t ∧ kk ≤ 100 + t ∧ Hid (AnAt w1 wx gr mb tg tr st kk (fun i => cutS (fs i) 5) C2) ∧ Hid (∀ x ∈ C2, 0 ≤ x ∧ x < n) ∧ Hid (∀ x : Int, (n : Int) - t ≤ x → x < n → x ∈ C2)) (fun i _ => n - (intOf i).toNat)
            case atStart => exact ⟨0, k, C, by omega, rfl, by omega, HA, HC, (fun x h1 h2 => by omega)⟩
            case round =>
              obtain ⟨t, kk, C2, ht, rfl, hkk, HA2, HC2, HF2⟩ := hrel
              clear HA HC HBB
              by_cases htn : t < n
              · have e1 : decide ((t : Int) < (n : Int)) = true := decide_eq_true (by omega)
                obtain ⟨j, hj⟩ : ∃ j : Nat, (j : Int) = (n : Int) - 1 - t := ⟨n - 1 - t, by omega⟩
                have HPU := Lib.hid (any_put HA2.out hs HSE.out HTS.out HTM.out HST.out (fun _ => rfl) (by omega) j (by omega) (by omega))
                have HJ := Lib.hid hj
                have hj' := hj.symm
                clear hj
                go_wp2_with fail
                refine HPU.out.mono ?_
                rintro e w5 ⟨rfl, hat⟩
                have HA5 := Lib.hid hat
                have HC5 : Hid (∀ x ∈ addK C2 (j : Int), 0 ≤ x ∧ x < n) := fun x hx => by
                  rcases (mem_addK C2 (j : Int) x).1 hx with h | h
                  · exact HC2.out x h
                  · omega
                have HF5 : Hid (∀ x : Int, (n : Int) - ((t + 1 : Nat) : Int) ≤ x → x < n → x ∈ addK C2 (j : Int)) := fun x h1 h2 => by
                  rw [mem_addK]
                  by_cases e : x = (j : Int)
                  · exact .inr e
                  · exact .inl (HF2.out x (by omega) h2)
                clear hat HPU hj' HA2 HC2 HF2
                go_wp2_with fail
                go_roundw
                case rel => exact ⟨t + 1, kk + 1, addK C2 (j : Int), by omega, by go_num, by omega, HA5, HC5, HF5⟩
                case measure => simp [intOf]; omega
              · obtain rfl : t = n := by omega
                have e1 : decide ((t : Int) < (t : Int)) = false := decide_eq_false (by omega)
                obtain ⟨high, next, bs, nb, inV, ib, unV, un, gV, hb⟩ := HA2.out
                have hnm := hb.an.nm.nm
                have hnx : next = (t : Int) := by
                  have h1 : ¬ next < (t : Int) := fun h => hnm.no (HF2.out next (by have := hnm.lo; omega) h)
                  have h2 : ¬ (t : Int) < next := fun h => by have := HC2.out t (hnm.all t (by omega) h); omega
                  omega
                have hbs : bs = [] := by
                  cases bs with
                  | nil => rfl
                  | cons p r =>
                    have h1 := (hnm.keys p.1).1 (by simp)
                    have := HC2.out p.1 h1.1
                    omega
                have hil : ib.length = t := by have := hnm.len; omega
                have hit : ib = msgs (fun i => cutS (fs i) 5) t := by have := hb.an.inb; rw [hil] at this; exact this
                subst hbs
                obtain ⟨Ag, cg, rfl⟩ := ownForm hb.row
                have HB := Lib.hid hb
                have HIL := Lib.hid hil
                have HIT := Lib.hid hit
                have hhi := hnm.hi.2.2
                have hlo := hnm.lo
                have hul := hb.an.nm.unk
                have HV : Hid (∀ W, AnB w1 W gr mb tg tr st kk (fun i => cutS (fs i) 5) C2 high next [] nb inV ib unV un (.slice Ag ib.length cg) → Calls Try.prog 14 #[.pointer (some ⟨gr, 0, none⟩)] W fun e w' => e = .returned (.agg #[.int .u32 ((st + next) % 16777216), .int .u32 ((st + high) % 16777216), .int .u32 ((st + 64) % 16777216), .int .i64 0, .int .i64 (t : Int), .int .i64 (un.length : Int)]) ∧ AnB w1 w' gr mb tg tr st kk (fun i => cutS (fs i) 5) C2 high next [] nb inV ib unV un (.slice Ag ib.length cg)) := fun W hW => by
                  have := rcv_vars hW.an.nm.rcv (by omega) (by omega) (by omega) (by decide)
                  rw [hil] at this
                  exact this.mono fun e w' ⟨he, hb'⟩ => ⟨he, hW.below hb'⟩
                have hf3 := fun W => (rvars_f ((st + next) % 16777216) ((st + high) % 16777216) ((st + 64) % 16777216) 0 (t : Int) (un.length : Int) W).2.2.2.1
                have hf4 := fun W => (rvars_f ((st + next) % 16777216) ((st + high) % 16777216) ((st + 64) % 16777216) 0 (t : Int) (un.length : Int) W).2.2.1
                have HCG : Hid (∀ W, AnB w1 W gr mb tg tr st kk (fun i => cutS (fs i) 5) C2 high next [] nb inV ib unV un (.slice Ag ib.length cg) → W.cell? ⟨tg, 0, none⟩ = some (.slice Ag t cg) ∧ W.cell? ⟨tr, 0, none⟩ = some (.pointer (some ⟨gr, 0, none⟩))) := fun W hW => ⟨by rw [rblk_cell hW.bg, hil]; rfl, by rw [rblk_cell hW.br]; rfl⟩
                obtain ⟨x1, x2⟩ := HCG.out _ hb
                clear hb hnm hnx hil hit HA2 HC2 HF2 hul
                generalize (st + next) % 16777216 = V1 at HV hf3 hf4
                generalize (st + high) % 16777216 = V2 at HV hf3 hf4
                generalize (st + 64) % 16777216 = V3 at HV hf3 hf4
                go_wp2_with fail
                refine (HV.out _ HB.out).mono ?_
                rintro e w5 ⟨rfl, hb5⟩
                obtain ⟨x3, x4⟩ := HCG.out _ hb5
                have HB5 := Lib.hid hb5
                clear hb5 x1 x2
                go_wp2_with fail
                refine (HV.out _ HB5.out).mono ?_
                rintro e w6 ⟨rfl, hb6⟩
                have HB6 := Lib.hid hb6
                clear hb6 x3 x4 HV HB5 HB
                go_wp2_with fail
                go_loopw [80] (fun i wx => ∃ q : Nat, q ≤ t ∧ i = .int .i64 q ∧ Hid (AnB w1 wx gr mb tg tr st kk (fun i => cutS (fs i) 5) C2 high next [] nb inV ib unV un (.slice Ag ib.length cg))) (fun i _ => t - (intOf i).toNat)
                case atStart => exact ⟨0, by omega, rfl, HB6⟩
                case round =>
                  obtain ⟨q, hq, rfl, HB7⟩ := hrel
                  clear HB6
                  obtain ⟨x1, x2⟩ := HCG.out _ HB7.out
                  by_cases hqt : q < t
                  · have e1 : decide ((q : Int) < (t : Int)) = true := decide_eq_true (by omega)
                    obtain ⟨bm, offm, rfl, hbl, hsz, hcm⟩ := HST.out.get (show q < ln by omega)
                    have HCU := Lib.hid (fun W => law_cut (fs q) 5 W hsz (by decide))
                    have hbel := HB7.out.an.nm.rcv.bel
                    have y1 : wr.cell? ⟨w.heap.size + 1, 0, none⟩ = some (.slice (some ⟨bm, offm, none⟩) ln cm) := by rw [hbel.cell (p := ⟨w.heap.size + 1, 0, none⟩) (rblk_lt HTM.out), rblk_cell HTM.out]; rfl
                    have y2 : wr.cell? ⟨bm, offm + q, none⟩ = some (.string (fs q)) := by rw [hbel.cell (p := ⟨bm, offm + q, none⟩) hbl]; exact hcm
                    obtain ⟨gg, rfl⟩ : ∃ gg, Ag = some ⟨gg, 0, none⟩ := by
                      rcases HB7.out.row.2 with ⟨e, hz⟩ | ⟨g, cap, cur, e, _⟩
                      · have := HIL.out; omega
                      · rw [Value.slice.injEq] at e
                        exact ⟨g, e.1⟩
                    have y3 : wr.cell? ⟨gg, q, none⟩ = some (.string (cutS (fs q) 5)) := by
                      have hx : (ib.map Value.string)[q]? = some (.string (cutS (fs q) 5)) := by
                        rw [HIT.out]
                        unfold msgs
                        rw [List.map_map, List.getElem?_map, List.getElem?_range hqt]
                        rfl
                      have := HB7.out.row.cells (g := gg) rfl q _ hx
                      rwa [Addr.add_lit, Nat.zero_add] at this
                    generalize cutS (fs q) 5 = sq at HCU y3
                    clear hcm hbel
                    have hq1 : q < ln := by omega
                    have hq2 : (q : Int) < (ln : Int) := by omega
                    have hq3 : (0 : Int) ≤ (q : Int) := by omega
                    go_upto_region 23 with fail
                    go_region_held3 (fun w' => w'.cell? ⟨tg, 0, none⟩ = some (.slice (some ⟨gg, 0, none⟩) t cg) ∧ w'.cell? ⟨w.heap.size + 1, 0, none⟩ = some (.slice (some ⟨bm, offm, none⟩) ln cm) ∧ w'.cell? ⟨bm, offm + q, none⟩ = some (.string (fs q)) ∧ w'.cell? ⟨gg, q, none⟩ = some (.string sq))
                      (first | go_keep)
                      (first
                        | (go_at_call 13; refine (HCU.out _).mono ?_; rintro e w' ⟨rfl, rfl⟩)
                        | fail)
                    go_wp2_with fail
                    go_roundw
                    case rel => exact ⟨q + 1, by omega, by go_num, HB7.out.below ⟨rfl, rfl, rfl, Nat.le_refl _, fun _ _ => rfl⟩⟩
                    case measure => simp [intOf]; omega
                  · obtain rfl : q = t := by omega
                    have e1 : decide ((q : Int) < (q : Int)) = false := decide_eq_false (by omega)
                    go_upto_region 26 with fail
                    have hil := HIL.out
                    have hBd := HB7.out.below ((Below.refl wr.heap.size wr).drew)
                    have HTK := Lib.hid (rcv_take hBd.an.nm.rcv 100 (by decide) q (by omega) (by omega))
                    have HBD := Lib.hid hBd
                    have HN1 : Hid (w1.heap.size ≤ wr.heap.size) := HB7.out.an.nm.rcv.lts
                    have hq60 : q ≤ 60 := by omega
                    have z1 := (HCG.out _ hBd).1
                    have z2 := (HCG.out _ hBd).2
                    clear hil hBd e1 hq HCG
                    go_region_held3 (fun w' => w'.cell? ⟨tr, 0, none⟩ = some (.pointer (some ⟨gr, 0, none⟩)) ∧ w'.cell? ⟨tg, 0, none⟩ = some (.slice Ag q cg))
                      (first | go_keep)
                      (first
                        | (go_at_call 16; (with_reducible refine (HTK.out).mono ?_); rintro e w6 ⟨v6, inV6, rfl, hown6, hr6, hc6, hf6⟩
                           obtain ⟨A6, c6, rfl⟩ := ownForm hown6
                           have hil := HIL.out
                           have HS1 : Hid (w6.ownsRow wr.drew.heap.size 9 1 (.slice A6 q c6) ib.length (ib.map Value.string)) := by
                             have := hown6
                             rw [List.take_of_length_le (by omega)] at this
                             show World.ownsRow _ _ _ _ _ _ _
                             rw [hil]
                             exact this
                           have HS2 : Hid (w6.ownsRow w1.heap.size 9 1 (.slice Ag ib.length cg) ib.length (ib.map Value.string)) := rrow_blk HBD.out.row fun b hb => hc6.keep b (HBD.out.row.lt b hb).2 (HBD.out.own b hb).1
                           have HSM := Lib.hid (law_same HS1.out HS2.out (by omega))
                           rw [hil] at HSM
                           have a1 : w6.cell? ⟨tg, 0, none⟩ = some (.slice Ag q cg) := by rw [World.cell?_of_block (w := wr.drew) (hc6.keep tg (rblk_lt HBD.out.bg) HBD.out.ntg)]; exact z1
                           have a2 : w6.cell? ⟨tr, 0, none⟩ = some (.pointer (some ⟨gr, 0, none⟩)) := by rw [World.cell?_of_block (w := wr.drew) (hc6.keep tr (rblk_lt HBD.out.br) HBD.out.ntr)]; exact z2
                           have HR6 := Lib.hid hr6
                           have HC6 := Lib.hid hc6
                           have HD6 : Hid ((ib.drop q).length = 0) := by show _ = _; rw [List.length_drop]; omega
                           clear hown6 hr6 hc6 hf6 hil HTK)
                        | (go_at_call 15; (with_reducible refine (HSM.out).mono ?_); rintro e w7 ⟨rfl, hb7⟩
                           have HTK2 := Lib.hid (rcv_take (HR6.out.below hb7) 1 (by decide) 0 (by have := HD6.out; omega) (by have := HD6.out; omega))
                           have HC7 := Lib.hid (HC6.out.below hb7)
                           have d1 : w7.cell? ⟨tg, 0, none⟩ = some (.slice Ag q cg) := by rw [hb7.cell (p := ⟨tg, 0, none⟩) (Nat.lt_of_lt_of_le (rblk_lt HBD.out.bg) HC6.out.size)]; exact a1
                           have d2 : w7.cell? ⟨tr, 0, none⟩ = some (.pointer (some ⟨gr, 0, none⟩)) := by rw [hb7.cell (p := ⟨tr, 0, none⟩) (Nat.lt_of_lt_of_le (rblk_lt HBD.out.br) HC6.out.size)]; exact a2
                           clear hb7)
                        | (go_at_call 16; (with_reducible refine (HTK2.out).mono ?_); rintro e w8 ⟨v8, inV8, rfl, hown8, hr8, hc8, _⟩
                           obtain ⟨A8, c8, rfl⟩ := ownForm hown8
                           have HC8 := Lib.hid (HC7.out.trans hc8)
                           have f1 : w8.cell? ⟨tg, 0, none⟩ = some (.slice Ag q cg) := by rw [World.cell?_of_block (w := wr.drew) (HC8.out.keep tg (rblk_lt HBD.out.bg) HBD.out.ntg)]; exact z1
                           have f2 : w8.cell? ⟨tr, 0, none⟩ = some (.pointer (some ⟨gr, 0, none⟩)) := by rw [World.cell?_of_block (w := wr.drew) (HC8.out.keep tr (rblk_lt HBD.out.br) HBD.out.ntr)]; exact z2
                           have HBL := Lib.hid (HB1.out.trans (hr8.bel.mono HBW.out))
                           clear hown8 hr8 hc8)
                        | fail)
                    all_goals go_wp2_with fail
                    all_goals go_ret
                    all_goals exact ⟨by first | rfl | simp, HBL.out⟩
          · have e3 : decide ((k : Int) < 100) = false := decide_eq_false (by omega)
            clear hgo hl h100
            go_wp2_with fail
            clear e1 e2
            go_loopw [52] (fun i wx => ∃ (t kk : Nat) (C2 : List Int), t ≤ n ∧ i = .int .i64 t ∧ kk ≤ 100 + t ∧ Hid (AnAt w1 wx gr mb tg tr st kk (fun i => cutS (fs i) 5) C2) ∧ Hid (∀ x ∈ C2, 0 ≤ x ∧ x < n) ∧ Hid (∀ x : Int, (n : Int) - t ≤ x → x < n → x ∈ C2)) (fun i _ => n - (intOf i).toNat)
            case atStart => exact ⟨0, k, C, by omega, rfl, by omega, HA, HC, (fun x h1 h2 => by omega)⟩
            case round =>
              obtain ⟨t, kk, C2, ht, rfl, hkk, HA2, HC2, HF2⟩ := hrel
              clear HA HC HBB
              by_cases htn : t < n
              · have e1 : decide ((t : Int) < (n : Int)) = true := decide_eq_true (by omega)
                obtain ⟨j, hj⟩ : ∃ j : Nat, (j : Int) = (n : Int) - 1 - t := ⟨n - 1 - t, by omega⟩
                have HPU := Lib.hid (any_put HA2.out hs HSE.out HTS.out HTM.out HST.out (fun _ => rfl) (by omega) j (by omega) (by omega))
                have HJ := Lib.hid hj
                have hj' := hj.symm
                clear hj
                go_wp2_with fail
                refine HPU.out.mono ?_
                rintro e w5 ⟨rfl, hat⟩
                have HA5 := Lib.hid hat
                have HC5 : Hid (∀ x ∈ addK C2 (j : Int), 0 ≤ x ∧ x < n) := fun x hx => by
                  rcases (mem_addK C2 (j : Int) x).1 hx with h | h
                  · exact HC2.out x h
                  · omega
                have HF5 : Hid (∀ x : Int, (n : Int) - ((t + 1 : Nat) : Int) ≤ x → x < n → x ∈ addK C2 (j : Int)) := fun x h1 h2 => by
                  rw [mem_addK]
                  by_cases e : x = (j : Int)
                  · exact .inr e
                  · exact .inl (HF2.out x (by omega) h2)
                clear hat HPU hj' HA2 HC2 HF2
                go_wp2_with fail
                go_roundw
                case rel => exact ⟨t + 1, kk + 1, addK C2 (j : Int), by omega, by go_num, by omega, HA5, HC5, HF5⟩
                case measure => simp [intOf]; omega
              · obtain rfl : t = n := by omega
                have e1 : decide ((t : Int) < (t : Int)) = false := decide_eq_false (by omega)
                obtain ⟨high, next, bs, nb, inV, ib, unV, un, gV, hb⟩ := HA2.out
                have hnm := hb.an.nm.nm
                have hnx : next = (t : Int) := by
                  have h1 : ¬ next < (t : Int) := fun h => hnm.no (HF2.out next (by have := hnm.lo; omega) h)
                  have h2 : ¬ (t : Int) < next := fun h => by have := HC2.out t (hnm.all t (by omega) h); omega
                  omega
                have hbs : bs = [] := by
                  cases bs with
                  | nil => rfl
                  | cons p r =>
                    have h1 := (hnm.keys p.1).1 (by simp)
                    have := HC2.out p.1 h1.1
                    omega
                have hil : ib.length = t := by have := hnm.len; omega
                have hit : ib = msgs (fun i => cutS (fs i) 5) t := by have := hb.an.inb; rw [hil] at this; exact this
                subst hbs
                obtain ⟨Ag, cg, rfl⟩ := ownForm hb.row
                have HB := Lib.hid hb
                have HIL := Lib.hid hil
                have HIT := Lib.hid hit
                have hhi := hnm.hi.2.2
                have hlo := hnm.lo
                have hul := hb.an.nm.unk
                have HV : Hid (∀ W, AnB w1 W gr mb tg tr st kk (fun i => cutS (fs i) 5) C2 high next [] nb inV ib unV un (.slice Ag ib.length cg) → Calls Try.prog 14 #[.pointer (some ⟨gr, 0, none⟩)] W fun e w' => e = .returned (.agg #[.int .u32 ((st + next) % 16777216), .int .u32 ((st + high) % 16777216), .int .u32 ((st + 64) % 16777216), .int .i64 0, .int .i64 (t : Int), .int .i64 (un.length : Int)]) ∧ AnB w1 w' gr mb tg tr st kk (fun i => cutS (fs i) 5) C2 high next [] nb inV ib unV un (.slice Ag ib.length cg)) := fun W hW => by
                  have := rcv_vars hW.an.nm.rcv (by omega) (by omega) (by omega) (by decide)
                  rw [hil] at this
                  exact this.mono fun e w' ⟨he, hb'⟩ => ⟨he, hW.below hb'⟩
                have hf3 := fun W => (rvars_f ((st + next) % 16777216) ((st + high) % 16777216) ((st + 64) % 16777216) 0 (t : Int) (un.length : Int) W).2.2.2.1
                have hf4 := fun W => (rvars_f ((st + next) % 16777216) ((st + high) % 16777216) ((st + 64) % 16777216) 0 (t : Int) (un.length : Int) W).2.2.1
                have HCG : Hid (∀ W, AnB w1 W gr mb tg tr st kk (fun i => cutS (fs i) 5) C2 high next [] nb inV ib unV un (.slice Ag ib.length cg) → W.cell? ⟨tg, 0, none⟩ = some (.slice Ag t cg) ∧ W.cell? ⟨tr, 0, none⟩ = some (.pointer (some ⟨gr, 0, none⟩))) := fun W hW => ⟨by rw [rblk_cell hW.bg, hil]; rfl, by rw [rblk_cell hW.br]; rfl⟩
                obtain ⟨x1, x2⟩ := HCG.out _ hb
                clear hb hnm hnx hil hit HA2 HC2 HF2 hul
                generalize (st + next) % 16777216 = V1 at HV hf3 hf4
                generalize (st + high) % 16777216 = V2 at HV hf3 hf4
                generalize (st + 64) % 16777216 = V3 at HV hf3 hf4
                go_wp2_with fail
                refine (HV.out _ HB.out).mono ?_
                rintro e w5 ⟨rfl, hb5⟩
                obtain ⟨x3, x4⟩ := HCG.out _ hb5
                have HB5 := Lib.hid hb5
                clear hb5 x1 x2
                go_wp2_with fail
                refine (HV.out _ HB5.out).mono ?_
                rintro e w6 ⟨rfl, hb6⟩
                have HB6 := Lib.hid hb6
                clear hb6 x3 x4 HV HB5 HB
                go_wp2_with fail
                go_loopw [80] (fun i wx => ∃ q : Nat, q ≤ t ∧ i = .int .i64 q ∧ Hid (AnB w1 wx gr mb tg tr st kk (fun i => cutS (fs i) 5) C2 high next [] nb inV ib unV un (.slice Ag ib.length cg))) (fun i _ => t - (intOf i).toNat)
                case atStart => exact ⟨0, by omega, rfl, HB6⟩
                case round =>
                  obtain ⟨q, hq, rfl, HB7⟩ := hrel
                  clear HB6
                  obtain ⟨x1, x2⟩ := HCG.out _ HB7.out
                  by_cases hqt : q < t
                  · have e1 : decide ((q : Int) < (t : Int)) = true := decide_eq_true (by omega)
                    obtain ⟨bm, offm, rfl, hbl, hsz, hcm⟩ := HST.out.get (show q < ln by omega)
                    have HCU := Lib.hid (fun W => law_cut (fs q) 5 W hsz (by decide))
                    have hbel := HB7.out.an.nm.rcv.bel
                    have y1 : wr.cell? ⟨w.heap.size + 1, 0, none⟩ = some (.slice (some ⟨bm, offm, none⟩) ln cm) := by rw [hbel.cell (p := ⟨w.heap.size + 1, 0, none⟩) (rblk_lt HTM.out), rblk_cell HTM.out]; rfl
                    have y2 : wr.cell? ⟨bm, offm + q, none⟩ = some (.string (fs q)) := by rw [hbel.cell (p := ⟨bm, offm + q, none⟩) hbl]; exact hcm
                    obtain ⟨gg, rfl⟩ : ∃ gg, Ag = some ⟨gg, 0, none⟩ := by
                      rcases HB7.out.row.2 with ⟨e, hz⟩ | ⟨g, cap, cur, e, _⟩
                      · have := HIL.out; omega
                      · rw [Value.slice.injEq] at e
                        exact ⟨g, e.1⟩
                    have y3 : wr.cell? ⟨gg, q, none⟩ = some (.string (cutS (fs q) 5)) := by
                      have hx : (ib.map Value.string)[q]? = some (.string (cutS (fs q) 5)) := by
                        rw [HIT.out]
                        unfold msgs
                        rw [List.map_map, List.getElem?_map, List.getElem?_range hqt]
                        rfl
                      have := HB7.out.row.cells (g := gg) rfl q _ hx
                      rwa [Addr.add_lit, Nat.zero_add] at this
                    generalize cutS (fs q) 5 = sq at HCU y3
                    clear hcm hbel
                    have hq1 : q < ln := by omega
                    have hq2 : (q : Int) < (ln : Int) := by omega
                    have hq3 : (0 : Int) ≤ (q : Int) := by omega
                    go_upto_region 23 with fail
                    go_region_held3 (fun w' => w'.cell? ⟨tg, 0, none⟩ = some (.slice (some ⟨gg, 0, none⟩) t cg) ∧ w'.cell? ⟨w.heap.size + 1, 0, none⟩ = some (.slice (some ⟨bm, offm, none⟩) ln cm) ∧ w'.cell? ⟨bm, offm + q, none⟩ = some (.string (fs q)) ∧ w'.cell? ⟨gg, q, none⟩ = some (.string sq))
                      (first | go_keep)
                      (first
                        | (go_at_call 13; refine (HCU.out _).mono ?_; rintro e w' ⟨rfl, rfl⟩)
                        | fail)
                    go_wp2_with fail
                    go_roundw
                    case rel => exact ⟨q + 1, by omega, by go_num, HB7.out.below ⟨rfl, rfl, rfl, Nat.le_refl _, fun _ _ => rfl⟩⟩
                    case measure => simp [intOf]; omega
                  · obtain rfl : q = t := by omega
                    have e1 : decide ((q : Int) < (q : Int)) = false := decide_eq_false (by omega)
                    go_upto_region 26 with fail
                    have hil := HIL.out
                    have hBd := HB7.out.below ((Below.refl wr.heap.size wr).drew)
                    have HTK := Lib.hid (rcv_take hBd.an.nm.rcv 100 (by decide) q (by omega) (by omega))
                    have HBD := Lib.hid hBd
                    have HN1 : Hid (w1.heap.size ≤ wr.heap.size) := HB7.out.an.nm.rcv.lts
                    have hq60 : q ≤ 60 := by omega
                    have z1 := (HCG.out _ hBd).1
                    have z2 := (HCG.out _ hBd).2
                    clear hil hBd e1 hq HCG
                    go_region_held3 (fun w' => w'.cell? ⟨tr, 0, none⟩ = some (.pointer (some ⟨gr, 0, none⟩)) ∧ w'.cell? ⟨tg, 0, none⟩ = some (.slice Ag q cg))
                      (first | go_keep)
                      (first
                        | (go_at_call 16; (with_reducible refine (HTK.out).mono ?_); rintro e w6 ⟨v6, inV6, rfl, hown6, hr6, hc6, hf6⟩
                           obtain ⟨A6, c6, rfl⟩ := ownForm hown6
                           have hil := HIL.out
                           have HS1 : Hid (w6.ownsRow wr.drew.heap.size 9 1 (.slice A6 q c6) ib.length (ib.map Value.string)) := by
                             have := hown6
                             rw [List.take_of_length_le (by omega)] at this
                             show World.ownsRow _ _ _ _ _ _ _
                             rw [hil]
                             exact this
                           have HS2 : Hid (w6.ownsRow w1.heap.size 9 1 (.slice Ag ib.length cg) ib.length (ib.map Value.string)) := rrow_blk HBD.out.row fun b hb => hc6.keep b (HBD.out.row.lt b hb).2 (HBD.out.own b hb).1
                           have HSM := Lib.hid (law_same HS1.out HS2.out (by omega))
                           rw [hil] at HSM
                           have a1 : w6.cell? ⟨tg, 0, none⟩ = some (.slice Ag q cg) := by rw [World.cell?_of_block (w := wr.drew) (hc6.keep tg (rblk_lt HBD.out.bg) HBD.out.ntg)]; exact z1
                           have a2 : w6.cell? ⟨tr, 0, none⟩ = some (.pointer (some ⟨gr, 0, none⟩)) := by rw [World.cell?_of_block (w := wr.drew) (hc6.keep tr (rblk_lt HBD.out.br) HBD.out.ntr)]; exact z2
                           have HR6 := Lib.hid hr6
                           have HC6 := Lib.hid hc6
                           have HD6 : Hid ((ib.drop q).length = 0) := by show _ = _; rw [List.length_drop]; omega
                           clear hown6 hr6 hc6 hf6 hil HTK)
                        | (go_at_call 15; (with_reducible refine (HSM.out).mono ?_); rintro e w7 ⟨rfl, hb7⟩
                           have HTK2 := Lib.hid (rcv_take (HR6.out.below hb7) 1 (by decide) 0 (by have := HD6.out; omega) (by have := HD6.out; omega))
                           have HC7 := Lib.hid (HC6.out.below hb7)
                           have d1 : w7.cell? ⟨tg, 0, none⟩ = some (.slice Ag q cg) := by rw [hb7.cell (p := ⟨tg, 0, none⟩) (Nat.lt_of_lt_of_le (rblk_lt HBD.out.bg) HC6.out.size)]; exact a1
                           have d2 : w7.cell? ⟨tr, 0, none⟩ = some (.pointer (some ⟨gr, 0, none⟩)) := by rw [hb7.cell (p := ⟨tr, 0, none⟩) (Nat.lt_of_lt_of_le (rblk_lt HBD.out.br) HC6.out.size)]; exact a2
                           clear hb7)
                        | (go_at_call 16; (with_reducible refine (HTK2.out).mono ?_); rintro e w8 ⟨v8, inV8, rfl, hown8, hr8, hc8, _⟩
                           obtain ⟨A8, c8, rfl⟩ := ownForm hown8
                           have HC8 := Lib.hid (HC7.out.trans hc8)
                           have f1 : w8.cell? ⟨tg, 0, none⟩ = some (.slice Ag q cg) := by rw [World.cell?_of_block (w := wr.drew) (HC8.out.keep tg (rblk_lt HBD.out.bg) HBD.out.ntg)]; exact z1
                           have f2 : w8.cell? ⟨tr, 0, none⟩ = some (.pointer (some ⟨gr, 0, none⟩)) := by rw [World.cell?_of_block (w := wr.drew) (HC8.out.keep tr (rblk_lt HBD.out.br) HBD.out.ntr)]; exact z2
                           have HBL := Lib.hid (HB1.out.trans (hr8.bel.mono HBW.out))
                           clear hown8 hr8 hc8)
                        | fail)
                    all_goals go_wp2_with fail
                    all_goals go_ret
                    all_goals exact ⟨by first | rfl | simp, HBL.out⟩
        · have e1 : decide (k < lo) = false := decide_eq_false hl
          have e2 : decide ((k : Int) < (lo : Int)) = false := decide_eq_false (by omega)
          clear hgo hl
          go_wp2_with fail
          clear e1 e2
          go_loopw [52] (fun i wx => ∃ (t kk : Nat) (C2 : List Int), t ≤ n ∧ i = .int .i64 t ∧ kk ≤ 100 + t ∧ Hid (AnAt w1 wx gr mb tg tr st kk (fun i => cutS (fs i) 5) C2) ∧ Hid (∀ x ∈ C2, 0 ≤ x ∧ x < n) ∧ Hid (∀ x : Int, (n : Int) - t ≤ x → x < n → x ∈ C2)) (fun i _ => n - (intOf i).toNat)
          case atStart => exact ⟨0, k, C, by omega, rfl, by omega, HA, HC, (fun x h1 h2 => by omega)⟩
          case round =>
            obtain ⟨t, kk, C2, ht, rfl, hkk, HA2, HC2, HF2⟩ := hrel
            clear HA HC HBB
            by_cases htn : t < n
            · have e1 : decide ((t : Int) < (n : Int)) = true := decide_eq_true (by omega)
              obtain ⟨j, hj⟩ : ∃ j : Nat, (j : Int) = (n : Int) - 1 - t := ⟨n - 1 - t, by omega⟩
              have HPU := Lib.hid (any_put HA2.out hs HSE.out HTS.out HTM.out HST.out (fun _ => rfl) (by omega) j (by omega) (by omega))
              have HJ := Lib.hid hj
              have hj' := hj.symm
              clear hj
              go_wp2_with fail
              refine HPU.out.mono ?_
              rintro e w5 ⟨rfl, hat⟩
              have HA5 := Lib.hid hat
              have HC5 : Hid (∀ x ∈ addK C2 (j : Int), 0 ≤ x ∧ x < n) := fun x hx => by
                rcases (mem_addK C2 (j : Int) x).1 hx with h | h
                · exact HC2.out x h
                · omega
              have HF5 : Hid (∀ x : Int, (n : Int) - ((t + 1 : Nat) : Int) ≤ x → x < n → x ∈ addK C2 (j : Int)) := fun x h1 h2 => by
                rw [mem_addK]
                by_cases e : x = (j : Int)
                · exact .inr e
                · exact .inl (HF2.out x (by omega) h2)
              clear hat HPU hj' HA2 HC2 HF2
              go_wp2_with fail
              go_roundw
              case rel => exact ⟨t + 1, kk + 1, addK C2 (j : Int), by omega, by go_num, by omega, HA5, HC5, HF5⟩
              case measure => simp [intOf]; omega
            · obtain rfl : t = n := by omega
              have e1 : decide ((t : Int) < (t : Int)) = false := decide_eq_false (by omega)
              obtain ⟨high, next, bs, nb, inV, ib, unV, un, gV, hb⟩ := HA2.out
              have hnm := hb.an.nm.nm
              have hnx : next = (t : Int) := by
                have h1 : ¬ next < (t : Int) := fun h => hnm.no (HF2.out next (by have := hnm.lo; omega) h)
                have h2 : ¬ (t : Int) < next := fun h => by have := HC2.out t (hnm.all t (by omega) h); omega
                omega
              have hbs : bs = [] := by
                cases bs with
                | nil => rfl
                | cons p r =>
                  have h1 := (hnm.keys p.1).1 (by simp)
                  have := HC2.out p.1 h1.1
                  omega
              have hil : ib.length = t := by have := hnm.len; omega
              have hit : ib = msgs (fun i => cutS (fs i) 5) t := by have := hb.an.inb; rw [hil] at this; exact this
              subst hbs
              obtain ⟨Ag, cg, rfl⟩ := ownForm hb.row
              have HB := Lib.hid hb
              have HIL := Lib.hid hil
              have HIT := Lib.hid hit
              have hhi := hnm.hi.2.2
              have hlo := hnm.lo
              have hul := hb.an.nm.unk
              have HV : Hid (∀ W, AnB w1 W gr mb tg tr st kk (fun i => cutS (fs i) 5) C2 high next [] nb inV ib unV un (.slice Ag ib.length cg) → Calls Try.prog 14 #[.pointer (some ⟨gr, 0, none⟩)] W fun e w' => e = .returned (.agg #[.int .u32 ((st + next) % 16777216), .int .u32 ((st + high) % 16777216), .int .u32 ((st + 64) % 16777216), .int .i64 0, .int .i64 (t : Int), .int .i64 (un.length : Int)]) ∧ AnB w1 w' gr mb tg tr st kk (fun i => cutS (fs i) 5) C2 high next [] nb inV ib unV un (.slice Ag ib.length cg)) := fun W hW => by
                have := rcv_vars hW.an.nm.rcv (by omega) (by omega) (by omega) (by decide)
                rw [hil] at this
                exact this.mono fun e w' ⟨he, hb'⟩ => ⟨he, hW.below hb'⟩
              have hf3 := fun W => (rvars_f ((st + next) % 16777216) ((st + high) % 16777216) ((st + 64) % 16777216) 0 (t : Int) (un.length : Int) W).2.2.2.1
              have hf4 := fun W => (rvars_f ((st + next) % 16777216) ((st + high) % 16777216) ((st + 64) % 16777216) 0 (t : Int) (un.length : Int) W).2.2.1
              have HCG : Hid (∀ W, AnB w1 W gr mb tg tr st kk (fun i => cutS (fs i) 5) C2 high next [] nb inV ib unV un (.slice Ag ib.length cg) → W.cell? ⟨tg, 0, none⟩ = some (.slice Ag t cg) ∧ W.cell? ⟨tr, 0, none⟩ = some (.pointer (some ⟨gr, 0, none⟩))) := fun W hW => ⟨by rw [rblk_cell hW.bg, hil]; rfl, by rw [rblk_cell hW.br]; rfl⟩
              obtain ⟨x1, x2⟩ := HCG.out _ hb
              clear hb hnm hnx hil hit HA2 HC2 HF2 hul
              generalize (st + next) % 16777216 = V1 at HV hf3 hf4
              generalize (st + high) % 16777216 = V2 at HV hf3 hf4
              generalize (st + 64) % 16777216 = V3 at HV hf3 hf4
              go_wp2_with fail
              refine (HV.out _ HB.out).mono ?_
              rintro e w5 ⟨rfl, hb5⟩
              obtain ⟨x3, x4⟩ := HCG.out _ hb5
              have HB5 := Lib.hid hb5
              clear hb5 x1 x2
              go_wp2_with fail
              refine (HV.out _ HB5.out).mono ?_
              rintro e w6 ⟨rfl, hb6⟩
              have HB6 := Lib.hid hb6
              clear hb6 x3 x4 HV HB5 HB
              go_wp2_with fail
              go_loopw [80] (fun i wx => ∃ q : Nat, q ≤ t ∧ i = .int .i64 q ∧ Hid (AnB w1 wx gr mb tg tr st kk (fun i => cutS (fs i) 5) C2 high next [] nb inV ib unV un (.slice Ag ib.length cg))) (fun i _ => t - (intOf i).toNat)
              case atStart => exact ⟨0, by omega, rfl, HB6⟩
              case round =>
                obtain ⟨q, hq, rfl, HB7⟩ := hrel
                clear HB6
                obtain ⟨x1, x2⟩ := HCG.out _ HB7.out
                by_cases hqt : q < t
                · have e1 : decide ((q : Int) < (t : Int)) = true := decide_eq_true (by omega)
                  obtain ⟨bm, offm, rfl, hbl, hsz, hcm⟩ := HST.out.get (show q < ln by omega)
                  have HCU := Lib.hid (fun W => law_cut (fs q) 5 W hsz (by decide))
                  have hbel := HB7.out.an.nm.rcv.bel
                  have y1 : wr.cell? ⟨w.heap.size + 1, 0, none⟩ = some (.slice (some ⟨bm, offm, none⟩) ln cm) := by rw [hbel.cell (p := ⟨w.heap.size + 1, 0, none⟩) (rblk_lt HTM.out), rblk_cell HTM.out]; rfl
                  have y2 : wr.cell? ⟨bm, offm + q, none⟩ = some (.string (fs q)) := by rw [hbel.cell (p := ⟨bm, offm + q, none⟩) hbl]; exact hcm
                  obtain ⟨gg, rfl⟩ : ∃ gg, Ag = some ⟨gg, 0, none⟩ := by
                    rcases HB7.out.row.2 with ⟨e, hz⟩ | ⟨g, cap, cur, e, _⟩
                    · have := HIL.out; omega
                    · rw [Value.slice.injEq] at e
                      exact ⟨g, e.1⟩
                  have y3 : wr.cell? ⟨gg, q, none⟩ = some (.string (cutS (fs q) 5)) := by
                    have hx : (ib.map Value.string)[q]? = some (.string (cutS (fs q) 5)) := by
                      rw [HIT.out]
                      unfold msgs
                      rw [List.map_map, List.getElem?_map, List.getElem?_range hqt]
                      rfl
                    have := HB7.out.row.cells (g := gg) rfl q _ hx
                    rwa [Addr.add_lit, Nat.zero_add] at this
                  generalize cutS (fs q) 5 = sq at HCU y3
                  clear hcm hbel
                  have hq1 : q < ln := by omega
                  have hq2 : (q : Int) < (ln : Int) := by omega
                  have hq3 : (0 : Int) ≤ (q : Int) := by omega
                  go_upto_region 23 with fail
                  go_region_held3 (fun w' => w'.cell? ⟨tg, 0, none⟩ = some (.slice (some ⟨gg, 0, none⟩) t cg) ∧ w'.cell? ⟨w.heap.size + 1, 0, none⟩ = some (.slice (some ⟨bm, offm, none⟩) ln cm) ∧ w'.cell? ⟨bm, offm + q, none⟩ = some (.string (fs q)) ∧ w'.cell? ⟨gg, q, none⟩ = some (.string sq))
                    (first | go_keep)
                    (first
                      | (go_at_call 13; refine (HCU.out _).mono ?_; rintro e w' ⟨rfl, rfl⟩)
                      | fail)
                  go_wp2_with fail
                  go_roundw
                  case rel => exact ⟨q + 1, by omega, by go_num, HB7.out.below ⟨rfl, rfl, rfl, Nat.le_refl _, fun _ _ => rfl⟩⟩
                  case measure => simp [intOf]; omega
                · obtain rfl : q = t := by omega
                  have e1 : decide ((q : Int) < (q : Int)) = false := decide_eq_false (by omega)
                  go_upto_region 26 with fail
                  have hil := HIL.out
                  have hBd := HB7.out.below ((Below.refl wr.heap.size wr).drew)
                  have HTK := Lib.hid (rcv_take hBd.an.nm.rcv 100 (by decide) q (by omega) (by omega))
                  have HBD := Lib.hid hBd
                  have HN1 : Hid (w1.heap.size ≤ wr.heap.size) := HB7.out.an.nm.rcv.lts
                  have hq60 : q ≤ 60 := by omega
                  have z1 := (HCG.out _ hBd).1
                  have z2 := (HCG.out _ hBd).2
                  clear hil hBd e1 hq HCG
                  go_region_held3 (fun w' => w'.cell? ⟨tr, 0, none⟩ = some (.pointer (some ⟨gr, 0, none⟩)) ∧ w'.cell? ⟨tg, 0, none⟩ = some (.slice Ag q cg))
                    (first | go_keep)
                    (first
                      | (go_at_call 16; (with_reducible refine (HTK.out).mono ?_); rintro e w6 ⟨v6, inV6, rfl, hown6, hr6, hc6, hf6⟩
                         obtain ⟨A6, c6, rfl⟩ := ownForm hown6
                         have hil := HIL.out
                         have HS1 : Hid (w6.ownsRow wr.drew.heap.size 9 1 (.slice A6 q c6) ib.length (ib.map Value.string)) := by
                           have := hown6
                           rw [List.take_of_length_le (by omega)] at this
                           show World.ownsRow _ _ _ _ _ _ _
                           rw [hil]
                           exact this
                         have HS2 : Hid (w6.ownsRow w1.heap.size 9 1 (.slice Ag ib.length cg) ib.length (ib.map Value.string)) := rrow_blk HBD.out.row fun b hb => hc6.keep b (HBD.out.row.lt b hb).2 (HBD.out.own b hb).1
                         have HSM := Lib.hid (law_same HS1.out HS2.out (by omega))
                         rw [hil] at HSM
                         have a1 : w6.cell? ⟨tg, 0, none⟩ = some (.slice Ag q cg) := by rw [World.cell?_of_block (w := wr.drew) (hc6.keep tg (rblk_lt HBD.out.bg) HBD.out.ntg)]; exact z1
                         have a2 : w6.cell? ⟨tr, 0, none⟩ = some (.pointer (some ⟨gr, 0, none⟩)) := by rw [World.cell?_of_block (w := wr.drew) (hc6.keep tr (rblk_lt HBD.out.br) HBD.out.ntr)]; exact z2
                         have HR6 := Lib.hid hr6
                         have HC6 := Lib.hid hc6
                         have HD6 : Hid ((ib.drop q).length = 0) := by show _ = _; rw [List.length_drop]; omega
                         clear hown6 hr6 hc6 hf6 hil HTK)
                      | (go_at_call 15; (with_reducible refine (HSM.out).mono ?_); rintro e w7 ⟨rfl, hb7⟩
                         have HTK2 := Lib.hid (rcv_take (HR6.out.below hb7) 1 (by decide) 0 (by have := HD6.out; omega) (by have := HD6.out; omega))
                         have HC7 := Lib.hid (HC6.out.below hb7)
                         have d1 : w7.cell? ⟨tg, 0, none⟩ = some (.slice Ag q cg) := by rw [hb7.cell (p := ⟨tg, 0, none⟩) (Nat.lt_of_lt_of_le (rblk_lt HBD.out.bg) HC6.out.size)]; exact a1
                         have d2 : w7.cell? ⟨tr, 0, none⟩ = some (.pointer (some ⟨gr, 0, none⟩)) := by rw [hb7.cell (p := ⟨tr, 0, none⟩) (Nat.lt_of_lt_of_le (rblk_lt HBD.out.br) HC6.out.size)]; exact a2
                         clear hb7)
                      | (go_at_call 16; (with_reducible refine (HTK2.out).mono ?_); rintro e w8 ⟨v8, inV8, rfl, hown8, hr8, hc8, _⟩
                         obtain ⟨A8, c8, rfl⟩ := ownForm hown8
                         have HC8 := Lib.hid (HC7.out.trans hc8)
                         have f1 : w8.cell? ⟨tg, 0, none⟩ = some (.slice Ag q cg) := by rw [World.cell?_of_block (w := wr.drew) (HC8.out.keep tg (rblk_lt HBD.out.bg) HBD.out.ntg)]; exact z1
                         have f2 : w8.cell? ⟨tr, 0, none⟩ = some (.pointer (some ⟨gr, 0, none⟩)) := by rw [World.cell?_of_block (w := wr.drew) (HC8.out.keep tr (rblk_lt HBD.out.br) HBD.out.ntr)]; exact z2
                         have HBL := Lib.hid (HB1.out.trans (hr8.bel.mono HBW.out))
                         clear hown8 hr8 hc8)
                      | fail)
                  all_goals go_wp2_with fail
                  all_goals go_ret
                  all_goals exact ⟨by first | rfl | simp, HBL.out⟩
end Go.Proofs.Ytgfdgcpbmjhmmaa
