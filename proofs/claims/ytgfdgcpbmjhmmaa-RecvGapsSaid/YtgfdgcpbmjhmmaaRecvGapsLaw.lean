/- The walk of the law RecvGaps. Conditions: the numbers came in as a row of them. -/
import Derived.Test.YtgfdgcpbmjhmmaaNamesLaw
import Derived.Test.YtgfdgcpbmjhmmaaRecvAwake
namespace Go.Proofs.Ytgfdgcpbmjhmmaa
open Go.RowKit Go.Maps Sp
set_option linter.unusedVariables false
set_option linter.unusedSimpArgs false

/-- What the law knows at a call: the receiver, what came, what was told. -/
structure GpR (w0 w : World) (gr mb cb tb : Nat) (st : Int) (k kc : Nat) (C : List Int) (high next : Int) (bs : List (Int × ByteArray)) (nb : Nat) (inV : Value) (ib : List ByteArray) (unV : Value) (un : List Span) (C2 : List Int) (f : Int → Int) (T : List Int) (g : Int → Int) (kt : Nat) : Prop where
  nr : NmR w0 w gr mb st k C high next bs nb inV ib unV un
  cn : CntIn w cb kc C2 f
  tn : CntIn w tb kt T g
  tlt : ∀ x ∈ T, 0 ≤ x ∧ x < high
  ncb : ¬ Mine gr mb inV unV cb
  ntb : ¬ Mine gr mb inV unV tb
  cbt : cb ≠ tb
  lo : w0.heap.size ≤ cb ∧ w0.heap.size ≤ tb
section
variable {w0 w w' : World} {gr mb cb tb k kc nb kt : Nat} {st high next : Int} {C C2 T : List Int} {bs : List (Int × ByteArray)} {inV unV : Value} {ib : List ByteArray} {un : List Span} {f g : Int → Int}
/-- Behind a call of the receiver's. -/
theorem GpR.call (h : GpR w0 w gr mb cb tb st k kc C high next bs nb inV ib unV un C2 f T g kt) {k' nb' : Nat} {C' : List Int} {high' next' : Int} {bs' : List (Int × ByteArray)} {inV' unV' : Value} {ib' : List ByteArray} {un' : List Span} (hn : NmR w0 w' gr mb st k' C' high' next' bs' nb' inV' ib' unV' un') (hh : high ≤ high') (hc : RCh w w' (Mine gr mb inV unV) (Mine gr mb inV' unV')) : GpR w0 w' gr mb cb tb st k' kc C' high' next' bs' nb' inV' ib' unV' un' C2 f T g kt := by
  have h1 := h.cn.lt
  have h2 := h.tn.lt
  exact ⟨hn, h.cn.blk (hc.keep cb h1 h.ncb), h.tn.blk (hc.keep tb h2 h.ntb), fun x hx => by have := h.tlt x hx; omega, fun hm => (hc.own cb hm).elim h.ncb fun e => by omega, fun hm => (hc.own tb hm).elim h.ntb fun e => by omega, h.cbt, h.lo⟩
theorem GpR.below (h : GpR w0 w gr mb cb tb st k kc C high next bs nb inV ib unV un C2 f T g kt) (hb : Below w.heap.size w w') : GpR w0 w' gr mb cb tb st k kc C high next bs nb inV ib unV un C2 f T g kt :=
  ⟨⟨h.nr.rcv.below hb, h.nr.nm, h.nr.nbk, h.nr.bsk, h.nr.unk⟩, h.cn.blk (hb.block _ h.cn.lt), h.tn.blk (hb.block _ h.tn.lt), h.tlt, h.ncb, h.ntb, h.cbt, h.lo⟩
/-- Behind a write to one of the law's maps. -/
theorem GpR.rcvAt (h : GpR w0 w gr mb cb tb st k kc C high next bs nb inV ib unV un C2 f T g kt) {m : Nat} (hm : m = cb ∨ m = tb) (hg : w.grownBy w' (some m)) : NmR w0 w' gr mb st k C high next bs nb inV ib unV un := by
  have hnm : ¬ Mine gr mb inV unV m := hm.elim (fun e => e ▸ h.ncb) fun e => e ▸ h.ntb
  have hlo : w0.heap.size ≤ m := hm.elim (fun e => e ▸ h.lo.1) fun e => e ▸ h.lo.2
  exact ⟨h.nr.rcv.of (fun j hj => hg.block j (h.nr.rcv.mine_lt hj).1 (fun e => hnm (by injection e with e; exact e ▸ hj))) (h.nr.rcv.bel.grown hg h.nr.rcv.bel.size (fun j hj => by injection hj with hj; subst hj; exact hlo)), h.nr.nm, h.nr.nbk, h.nr.bsk, h.nr.unk⟩
theorem GpR.came (h : GpR w0 w gr mb cb tb st k kc C high next bs nb inV ib unV un C2 f T g kt) {kc' : Nat} {C3 : List Int} {f' : Int → Int} (hg : w.grownBy w' (some cb)) (hc : CntIn w' cb kc' C3 f') : GpR w0 w' gr mb cb tb st k kc' C high next bs nb inV ib unV un C3 f' T g kt :=
  ⟨h.rcvAt (.inl rfl) hg, hc, h.tn.blk (hg.block _ h.tn.lt (fun e => h.cbt (Option.some.inj e).symm)), h.tlt, h.ncb, h.ntb, h.cbt, h.lo⟩
theorem GpR.told (h : GpR w0 w gr mb cb tb st k kc C high next bs nb inV ib unV un C2 f T g kt) {kt' : Nat} {T' : List Int} {g' : Int → Int} (hg : w.grownBy w' (some tb)) (hc : CntIn w' tb kt' T' g') (ht : ∀ x ∈ T', 0 ≤ x ∧ x < high) : GpR w0 w' gr mb cb tb st k kc C high next bs nb inV ib unV un C2 f T' g' kt' :=
  ⟨h.rcvAt (.inr rfl) hg, h.cn.blk (hg.block _ h.cn.lt (fun e => h.cbt (Option.some.inj e))), hc, ht, h.ncb, h.ntb, h.cbt, h.lo⟩
end
/-- At the head of the outer loop. -/
def GpAt (w0 w : World) (gr mb cb tb : Nat) (st : Int) (k : Nat) : Prop :=
  ∃ C high next bs nb inV ib unV f T g kt, GpR w0 w gr mb cb tb st k k C high next bs nb inV ib unV [] C f T g kt ∧ kt ≤ 64 * k
/-- What is untold, if anything. -/
def UnOk (un : List Span) (T : List Int) (k kt : Nat) (hi : Int) : Prop := (un = [] ∧ kt ≤ 64 * (k + 1)) ∨ ∃ a b : Int, un = [(a, b)] ∧ 0 ≤ a ∧ a < b ∧ b ≤ 63 ∧ b < hi ∧ (∀ x ∈ T, ¬ (a ≤ x ∧ x < b)) ∧ kt ≤ 64 * k
theorem unOk_next {C T : List Int} {high n : Int} {k kt : Nat} (hh : 0 ≤ high) (hn : n ≤ 63) (ht : ∀ x ∈ T, 0 ≤ x ∧ x < high) (hk : kt ≤ 64 * k) : UnOk (if n ∈ C then [] else unNext [] high n) T k kt (max high (n + 1)) := by
  by_cases e : n ∈ C
  · rw [if_pos e]
    exact .inl ⟨rfl, by omega⟩
  · rw [if_neg e]
    unfold unNext
    by_cases h : high < n ∧ ([] : List Span).length < 8
    · rw [if_pos h]
      exact .inr ⟨high, n, rfl, hh, h.1, hn, by omega, fun x hx g => by have := ht x hx; omega, hk⟩
    · rw [if_neg h]
      exact .inl ⟨rfl, by omega⟩
set_option maxHeartbeats 8000000 in
set_option maxRecDepth 100000 in
theorem walk_RecvGaps (st0 : Int) (A : Option Addr) (ln cap : Nat) (w : World) (fi : Nat → Int) (h : IntIn w A ln fi) (hs : -9223372036854775808 ≤ st0 ∧ st0 ≤ 9223372036854775807) :
    Calls Try.prog 5 #[.int .i64 st0, .slice A ln cap] w fun e w' => e = .returned (.bool true) ∧ Below w.heap.size w w' := by
  have HP := Lib.hid h
  have hmm := @run_makeMap Try.prog
  have HOF := Lib.hid (fun W => seq_of st0 W hs.1 hs.2)
  have hst : 0 ≤ st0 % 16777216 ∧ st0 % 16777216 < 16777216 := by omega
  clear h hs
  generalize st0 % 16777216 = st at *
  have HAD := Lib.hid (fun (x : Int) (hx : 0 ≤ x ∧ x ≤ 1000) W => seq_add st x W hst.1 (by omega) (by omega) (by omega))
  have HTO := Lib.hid (fun (x : Int) (hx : 0 ≤ x ∧ x < 16777216) W => seq_to st x W hst.1 (by omega) hx.1 (by omega))
  have hll := HP.out.1
  unfold maxLen at hll
  go_enter Try.func5, Try.ntmps5
  go_wp2_with fail
  refine (recv_awake w).mono ?_
  rintro e w1 ⟨rfl, hb1⟩
  have HB1 := Lib.hid hb1
  clear hb1
  go_wp2_with (go_at_call 9; refine (HOF.out _).mono ?_; rintro e w' ⟨rfl, rfl⟩)
  refine (rcv_new st 64 w1 (by omega) (by decide)).mono ?_
  rintro e w2 ⟨gr, mb, rfl, h2⟩
  have H2 := Lib.hid h2
  clear h2
  go_upto_region 8 with fail
  have HG0 : Hid (GpAt w1 ((w2.alloc (.map #[] 0)).alloc (.map #[] 0)) gr mb w2.heap.size (w2.heap.size + 1) st 0) := by
    have hc0 : CntIn (w2.alloc (.map #[] 0)) w2.heap.size 0 [] (fun _ => 0) := ⟨_, World.ownsMap_made (H := Unit) w2 Try.prog 3 (plainElem Try.prog 3), CntAt.nil, fun _ _ => rfl, (fun x hx => by cases hx), List.nodup_nil⟩
    have ht0 := World.ownsMap_made (H := Unit) (w2.alloc (.map #[] 0)) Try.prog 3 (plainElem Try.prog 3)
    rw [World.size_alloc] at ht0
    have ht1 : CntIn ((w2.alloc (.map #[] 0)).alloc (.map #[] 0)) (w2.heap.size + 1) 0 [] (fun _ => 0) := ⟨_, ht0, CntAt.nil, fun _ _ => rfl, (fun x hx => by cases hx), List.nodup_nil⟩
    have hm : ∀ j, Mine gr mb (.slice none 0 0) (.slice none 0 0) j → j < w2.heap.size := fun j hj => (H2.out.mine_lt hj).1
    refine ⟨[], 0, 0, [], 0, _, [], _, _, [], _, 0, ⟨⟨(H2.out.alloc _).alloc _, NamesAt.start, Nat.le_refl _, Nat.le_refl _, by simp⟩, hc0.blk (heap_alloc_old _ _ _ (by simp)), ht1, (fun x hx => by cases hx), (fun h => by have := hm _ h; omega), (fun h => by have := hm _ h; omega), by omega, H2.out.lts, Nat.le_succ_of_le H2.out.lts⟩, by omega⟩
  have HBW : Hid (w.heap.size ≤ w1.heap.size) := HB1.out.size
  clear H2
  generalize (w2.alloc (.map #[] 0)).alloc (.map #[] 0) = w3 at *
  generalize w2.heap.size + 1 = tb at *
  generalize w2.heap.size = cb at *
  go_wp2_with fail
  go_loopw [8] (fun i wr => ∃ k : Nat, k ≤ 60 ∧ k ≤ ln ∧ i = .int .i64 k ∧ Hid (GpAt w1 wr gr mb cb tb st k)) (fun i _ => 60 - (intOf i).toNat)
  case atStart => exact ⟨0, by omega, by omega, rfl, HG0⟩
  case round =>
    obtain ⟨k, hk1, hk2, rfl, HGA⟩ := hrel
    clear HG0
    obtain ⟨C, high, next, bs, nb, inV, ib, unV, f, T, g, kt, hgp, hkt⟩ := HGA.out
    have HG := Lib.hid hgp
    have HB := Lib.hid (HB1.out.trans (hgp.nr.rcv.bel.mono HBW.out))
    have hlo := hgp.nr.nm.lo
    have hhi := hgp.nr.nm.hi.2.2
    have hlen := hgp.nr.nm.len
    clear HGA hgp
    by_cases hgo : k < ln ∧ k < 60
    · obtain ⟨hl, h60⟩ := hgo
      obtain ⟨b, off, rfl, hbl, c0, hf0, hf1⟩ := (HP.out.below HB.out).get hl
      have e1 : decide (k < ln) = true := decide_eq_true hl
      have e2 : decide ((k : Int) < (ln : Int)) = true := decide_eq_true (by omega)
      have e3 : decide ((k : Int) < 60) = true := decide_eq_true (by omega)
      have hand := and63i (fi k)
      have hn0 : 0 ≤ fi k % 64 ∧ fi k % 64 ≤ 63 := by omega
      clear hf0 hf1
      generalize fi k % 64 = n at *
      obtain ⟨n0, n1⟩ := hn0
      have HDA := Lib.hid (nm_data HG.out.nr hst (by omega) n ⟨n0, n1⟩ ⟨#[109]⟩)
      go_wp2_with (first | (go_at_call 9; refine (HOF.out _).mono ?_; rintro e w' ⟨rfl, rfl⟩) | (go_at_call 12; refine (HAD.out _ (by omega) _).mono ?_; rintro e w' ⟨rfl, rfl⟩))
      refine HDA.out.mono ?_
      rintro e w4 ⟨A4, l4, c4, next', bs', nb', inV', ib', unV', un', rfl, hnr4, hch, hun4⟩
      have HU4 : Hid (UnOk un' T k kt (max high (n + 1))) := by rw [hun4]; exact unOk_next hhi.1 n1 HG.out.tlt hkt
      have HG4 := Lib.hid (HG.out.call hnr4 (by omega) hch)
      clear hnr4 hch HDA c0 hun4 HG hlo hhi hlen hkt HB
      obtain ⟨D, hD1, hD2, hD3, hD4, hD5⟩ := HG4.out.cn
      have hlk := HG4.out.cn.look n (by omega)
      have hfv := HG4.out.cn.val n
      have HD1 := Lib.hid hD1
      have HBU := Lib.hid (fun (w' : World) (ho : w'.ownsMap Try.prog 3 (plainElem Try.prog 3) cb (k + 1) (D.put (.int .i64 n) (.lit (.int .i64 (f n + 1))))) => CntIn.bump hD2 hD3 hD4 hD5 hD1.isMap n ho)
      have HKEY : Hid (keyOf Try.prog 3 (.int .i64 n) = some (.int .i64 n)) := keyOf_int_mk Try.underlying3 (WalkArith.wf_i64 (by omega))
      have HEL : Hid (plainElem (H := Unit) Try.prog 3 (.int .i64 (f n + 1)) = some (.lit (.int .i64 (f n + 1)), [])) := plainElem_int Try.underlying3 (WalkArith.wf_i64 (by omega))
      clear hD1 hD2 hD3 hD4 hD5
      have hf0 := hfv.1
      have hf1 : f n ≤ 60 := by omega
      clear hfv
      go_upto_region 14 with (at_mapUpdate; refine wpList_mapUpdate_own _ rfl _ _ _ 44 rfl 3 3 rcvKey Try.underlying44 (plainElem Try.prog 3) cb k _ rfl HD1.out (by unfold maxLen; omega) _ _ _ rfl rfl HKEY.out (.lit (.int .i64 (f n + 1))) [] HEL.out ?_; intro w5 hown hgrow; have HG5 := Lib.hid (HG4.out.came hgrow (HBU.out w5 hown)); clear hown hgrow)
      have hhi := HG5.out.nr.nm.hi.2.2
      clear hlk HD1 HBU HKEY HEL HG4 hf0 hf1 hand
      generalize addK C n = C1 at *
      generalize max high (n + 1) = hi1 at *
      generalize upd f n (f n + 1) = f1 at *
      go_wp2_with fail
      go_frame
      go_loopw [10] (fun m wq => ∃ (un : List Span) (unV : Value) (T : List Int) (g : Int → Int) (kt : Nat), Hid (GpR w1 wq gr mb cb tb st (k + 1) (k + 1) C1 hi1 next' bs' nb' inV' ib' unV un C1 f1 T g kt) ∧ Hid (UnOk un T k kt hi1)) (fun _ wq => match wq.cell? ⟨gr, 7, none⟩ with | some v => lenV v | none => 0)
      case atStart => exact ⟨un', unV', T, g, kt, HG5, HU4⟩
      case round =>
        obtain ⟨un, unV2, T2, g2, kt2, HG6, HU6⟩ := hrel
        clear HG5 HU4
        obtain ⟨Au, cu, rfl⟩ := ownForm HG6.out.nr.rcv.unt
        have c7 := HG6.out.nr.rcv.cells.c7
        have HLV : Hid ((match wr.cell? ⟨gr, 7, none⟩ with | some v => lenV v | none => 0) = un.length) := by rw [c7]; rfl
        clear c7
        have hlo := HG6.out.nr.nm.lo
        have hlen := HG6.out.nr.nm.len
        have hkt : kt2 ≤ 64 * (k + 1) := by rcases HU6.out with ⟨_, h⟩ | ⟨_, _, _, _, _, _, _, _, h⟩ <;> omega
        have hul : un.length ≤ 1 := by rcases HU6.out with ⟨h, _⟩ | ⟨_, _, h, _⟩ <;> rw [h] <;> simp
        have hub : ∀ x ∈ un, (-4096 ≤ x.1 - next' ∧ x.1 - next' ≤ 4096) ∧ (-4096 ≤ x.2 - next' ∧ x.2 - next' ≤ 4096) := by
          rcases HU6.out with ⟨h, _⟩ | ⟨a, b, h, h1, h2, h3, _⟩
          · rw [h]; intro x hx; cases hx
          · rw [h]; intro x hx; simp at hx; subst hx; simp only; omega
        have HGA := Lib.hid (rcv_gap HG6.out.nr.rcv (by omega) (by omega) (by decide) (by decide) (by omega) (by have := HG6.out.nr.bsk; omega) (nam_near HG6.out.nr.nm).1 (by omega) hub)
        go_wp2_with fail
        refine HGA.out.mono ?_
        rintro e w6 ho
        rcases ho with ⟨unV3, rfl, hfull, hr, hc⟩ | ⟨pre, x, r, a, b, u, unV3, hun, hpf, hfo, rfl, hnu, hfr, hr, hc⟩
        · have HG7 := Lib.hid (HG6.out.call (k' := k + 1) ⟨hr, HG6.out.nr.nm, HG6.out.nr.nbk, HG6.out.nr.bsk, by simp⟩ (Int.le_refl _) hc)
          clear hfull hr hc HG6 HU6 HGA
          go_wp2_with fail
          go_roundw
          case rel => exact ⟨k + 1, by omega, by omega, by go_num, C1, hi1, next', bs', nb', inV', ib', unV3, f1, T2, g2, kt2, HG7.out, hkt⟩
          case measure => simp [intOf]; omega
        · have hM : max (64 : Int) (next' + 64 - (ib'.length : Int)) = 64 := by omega
          rw [hM] at hr ⊢
          obtain ⟨h0, hn, h, hh0, hh1, hh2, hh3, hdis, hk3⟩ : ∃ h0 hn : Int, un = [(h0, hn)] ∧ 0 ≤ h0 ∧ h0 < hn ∧ hn ≤ 63 ∧ hn < hi1 ∧ (∀ x ∈ T2, ¬ (h0 ≤ x ∧ x < hn)) ∧ kt2 ≤ 64 * k := by
            rcases HU6.out with ⟨h, _⟩ | h
            · rw [h] at hun; cases pre <;> simp at hun
            · exact h
          have hpx : pre = [] ∧ x = (h0, hn) ∧ r = [] := by
            rw [h] at hun
            cases pre with
            | nil => simp at hun; exact ⟨rfl, hun.1.symm, hun.2⟩
            | cons y p => simp at hun
          obtain ⟨rfl, rfl, rfl⟩ := hpx
          obtain ⟨q1, q2, q3, q4, _, _⟩ := hfo
          simp only at q1 q3
          have HNC : Hid (∀ p, a ≤ p → p < b → ¬ p ∈ C1) := fun p h1 h2 hp => by
            by_cases e : p = next'
            · exact HG6.out.nr.nm.no (e ▸ hp)
            · exact q4 p h1 h2 ((HG6.out.nr.nm.keys p).2 ⟨hp, by omega⟩)
          have HNT : Hid (∀ p, a ≤ p → p < b → ¬ p ∈ T2) := fun p h1 h2 hp => hdis p hp ⟨by omega, by omega⟩
          have HLV1 : Hid ((match wr.cell? ⟨gr, 7, none⟩ with | some v => lenV v | none => 0) = 1) := by rw [HLV.out, h]; rfl
          have HG7 := Lib.hid (HG6.out.call (k' := k + 1) ⟨hr, HG6.out.nr.nm, HG6.out.nr.nbk, HG6.out.nr.bsk, by simp⟩ (Int.le_refl _) hc)
          have hbh : b ≤ hi1 := by omega
          obtain ⟨Al, cl, rfl, _⟩ := id hnu
          have HVA := Lib.hid (rcv_vars HG7.out.nr.rcv (by omega) (by omega) (by omega) (by decide))
          have hfR := fun W => (rvars_f ((st + next') % 16777216) ((st + hi1) % 16777216) ((st + 64) % 16777216) (bs'.length : Int) (ib'.length : Int) (0 : Int) W).2.2.2.2
          have HNU := Lib.hid hnu
          clear hr hc hnu hfr hun hpf h hdis q4 HG6 HU6 HGA HLV hM hul hub hlen
          go_wp2_with fail
          refine HVA.out.mono ?_
          rintro e w7 ⟨rfl, hb7⟩
          have HG8 := Lib.hid (HG7.out.below hb7)
          have HN8 := Lib.hid (HNU.out.below hb7)
          obtain ⟨_, _, eu, _, hcs⟩ := id HN8.out
          rw [Value.slice.injEq] at eu
          obtain ⟨rfl, _, rfl⟩ := eu
          obtain ⟨bl, offl, rfl, hbl, hxs⟩ := hcs.resolve_left (by simp)
          have x0 := hxs 0 _ rfl
          simp only [Nat.add_zero] at x0
          clear hb7 hcs hxs HG7 HNU HVA
          go_wp2_with fail
          have hBM : 0 ≤ (st + b) % 16777216 ∧ (st + b) % 16777216 < 16777216 := by omega
          go_loopw [14] (fun x wx => ∃ (j : Nat) (T : List Int) (g : Int → Int) (kt : Nat), a + j ≤ b ∧ x = .int .u32 ((st + (a + j)) % 16777216) ∧ Hid (GpR w1 wx gr mb cb tb st (k + 1) (k + 1) C1 hi1 next' bs' nb' inV' ib' unV3 [] C1 f1 T g kt) ∧ Hid (∀ y, y ∈ T ↔ y ∈ T2 ∨ (a ≤ y ∧ y < a + j)) ∧ Hid (kt = kt2 + j) ∧ Hid (NumRow wx (.slice (some ⟨bl, offl, none⟩) 2 cl) [(st + a) % 16777216, (st + b) % 16777216])) (fun x _ => (((st + b) % 16777216 - intOf x) % 16777216).toNat)
          case atStart => exact ⟨0, T2, g2, kt2, by omega, by simp, HG8, (fun y => by show _ ↔ _; constructor <;> intro h; exact .inl h; rcases h with h | h; exact h; omega), rfl, HN8⟩
          case round =>
            obtain ⟨j, T3, g3, kt3, hjb, rfl, HG9, HT9, HK9, HN9⟩ := hrel
            clear HG8 HN8 x0 hbl
            obtain ⟨_, _, eu, _, hcs⟩ := id HN9.out
            rw [Value.slice.injEq] at eu
            obtain ⟨rfl, _, rfl⟩ := eu
            obtain ⟨bl2, offl2, eA, hbl, hxs⟩ := hcs.resolve_left (by simp)
            cases eA
            have x1 := hxs 1 _ rfl
            clear hcs hxs
            by_cases hjl : a + (j : Int) < b
            · obtain ⟨p, hp⟩ : ∃ p, p = a + (j : Int) := ⟨_, rfl⟩
              have hpC := HNC.out p (by omega) (by omega)
              have hpT : ¬ p ∈ T3 := fun hm => by
                rcases (HT9.out p).1 hm with h | h
                · exact HNT.out p (by omega) (by omega) h
                · omega
              have HT2 : Hid (∀ W, Calls Try.prog 18 #[.int .u32 st, .int .u32 ((st + p) % 16777216)] W fun e w' => e = .returned (.int .i64 p) ∧ W = w') := fun W => by
                have := HTO.out ((st + p) % 16777216) (by omega) W
                rw [show ((st + p) % 16777216 - st) % 16777216 = p by omega] at this
                exact this
              have HA2 : Hid (∀ W, Calls Try.prog 12 #[.int .u32 ((st + p) % 16777216), .int .i64 1] W fun e w' => e = .returned (.int .u32 ((st + (a + ((j + 1 : Nat) : Int))) % 16777216)) ∧ W = w') := fun W => by
                have := seq_add ((st + p) % 16777216) 1 W (by omega) (by omega) (by omega) (by omega)
                rw [show ((st + p) % 16777216 + 1) % 16777216 = (st + (a + ((j + 1 : Nat) : Int))) % 16777216 by omega] at this
                exact this
              have hms : (((st + b) % 16777216 - (st + (a + ((j + 1 : Nat) : Int))) % 16777216) % 16777216).toNat < (((st + b) % 16777216 - (st + p) % 16777216) % 16777216).toNat := by omega
              have HMS := Lib.hid hms
              have hne1 : ((st + p) % 16777216 == (st + b) % 16777216) = false := by rw [beq_eq_false_iff_ne]; omega
              have hne2 : decide ((st + p) % 16777216 = (st + b) % 16777216) = false := decide_eq_false (by omega)
              have hpb : 0 ≤ p ∧ p ≤ 63 := by omega
              have hpl : a ≤ p ∧ p < b := by omega
              rw [← hp]
              obtain ⟨D, d1, d2, d3, d4, d5⟩ := HG9.out.tn
              have hg0 : g3 p = 0 := d3 p hpT
              have hlk := HG9.out.tn.look p (by omega)
              rw [hg0] at hlk
              have HD1 := Lib.hid d1
              have HBU := Lib.hid (fun (w' : World) (ho : w'.ownsMap Try.prog 3 (plainElem Try.prog 3) tb (kt3 + 1) (D.put (.int .i64 p) (.lit (.int .i64 (g3 p + 1))))) => CntIn.bump d2 d3 d4 d5 d1.isMap p ho)
              rw [hg0] at HBU
              have HKEY : Hid (keyOf Try.prog 3 (.int .i64 p) = some (.int .i64 p)) := keyOf_int_mk Try.underlying3 (WalkArith.wf_i64 (by omega))
              have HEL : Hid (plainElem (H := Unit) Try.prog 3 (.int .i64 (0 + 1)) = some (.lit (.int .i64 (0 + 1)), [])) := plainElem_int Try.underlying3 (WalkArith.wf_i64 (by omega))
              have HTL : Hid (∀ x ∈ addK T3 p, 0 ≤ x ∧ x < hi1) := fun x hx => by
                rcases (mem_addK T3 p x).1 hx with h | h
                · exact HG9.out.tlt x h
                · omega
              have hf0 := HG9.out.cn
              obtain ⟨_, _, _, hf3, _, _⟩ := hf0
              have HF0 := Lib.hid (hf3 p hpC)
              have hk3' : kt3 ≤ 100000 := by have := HK9.out; omega
              have HPE := Lib.hid hp
              clear d1 d2 d3 d4 d5 hf3 hp hpC hms
              go_upto_region 23 with (first | (go_at_call 9; refine (HOF.out _).mono ?_; rintro e w' ⟨rfl, rfl⟩) | (go_at_call 18; refine (HT2.out _).mono ?_; rintro e w' ⟨rfl, rfl⟩) | (at_mapUpdate; refine wpList_mapUpdate_own _ rfl _ _ _ 44 rfl 3 3 rcvKey Try.underlying44 (plainElem Try.prog 3) tb kt3 _ rfl HD1.out (by unfold maxLen; omega) _ _ _ rfl rfl HKEY.out (.lit (.int .i64 (0 + 1))) [] HEL.out ?_; intro w8 hown hgrow; have HG10 := Lib.hid (HG9.out.told hgrow (HBU.out w8 hown) HTL.out); have HN10 := Lib.hid (numRow_mapped HN9.out hgrow HD1.out); clear hown hgrow))
              have l1 := HG10.out.tn.look p (by omega)
              rw [show upd g3 p (0 + 1) p = 1 by simp [upd]] at l1
              have l2 := HG10.out.cn.look p (by omega)
              rw [HF0.out] at l2
              clear hlk HKEY HEL HBU HD1 HF0 HG9 HN9 x1 hbl
              go_wp2_with (first | (go_at_call 12; refine (HA2.out _).mono ?_; rintro e w' ⟨rfl, rfl⟩))
              go_roundw
              case rel =>
                have hp := HPE.out
                refine ⟨j + 1, addK T3 p, upd g3 p (0 + 1), kt3 + 1, by omega, rfl, HG10, fun y => ?_, (by have := HK9.out; show _ = _; omega), HN10⟩
                rw [mem_addK, HT9.out y]
                constructor
                · rintro ((h | h) | h)
                  · exact .inl h
                  · exact .inr (by omega)
                  · exact .inr (by omega)
                · rintro (h | h)
                  · exact .inl (.inl h)
                  · by_cases e : y = p
                    · exact .inr e
                    · exact .inl (.inr (by omega))
              case measure =>
                simp only [intOf]
                exact HMS.out
            · obtain hjb2 : a + (j : Int) = b := by omega
              have hne1 : ((st + b) % 16777216 == (st + b) % 16777216) = true := by simp
              have hkf : kt3 ≤ 64 * (k + 1) := by have := HK9.out; omega
              have e7 := HG9.out.nr.rcv.cells.c7
              have HE7 : Hid ((match wr.cell? ⟨gr, 7, none⟩ with | some v => lenV v | none => 0) = 0) := by
                obtain ⟨A9, c9, e9⟩ := ownForm HG9.out.nr.rcv.unt
                rw [e7, e9]
                rfl
              rw [hjb2]
              clear hjb2 hjl hjb e7
              go_wp2_with fail
              go_roundw
              case rel => exact ⟨[], unV3, T3, g3, kt3, HG9, .inl ⟨rfl, hkf⟩⟩
              case measure =>
                rw [HE7.out, HLV1.out]
                decide
    · have HVA := Lib.hid (rcv_vars HG.out.nr.rcv (by omega) (by omega) (by omega) (by decide))
      have hfG := fun W => (rvars_f ((st + next) % 16777216) ((st + high) % 16777216) ((st + 64) % 16777216) (bs.length : Int) (ib.length : Int) (0 : Int) W).2.1
      have HBZ := Lib.hid (fun W (hW : Below wr.heap.size wr W) => HB.out.trans (hW.mono HB.out.size))
      clear hlen
      by_cases hl : k < ln
      · have e1 : decide (k < ln) = true := decide_eq_true hl
        have e2 : decide ((k : Int) < (ln : Int)) = true := decide_eq_true (by omega)
        have e3 : decide ((k : Int) < 60) = false := decide_eq_false (by omega)
        clear hgo hl
        go_wp2_with fail
        refine HVA.out.mono ?_
        rintro e w7 ⟨rfl, hb7⟩
        go_wp2_with fail
        go_ret
        exact ⟨by first | rfl | simp, HBZ.out _ hb7⟩
      · have e1 : decide (k < ln) = false := decide_eq_false hl
        have e2 : decide ((k : Int) < (ln : Int)) = false := decide_eq_false (by omega)
        clear hgo hl
        go_wp2_with fail
        refine HVA.out.mono ?_
        rintro e w7 ⟨rfl, hb7⟩
        go_wp2_with fail
        go_ret
        exact ⟨by first | rfl | simp, HBZ.out _ hb7⟩
end Go.Proofs.Ytgfdgcpbmjhmmaa
