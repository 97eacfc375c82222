/- The walk of the law PolliwogNames. Conditions: the numbers came in as a row of them. -/
import Derived.Test.YtgfdgcpbmjhmmaaNamesMath
import Derived.Test.YtgfdgcpbmjhmmaaGapNamed
import Derived.Test.YtgfdgcpbmjhmmaaIntIn
import Derived.Maps.OwnOps
namespace Go.Proofs.Ytgfdgcpbmjhmmaa
open Go.RowKit Go.Maps Sp
set_option linter.unusedVariables false
set_option linter.unusedSimpArgs false

theorem place_names (st next n : Int) (h0 : 0 ≤ n ∧ n ≤ 63) (hx : 0 ≤ next ∧ next ≤ 64) : placeOf st next ((st + n) % 16777216) = if next ≤ n then n else n + 16777216 := by
  unfold placeOf
  split <;> omega
/-- What a call of Data leaves, where the numbers are below 64 and nothing is taken. -/
structure NmR (w0 w : World) (gr mb : Nat) (st : Int) (k : Nat) (C : List Int) (high next : Int) (bs : List (Int × ByteArray)) (nb : Nat) (inV : Value) (ib : List ByteArray) (unV : Value) (un : List Span) : Prop where
  rcv : RcvAt w0 w gr mb st 64 next high 64 bs nb inV ib unV un
  nm : NamesAt C next high bs ib.length
  nbk : nb ≤ k
  bsk : bs.length ≤ k
  unk : un.length ≤ 8
theorem nm_data {w0 w : World} {gr mb k : Nat} {st high next : Int} {C : List Int} {bs : List (Int × ByteArray)} {nb : Nat} {inV unV : Value} {ib : List ByteArray} {un : List Span} (h : NmR w0 w gr mb st k C high next bs nb inV ib unV un) (hs : 0 ≤ st ∧ st < 16777216) (hk : k ≤ 800) (n : Int) (hn : 0 ≤ n ∧ n ≤ 63) (m : ByteArray) :
    Calls Try.prog 11 #[.pointer (some ⟨gr, 0, none⟩), .int .u32 ((st + n) % 16777216), .string m] w fun e w' => ∃ A l c next' bs' nb' inV' ib' unV' un', e = .returned (.slice A l c) ∧ NmR w0 w' gr mb st (k + 1) (addK C n) (max high (n + 1)) next' bs' nb' inV' ib' unV' un' ∧ RCh w w' (Mine gr mb inV unV) (Mine gr mb inV' unV') ∧ un' = (if n ∈ C then un else unNext un high n) := by
  have hlo := h.nm.lo
  have hhi := h.nm.hi
  have hlen := h.nm.len
  have hpl := place_names st next n hn hlo
  by_cases hin : n ∈ C
  · have hno : placeOf st next ((st + n) % 16777216) ∈ bs.map (·.1) ∨ 64 ≤ placeOf st next ((st + n) % 16777216) := by
      rw [hpl]
      by_cases hge : next ≤ n
      · rw [if_pos hge]
        left
        rw [h.nm.keys]
        exact ⟨hin, by
          have : n ≠ next := fun e => h.nm.no (e ▸ hin)
          omega⟩
      · rw [if_neg hge]
        right
        omega
    refine (rcv_dataNo h.rcv (by omega) (by omega) _ (by omega) m hno).mono ?_
    rintro e w' ⟨rfl, hr, hb⟩
    have e1 : addK C n = C := if_pos hin
    have e2 : max high (n + 1) = high := by have := hhi.1 n hin; omega
    rw [e1, e2]
    exact ⟨none, 0, 0, next, bs, nb, inV, ib, unV, un, rfl, ⟨hr, h.nm, by have := h.nbk; omega, by have := h.bsk; omega, h.unk⟩, (RCh.refl _ _).below hb, (if_pos hin).symm⟩
  · have hge : next ≤ n := by
      rcases Int.lt_or_le n next with hlt | hge
      · exact absurd (h.nm.all n hn.1 hlt) hin
      · exact hge
    have hp : placeOf st next ((st + n) % 16777216) = n := by rw [hpl, if_pos hge]
    have hd := rcv_dataYes h.rcv (by omega) (by omega) ((st + n) % 16777216) (by omega) m (by have := h.bsk; omega) (by omega) (by have := h.unk; omega) (by omega) (by have := h.nbk; omega) (by rw [hp, h.nm.keys]; exact fun g => hin g.1) (by rw [hp]; omega)
    rw [hp] at hd
    refine hd.mono ?_
    rintro e w' ⟨v, bs', next', out, inV', unV', rfl, hov, hdl, hni, hr, hc⟩
    obtain ⟨A, c, rfl⟩ := ownForm hov
    have e1 : addK C n = C ++ [n] := if_neg hin
    have hsz := hdl.sizes (by
      rw [List.map_append]
      refine List.nodup_append.2 ⟨h.rcv.nod, by simp, ?_⟩
      intro a ha b hb e
      simp at hb
      subst hb
      subst e
      exact hin ((h.nm.keys a).1 ha).1)
    rw [e1]
    refine ⟨A, _, c, next', bs', nb + 1, inV', ib ++ out, unV', unNext un high n, rfl, ⟨hr, ?_, by have := h.nbk; omega, ?_, ?_⟩, hc, (if_neg hin).symm⟩
    · have := h.nm.step hin hn h.rcv.nod hdl hni
      rw [List.length_append]
      exact this
    · have := h.bsk
      have := hsz.1
      simp at this
      omega
    · unfold unNext
      split
      · rename_i g
        rw [List.length_append]
        simp
        omega
      · exact h.unk

theorem zeroI (w : World) : (zeroValue 3).run Try.prog w = .ok (.int .i64 0) w := by kernel_rfl
theorem and63i (x : Int) : bits .and .i64 x 63 = x % 64 := by
  have e3 : (BitVec.ofInt 64 63).toNat = 2 ^ 6 - 1 := by decide
  have e4 : (BitVec.ofInt 64 x &&& BitVec.ofInt 64 63).toNat = (x % 64).toNat := by
    rw [BitVec.toNat_and, BitVec.toNat_ofInt, e3, Nat.and_two_pow_sub_one_eq_mod]
    omega
  show IntKind.i64.wrap ((BitVec.ofInt 64 x &&& BitVec.ofInt 64 63).toNat : Nat) = _
  rw [e4, IntKind.wrap_i64]
  omega
def litInt : DataW Unit → Int
  | .lit (.int _ n) => n
  | _ => 0
/-- A map of counts in block cb. -/
def CntIn (w : World) (cb k : Nat) (C : List Int) (f : Int → Int) : Prop :=
  ∃ D, w.ownsMap Try.prog 3 (plainElem Try.prog 3) cb k D ∧ CntAt D C f ∧ (∀ x, ¬ x ∈ C → f x = 0) ∧ (∀ x ∈ C, 0 < f x ∧ f x ≤ k) ∧ C.Nodup
theorem CntIn.look {w : World} {cb k : Nat} {C : List Int} {f : Int → Int} (h : CntIn w cb k C f) (x : Int) (hx : -1099511627776 ≤ x ∧ x ≤ 1099511627776) : (Instr.lookup 44 (.map (some cb)) (.int .i64 x) false).run Try.prog w = .ok (.int .i64 (f x)) w := by
  obtain ⟨D, h1, h2, h3, h4, h5⟩ := h
  have hkey : keyOf Try.prog 3 (.int .i64 x) = some (.int .i64 x) := keyOf_int_mk Try.underlying3 (WalkArith.wf_i64 (by omega))
  obtain ⟨c, hr, hat, _⟩ := h1.lookup_int rcvKey Try.underlying44 Try.underlying3 (zeroI w) hkey
  have e := (h2.look h3 x).symm.trans hat
  have e2 : f x = c := congrArg litInt e
  rw [e2]
  exact hr
theorem CntIn.val {w : World} {cb k : Nat} {C : List Int} {f : Int → Int} (h : CntIn w cb k C f) (x : Int) : 0 ≤ f x ∧ f x ≤ k := by
  obtain ⟨D, h1, h2, h3, h4, h5⟩ := h
  by_cases hx : x ∈ C
  · have := h4 x hx; omega
  · rw [h3 x hx]; omega
theorem CntIn.blk {w w' : World} {cb k : Nat} {C : List Int} {f : Int → Int} (h : CntIn w cb k C f) (e : w'.heap[cb]? = w.heap[cb]?) : CntIn w' cb k C f := by
  obtain ⟨D, h1, h2⟩ := h
  exact ⟨D, rOwnsMap_blk h1 e, h2⟩
theorem CntIn.lt {w : World} {cb k : Nat} {C : List Int} {f : Int → Int} (h : CntIn w cb k C f) : cb < w.heap.size := by
  obtain ⟨D, h1, _⟩ := h
  exact h1.lt
theorem CntIn.bump {w' : World} {cb k : Nat} {C : List Int} {f : Int → Int} {D : DataW Unit} (h : CntAt D C f) (hz : ∀ x, ¬ x ∈ C → f x = 0) (hp : ∀ x ∈ C, 0 < f x ∧ f x ≤ k) (hnd : C.Nodup) (hD : IsMap D) (x : Int) (ho : w'.ownsMap Try.prog 3 (plainElem Try.prog 3) cb (k + 1) (D.put (.int .i64 x) (.lit (.int .i64 (f x + 1))))) : CntIn w' cb (k + 1) (addK C x) (upd f x (f x + 1)) := by
  refine ⟨_, ho, h.put hD x (f x + 1), fun y hy => ?_, fun y hy => ?_, nodup_addK hnd x⟩
  · rw [mem_addK] at hy
    have hne : y ≠ x := fun e => hy (.inr e)
    show (if y = x then _ else f y) = 0
    rw [if_neg hne]
    exact hz y fun g => hy (.inl g)
  · show 0 < (if y = x then _ else f y) ∧ (if y = x then _ else f y) ≤ ((k + 1 : Nat) : Int)
    by_cases e : y = x
    · subst e
      rw [if_pos rfl]
      by_cases hx : y ∈ C
      · have := hp y hx; omega
      · rw [hz y hx]; omega
    · rw [if_neg e]
      rw [mem_addK] at hy
      have := hp y (hy.resolve_right e)
      omega
/-- What holds at the head of the law's first loop. -/
def NmAt (w0 w : World) (gr mb cb : Nat) (st : Int) (k : Nat) (C : List Int) (high : Int) : Prop :=
  ∃ next bs nb inV ib unV un f, NmR w0 w gr mb st k C high next bs nb inV ib unV un ∧ CntIn w cb k C f ∧ ¬ Mine gr mb inV unV cb ∧ w0.heap.size ≤ cb

/-- What is named, as places. -/
def namN (next : Int) (q : List Span) : List Int := (Sp.nums q).map fun n => next + n
theorem nam_mem {C : List Int} {next high : Int} {bs : List (Int × ByteArray)} {il : Nat} {q : List Span} (h : NamesAt C next high bs il) (hq : ∀ n, Mem q n ↔ (0 ≤ n ∧ n < high - next) ∧ ¬ n + next ∈ bs.map (·.1)) (x : Int) : x ∈ namN next q ↔ (0 ≤ x ∧ x < high) ∧ ¬ x ∈ C := by
  have hlo := h.lo
  have e : x ∈ namN next q ↔ Mem q (x - next) := by
    unfold namN
    rw [List.mem_map]
    constructor
    · rintro ⟨n, hn, rfl⟩
      rw [mem_nums] at hn
      rw [show next + n - next = n by omega]
      exact hn
    · intro hm
      exact ⟨x - next, (mem_nums _ _).2 hm, by omega⟩
  rw [e, hq, show x - next + next = x by omega, h.keys]
  constructor
  · rintro ⟨⟨g1, g2⟩, g3⟩
    refine ⟨⟨by omega, by omega⟩, fun hc => ?_⟩
    by_cases e : x = next
    · exact h.no (e ▸ hc)
    · exact g3 ⟨hc, by omega⟩
  · rintro ⟨⟨g1, g2⟩, g3⟩
    refine ⟨⟨?_, by omega⟩, fun g => g3 g.1⟩
    rcases Int.lt_or_le x next with g | g
    · exact absurd (h.all x g1 g) g3
    · omega
theorem nam_nodup {next : Int} {q : List Span} (hc : Canon q) : (namN next q).Nodup := by
  unfold namN
  rw [List.Nodup, List.pairwise_map]
  exact (nums_rise hc).imp fun {a b} hab e => by omega
theorem nam_count {C : List Int} {next high : Int} {bs : List (Int × ByteArray)} {il : Nat} {q : List Span} (h : NamesAt C next high bs il) (hc : Canon q) (hq : ∀ n, Mem q n ↔ (0 ≤ n ∧ n < high - next) ∧ ¬ n + next ∈ bs.map (·.1)) : ((namN next q).length : Int) + C.length = high := by
  have h1 : (namN next q ++ C).Nodup := List.nodup_append.2 ⟨nam_nodup hc, h.nod, fun a ha b hb e => by
    subst e
    exact ((nam_mem h hq a).1 ha).2 hb⟩
  have h2 : (Sp.range 0 high).Nodup := (pairwise_range 0 high).imp fun {a b} hab e => by omega
  have hm : ∀ a, a ∈ namN next q ++ C ↔ a ∈ Sp.range 0 high := fun a => by
    rw [List.mem_append, nam_mem h hq, mem_range]
    constructor
    · rintro (g | g)
      · exact g.1
      · exact ⟨(h.bd a g).1, h.hi.1 a g⟩
    · intro g
      by_cases hC : a ∈ C
      · exact .inr hC
      · exact .inl ⟨g, hC⟩
  have := ((List.perm_ext_iff_of_nodup h1 h2).2 hm).length_eq
  rw [List.length_append, length_range] at this
  have := h.hi.2.2.1
  omega
theorem nam_near {C : List Int} {next high : Int} {bs : List (Int × ByteArray)} {il : Nat} (h : NamesAt C next high bs il) : NearKeys next bs ∧ 0 ≤ high - next ∧ high - next ≤ 64 := by
  have hlo := h.lo
  refine ⟨fun x hx => ?_, ?_, by have := h.hi.2.2.2; omega⟩
  · have := (h.keys x).1 hx
    have := h.bd x this.1
    omega
  · by_cases e : next = 0
    · have := h.hi.2.2.1; omega
    · have := h.hi.1 (next - 1) (h.all (next - 1) (by omega) (by omega)); omega
theorem nam_list {C : List Int} {next high st : Int} {bs : List (Int × ByteArray)} {il : Nat} {q : List Span} (h : NamesAt C next high bs il) (hc : Canon q) (hq : ∀ n, Mem q n ↔ (0 ≤ n ∧ n < high - next) ∧ ¬ n + next ∈ bs.map (·.1)) :
    named [] (prs ((st + next) % 16777216) q) = (namN next q).map (fun y => (st + y) % 16777216) ∧ cnt (prs ((st + next) % 16777216) q) ≤ 60000 := by
  have hlo := h.lo
  have hnn := nam_near h
  have hb : ∀ x ∈ q, 0 ≤ x.1 ∧ x.2 ≤ 8388608 := fun x hx => by
    obtain ⟨m1, m2⟩ := rmem_ends hc hx
    have h1 := ((hq _).1 m1).1
    have h2 := ((hq _).1 m2).1
    omega
  constructor
  · rw [named_prs _ q [] hc hb (fun x hx j g1 g2 hm => by cases hm), List.nil_append]
    unfold namN
    rw [List.map_map]
    refine List.map_congr_left fun n _ => ?_
    show ((st + next) % 16777216 + n) % 16777216 = (st + (next + n)) % 16777216
    omega
  · rw [cnt_prs _ q (fun x hx => by have := hb x hx; have := hc.1 x hx; omega), lenOf_nums hc]
    have := nam_count h hc hq
    unfold namN at this
    rw [List.length_map] at this
    have := h.hi.2.2.2
    omega
theorem numRow_mapped {w w8 : World} {v : Value} {xs : List Int} {mb : Nat} {k : Nat} {D : DataW Unit} {T : TypeId} {R : Value → Option (DataW Unit × List MemPlace)} (h : NumRow w v xs) (hg : w.grownBy w8 (some mb)) (hm : w.ownsMap Try.prog T R mb k D) : NumRow w8 v xs := by
  obtain ⟨A, cap, e, hl, hc⟩ := h
  obtain ⟨es, clock, hb, _⟩ := hm
  refine ⟨A, cap, e, hl, hc.imp id fun ⟨b, off, eA, hbl, hcc⟩ => ⟨b, off, eA, Nat.lt_of_lt_of_le hbl hg.size, fun i x hx => ?_⟩⟩
  have h1 := hcc i x hx
  refine hg.cell h1 fun e2 => ?_
  injection e2 with e2
  have e3 : b = mb := e2
  subst e3
  simp [World.cell?, hb] at h1
theorem rvars_H (a1 a2 a3 a4 a5 a6 : Int) (w : World) : (Instr.field 34 (.agg #[.int .u32 a1, .int .u32 a2, .int .u32 a3, .int .i64 a4, .int .i64 a5, .int .i64 a6]) 1).run Try.prog w = .ok (.int .u32 a2) w := by kernel_rfl
set_option maxHeartbeats 8000000 in
set_option maxRecDepth 100000 in
theorem walk_PolliwogNames (st0 : Int) (A : Option Addr) (ln cap : Nat) (w : World) (fi : Nat → Int) (h : IntIn w A ln fi) (hs : -9223372036854775808 ≤ st0 ∧ st0 ≤ 9223372036854775807) :
    Calls Try.prog 6 #[.int .i64 st0, .slice A ln cap] w fun e w' => e = .returned (.bool true) ∧ Below w.heap.size w w' := by
  have HP := Lib.hid h
  have hmm := @run_makeMap Try.prog
  have HOF := Lib.hid (fun W => seq_of st0 W hs.1 hs.2)
  have hst : 0 ≤ st0 % 16777216 ∧ st0 % 16777216 < 16777216 := by omega
  clear h hs
  generalize st0 % 16777216 = st at *
  have HAD := Lib.hid (fun (x : Int) (hx : 0 ≤ x ∧ x ≤ 1000) W => seq_add st x W hst.1 (by omega) (by omega) (by omega))
  have HTO := Lib.hid (fun (x : Int) (hx : 0 ≤ x ∧ x < 16777216) W => seq_to st x W hst.1 (by omega) hx.1 (by omega))
  have hll := HP.out.1
  unfold maxLen at hll
  go_enter Try.func6, Try.ntmps6
  go_wp2_with (go_at_call 9; refine (HOF.out _).mono ?_; rintro e w' ⟨rfl, rfl⟩)
  refine (rcv_new st 64 w (by omega) (by decide)).mono ?_
  rintro e w2 ⟨gr, mb, rfl, h2⟩
  have H2 := Lib.hid h2
  clear h2
  go_upto_region 6 with fail
  have HC0 : Hid (CntIn (w2.alloc (.map #[] 0)) w2.heap.size 0 [] (fun _ => 0)) := ⟨_, World.ownsMap_made (H := Unit) w2 Try.prog 3 (plainElem Try.prog 3), CntAt.nil, fun _ _ => rfl, (fun x hx => by cases hx), List.nodup_nil⟩
  have HN0 : Hid (NmAt w (w2.alloc (.map #[] 0)) gr mb w2.heap.size st 0 [] 0) := ⟨0, [], 0, _, [], _, [], fun _ => 0, ⟨H2.out.alloc _, NamesAt.start, Nat.le_refl _, Nat.le_refl _, by simp⟩, HC0.out, fun hm => by have := (H2.out.mine_lt hm).1; omega, H2.out.lts⟩
  clear HC0 H2
  generalize w2.alloc (.map #[] 0) = w3 at *
  generalize w2.heap.size = cb at *
  go_wp2_with fail
  go_loopw [6, 8] (fun h i wr => ∃ (k : Nat) (C : List Int) (high : Int), k ≤ 60 ∧ k ≤ ln ∧ h = .int .i64 high ∧ i = .int .i64 k ∧ Hid (NmAt w wr gr mb cb st k C high)) (fun _ i _ => 60 - (intOf i).toNat)
  case atStart => exact ⟨0, [], 0, by omega, by omega, rfl, rfl, HN0⟩
  case round =>
    obtain ⟨k, C, high, hk1, hk2, rfl, rfl, HN⟩ := hrel
    clear HN0
    obtain ⟨next, bs, nb, inV, ib, unV, un, f, hnr, hcn, hnm, hcl⟩ := HN.out
    have HNR := Lib.hid hnr
    have HCN := Lib.hid hcn
    have HNM := Lib.hid hnm
    have HCL := Lib.hid hcl
    have HB := Lib.hid hnr.rcv.bel
    clear HN hnr hcn hnm hcl
    by_cases hgo : k < ln ∧ k < 60
    · obtain ⟨hl, h60⟩ := hgo
      obtain ⟨b, off, rfl, hbl, c0, hf0, hf1⟩ := (HP.out.below HB.out).get hl
      have e1 : decide (k < ln) = true := decide_eq_true hl
      have e2 : decide ((k : Int) < (ln : Int)) = true := decide_eq_true (by omega)
      have e3 : decide ((k : Int) < 60) = true := decide_eq_true (by omega)
      have hand := and63i (fi k)
      have hn0 : 0 ≤ fi k % 64 ∧ fi k % 64 ≤ 63 := by omega
      clear hf0 hf1
      generalize fi k % 64 = n at *
      obtain ⟨n0, n1⟩ := hn0
      have HDA := Lib.hid (nm_data HNR.out hst (by omega) n ⟨n0, n1⟩ ⟨#[109]⟩)
      go_wp2_with (first | (go_at_call 9; refine (HOF.out _).mono ?_; rintro e w' ⟨rfl, rfl⟩) | (go_at_call 12; refine (HAD.out _ (by omega) _).mono ?_; rintro e w' ⟨rfl, rfl⟩))
      refine HDA.out.mono ?_
      rintro e w4 ⟨A4, l4, c4, next', bs', nb', inV', ib', unV', un', rfl, hnr4, hch, _⟩
      have HNR4 := Lib.hid hnr4
      have HCH := Lib.hid hch
      clear hnr4 hch HDA c0
      have hcl2 := HCN.out.lt
      have hne : w4.heap[cb]? = wr.heap[cb]? := HCH.out.keep cb hcl2 HNM.out
      have HCN4 := Lib.hid (HCN.out.blk hne)
      have HNM4 : Hid (¬ Mine gr mb inV' unV' cb) := fun hm => (HCH.out.own cb hm).elim HNM.out fun e => by omega
      clear hne hcl2 HCN HNM HCH HNR
      obtain ⟨D, hD1, hD2, hD3, hD4, hD5⟩ := HCN4.out
      have hlk := HCN4.out.look n (by omega)
      have hfv := HCN4.out.val n
      have HD1 := Lib.hid hD1
      have HBU := Lib.hid (fun (w' : World) (ho : w'.ownsMap Try.prog 3 (plainElem Try.prog 3) cb (k + 1) (D.put (.int .i64 n) (.lit (.int .i64 (f n + 1))))) => CntIn.bump hD2 hD3 hD4 hD5 hD1.isMap n ho)
      have HKEY : Hid (keyOf Try.prog 3 (.int .i64 n) = some (.int .i64 n)) := keyOf_int_mk Try.underlying3 (WalkArith.wf_i64 (by omega))
      have HEL : Hid (plainElem (H := Unit) Try.prog 3 (.int .i64 (f n + 1)) = some (.lit (.int .i64 (f n + 1)), [])) := plainElem_int Try.underlying3 (WalkArith.wf_i64 (by omega))
      clear hD1 hD2 hD3 hD4 hD5
      have hf0 := hfv.1
      have hf1 : f n ≤ 60 := by omega
      clear hfv
      go_wp2_with (at_mapUpdate; refine wpList_mapUpdate_own _ rfl _ _ _ 44 rfl 3 3 rcvKey Try.underlying44 (plainElem Try.prog 3) cb k _ rfl HD1.out (by unfold maxLen; omega) _ _ _ rfl rfl HKEY.out (.lit (.int .i64 (f n + 1))) [] HEL.out ?_; intro w5 hown hgrow; have HC5 := Lib.hid (HBU.out w5 hown); have HG5 := Lib.hid hgrow; clear hown hgrow)
      have HR5 : Hid (RcvAt w w5 gr mb st 64 next' (max high (n + 1)) 64 bs' nb' inV' ib' unV' un') := HNR4.out.rcv.of (fun j hj => HG5.out.block j (HNR4.out.rcv.mine_lt hj).1 (fun e => HNM4.out (by injection e with e; exact e ▸ hj))) (HNR4.out.rcv.bel.grown HG5.out HNR4.out.rcv.bel.size (fun j hj => by injection hj with hj; subst hj; exact HCL.out))
      clear hlk
      go_wp2_with fail
      all_goals go_roundw
      all_goals first
        | (simp [intOf]; omega; done)
        | exact ⟨k + 1, addK C n, max high (n + 1), by omega, by omega, rfl, by go_num, ⟨next', bs', nb', inV', ib', unV', un', upd f n (f n + 1), ⟨HR5.out, HNR4.out.nm, HNR4.out.nbk, HNR4.out.bsk, HNR4.out.unk⟩, HC5.out, HNM4.out, HCL.out⟩⟩
    · by_cases hl : k < ln
      · have e1 : decide (k < ln) = true := decide_eq_true hl
        have e2 : decide ((k : Int) < (ln : Int)) = true := decide_eq_true (by omega)
        have e3 : decide ((k : Int) < 60) = false := decide_eq_false (by omega)
        clear hgo hl
        have hnn := nam_near HNR.out.nm
        have hlo := HNR.out.nm.lo
        have hlen := HNR.out.nm.len
        have hhi := HNR.out.nm.hi.2.2
        have HST := Lib.hid (rcv_stat HNR.out.rcv (by omega) (by omega) (by omega) (by omega) (by omega) (by have := HNR.out.bsk; omega) hnn.1 (by omega))
        go_wp2_with fail
        refine HST.out.mono ?_
        rintro e w4 ⟨u, q, rfl, hcq, hmq, hnu, hrz, hch⟩
        obtain ⟨hL, hcnt⟩ := nam_list (st := st) HNR.out.nm hcq hmq
        have hsum := nam_count HNR.out.nm hcq hmq
        have HMEM := Lib.hid (nam_mem HNR.out.nm hmq)
        have HND := Lib.hid (nam_nodup (next := next) hcq)
        rw [show max (64 : Int) (next + 64 - (ib.length : Int)) = 64 by omega] at hrz ⊢
        obtain ⟨Au, cu, eu, _⟩ := id hnu
        subst eu
        have HR4 := Lib.hid hrz
        have HNU := Lib.hid hnu
        have HC4 := Lib.hid (HCN.out.blk (hch.keep cb HCN.out.lt HNM.out))
        have HB4 := Lib.hid hrz.bel
        clear hrz hch hcq hmq hnn HST HCN HB hnu hlen
        go_upto_region 15 with fail
        have hb5 := (Below.refl w4.heap.size w4).alloc (Nat.le_refl _) (.map #[] 0)
        have HN5 : Hid (CntIn (w4.alloc (.map #[] 0)) w4.heap.size 0 [] (fun _ => 0)) := ⟨_, World.ownsMap_made (H := Unit) w4 Try.prog 3 (plainElem Try.prog 3), CntAt.nil, fun _ _ => rfl, (fun x hx => by cases hx), List.nodup_nil⟩
        have HR5 := Lib.hid (HR4.out.below hb5)
        have HC5 := Lib.hid (HC4.out.blk (hb5.block _ HC4.out.lt))
        have HU5 := Lib.hid (HNU.out.below hb5)
        have HNN : Hid (¬ Mine gr mb inV unV w4.heap.size) := fun hm => by have := (HR4.out.mine_lt hm).1; omega
        have HCNE : Hid (cb ≠ w4.heap.size) := fun e => by have := HC4.out.lt; omega
        have HNL : Hid (w.heap.size ≤ w4.heap.size) := HR4.out.lts
        clear hb5 HR4 HC4 HNU HB4
        generalize w4.alloc (.map #[] 0) = w5 at *
        generalize w4.heap.size = nmb at *
        have HNA := Lib.hid (g_named 11 0 ((st + next) % 16777216) 0 ((st + 64) % 16777216) (.slice Au (prs ((st + next) % 16777216) q).length cu) false ⟨#[]⟩ (prs ((st + next) % 16777216) q) w5 HU5.out (fun x hx => by have := prs_bd _ q x hx; omega) hcnt (.inl rfl))
        rw [hL] at HNA
        obtain ⟨N, hN⟩ : ∃ N, N = namN next q := ⟨_, rfl⟩
        rw [← hN] at HNA hsum HMEM HND
        clear hL hcnt hN
        go_wp2_with fail
        refine HNA.out.mono ?_
        rintro e w6 ⟨u2, rfl, hn2, hb6⟩
        have HR6 := Lib.hid (HR5.out.below hb6)
        have HC6 := Lib.hid (HC5.out.blk (hb6.block _ HC5.out.lt))
        have HN6 := Lib.hid (HN5.out.blk (hb6.block _ HN5.out.lt))
        have hNL : (N.map fun y => (st + y) % 16777216).length = N.length := by simp
        obtain ⟨A2, c2, e2', _⟩ := id hn2
        rw [hNL] at e2'
        subst e2'
        have HU6 := Lib.hid hn2
        clear hn2 hb6 HR5 HC5 HN5 HU5 HNA hNL
        go_wp2_with fail
        go_loopw [65] (fun i wr => ∃ j : Nat, j ≤ N.length ∧ i = .int .i64 j ∧ Hid (RcvAt w wr gr mb st 64 next high 64 bs nb inV ib unV un) ∧ Hid (CntIn wr cb k C f) ∧ Hid (∃ g, CntIn wr nmb j (N.take j) g ∧ ∀ x, g x ≤ 1) ∧ Hid (NumRow wr (.slice A2 N.length c2) (N.map fun y => (st + y) % 16777216))) (fun i _ => N.length - (intOf i).toNat)
        case atStart => exact ⟨0, by omega, rfl, HR6, HC6, ⟨fun _ => 0, by rw [List.take_zero]; exact HN6.out, fun x => by show (0 : Int) ≤ 1; decide⟩, HU6⟩
        case round =>
          obtain ⟨j, hj, rfl, HR7, HC7, HN7, HU7⟩ := hrel
          clear HR6 HC6 HN6 HU6
          by_cases hjl : j < N.length
          · obtain ⟨y, hy⟩ : ∃ y, y = N[j] := ⟨_, rfl⟩
            have hyin : y ∈ N := hy ▸ List.getElem_mem hjl
            have hyb := (HMEM.out y).1 hyin
            have htk : N.take (j + 1) = N.take j ++ [y] := by rw [hy]; exact List.take_succ_eq_append_getElem hjl
            have hyn : ¬ y ∈ N.take j := fun hm => by
              have h1 := HND.out
              rw [← List.take_append_drop (j + 1) N, htk] at h1
              have h2 := (List.nodup_append.1 (List.nodup_append.1 h1).1).2.2 y hm y (by simp)
              exact h2 rfl
            have hget : (N.map fun y => (st + y) % 16777216)[j]? = some ((st + y) % 16777216) := by rw [List.getElem?_map, List.getElem?_eq_getElem hjl, ← hy]; rfl
            obtain ⟨A9, cap9, e9, _, hcase⟩ := HU7.out
            injection e9 with e91 e92 e93
            obtain ⟨b9, off9, hA9, hbl9, hcc9⟩ := hcase.resolve_left (fun e => by rw [e] at hget; cases hget)
            subst e91
            subst hA9
            have c0 := hcc9 j _ hget
            have e1j : decide ((j : Int) < (N.length : Int)) = true := decide_eq_true (by omega)
            have e2j : decide (j < N.length) = true := decide_eq_true hjl
            have HT2 : Hid (∀ W, Calls Try.prog 18 #[.int .u32 st, .int .u32 ((st + y) % 16777216)] W fun e w' => e = .returned (.int .i64 y) ∧ W = w') := fun W => by
              have := HTO.out ((st + y) % 16777216) (by omega) W
              rw [show ((st + y) % 16777216 - st) % 16777216 = y by omega] at this
              exact this
            generalize (st + y) % 16777216 = xx at *
            obtain ⟨g, hg1, hg2⟩ := HN7.out
            obtain ⟨D2, k1, k2, k3, k4, k5⟩ := hg1
            have hg0 : g y = 0 := k3 y hyn
            have hlk : (Instr.lookup 44 (.map (some nmb)) (.int .i64 y) false).run Try.prog wr = .ok (.int .i64 0) wr := by
              have := (show CntIn wr nmb j (N.take j) g from ⟨D2, k1, k2, k3, k4, k5⟩).look y (by omega)
              rwa [hg0] at this
            have HK1 := Lib.hid k1
            have HBU := Lib.hid (fun (w' : World) (ho : w'.ownsMap Try.prog 3 (plainElem Try.prog 3) nmb (j + 1) (D2.put (.int .i64 y) (.lit (.int .i64 (g y + 1))))) => CntIn.bump k2 k3 k4 k5 k1.isMap y ho)
            rw [hg0, show addK (N.take j) y = N.take (j + 1) by rw [htk]; exact if_neg hyn] at HBU
            have HKEY : Hid (keyOf Try.prog 3 (.int .i64 y) = some (.int .i64 y)) := keyOf_int_mk Try.underlying3 (WalkArith.wf_i64 (by omega))
            have HEL : Hid (plainElem (H := Unit) Try.prog 3 (.int .i64 1) = some (.lit (.int .i64 (0 + 1)), [])) := plainElem_int Try.underlying3 (WalkArith.wf_i64 (by decide))
            have HG1 : Hid (∀ x, upd g y (0 + 1) x ≤ 1) := fun x => by
              show (if x = y then (0 : Int) + 1 else g x) ≤ 1
              split
              · decide
              · exact hg2 x
            have HJ := Lib.hid hjl
            clear hg0 hyb htk hyn hget hcase hcc9 hg2 k1 k2 k3 k4 k5 hyin hy HN7 hjl e92 e93
            go_wp2_with (first | (go_at_call 9; refine (HOF.out _).mono ?_; rintro e w' ⟨rfl, rfl⟩) | (go_at_call 18; refine (HT2.out _).mono ?_; rintro e w' ⟨rfl, rfl⟩) | (at_mapUpdate; refine wpList_mapUpdate_own _ rfl _ _ _ 44 rfl 3 3 rcvKey Try.underlying44 (plainElem Try.prog 3) nmb j _ rfl HK1.out (by unfold maxLen; omega) _ _ _ rfl rfl HKEY.out (.lit (.int .i64 (0 + 1))) [] HEL.out ?_; intro w8 hown hgrow; have HC8 := Lib.hid (HBU.out w8 hown); have HG8 := Lib.hid hgrow; clear hown hgrow))
            refine ⟨⟨j + 1, HJ.out, by go_num, ?_, ?_, ⟨_, HC8.out, HG1.out⟩, numRow_mapped HU7.out HG8.out HK1.out⟩, by simp [intOf]; have := HJ.out; omega⟩
            · exact HR7.out.of (fun i hi => HG8.out.block i (HR7.out.mine_lt hi).1 (fun e => HNN.out (by injection e with e; exact e ▸ hi))) (HR7.out.bel.grown HG8.out HR7.out.bel.size (fun i hi => by injection hi with hi; subst hi; exact HNL.out))
            · exact HC7.out.blk (HG8.out.block cb HC7.out.lt (fun e => HCNE.out (by injection e)))
          · obtain rfl : j = N.length := by omega
            have e1j : decide (((N.length : Nat) : Int) < (N.length : Int)) = false := decide_eq_false (by omega)
            have e2j : decide (N.length < N.length) = false := decide_eq_false (by omega)
            obtain ⟨g, hg1, hg2⟩ := HN7.out
            rw [List.take_length] at hg1
            have HGN := Lib.hid hg1
            have HG2 := Lib.hid hg2
            have hhb := hhi
            clear hg1 hg2 HN7 HU7 hj hjl
            go_wp2_with fail
            go_loopw [78] (fun i wx => ∃ j : Nat, (j : Int) ≤ high ∧ i = .int .i64 j ∧ wr = wx) (fun i _ => 64 - (intOf i).toNat)
            case atStart => exact ⟨0, by omega, rfl, rfl⟩
            case round =>
              obtain ⟨i, hi, rfl, rfl⟩ := hrel
              by_cases hil : (i : Int) < high
              · have hlk1 := HC7.out.look (i : Int) (by omega)
                have hlk2 := HGN.out.look (i : Int) (by omega)
                obtain ⟨D3, p1, p2, p3, p4, p5⟩ := HC7.out
                obtain ⟨D4, q1, q2, q3, q4, q5⟩ := HGN.out
                have hq1 := HG2.out (i : Int)
                by_cases hic : (i : Int) ∈ C
                · have hin : ¬ (i : Int) ∈ N := fun hm => ((HMEM.out _).1 hm).2 hic
                  have hf1 := (p4 _ hic).1
                  have hg0 := q3 _ hin
                  have b1 : decide (0 < f (i : Int)) = true := decide_eq_true hf1
                  rw [hg0] at hlk2
                  generalize f (i : Int) = fv at *
                  clear p1 p2 p3 p4 p5 q1 q2 q3 q4 q5 hic hin hg0 hq1
                  go_wp2_with fail
                  go_roundw
                  case rel => exact ⟨i + 1, by omega, by go_num, by first | rfl | trivial⟩
                  case measure => simp [intOf]; omega
                · have hin : (i : Int) ∈ N := (HMEM.out _).2 ⟨⟨by omega, hil⟩, hic⟩
                  have hf0 := p3 _ hic
                  have hg1 := (q4 _ hin).1
                  have hg2 : g (i : Int) = 1 := by omega
                  rw [hg2] at hlk2
                  rw [hf0] at hlk1
                  clear p1 p2 p3 p4 p5 q1 q2 q3 q4 q5 hic hin hg1 hg2 hf0 hq1
                  go_wp2_with fail
                  go_roundw
                  case rel => exact ⟨i + 1, by omega, by go_num, by first | rfl | trivial⟩
                  case measure => simp [intOf]; omega
              · obtain ⟨D3, p1, p2, p3, p4, p5⟩ := HC7.out
                obtain ⟨D4, q1, q2, q3, q4, q5⟩ := HGN.out
                have HS1 := Lib.hid (p2.size p1 p5)
                have HS2 := Lib.hid (q2.size q1 q5)
                have HP1 := Lib.hid p1
                have HQ1 := Lib.hid q1
                have hsb : (((N.length : Nat) : Int) + ((C.length : Nat) : Int) == high) = true := by rw [beq_iff_eq]; exact hsum
                have HVA := Lib.hid (rcv_vars HR7.out (by omega) (by omega) (by omega) (by omega))
                have hnl : N.length ≤ 64 := by omega
                have hcl : C.length ≤ 64 := by omega
                have HHA := Lib.hid (fun W => HAD.out high (by omega) W)
                clear p1 p2 p3 p4 p5 q1 q2 q3 q4 q5 hsum
                go_wp2_with (first
                  | (at_len; refine wpList_len_own _ rfl (.tmp 97) 44 rfl 3 3 Try.underlying44 (plainElem Try.prog 3) nmb N.length D4 rfl HQ1.out ?_; rw [HS2.out])
                  | (at_len; refine wpList_len_own _ rfl (.tmp 99) 44 rfl 3 3 Try.underlying44 (plainElem Try.prog 3) cb k D3 rfl HP1.out ?_; rw [HS1.out]))
                refine HVA.out.mono ?_
                rintro e w9 ⟨rfl, hb9⟩
                have HZ9 := Lib.hid (HR7.out.bel.trans (hb9.mono HR7.out.bel.size))
                have hfH := fun W => rvars_H ((st + next) % 16777216) ((st + high) % 16777216) ((st + 64) % 16777216) (bs.length : Int) (ib.length : Int) (un.length : Int) W
                clear hb9
                go_wp2_with (first | (go_at_call 9; refine (HOF.out _).mono ?_; rintro e w' ⟨rfl, rfl⟩) | (go_at_call 12; refine (HHA.out _).mono ?_; rintro e w' ⟨rfl, rfl⟩))
                go_ret
                exact ⟨by first | rfl | simp, HZ9.out⟩
      · have e1 : decide (k < ln) = false := decide_eq_false hl
        have e2 : decide ((k : Int) < (ln : Int)) = false := decide_eq_false (by omega)
        clear hgo hl
        have hnn := nam_near HNR.out.nm
        have hlo := HNR.out.nm.lo
        have hlen := HNR.out.nm.len
        have hhi := HNR.out.nm.hi.2.2
        have HST := Lib.hid (rcv_stat HNR.out.rcv (by omega) (by omega) (by omega) (by omega) (by omega) (by have := HNR.out.bsk; omega) hnn.1 (by omega))
        go_wp2_with fail
        refine HST.out.mono ?_
        rintro e w4 ⟨u, q, rfl, hcq, hmq, hnu, hrz, hch⟩
        obtain ⟨hL, hcnt⟩ := nam_list (st := st) HNR.out.nm hcq hmq
        have hsum := nam_count HNR.out.nm hcq hmq
        have HMEM := Lib.hid (nam_mem HNR.out.nm hmq)
        have HND := Lib.hid (nam_nodup (next := next) hcq)
        rw [show max (64 : Int) (next + 64 - (ib.length : Int)) = 64 by omega] at hrz ⊢
        obtain ⟨Au, cu, eu, _⟩ := id hnu
        subst eu
        have HR4 := Lib.hid hrz
        have HNU := Lib.hid hnu
        have HC4 := Lib.hid (HCN.out.blk (hch.keep cb HCN.out.lt HNM.out))
        have HB4 := Lib.hid hrz.bel
        clear hrz hch hcq hmq hnn HST HCN HB hnu hlen
        go_upto_region 15 with fail
        have hb5 := (Below.refl w4.heap.size w4).alloc (Nat.le_refl _) (.map #[] 0)
        have HN5 : Hid (CntIn (w4.alloc (.map #[] 0)) w4.heap.size 0 [] (fun _ => 0)) := ⟨_, World.ownsMap_made (H := Unit) w4 Try.prog 3 (plainElem Try.prog 3), CntAt.nil, fun _ _ => rfl, (fun x hx => by cases hx), List.nodup_nil⟩
        have HR5 := Lib.hid (HR4.out.below hb5)
        have HC5 := Lib.hid (HC4.out.blk (hb5.block _ HC4.out.lt))
        have HU5 := Lib.hid (HNU.out.below hb5)
        have HNN : Hid (¬ Mine gr mb inV unV w4.heap.size) := fun hm => by have := (HR4.out.mine_lt hm).1; omega
        have HCNE : Hid (cb ≠ w4.heap.size) := fun e => by have := HC4.out.lt; omega
        have HNL : Hid (w.heap.size ≤ w4.heap.size) := HR4.out.lts
        clear hb5 HR4 HC4 HNU HB4
        generalize w4.alloc (.map #[] 0) = w5 at *
        generalize w4.heap.size = nmb at *
        have HNA := Lib.hid (g_named 11 0 ((st + next) % 16777216) 0 ((st + 64) % 16777216) (.slice Au (prs ((st + next) % 16777216) q).length cu) false ⟨#[]⟩ (prs ((st + next) % 16777216) q) w5 HU5.out (fun x hx => by have := prs_bd _ q x hx; omega) hcnt (.inl rfl))
        rw [hL] at HNA
        obtain ⟨N, hN⟩ : ∃ N, N = namN next q := ⟨_, rfl⟩
        rw [← hN] at HNA hsum HMEM HND
        clear hL hcnt hN
        go_wp2_with fail
        refine HNA.out.mono ?_
        rintro e w6 ⟨u2, rfl, hn2, hb6⟩
        have HR6 := Lib.hid (HR5.out.below hb6)
        have HC6 := Lib.hid (HC5.out.blk (hb6.block _ HC5.out.lt))
        have HN6 := Lib.hid (HN5.out.blk (hb6.block _ HN5.out.lt))
        have hNL : (N.map fun y => (st + y) % 16777216).length = N.length := by simp
        obtain ⟨A2, c2, e2', _⟩ := id hn2
        rw [hNL] at e2'
        subst e2'
        have HU6 := Lib.hid hn2
        clear hn2 hb6 HR5 HC5 HN5 HU5 HNA hNL
        go_wp2_with fail
        go_loopw [65] (fun i wr => ∃ j : Nat, j ≤ N.length ∧ i = .int .i64 j ∧ Hid (RcvAt w wr gr mb st 64 next high 64 bs nb inV ib unV un) ∧ Hid (CntIn wr cb k C f) ∧ Hid (∃ g, CntIn wr nmb j (N.take j) g ∧ ∀ x, g x ≤ 1) ∧ Hid (NumRow wr (.slice A2 N.length c2) (N.map fun y => (st + y) % 16777216))) (fun i _ => N.length - (intOf i).toNat)
        case atStart => exact ⟨0, by omega, rfl, HR6, HC6, ⟨fun _ => 0, by rw [List.take_zero]; exact HN6.out, fun x => by show (0 : Int) ≤ 1; decide⟩, HU6⟩
        case round =>
          obtain ⟨j, hj, rfl, HR7, HC7, HN7, HU7⟩ := hrel
          clear HR6 HC6 HN6 HU6
          by_cases hjl : j < N.length
          · obtain ⟨y, hy⟩ : ∃ y, y = N[j] := ⟨_, rfl⟩
            have hyin : y ∈ N := hy ▸ List.getElem_mem hjl
            have hyb := (HMEM.out y).1 hyin
            have htk : N.take (j + 1) = N.take j ++ [y] := by rw [hy]; exact List.take_succ_eq_append_getElem hjl
            have hyn : ¬ y ∈ N.take j := fun hm => by
              have h1 := HND.out
              rw [← List.take_append_drop (j + 1) N, htk] at h1
              have h2 := (List.nodup_append.1 (List.nodup_append.1 h1).1).2.2 y hm y (by simp)
              exact h2 rfl
            have hget : (N.map fun y => (st + y) % 16777216)[j]? = some ((st + y) % 16777216) := by rw [List.getElem?_map, List.getElem?_eq_getElem hjl, ← hy]; rfl
            obtain ⟨A9, cap9, e9, _, hcase⟩ := HU7.out
            injection e9 with e91 e92 e93
            obtain ⟨b9, off9, hA9, hbl9, hcc9⟩ := hcase.resolve_left (fun e => by rw [e] at hget; cases hget)
            subst e91
            subst hA9
            have c0 := hcc9 j _ hget
            have e1j : decide ((j : Int) < (N.length : Int)) = true := decide_eq_true (by omega)
            have e2j : decide (j < N.length) = true := decide_eq_true hjl
            have HT2 : Hid (∀ W, Calls Try.prog 18 #[.int .u32 st, .int .u32 ((st + y) % 16777216)] W fun e w' => e = .returned (.int .i64 y) ∧ W = w') := fun W => by
              have := HTO.out ((st + y) % 16777216) (by omega) W
              rw [show ((st + y) % 16777216 - st) % 16777216 = y by omega] at this
              exact this
            generalize (st + y) % 16777216 = xx at *
            obtain ⟨g, hg1, hg2⟩ := HN7.out
            obtain ⟨D2, k1, k2, k3, k4, k5⟩ := hg1
            have hg0 : g y = 0 := k3 y hyn
            have hlk : (Instr.lookup 44 (.map (some nmb)) (.int .i64 y) false).run Try.prog wr = .ok (.int .i64 0) wr := by
              have := (show CntIn wr nmb j (N.take j) g from ⟨D2, k1, k2, k3, k4, k5⟩).look y (by omega)
              rwa [hg0] at this
            have HK1 := Lib.hid k1
            have HBU := Lib.hid (fun (w' : World) (ho : w'.ownsMap Try.prog 3 (plainElem Try.prog 3) nmb (j + 1) (D2.put (.int .i64 y) (.lit (.int .i64 (g y + 1))))) => CntIn.bump k2 k3 k4 k5 k1.isMap y ho)
            rw [hg0, show addK (N.take j) y = N.take (j + 1) by rw [htk]; exact if_neg hyn] at HBU
            have HKEY : Hid (keyOf Try.prog 3 (.int .i64 y) = some (.int .i64 y)) := keyOf_int_mk Try.underlying3 (WalkArith.wf_i64 (by omega))
            have HEL : Hid (plainElem (H := Unit) Try.prog 3 (.int .i64 1) = some (.lit (.int .i64 (0 + 1)), [])) := plainElem_int Try.underlying3 (WalkArith.wf_i64 (by decide))
            have HG1 : Hid (∀ x, upd g y (0 + 1) x ≤ 1) := fun x => by
              show (if x = y then (0 : Int) + 1 else g x) ≤ 1
              split
              · decide
              · exact hg2 x
            have HJ := Lib.hid hjl
            clear hg0 hyb htk hyn hget hcase hcc9 hg2 k1 k2 k3 k4 k5 hyin hy HN7 hjl e92 e93
            go_wp2_with (first | (go_at_call 9; refine (HOF.out _).mono ?_; rintro e w' ⟨rfl, rfl⟩) | (go_at_call 18; refine (HT2.out _).mono ?_; rintro e w' ⟨rfl, rfl⟩) | (at_mapUpdate; refine wpList_mapUpdate_own _ rfl _ _ _ 44 rfl 3 3 rcvKey Try.underlying44 (plainElem Try.prog 3) nmb j _ rfl HK1.out (by unfold maxLen; omega) _ _ _ rfl rfl HKEY.out (.lit (.int .i64 (0 + 1))) [] HEL.out ?_; intro w8 hown hgrow; have HC8 := Lib.hid (HBU.out w8 hown); have HG8 := Lib.hid hgrow; clear hown hgrow))
            refine ⟨⟨j + 1, HJ.out, by go_num, ?_, ?_, ⟨_, HC8.out, HG1.out⟩, numRow_mapped HU7.out HG8.out HK1.out⟩, by simp [intOf]; have := HJ.out; omega⟩
            · exact HR7.out.of (fun i hi => HG8.out.block i (HR7.out.mine_lt hi).1 (fun e => HNN.out (by injection e with e; exact e ▸ hi))) (HR7.out.bel.grown HG8.out HR7.out.bel.size (fun i hi => by injection hi with hi; subst hi; exact HNL.out))
            · exact HC7.out.blk (HG8.out.block cb HC7.out.lt (fun e => HCNE.out (by injection e)))
          · obtain rfl : j = N.length := by omega
            have e1j : decide (((N.length : Nat) : Int) < (N.length : Int)) = false := decide_eq_false (by omega)
            have e2j : decide (N.length < N.length) = false := decide_eq_false (by omega)
            obtain ⟨g, hg1, hg2⟩ := HN7.out
            rw [List.take_length] at hg1
            have HGN := Lib.hid hg1
            have HG2 := Lib.hid hg2
            have hhb := hhi
            clear hg1 hg2 HN7 HU7 hj hjl
            go_wp2_with fail
            go_loopw [78] (fun i wx => ∃ j : Nat, (j : Int) ≤ high ∧ i = .int .i64 j ∧ wr = wx) (fun i _ => 64 - (intOf i).toNat)
            case atStart => exact ⟨0, by omega, rfl, rfl⟩
            case round =>
              obtain ⟨i, hi, rfl, rfl⟩ := hrel
              by_cases hil : (i : Int) < high
              · have hlk1 := HC7.out.look (i : Int) (by omega)
                have hlk2 := HGN.out.look (i : Int) (by omega)
                obtain ⟨D3, p1, p2, p3, p4, p5⟩ := HC7.out
                obtain ⟨D4, q1, q2, q3, q4, q5⟩ := HGN.out
                have hq1 := HG2.out (i : Int)
                by_cases hic : (i : Int) ∈ C
                · have hin : ¬ (i : Int) ∈ N := fun hm => ((HMEM.out _).1 hm).2 hic
                  have hf1 := (p4 _ hic).1
                  have hg0 := q3 _ hin
                  have b1 : decide (0 < f (i : Int)) = true := decide_eq_true hf1
                  rw [hg0] at hlk2
                  generalize f (i : Int) = fv at *
                  clear p1 p2 p3 p4 p5 q1 q2 q3 q4 q5 hic hin hg0 hq1
                  go_wp2_with fail
                  go_roundw
                  case rel => exact ⟨i + 1, by omega, by go_num, by first | rfl | trivial⟩
                  case measure => simp [intOf]; omega
                · have hin : (i : Int) ∈ N := (HMEM.out _).2 ⟨⟨by omega, hil⟩, hic⟩
                  have hf0 := p3 _ hic
                  have hg1 := (q4 _ hin).1
                  have hg2 : g (i : Int) = 1 := by omega
                  rw [hg2] at hlk2
                  rw [hf0] at hlk1
                  clear p1 p2 p3 p4 p5 q1 q2 q3 q4 q5 hic hin hg1 hg2 hf0 hq1
                  go_wp2_with fail
                  go_roundw
                  case rel => exact ⟨i + 1, by omega, by go_num, by first | rfl | trivial⟩
                  case measure => simp [intOf]; omega
              · obtain ⟨D3, p1, p2, p3, p4, p5⟩ := HC7.out
                obtain ⟨D4, q1, q2, q3, q4, q5⟩ := HGN.out
                have HS1 := Lib.hid (p2.size p1 p5)
                have HS2 := Lib.hid (q2.size q1 q5)
                have HP1 := Lib.hid p1
                have HQ1 := Lib.hid q1
                have hsb : (((N.length : Nat) : Int) + ((C.length : Nat) : Int) == high) = true := by rw [beq_iff_eq]; exact hsum
                have HVA := Lib.hid (rcv_vars HR7.out (by omega) (by omega) (by omega) (by omega))
                have hnl : N.length ≤ 64 := by omega
                have hcl : C.length ≤ 64 := by omega
                have HHA := Lib.hid (fun W => HAD.out high (by omega) W)
                clear p1 p2 p3 p4 p5 q1 q2 q3 q4 q5 hsum
                go_wp2_with (first
                  | (at_len; refine wpList_len_own _ rfl (.tmp 97) 44 rfl 3 3 Try.underlying44 (plainElem Try.prog 3) nmb N.length D4 rfl HQ1.out ?_; rw [HS2.out])
                  | (at_len; refine wpList_len_own _ rfl (.tmp 99) 44 rfl 3 3 Try.underlying44 (plainElem Try.prog 3) cb k D3 rfl HP1.out ?_; rw [HS1.out]))
                refine HVA.out.mono ?_
                rintro e w9 ⟨rfl, hb9⟩
                have HZ9 := Lib.hid (HR7.out.bel.trans (hb9.mono HR7.out.bel.size))
                have hfH := fun W => rvars_H ((st + next) % 16777216) ((st + high) % 16777216) ((st + 64) % 16777216) (bs.length : Int) (ib.length : Int) (un.length : Int) W
                clear hb9
                go_wp2_with (first | (go_at_call 9; refine (HOF.out _).mono ?_; rintro e w' ⟨rfl, rfl⟩) | (go_at_call 12; refine (HHA.out _).mono ?_; rintro e w' ⟨rfl, rfl⟩))
                go_ret
                exact ⟨by first | rfl | simp, HZ9.out⟩
end Go.Proofs.Ytgfdgcpbmjhmmaa
