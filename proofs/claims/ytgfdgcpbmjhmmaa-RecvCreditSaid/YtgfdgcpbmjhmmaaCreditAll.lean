/- Several texts joined: RecvDelS, RecvTake, RecvCreditLaw. -/
import Derived.Test.YtgfdgcpbmjhmmaaDelRow
import Derived.Test.YtgfdgcpbmjhmmaaRecvData
import Derived.Lib.SlicesDelete
import Derived.Deep.MidRow
import Derived.Test.YtgfdgcpbmjhmmaaRecvDlv
import Derived.Test.YtgfdgcpbmjhmmaaNamesLaw
import Derived.Test.YtgfdgcpbmjhmmaaRecvAwake
namespace Go.Proofs.Ytgfdgcpbmjhmmaa
open Go.RowKit Go.Maps Sp
set_option linter.unusedVariables false
theorem zeroText (w : World) : (zeroValue 9).run Try.prog w = .ok (.string ⟨#[]⟩) w := by kernel_rfl

set_option maxHeartbeats 4000000 in
set_option maxRecDepth 100000 in
theorem del_texts {w : World} {base n k : Nat} {v : Value} {xs : List Value} (h : w.ownsRow base 9 1 v n xs) (hk : 0 < k ∧ k ≤ n) (hn : n ≤ 100000) (h1 : ∀ u ∈ xs, u.oneCell' = true) :
    Calls Try.prog 24 #[v, .int .i64 0, .int .i64 (k : Int)] w fun e w' => ∃ v', e = .returned v' ∧ w'.ownsRow base 9 1 v' (n - k) (xs.drop k) ∧ w.grownBy w' v.ownBlock ∧ v'.ownBlock = v.ownBlock := by
  obtain ⟨i1, hi1, hg0, hg1, hg2⟩ := rinfo_parts infoText
  obtain ⟨g, cap, rfl, hcap⟩ : ∃ g cap, v = .slice (some ⟨g, 0, none⟩) n cap ∧ (n ≤ cap ∧ cap ≤ 9223372036854775807) := by
    rcases h.2 with ⟨_, hz⟩ | ⟨g', cap', cur, hv, hb, hg, a1, a2, a3, a4⟩
    · omega
    · exact ⟨g', cap', hv, a1, a2⟩
  have hdr := delRow (w := w.drew) (k := k) (zs := (Builtin.zeroCells #[.string ⟨#[]⟩] k).toList) h.drew hk.2 (by simp [Builtin.zeroCells])
  simp only [Nat.mul_one] at hdr
  have HDR := Lib.hid hdr
  obtain ⟨news, hnews⟩ : ∃ news, news = xs.drop k := ⟨_, rfl⟩
  have hlx := h.1
  have hcell : ∀ j, j < n → w.cell? ⟨g, j, none⟩ = xs[j]? := fun j hj => h.cellAt j (by omega)
  have hsome : ∀ j, j < n → (w.cell? ⟨g, j, none⟩).isSome = true := fun j hj => by rw [hcell j hj, List.getElem?_eq_getElem (by omega)]; rfl
  have hfro : ∀ j, w.frozen? ⟨g, j, none⟩ = false := fun j => h.frozenAt j
  obtain ⟨A, hA, hsrc⟩ : ∃ A : Addr, (if cap = k then some (⟨g, 0, none⟩ : Addr) else some ⟨g, k, none⟩) = some A ∧ Hid (∀ t u, news[t]? = some u → w.drew.cell? (A.add t) = some u) := by
    by_cases e : cap = k
    · refine ⟨⟨g, 0, none⟩, by simp [e], fun t u hu => ?_⟩
      have h0 : news.length = 0 := by rw [hnews, List.length_drop]; omega
      rw [List.length_eq_zero_iff.1 h0] at hu
      simp at hu
    · refine ⟨⟨g, k, none⟩, by simp [e], fun t u hu => ?_⟩
      have ht := (List.getElem?_eq_some_iff.1 hu).1
      rw [hnews, List.length_drop] at ht
      rw [hnews, List.getElem?_drop] at hu
      rw [Addr.add_lit]
      exact (hcell (k + t) (by omega)).trans hu
  have s1 : Hid (news.length = (n - k) * 1) := by show _ = _; rw [hnews, List.length_drop]; omega
  have s2 : Hid (∀ u ∈ news, u.oneCell' = true) := fun u hu => h1 u (by rw [hnews] at hu; exact List.mem_of_mem_drop hu)
  have s3 : Hid (∀ t, t < news.length → (w.drew.cell? ⟨g, 0 + 0 * 1 + t, none⟩).isSome = true ∧ w.drew.frozen? ⟨g, 0 + 0 * 1 + t, none⟩ = false) := by
    intro t ht
    rw [hnews, List.length_drop] at ht
    rw [show 0 + 0 * 1 + t = t by omega]
    exact ⟨hsome t (by omega), hfro t⟩
  obtain ⟨W1, hW1⟩ : ∃ W1, W1 = w.drew.setCells g (0 + 0 * 1) news := ⟨_, rfl⟩
  have hW : Hid (W1 = w.drew.setCells g (0 + 0 * 1) news) := hW1
  have hcl : ∀ ty, (Builtin.clear_ #[22] ty #[.slice (some ⟨g, (n - k), none⟩) (n - (n - k)) (cap - (n - k))]).run Try.prog W1 = .ok (.tuple #[]) (W1.setCells g ((n - k)) (Builtin.zeroCells #[.string ⟨#[]⟩] k).toList) :=
    fun ty => by
      rw [show n - (n - k) = k by omega]
      exact run_clear_any W1 _ 9 ty (.string ⟨#[]⟩) Try.underlying22 zeroText g ((n - k)) k _ hk.1 _ rfl (fun t ht => by rw [hW1]; exact World.isSome_setCells g news _ _ _ (hsome _ (by simp [Builtin.zeroCells] at ht; omega))) (fun t ht => by rw [hW1, World.frozen?_setCells]; exact hfro _) (fun u hu => by
      simp [Builtin.zeroCells] at hu
      obtain ⟨a, ha, rfl⟩ := hu
      rw [Nat.mod_one]
      rfl)
  have hkc : k ≤ cap := by omega
  have hkn := hk.2
  have hk0 := hk.1
  clear hW1 hdr hcell hsome hfro hlx h h1 hk
  go_enter Try.func24, Try.ntmps24
  go_wp2_with fail
  go_region_law (refine step_append_room rfl (.tmp 22) (.tmp 25) 22 rfl 9 i1 1 Try.underlying22 hi1 hg1 g 0 0 cap (by simp [Act.eval, Act.put]) A (n - k) (cap - k) news (by simp [Act.eval, Act.put]) s1.out hsrc.out s2.out (by omega) s3.out ?_; rw [← hW.out])
  go_wp2
  go_ret
  refine ⟨.slice (some ⟨g, 0, none⟩) (n - k) cap, rfl, ?_, ?_, rfl⟩
  · have := HDR.out.1
    rw [hW.out, hnews]
    exact this
  · have := HDR.out.2
    rw [← hnews] at this
    rw [hW.out]
    exact ⟨this.os, this.tape, this.output, this.size, this.block⟩
set_option maxHeartbeats 4000000 in
set_option maxRecDepth 100000 in
theorem del_none {A : Option Addr} {n cap : Nat} (w : World) (hc : n ≤ cap) (hm : cap ≤ 9223372036854775807) (h0 : A = none → n = 0 ∧ cap = 0) :
    Calls Try.prog 24 #[.slice A n cap, .int .i64 0, .int .i64 0] w fun e w' => e = .returned (.slice A n cap) ∧ w' = w := by
  cases A with
  | none =>
    obtain ⟨rfl, rfl⟩ := h0 rfl
    clear h0 hc hm
    go_enter Try.func24, Try.ntmps24
    go_wp2_with fail
    go_ret
    exact ⟨rfl, rfl⟩
  | some a =>
    clear h0
    go_enter Try.func24, Try.ntmps24
    go_wp2_with fail
    go_ret
    exact ⟨rfl, rfl⟩
end Go.Proofs.Ytgfdgcpbmjhmmaa
namespace Go.Proofs.Ytgfdgcpbmjhmmaa
open Go.RowKit Go.Maps Sp
set_option linter.unusedVariables false
variable {w0 w w' : World} {gr mb nb : Nat} {st window next behind most : Int} {bs : List (Int × ByteArray)} {inV unV : Value} {ib : List ByteArray} {un : List Span}
/-- What Take answers. -/
def TakeOut (w0 w : World) (gr mb : Nat) (st window next behind most : Int) (bs : List (Int × ByteArray)) (nb : Nat) (inV : Value) (ib : List ByteArray) (unV : Value) (un : List Span) (k : Nat) (e : Ending) (w' : World) : Prop :=
  ∃ v inV', e = .returned v ∧ w'.ownsRow w.heap.size 9 1 v k ((ib.take k).map Value.string) ∧ RcvAt w0 w' gr mb st window next behind most bs nb inV' (ib.drop k) unV un ∧ RCh w w' (Mine gr mb inV unV) (Mine gr mb inV' unV) ∧ ∀ b, v.ownBlock = some b → ¬ Mine gr mb inV' unV b

set_option maxHeartbeats 8000000 in
set_option maxRecDepth 100000 in
theorem rcv_take (h : RcvAt w0 w gr mb st window next behind most bs nb inV ib unV un) (n : Int) (hn : 0 ≤ n ∧ n ≤ 1000000) (k : Nat) (hk : (k : Int) = min n (ib.length : Int)) (hi : ib.length ≤ 1000) :
    Calls Try.prog 16 #[.pointer (some ⟨gr, 0, none⟩), .int .i64 n] w (TakeOut w0 w gr mb st window next behind most bs nb inV ib unV un k) := by
  obtain ⟨i0, hi0, hz0, hz1, hz2⟩ := rinfo_parts infoText
  have Hi := Lib.hid hi0
  have Hz0 := Lib.hid hz0
  have Hz1 := Lib.hid hz1
  have Hz2 := Lib.hid hz2
  clear hi0 hz0 hz1 hz2
  obtain ⟨Ai, ci, rfl⟩ := ownForm h.inb
  have hkl : k ≤ ib.length := by omega
  have H := Lib.hid h
  have hcap : ib.length ≤ ci ∧ ci ≤ 9223372036854775807 ∧ (Ai = none → ib.length = 0 ∧ ci = 0) ∧ (∀ g, Ai = some g → g = ⟨g.block, 0, none⟩) := by
    rcases h.inb.2 with ⟨e, hz⟩ | ⟨g, cap, cur, e, hb, hg, a1, a2, a3, a4⟩
    · rw [Value.slice.injEq] at e
      obtain ⟨rfl, e1, rfl⟩ := e
      exact ⟨by omega, by omega, fun _ => ⟨e1, rfl⟩, fun g h => (by cases h)⟩
    · rw [Value.slice.injEq] at e
      obtain ⟨rfl, _, rfl⟩ := e
      exact ⟨a1, a2, fun h => (by cases h), fun g h => by cases h; rfl⟩
  obtain ⟨hc1, hc2, hc3, hc4⟩ := hcap
  have HC3 := Lib.hid hc3
  have HC4 := Lib.hid hc4
  have hkc : k ≤ ci := by omega
  have c6 := h.cells.c6
  have HK := Lib.hid hk
  clear h hk hc3 hc4
  go_enter Try.func16, Try.ntmps16
  go_upto_region 1 with fail
  go_cut [1] (fun s w' => s = .int .i64 (k : Int) ∧ w = w')
  case first =>
    rcases Int.le_total n (ib.length : Int) with hle | hle
    · obtain rfl : n = (k : Int) := by have := HK.out; omega
      clear HK
      go_wp2_with fail
      all_goals go_meet
      all_goals exact ⟨by first | rfl | (congr 1; omega), rfl⟩
    · obtain rfl : k = ib.length := by have := HK.out; omega
      clear HK
      go_wp2_with fail
      all_goals go_meet
      all_goals exact ⟨by first | rfl | (congr 1; omega), rfl⟩
  case rest =>
    obtain ⟨rfl, rfl⟩ := hcut
    have HTL : Hid (((ib.take k).map Value.string).length = k * 1) := by show _ = _; simp; omega
    have HT1 : Hid (∀ u ∈ (ib.take k).map Value.string, u.oneCell' = true) := fun u hu => by
      obtain ⟨x, _, rfl⟩ := List.mem_map.1 hu
      rfl
    have HCL := Lib.hid (ownCells1 H.out.inb)
    have HSR : Hid (∀ ad, Ai = some ad → ∀ j u, ((ib.take k).map Value.string)[j]? = some u → w.cell? (ad.add j) = some u) := fun ad e j u hu => by
      refine HCL.out ad e j u ?_
      rw [List.getElem?_map, List.getElem?_take] at hu
      rw [List.getElem?_map]
      split at hu
      · exact hu
      · simp at hu
    have HLO := Lib.hid (fun b hb => (H.out.inb.lt b hb))
    clear HK HCL
    go_upto_region 3 with (at_builtin; refine wpList_append_src _ rfl (.const (.slice none 0 0)) (.tmp 19) 22 rfl w.heap.size 9 i0 (.string ⟨#[]⟩) 1 16 Try.underlying22 Hi.out Hz0.out Hz1.out Hz2.out rfl (by decide) (.slice none 0 0) 0 [] rfl (World.ownsRow_nil _ _ _ _) Ai k ci ((ib.take k).map Value.string) rfl HTL.out (fun e => by have := HC3.out e; omega) HSR.out HT1.out (by unfold maxLen; omega) (by omega) (Nat.le_refl _) ?_; intro v5 w5 hown4 hg4 hv5; have HO5 := Lib.hid hown4; have HG5 := Lib.hid hg4; have HV5 := Lib.hid hv5; clear hown4 hg4 hv5)
    obtain ⟨A5, c5, rfl⟩ := ownForm HO5.out
    have hbel : Below w.heap.size w w5 := ⟨HG5.out.os, HG5.out.tape, HG5.out.output, HG5.out.size, fun i hi => HG5.out.block i hi (by simp [Value.ownBlock])⟩
    have H5 := Lib.hid (H.out.below hbel)
    have HC5 : Hid (RCh w w5 (Mine gr mb (.slice Ai ib.length ci) unV) (Mine gr mb (.slice Ai ib.length ci) unV)) := (RCh.refl _ _).below hbel
    have HDE : Hid (Calls Try.prog 24 #[.slice Ai ib.length ci, .int .i64 0, .int .i64 (k : Int)] w5 fun e w' => ∃ v', e = .returned v' ∧ w'.ownsRow w0.heap.size 9 1 v' (ib.drop k).length ((ib.drop k).map Value.string) ∧ w5.grownBy w' (Value.slice Ai ib.length ci).ownBlock ∧ v'.ownBlock = (Value.slice Ai ib.length ci).ownBlock) := by
      by_cases hk0 : k = 0
      · subst hk0
        refine (del_none w5 hc1 hc2 HC3.out).mono ?_
        rintro e w' ⟨rfl, rfl⟩
        exact ⟨_, rfl, H5.out.inb, ⟨rfl, rfl, rfl, Nat.le_refl _, fun _ _ _ => rfl⟩, rfl⟩
      · refine (del_texts (k := k) H5.out.inb ⟨by omega, hkl⟩ (by omega) (fun u hu => by obtain ⟨x, _, rfl⟩ := List.mem_map.1 hu; rfl)).mono ?_
        rintro e w' ⟨v', rfl, hown, hgr, hob⟩
        refine ⟨v', rfl, ?_, hgr, hob⟩
        rw [List.length_drop, List.map_drop]
        exact hown
    have hne : ∀ b, (Value.slice Ai ib.length ci).ownBlock = some b → b ≠ gr := fun b hb e => H.out.sep.2.1 (e ▸ hb)
    have HLB := Lib.hid hbel.size
    have d6 := H5.out.cells.c6
    clear hbel c6 HSR HT1 HTL HG5 HV5
    go_wp2_with fail
    refine HDE.out.mono ?_
    rintro e w6 ⟨v', rfl, hown, hgr, hob⟩
    obtain ⟨Av, cv, rfl⟩ := ownForm hown
    have hlt5 := H5.out.lt
    have c62 : w6.cell? ⟨gr, 6, none⟩ = some (.slice Ai ib.length ci) := by
      rw [World.cell?_of_block (w := w5) (hgr.block gr hlt5 (fun e => hne gr e.symm rfl))]
      exact d6
    have f62 : w6.frozen? ⟨gr, 6, none⟩ = false := by
      rw [World.frozen?_of_block (w := w5) (hgr.block gr hlt5 (fun e => hne gr e.symm rfl))]
      exact H5.out.cells.f 6
    have H7 := Lib.hid (H5.out.inbox hown hgr (.inl hob))
    have HC7 : Hid (RCh w (w6.setCell ⟨gr, 6, none⟩ (.slice Av (ib.drop k).length cv)) (Mine gr mb (.slice Ai ib.length ci) unV) (Mine gr mb (.slice Av (ib.drop k).length cv) unV)) := by
      have h1 := (HC5.out.grown hgr (fun b e => .inl (.inr (.inr (.inl e))))).set ⟨gr, 6, none⟩ (.slice Av (ib.drop k).length cv) (.inl (.inl rfl))
      exact h1.to (fun b hb => .inl (by rcases hb with e | e | e | e; exact .inl e; exact .inr (.inl e); exact .inr (.inr (.inl (by rw [hob] at e; exact e))); exact .inr (.inr (.inr e))))
    have HFR : Hid (∀ b, (Value.slice A5 (0 + k) c5).ownBlock = some b → w.heap.size ≤ b ∧ b < w5.heap.size) := fun b hb => HO5.out.lt b hb
    have HML : Hid (∀ b, Mine gr mb (.slice Av (ib.drop k).length cv) unV b → b < w.heap.size) := fun b hb => by
      rcases hb with e | e | e | e
      · exact (H.out.mine_lt (.inl e)).1
      · exact (H.out.mine_lt (.inr (.inl e))).1
      · rw [hob] at e
        exact (H.out.mine_lt (.inr (.inr (.inl e)))).1
      · exact (H.out.mine_lt (.inr (.inr (.inr e)))).1
    have HO7 : Hid ((w6.setCell ⟨gr, 6, none⟩ (.slice Av (ib.drop k).length cv)).ownsRow w.heap.size 9 1 (.slice A5 (0 + k) c5) (0 + k) ([] ++ (ib.take k).map Value.string)) := rrow_blk HO5.out fun b hb => by
      have h1 := HFR.out b hb
      have h2 := H.out.lt
      rw [Below.heap_setCell _ _ _ _ (by show b ≠ gr; omega)]
      exact hgr.block b h1.2 (fun e => by have := HLO.out b e.symm; omega)
    clear hown hgr hob HC5 H5 HDE HO5 d6 hne hlt5
    rw [List.length_drop] at H7 HC7 HO7 HML
    go_wp2_with fail
    go_ret
    refine ⟨_, _, rfl, ?_, H7.out, HC7.out, fun b hb hm => ?_⟩
    · have := HO7.out
      rw [Nat.zero_add] at this
      exact this
    · have h1 := HML.out b hm
      have h2 := HFR.out b (by rw [Nat.zero_add]; exact hb)
      omega
end Go.Proofs.Ytgfdgcpbmjhmmaa
namespace Go.Proofs.Ytgfdgcpbmjhmmaa
open Go.RowKit Go.Maps Sp
set_option linter.unusedVariables false
set_option linter.unusedSimpArgs false
variable {w0 w w' : World} {gr mb nb : Nat} {st window next behind most : Int} {bs : List (Int × ByteArray)} {inV unV : Value} {ib : List ByteArray} {un : List Span}

def winOf (q : Int) : Int := min (max q 1) 64
set_option maxHeartbeats 2000000 in
set_option maxRecDepth 100000 in
theorem rcv_newAny (st q : Int) (w : World) (h1 : 0 ≤ st ∧ st < 4294967296) :
    Calls Try.prog 8 #[.int .u32 st, .int .i64 q] w fun e w' => ∃ gr mb, e = .returned (.pointer (some ⟨gr, 0, none⟩)) ∧ RcvAt w w' gr mb st (winOf q) 0 0 (winOf q) [] 0 (.slice none 0 0) [] (.slice none 0 0) [] := by
  have h : Calls Try.prog 8 #[.int .u32 st, .int .i64 q] w fun e w' => e = .returned (.pointer (some ⟨w.heap.size + 1, 0, none⟩)) ∧ w' = (w.alloc (.map #[] 0)).alloc (.cells (rcvRow st (winOf q) 0 0 (winOf q) w.heap.size (.slice none 0 0) (.slice none 0 0)) 54) := by
    have hmm := @run_makeMap Try.prog
    obtain ⟨s1, s2⟩ := h1
    go_enter Try.func8, Try.ntmps8
    go_wp2_with fail
    go_ret
    exact ⟨rfl, rfl⟩
  refine h.mono ?_
  rintro e w' ⟨rfl, rfl⟩
  have hb2 := ((Below.refl w.heap.size w).alloc (Nat.le_refl _) (.map #[] 0)).alloc (by simp) (.cells (rcvRow st (winOf q) 0 0 (winOf q) w.heap.size (.slice none 0 0) (.slice none 0 0)) 54)
  have hn := heap_alloc_new (w.alloc (.map #[] 0)) (.cells (rcvRow st (winOf q) 0 0 (winOf q) w.heap.size (.slice none 0 0) (.slice none 0 0)) 54)
  simp only [World.size_alloc] at hn
  have hm := (World.ownsMap_made (H := Unit) w Try.prog 3 ML.msgElem).alloc (.cells (rcvRow st (winOf q) 0 0 (winOf q) w.heap.size (.slice none 0 0) (.slice none 0 0)) 54)
  exact ⟨w.heap.size + 1, w.heap.size, rfl, hn, ⟨_, hm, ML.Laid.nil⟩, World.ownsRow_nil _ _ _ _, World.ownsRow_nil _ _ _ _, ⟨by omega, by simp [Value.ownBlock], by simp [Value.ownBlock], by simp [Value.ownBlock], by simp [Value.ownBlock], fun b e => by simp [Value.ownBlock] at e⟩, ⟨by omega, Nat.le_refl _⟩, by simp, hb2⟩
theorem and15i (x : Int) : bits .and .i64 x 15 = x % 16 := by
  have e3 : (BitVec.ofInt 64 15).toNat = 2 ^ 4 - 1 := by decide
  have e4 : (BitVec.ofInt 64 x &&& BitVec.ofInt 64 15).toNat = (x % 16).toNat := by
    rw [BitVec.toNat_and, BitVec.toNat_ofInt, e3, Nat.and_two_pow_sub_one_eq_mod]
    omega
  show IntKind.i64.wrap ((BitVec.ofInt 64 x &&& BitVec.ofInt 64 15).toNat : Nat) = _
  rw [e4, IntKind.wrap_i64]
  omega

/-- At the head of the loops: so many came, so many wait. -/
structure CrR (w0 w : World) (gr mb : Nat) (st W : Int) (n : Nat) (most : Int) (inV : Value) (ib : List ByteArray) (unV : Value) : Prop where
  rcv : RcvAt w0 w gr mb st W n n most [] n inV ib unV []
  win : 1 ≤ W ∧ W ≤ 64
  mst : (n : Int) ≤ most ∧ most ≤ n + W - (ib.length : Int)
theorem crr_data {n : Nat} {W most : Int} {m : ByteArray} (h : CrR w0 w gr mb st W n most inV ib unV) (hs : 0 ≤ st ∧ st < 16777216) (hn : n ≤ 3000) (hm : (n : Int) < most) :
    Calls Try.prog 11 #[.pointer (some ⟨gr, 0, none⟩), .int .u32 ((st + n) % 16777216), .string m] w fun e w' => ∃ A c inV' unV', e = .returned (.slice A 1 c) ∧ RcvAt w0 w' gr mb st W (n + 1 : Nat) (n + 1 : Nat) most [] (n + 1) inV' (ib ++ [m]) unV' [] := by
  have hp : placeOf st n ((st + n) % 16777216) = n := by unfold placeOf; omega
  have hw := h.win
  have hmm := h.mst
  refine (rcv_dataYes h.rcv (by omega) (by omega) ((st + n) % 16777216) (by omega) m (by simp) (by omega) (by simp) (by omega) (by omega) (by rw [hp]; simp) (by rw [hp]; exact hm)).mono ?_
  rintro e w' ⟨v, bs', next', out, inV', unV', rfl, hov, hdl, hni, hr, hc⟩
  rw [hp] at hdl hr
  obtain ⟨rfl, rfl, rfl⟩ : out = [m] ∧ bs' = [] ∧ next' = (n : Int) + 1 := by
    rcases hdl.inv with ⟨rfl, rfl, rfl⟩ | ⟨_, o2, rfl, h2⟩
    · simp at hni
    · obtain ⟨rfl, rfl, rfl⟩ := h2.none (by simp)
      refine ⟨by simp [pick], by simp, rfl⟩
  obtain ⟨A, c, rfl⟩ := ownForm hov
  have e1 : max (n : Int) ((n : Int) + 1) = ((n + 1 : Nat) : Int) := by omega
  have e2 : unNext [] (n : Int) (n : Int) = [] := by unfold unNext; rw [if_neg (by omega)]
  rw [e1, e2, show ((n : Int) + 1) = ((n + 1 : Nat) : Int) by omega] at hr
  exact ⟨A, c, inV', unV', rfl, hr⟩

/-- At the head of the outer loop. -/
def CrAt (w0 w : World) (gr mb : Nat) (st W : Int) (n c : Nat) : Prop :=
  ∃ most inV ib unV, CrR w0 w gr mb st W n most inV ib unV ∧ ib.length = c
set_option maxHeartbeats 8000000 in
set_option maxRecDepth 100000 in
theorem walk_RecvCredit (st0 q : Int) (A : Option Addr) (ln cap : Nat) (w : World) (fi : Nat → Int) (h : IntIn w A ln fi) (hs : -9223372036854775808 ≤ st0 ∧ st0 ≤ 9223372036854775807) :
    Calls Try.prog 4 #[.int .i64 st0, .int .i64 q, .slice A ln cap] w fun e w' => e = .returned (.bool true) ∧ Below w.heap.size w w' := by
  have HP := Lib.hid h
  have HOF := Lib.hid (fun W => seq_of st0 W hs.1 hs.2)
  have hst : 0 ≤ st0 % 16777216 ∧ st0 % 16777216 < 16777216 := by omega
  clear h hs
  generalize st0 % 16777216 = st at *
  have HAD := Lib.hid (fun (x : Int) (hx : 0 ≤ x ∧ x ≤ 5000) W => seq_add st x W hst.1 (by omega) (by omega) (by omega))
  have hll := HP.out.1
  unfold maxLen at hll
  have hWd : max 1 (min q 64) = winOf q := by unfold winOf; omega
  have hWb : 1 ≤ winOf q ∧ winOf q ≤ 64 := by unfold winOf; omega
  have HNW := Lib.hid (fun W => rcv_newAny st q W (by omega))
  go_enter Try.func4, Try.ntmps4
  go_wp2_with fail
  refine (recv_awake w).mono ?_
  rintro e w1 ⟨rfl, hb1⟩
  have HB1 := Lib.hid hb1
  clear hb1
  go_wp2_with (go_at_call 9; refine (HOF.out _).mono ?_; rintro e w' ⟨rfl, rfl⟩)
  refine (HNW.out _).mono ?_
  rintro e w2 ⟨gr, mb, rfl, h2⟩
  have HG0 : Hid (CrAt w1 w2 gr mb st (winOf q) 0 0) := ⟨_, _, [], _, ⟨h2, hWb, by simp; omega⟩, rfl⟩
  have HBW : Hid (w.heap.size ≤ w1.heap.size) := HB1.out.size
  clear h2 HNW
  generalize winOf q = W at *
  go_wp2_with fail
  go_loopw [9, 10, 11] (fun x y i wr => ∃ (k n c : Nat), k ≤ 30 ∧ k ≤ ln ∧ n ≤ 64 * k ∧ x = .int .i64 n ∧ y = .int .i64 c ∧ i = .int .i64 k ∧ Hid (CrAt w1 wr gr mb st W n c)) (fun _ _ i _ => 30 - (intOf i).toNat)
  case atStart => exact ⟨0, 0, 0, by omega, by omega, by omega, rfl, rfl, rfl, HG0⟩
  case round =>
    obtain ⟨k, n, c, hk1, hk2, hn0, rfl, rfl, rfl, HGA⟩ := hrel
    clear HG0
    obtain ⟨most, inV, ib, unV, hcr, hic⟩ := HGA.out
    have HG := Lib.hid hcr
    have HB := Lib.hid (HB1.out.trans (hcr.rcv.bel.mono HBW.out))
    have hmo := hcr.mst
    clear HGA hcr
    by_cases hgo : k < ln ∧ k < 30
    · obtain ⟨hl, h30⟩ := hgo
      have e1 : decide (k < ln) = true := decide_eq_true hl
      have e2 : decide ((k : Int) < (ln : Int)) = true := decide_eq_true (by omega)
      have e3 : decide ((k : Int) < 30) = true := decide_eq_true (by omega)
      have HST := Lib.hid (rcv_stat HG.out.rcv (by omega) (by omega) (by omega) (by omega) (by omega) (by simp) (by intro x hx; cases hx) (by omega))
      go_wp2_with fail
      refine HST.out.mono ?_
      rintro e w4 ⟨u, qq, rfl, _, _, hnu, hr4, _⟩
      obtain ⟨Au, cu, rfl, _⟩ := id hnu
      have hM : max most ((n : Int) + W - (ib.length : Int)) = n + W - (ib.length : Int) := by omega
      rw [hM] at hr4 ⊢
      have HTO := Lib.hid (fun W' => seq_to ((st + n) % 16777216) ((st + ((n : Int) + W - (ib.length : Int))) % 16777216) W' (by omega) (by omega) (by omega) (by omega))
      rw [show ((st + ((n : Int) + W - (ib.length : Int))) % 16777216 - (st + n) % 16777216) % 16777216 = W - (c : Int) by omega] at HTO
      obtain ⟨rm, hrm⟩ : ∃ rm : Nat, W - (c : Int) = rm := ⟨(W - (c : Int)).toNat, by have := HG.out.mst; omega⟩
      have e5 : (n : Int) + W - (ib.length : Int) = ((n + rm : Nat) : Int) := by omega
      rw [e5] at hr4 ⊢
      rw [e5, hrm] at HTO
      have HG4 : Hid (CrR w1 w4 gr mb st W n ((n + rm : Nat) : Int) inV ib unV) := ⟨hr4, HG.out.win, by omega⟩
      have hrb : rm ≤ 64 ∧ c + rm ≤ 64 := by omega
      have hcW : ((c : Int) + rm) = W := by omega
      have HIC := Lib.hid hic
      have HCW := Lib.hid hcW
      have hrm2 : ((rm : Int) == W - (c : Int)) = true := by rw [beq_iff_eq]; omega
      have hrm3 : IntKind.i64.wrap (W - (c : Int)) = (rm : Int) := by rw [hrm]; exact IntWalk.i64_in _ (by omega)
      clear hr4 hnu hM e5 HG HST hmo hrm hic hcW hrm2
      go_wp2_with (first | (go_at_call 9; refine (HOF.out _).mono ?_; rintro e w' ⟨rfl, rfl⟩) | (go_at_call 12; refine (HAD.out _ (by omega) _).mono ?_; rintro e w' ⟨rfl, rfl⟩) | (go_at_call 18; refine (HTO.out _).mono ?_; rintro e w' ⟨rfl, rfl⟩))
      go_loopw [9, 10, 55] (fun x y j wx => ∃ t : Nat, t ≤ rm ∧ x = .int .i64 ((n + t : Nat) : Int) ∧ y = .int .i64 ((c + t : Nat) : Int) ∧ j = .int .i64 t ∧ Hid (∃ inV ib unV, CrR w1 wx gr mb st W (n + t) ((n + rm : Nat) : Int) inV ib unV ∧ ib.length = c + t)) (fun _ _ j _ => rm - (intOf j).toNat)
      case atStart => exact ⟨0, by omega, by simp, by simp, rfl, _, _, _, HG4.out, HIC.out⟩
      case round =>
        obtain ⟨t, htr, rfl, rfl, rfl, HH⟩ := hrel
        clear HG4
        obtain ⟨inV, ib, unV, hcr, hil⟩ := HH.out
        have HG5 := Lib.hid hcr
        have HIL := Lib.hid hil
        clear HH hcr hil
        by_cases htl : t < rm
        · have e1 : decide ((t : Int) < (rm : Int)) = true := decide_eq_true (by omega)
          have HDA := Lib.hid (crr_data (m := ⟨#[109]⟩) HG5.out hst (by omega) (by omega))
          go_wp2_with (first | (go_at_call 9; refine (HOF.out _).mono ?_; rintro e w' ⟨rfl, rfl⟩) | (go_at_call 12; refine (HAD.out _ (by omega) _).mono ?_; rintro e w' ⟨rfl, rfl⟩))
          refine HDA.out.mono ?_
          rintro e w5 ⟨A5, c5, inV5, unV5, rfl, hr5⟩
          have HG6 : Hid (CrR w1 w5 gr mb st W (n + t + 1) ((n + rm : Nat) : Int) inV5 (ib ++ [⟨#[109]⟩]) unV5) := ⟨hr5, HG5.out.win, by have h1 := HIL.out; have h2 := HCW.out; rw [List.length_append]; simp; omega⟩
          have HI6 : Hid ((ib ++ [(⟨#[109]⟩ : ByteArray)]).length = c + (t + 1)) := by show _ = _; have h1 := HIL.out; rw [List.length_append]; simp; omega
          clear hr5 HDA HG5 HIL
          go_wp2_with fail
          go_roundw
          case rel => exact ⟨t + 1, by omega, by go_num, by go_num, by go_num, _, _, _, HG6.out, HI6.out⟩
          case measure => simp [intOf]; omega
        · obtain rfl : t = rm := by omega
          have e1 : decide ((t : Int) < (t : Int)) = false := decide_eq_false (by omega)
          have hpl : placeOf st ((n + t : Nat) : Int) ((st + ((n + t : Nat) : Int)) % 16777216) = ((n + t : Nat) : Int) := by unfold placeOf; omega
          have HDA := Lib.hid (rcv_dataNo HG5.out.rcv (by omega) (by omega) ((st + ((n + t : Nat) : Int)) % 16777216) (by omega) ⟨#[109]⟩ (.inr (by rw [hpl]; exact Int.le_refl _)))
          obtain ⟨hl, h30⟩ : k < ln ∧ k < 30 := ⟨by assumption, by assumption⟩
          obtain ⟨b, off, rfl, hbl, c0, hf0, hf1⟩ := (HP.out.below (HB1.out.trans (HG5.out.rcv.bel.mono HBW.out))).get hl
          clear hpl hf0 hf1
          go_wp2_with (first | (go_at_call 9; refine (HOF.out _).mono ?_; rintro e w' ⟨rfl, rfl⟩) | (go_at_call 12; refine (HAD.out _ (by omega) _).mono ?_; rintro e w' ⟨rfl, rfl⟩))
          refine HDA.out.mono ?_
          rintro e w5 ⟨rfl, hr5, hb5⟩
          have HG6 : Hid (CrR w1 w5 gr mb st W (n + t) ((n + t : Nat) : Int) inV ib unV) := ⟨hr5, HG5.out.win, HG5.out.mst⟩
          have c1 : w5.cell? ⟨b, off + k, none⟩ = some (.int .i64 (fi k)) := by rw [hb5.cell (p := ⟨b, off + k, none⟩) hbl]; exact c0
          have hand := and15i (fi k)
          have hx0 : 0 ≤ fi k % 16 ∧ fi k % 16 ≤ 15 := by omega
          clear hr5 hb5 c0 HDA HG5
          generalize fi k % 16 = x at *
          obtain ⟨kk, hkk⟩ : ∃ kk : Nat, (kk : Int) = min x (ib.length : Int) := ⟨(min x (ib.length : Int)).toNat, by omega⟩
          have HTK := Lib.hid (rcv_take HG6.out.rcv x (by omega) kk hkk (by have := HIL.out; omega))
          have hkl : kk ≤ c + t := by have := HIL.out; omega
          clear hkk
          go_wp2_with fail
          refine HTK.out.mono ?_
          rintro e w6 ⟨v6, inV6, rfl, hown, hr6, _, _⟩
          obtain ⟨A6, c6, rfl⟩ := ownForm hown
          obtain ⟨m, hm⟩ : ∃ m : Nat, (m : Int) = (c : Int) + (t : Int) - (kk : Int) := ⟨c + t - kk, by omega⟩
          have hL : (ib.drop kk).length = m := by have := HIL.out; rw [List.length_drop]; omega
          have HG7 : Hid (CrR w1 w6 gr mb st W (n + t) ((n + t : Nat) : Int) inV6 (ib.drop kk) unV) := ⟨hr6, HG6.out.win, by have := HG6.out.mst; have := HIL.out; omega⟩
          have HVA := Lib.hid (rcv_vars hr6 (by omega) (by omega) (by omega) (by omega))
          rw [hL] at HVA
          have HL7 := Lib.hid hL
          have hfI := fun W => (rvars_f ((st + ((n + t : Nat) : Int)) % 16777216) ((st + ((n + t : Nat) : Int)) % 16777216) ((st + ((n + t : Nat) : Int)) % 16777216) 0 (m : Int) 0 W).2.2.1
          have HVB : Hid (Calls Try.prog 14 #[.pointer (some ⟨gr, 0, none⟩)] w6 fun e w' => e = .returned (.agg #[.int .u32 ((st + ((n + t : Nat) : Int)) % 16777216), .int .u32 ((st + ((n + t : Nat) : Int)) % 16777216), .int .u32 ((st + ((n + t : Nat) : Int)) % 16777216), .int .i64 0, .int .i64 (m : Int), .int .i64 0]) ∧ Below w6.heap.size w6 w') := HVA.out
          generalize (st + ((n + t : Nat) : Int)) % 16777216 = S1 at hfI HVB
          have HM := Lib.hid hm
          have hm1 := hm.symm
          clear hr6 hown HTK HVA hL hm HG6 HIL
          go_wp2_with fail
          refine HVB.out.mono ?_
          rintro e w7 ⟨rfl, hb7⟩
          have HG8 : Hid (CrAt w1 w7 gr mb st W (n + t) m) := ⟨_, _, _, _, ⟨HG7.out.rcv.below hb7, HG7.out.win, HG7.out.mst⟩, HL7.out⟩
          clear hb7 HVB HG7
          go_wp2_with fail
          go_roundw
          case rel => exact ⟨k + 1, n + t, m, by omega, by omega, by omega, by go_num, by go_num, by go_num, HG8⟩
          case measure => simp [intOf]; omega
    · have HBZ := HB.out
      by_cases hl : k < ln
      · have e1 : decide (k < ln) = true := decide_eq_true hl
        have e2 : decide ((k : Int) < (ln : Int)) = true := decide_eq_true (by omega)
        have e3 : decide ((k : Int) < 30) = false := decide_eq_false (by omega)
        clear hgo hl
        go_wp2_with fail
        go_ret
        exact ⟨rfl, HBZ⟩
      · have e1 : decide (k < ln) = false := decide_eq_false hl
        have e2 : decide ((k : Int) < (ln : Int)) = false := decide_eq_false (by omega)
        clear hgo hl
        go_wp2_with fail
        go_ret
        exact ⟨rfl, HBZ⟩
end Go.Proofs.Ytgfdgcpbmjhmmaa
