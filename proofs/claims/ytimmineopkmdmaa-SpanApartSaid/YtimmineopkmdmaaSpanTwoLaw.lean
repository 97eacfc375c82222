/- The walk of the law SpanTwo. Conditions: the slices lie as slices do. -/
import Derived.Test.YtimmineopkmdmaaSpanOfLaw
import Derived.Test.YtimmineopkmdmaaSpanGaps
namespace Go.Proofs.Ytimmineopkmdmaa
open Go.RowKit Sp Go.Sort
set_option linter.unusedVariables false
set_option linter.unusedSimpArgs false

structure TwoAt (w : World) (fv gv su tu : Value) (s t : List Span) : Prop where
  f : IntRow w fv (nums s)
  g : IntRow w gv (nums t)
  s : SetAt w su s
  t : SetAt w tu t
theorem TwoAt.below {w w' : World} {fv gv su tu : Value} {s t : List Span} (h : TwoAt w fv gv su tu s t) (hb : Below w.heap.size w w') : TwoAt w' fv gv su tu s t :=
  ⟨h.f.below hb, h.g.below hb, h.s.below hb, h.t.below hb⟩
theorem filter_next {l : List Int} {k : Nat} {p : Int → Bool} (h : k < l.length) : (l.take (k + 1)).filter p = if p l[k] = true then (l.take k).filter p ++ [l[k]] else (l.take k).filter p := by
  rw [List.take_succ_eq_append_getElem h, List.filter_append]
  split
  · rename_i hp; simp [List.filter_cons, hp]
  · rename_i hp; simp [List.filter_cons, hp]
theorem filter_len {l : List Int} {k : Nat} {p : Int → Bool} : ((l.take k).filter p).length ≤ k := by
  have h1 := List.length_filter_le p (l.take k)
  have h2 := List.length_take_le k l
  omega
/-- A canonical set's list, sifted, is the list of a canonical set with just these numbers. -/
theorem nums_sift {s q : List Span} {p : Int → Bool} (hs : Canon s) (hq : Canon q) (h : ∀ n, Mem q n ↔ Mem s n ∧ p n = true) : (nums s).filter p = nums q :=
  nums_eq hq ((nums_rise hs).filter _) fun n => by rw [List.mem_filter, mem_nums, h n]
theorem WideAt.of {w : World} {v : Value} {q s : List Span} (hr : SpRow w v q) (hc : Canon q) (hm : ∀ n, Mem q n → Mem s n) (hs : ∀ x, x ∈ s → Small x) : WideAt w v q := (setAt_of hr hc (small_of_mem hc hm hs)).wide

set_option maxHeartbeats 1000000 in
set_option maxRecDepth 100000 in
theorem walk_SpanTwo (A : Option Addr) (len cap : Nat) (A' : Option Addr) (len' cap' : Nat) (w : World) (ps ps' : Nat → Int × Int) (h : PairRow w A len ps) (h' : PairRow w A' len' ps') :
    Calls Try.prog 5 #[.slice A len cap, .slice A' len' cap'] w fun e w' => e = .returned (.bool true) ∧ Below w.heap.size w w' := by
  have HP := Lib.hid h
  have HP' := Lib.hid h'
  clear h h'
  obtain ⟨i0, hi, hz0, hz1, hz2⟩ := info_parts infoInt0
  have Hi := Lib.hid hi
  have Hz0 := Lib.hid hz0
  have Hz1 := Lib.hid hz1
  have Hz2 := Lib.hid hz2
  clear hi hz0 hz1 hz2
  go_enter Try.func5, Try.ntmps5
  go_wp2_with fail
  refine (span_awake _).mono ?_
  rintro e w1 ⟨rfl, hb1⟩
  have HB1 := Lib.hid hb1
  have HP1 := Lib.hid (HP.out.below hb1)
  clear hb1
  go_wp2_with fail
  refine (few ps A len cap _ HP1.out).mono ?_
  rintro e w2 ⟨fu, fv, out, all, rfl, hr, hi, hol, hF, _, hb2⟩
  have HB2 := Lib.hid (HB1.out.trans (hb2.mono HB1.out.size))
  have HR2 := Lib.hid hr
  have HI2 := Lib.hid hi
  have HF := Lib.hid hF
  have hlo : out.length ≤ 12 := by omega
  clear hr hi hol hF hb2
  go_wp2_with fail
  refine (few ps' A' len' cap' _ (HP'.out.below HB2.out)).mono ?_
  rintro e w3 ⟨gu, gv, out', all', rfl, hr, hi, hol, hF', _, hb3⟩
  have HB3 := Lib.hid (HB2.out.trans (hb3.mono HB2.out.size))
  have HR3 := Lib.hid (HR2.out.below hb3)
  have HI3 := Lib.hid (HI2.out.below hb3)
  have HR3' := Lib.hid hr
  have HI3' := Lib.hid hi
  have HF' := Lib.hid hF'
  have hlo' : out'.length ≤ 12 := by omega
  clear hr hi hol hF' hb3 HR2 HI2
  go_wp2_with fail
  refine (of_ out _ _ HR3.out (by omega) HF.out.small).mono ?_
  rintro e w4 ⟨su, s, rfl, hsu, hs, hb4⟩
  have HB4 := Lib.hid (HB3.out.trans (hb4.mono HB3.out.size))
  have HS4 := Lib.hid (IsSet.setAt hsu hs (by omega))
  have HE := Lib.hid (HF.out.nums hs)
  have HI4 : Hid (IntRow w4 fv (nums s)) := by rw [← HE.out]; exact HI3.out.below hb4
  have HI4' := Lib.hid (HI3'.out.below hb4)
  have HR4' := Lib.hid (HR3'.out.below hb4)
  have hnl : (nums s).length ≤ 480 := by rw [← HE.out]; have := HF.out.few; omega
  clear hsu hs hb4 HR3 HI3 HI3' HR3'
  go_wp2_with fail
  refine (of_ out' _ _ HR4'.out (by omega) HF'.out.small).mono ?_
  rintro e w5 ⟨tu, t, rfl, htu, ht, hb5⟩
  have HB5 := Lib.hid (HB4.out.trans (hb5.mono HB4.out.size))
  have HE' := Lib.hid (HF'.out.nums ht)
  have HT5 : Hid (TwoAt w5 fv gv su tu s t) := ⟨HI4.out.below hb5, by rw [← HE'.out]; exact HI4'.out.below hb5, HS4.out.below hb5, IsSet.setAt htu ht (by omega)⟩
  have hnl' : (nums t).length ≤ 480 := by rw [← HE'.out]; have := HF'.out.few; omega
  clear htu ht hb5 HS4 HI4 HI4' HR4' HE HE' HF HF'
  obtain ⟨fa, fc, rfl⟩ := HT5.out.f.form
  have HCS := Lib.hid HT5.out.s.canon
  have HCT := Lib.hid HT5.out.t.canon
  obtain ⟨L, hL⟩ : ∃ L, L = nums s := ⟨_, rfl⟩
  obtain ⟨M, hM⟩ : ∃ M, M = nums t := ⟨_, rfl⟩
  rw [← hL] at hnl ⊢
  rw [← hM] at hnl'
  have HL := Lib.hid hL
  have HM := Lib.hid hM
  clear hL hM
  go_wp2_with fail
  go_loopw [11, 32] (fun a i wr => ∃ (k : Nat) (v : Value) (o : List Int), k ≤ L.length ∧ v = a ∧ i = .int .i64 k ∧ o.length ≤ k ∧ Hid (o = (L.take k).filter fun n => decide (n ∈ M)) ∧ Hid (wr.ownsRow w5.heap.size 3 1 v o.length (o.map (Value.int .i64))) ∧ Hid (Below w5.heap.size w5 wr)) (fun _ i _ => L.length - (intOf i).toNat)
  case atStart => exact ⟨0, _, [], by omega, rfl, rfl, by simp, (by show _ = _; simp), World.ownsRow_nil _ _ _ _, Below.refl _ _⟩
  case round =>
    obtain ⟨k, v, o, hk, rfl, rfl, hol, HO, HW, HC⟩ := hrel
    have HT := Lib.hid (HT5.out.below HC.out)
    by_cases hlt : k < L.length
    · have ex := List.getElem?_eq_getElem hlt
      have hf := HT.out.f
      rw [← HL.out] at hf
      obtain ⟨b, off, rfl, hbl, c0⟩ := hf.get ex
      have HG : Hid (IntRow wr gv M) := by rw [HM.out]; exact HT.out.g
      have HNX := Lib.hid (filter_next (p := fun n => decide (n ∈ M)) hlt)
      clear hf ex
      generalize L[k] = y at *
      go_wp2_with fail
      refine (ref_has gv M y _ HG.out).mono ?_
      rintro e wr' ⟨rfl, rfl⟩
      by_cases hy : y ∈ M
      · rw [decide_eq_true hy]
        have HN2 : Hid (o ++ [y] = (L.take (k + 1)).filter fun n => decide (n ∈ M)) := by show _ = _; rw [HNX.out, if_pos (by simpa using hy), HO.out]
        go_wp2_with (at_builtin; refine wpList_append_src _ rfl (.tmp 39) (.tmp 41) 24 rfl w5.heap.size 3 i0 (.int .i64 0) 1 8 Try.underlying24 Hi.out Hz0.out Hz1.out Hz2.out rfl (by decide) v o.length (o.map (Value.int .i64)) rfl (World.ownsRow.alloc HW.out _) (some ⟨_, 0, none⟩) 1 1 [.int .i64 y] rfl rfl (fun h => by cases h) (one_src (one_new _ _ _)) (fun u hu => by simp at hu; subst hu; rfl) (by unfold maxLen; omega) (by omega) (by have := HC.out.size; rw [World.size_alloc]; omega) ?_; intro v5 w6 hown4 hg4 _; have HO5 := Lib.hid hown4; have HC5 := Lib.hid ((HC.out.alloc HC.out.size _).grown hg4 (by rw [World.size_alloc]; have := HC.out.size; omega) (fun j hj => (HW.out.lt j hj).1)); clear hown4 hg4)
        go_roundw
        case rel => exact ⟨k + 1, v5, o ++ [y], by omega, rfl, by go_num, by simp; omega, HN2, by have h := HO5.out; rw [List.length_append, List.map_append]; exact h, HC5⟩
        case measure => simp [intOf]; omega
      · rw [decide_eq_false hy]
        have HN2 : Hid (o = (L.take (k + 1)).filter fun n => decide (n ∈ M)) := by show _ = _; rw [HNX.out, if_neg (by simpa using hy), HO.out]
        clear hy
        go_wp2_with fail
        go_roundw
        case rel => exact ⟨k + 1, v, o, by omega, rfl, by go_num, by omega, HN2, HW, HC⟩
        case measure => simp [intOf]; omega
    · have hks : k = L.length := by omega
      subst hks
      rw [List.take_of_length_le (Nat.le_refl _)] at HO
      have HIO := Lib.hid (intRow_own HW.out (by omega))
      have HB := Lib.hid (HB5.out.trans (HC.out.mono HB5.out.size))
      clear HC HT5 HW
      go_wp2_with fail
      refine (both s t _ _ _ HT.out.s.wide HT.out.t.wide).mono ?_
      rintro e w6 ⟨r1, q1, rfl, hr1, hq1, hm1, _, hb6⟩
      have HQ1 : Hid (WideAt w6 r1 q1) := WideAt.of hr1 hq1 (fun n h => ((hm1 n).1 h).1) HT.out.s.small
      have HE1 : Hid (o = nums q1) := by
        show _ = _
        rw [HO.out, HL.out]
        exact nums_sift HCS.out hq1 fun n => by rw [hm1 n, decide_eq_true_eq, HM.out, mem_nums]
      have hol1 : o.length ≤ 480 := by omega
      have HB6 := Lib.hid (HB.out.trans (hb6.mono HB.out.size))
      have HT6 := Lib.hid (HT.out.below hb6)
      have HI6 := Lib.hid (HIO.out.below hb6)
      clear hr1 hq1 hm1 hb6
      go_wp2_with fail
      refine (is_ q1 _ _ w6 HQ1.out (by rw [← HE1.out]; omega) (by rw [← HE1.out]; exact HI6.out)).mono ?_
      rintro e w7 ⟨rfl, hb7⟩
      have HB7 := Lib.hid (HB6.out.trans (hb7.mono HB6.out.size))
      have HT7 := Lib.hid (HT6.out.below hb7)
      have HI7 := Lib.hid (HI6.out.below hb7)
      clear hb7
      go_wp2_with fail
      refine (both t s _ _ _ HT7.out.t.wide HT7.out.s.wide).mono ?_
      rintro e w8 ⟨r2, q2, rfl, hr2, hq2, hm2, _, hb8⟩
      have HQ2 : Hid (WideAt w8 r2 q2) := WideAt.of hr2 hq2 (fun n h => ((hm2 n).1 h).1) HT7.out.t.small
      have HE2 : Hid (o = nums q2) := by
        show _ = _
        rw [HO.out, HL.out]
        exact nums_sift HCS.out hq2 fun n => by rw [hm2 n, decide_eq_true_eq, HM.out, mem_nums]; exact ⟨fun h => ⟨h.2, h.1⟩, fun h => ⟨h.2, h.1⟩⟩
      have HB8 := Lib.hid (HB7.out.trans (hb8.mono HB7.out.size))
      have HT8 := Lib.hid (HT7.out.below hb8)
      have HI8 := Lib.hid (HI7.out.below hb8)
      clear hr2 hq2 hm2 hb8
      go_wp2_with fail
      refine (is_ q2 _ _ w8 HQ2.out (by rw [← HE2.out]; omega) (by rw [← HE2.out]; exact HI8.out)).mono ?_
      rintro e w9 ⟨rfl, hb9⟩
      have HB9 := Lib.hid (HB8.out.trans (hb9.mono HB8.out.size))
      have HT9 := Lib.hid (HT8.out.below hb9)
      clear hb9
      have HST : Hid (decide (s = t) = sameB L M) := by
        show _ = _
        unfold sameB
        congr 1
        rw [HL.out, HM.out, eq_iff_iff]
        exact ⟨fun h => by rw [h], fun h => nums_inj HCS.out HCT.out h⟩
      generalize hbb : sameB L M = bb at *
      have HBB := Lib.hid hbb
      clear hbb
      go_wp2_with fail
      refine (same _ _ _ _ w9 HT9.out.s.row HT9.out.t.row).mono ?_
      rintro e w10 ⟨rfl, q, rfl⟩
      rw [HST.out]
      have HB10 := Lib.hid (below_drewN' HB9.out q)
      have hf := HT9.out.f.drewN q
      have hg := HT9.out.g.drewN q
      rw [← HL.out] at hf
      rw [← HM.out] at hg
      have HF10 := Lib.hid hf
      have HG10 := Lib.hid hg
      clear hf hg
      generalize w9.drewN q = w10 at *
      go_wp2_with fail
      refine (ref_same _ _ L M w10 HF10.out HG10.out).mono ?_
      rintro e w11 ⟨rfl, q', rfl⟩
      rw [HBB.out]
      have hbq : (bb == bb) = true := by simp
      go_wp2_with fail
      go_ret
      exact ⟨rfl, below_drewN' HB10.out q'⟩
end Go.Proofs.Ytimmineopkmdmaa
