/- The walk of the law SpanChanges. Conditions: the slice lies as a slice does, the span's ends are 64-bit numbers. -/
import Derived.Test.YtimmineopkmdmaaSpanTwoLaw
namespace Go.Proofs.Ytimmineopkmdmaa
open Go.RowKit Sp Go.Sort
set_option linter.unusedVariables false
set_option linter.unusedSimpArgs false

structure ChAt (w : World) (fv mv su ov : Value) (s : List Span) (M : List Int) (x : Span) : Prop where
  f : IntRow w fv (nums s)
  m : IntRow w mv M
  s : SetAt w su s
  o : SpRow w ov [x]
theorem ChAt.below {w w' : World} {fv mv su ov : Value} {s : List Span} {M : List Int} {x : Span} (h : ChAt w fv mv su ov s M x) (hb : Below w.heap.size w w') : ChAt w' fv mv su ov s M x :=
  ⟨h.f.below hb, h.m.below hb, h.s.below hb, h.o.below hb⟩
/-- What with has behind k puts. -/
def WithAt (L M : List Int) (k : Nat) (wl : List Int) : Prop := wl.Pairwise (· < ·) ∧ (∀ n, n ∈ wl ↔ n ∈ L ∨ n ∈ M.take k) ∧ wl.length ≤ L.length + k
theorem withAt_next {L M wl : List Int} {k : Nat} (hk : k < M.length) (h : WithAt L M k wl) : WithAt L M (k + 1) (put wl M[k]) := by
  obtain ⟨h1, h2, h3⟩ := h
  refine ⟨put_rise h1 _, fun n => ?_, by have := length_put wl M[k]; omega⟩
  rw [mem_put, h2 n, List.take_succ_eq_append_getElem hk, List.mem_append]
  simp only [List.mem_cons, List.not_mem_nil, or_false]
  constructor
  · rintro (h | h | h)
    · exact .inr (.inr h)
    · exact .inl h
    · exact .inr (.inl h)
  · rintro (h | h | h)
    · exact .inr (.inl h)
    · exact .inr (.inr h)
    · exact .inl h
theorem oneSpan {w : World} {A : Option Addr} {cap : Nat} {x : Span} (h : SpRow w (.slice A 1 cap) [x]) : ∃ b off, A = some ⟨b, off, none⟩ ∧ b < w.heap.size ∧ w.cell? ⟨b, off, none⟩ = some (.int .i64 x.1) ∧ w.cell? ⟨b, off + 1, none⟩ = some (.int .i64 x.2) := by
  obtain ⟨b, off, e, hb, c0, c1⟩ := h.get (k := 0) rfl
  rw [Nat.zero_mul, Nat.add_zero] at c0 c1
  exact ⟨b, off, e, hb, c0, c1⟩
theorem pairRow_one (w : World) (a b : Int) (t : TypeId) (h1 : -9223372036854775808 ≤ a ∧ a ≤ 9223372036854775807) (h2 : -9223372036854775808 ≤ b ∧ b ≤ 9223372036854775807) : PairRow (w.alloc (.cells #[.int .i64 a, .int .i64 b] t)) (some ⟨w.heap.size, 0, none⟩) 1 (fun _ => (a, b)) := by
  refine ⟨by decide, .inr ⟨w.heap.size, 0, rfl, by simp, fun i hi => ?_⟩⟩
  obtain rfl : i = 0 := by omega
  obtain ⟨c0, c1⟩ := two_new w (.int .i64 a) (.int .i64 b) t
  exact ⟨c0, c1, h1.1, h1.2, h2.1, h2.2⟩

set_option maxHeartbeats 1000000 in
set_option maxRecDepth 100000 in
theorem walk_SpanChanges (A : Option Addr) (len cap : Nat) (a b : Int) (w : World) (ps : Nat → Int × Int) (h : PairRow w A len ps) (ha : -9223372036854775808 ≤ a ∧ a ≤ 9223372036854775807) (hb : -9223372036854775808 ≤ b ∧ b ≤ 9223372036854775807) :
    Calls Try.prog 4 #[.slice A len cap, .agg #[.int .i64 a, .int .i64 b]] w fun e w' => e = .returned (.bool true) ∧ Below w.heap.size w w' := by
  have HP := Lib.hid h
  have HA := Lib.hid ha
  have HBb := Lib.hid hb
  clear h ha hb
  obtain ⟨i0, hi, hz0, hz1, hz2⟩ := info_parts infoInt0
  have Hi := Lib.hid hi
  have Hz0 := Lib.hid hz0
  have Hz1 := Lib.hid hz1
  have Hz2 := Lib.hid hz2
  clear hi hz0 hz1 hz2
  have hb0 : Below w.heap.size w (w.alloc (.cells #[.int .i64 a, .int .i64 b] 35)) := (Below.refl _ w).alloc (Nat.le_refl _) _
  obtain ⟨k0, k1⟩ := two_new w (.int .i64 a) (.int .i64 b) 35
  have HK0 := Lib.hid k0
  have HK1 := Lib.hid k1
  have HB0 := Lib.hid hb0
  have hg0 : w.heap.size < (w.alloc (.cells #[.int .i64 a, .int .i64 b] 35)).heap.size := by simp
  clear hb0 k0 k1
  go_enter Try.func4, Try.ntmps4
  go_upto_region 1 with fail
  generalize w.alloc (.cells #[.int .i64 a, .int .i64 b] 35) = w0 at *
  go_wp2_with fail
  refine (span_awake _).mono ?_
  rintro e w1 ⟨rfl, hb1⟩
  have HB1 := Lib.hid (HB0.out.trans (hb1.mono HB0.out.size))
  have HP1 := Lib.hid (HP.out.below HB1.out)
  have c0 : w1.cell? ⟨w.heap.size, 0, none⟩ = some (.int .i64 a) := by rw [hb1.cell (p := ⟨w.heap.size, 0, none⟩) hg0]; exact HK0.out
  have c1 : w1.cell? ⟨w.heap.size, 1, none⟩ = some (.int .i64 b) := by rw [hb1.cell (p := ⟨w.heap.size, 1, none⟩) hg0]; exact HK1.out
  have HC0 := Lib.hid c0
  have HC1 := Lib.hid c1
  have hg1 : w.heap.size < w1.heap.size := Nat.lt_of_lt_of_le hg0 hb1.size
  clear hb1 c0 c1
  go_wp2_with fail
  refine (fewN ps A len cap _ HP1.out).mono ?_
  rintro e w2 ⟨fu, fv, out, all, rfl, hr, hi, hol, hF, _, hb2, hfv⟩
  have HB2 := Lib.hid (HB1.out.trans (hb2.mono HB1.out.size))
  have HR2 := Lib.hid hr
  have HI2 := Lib.hid hi
  have HF := Lib.hid hF
  have HFV := Lib.hid hfv
  have hlo : out.length ≤ 12 := by omega
  have c0 : w2.cell? ⟨w.heap.size, 0, none⟩ = some (.int .i64 a) := by rw [hb2.cell (p := ⟨w.heap.size, 0, none⟩) hg1]; exact HC0.out
  have c1 : w2.cell? ⟨w.heap.size, 1, none⟩ = some (.int .i64 b) := by rw [hb2.cell (p := ⟨w.heap.size, 1, none⟩) hg1]; exact HC1.out
  have HPO := Lib.hid (pairRow_one w2 a b 35 HA.out HBb.out)
  have hba : Below w2.heap.size w2 (w2.alloc (.cells #[.int .i64 a, .int .i64 b] 35)) := (Below.refl _ w2).alloc (Nat.le_refl _) _
  have HBA := Lib.hid (HB2.out.trans (hba.mono HB2.out.size))
  have HRA := Lib.hid (HR2.out.below hba)
  have HIA := Lib.hid (HI2.out.below hba)
  have hsa : (w2.alloc (.cells #[.int .i64 a, .int .i64 b] 35)).heap.size = w2.heap.size + 1 := by simp
  have HSA := Lib.hid hsa
  clear hr hi hol hF hb2 hfv hba hsa HK0 HK1 HC0 HC1 HI2 HR2
  go_wp2_with fail
  refine (few _ _ 1 1 _ HPO.out).mono ?_
  rintro e w3 ⟨ou, mv, one, M, rfl, hr, hi, hol, hF', _, hb3⟩
  obtain ⟨x1, rfl⟩ : ∃ x1, one = [x1] := by
    match one, hol with
    | [x1], _ => exact ⟨x1, rfl⟩
    | [], h => simp at h
    | _ :: _ :: _, h => simp at h
  have HB3 := Lib.hid (HBA.out.trans (hb3.mono HBA.out.size))
  have HR3 := Lib.hid (HRA.out.below hb3)
  have HI3 := Lib.hid (HIA.out.below hb3)
  have HO3 := Lib.hid hr
  have HM3 := Lib.hid hi
  have HF' := Lib.hid hF'
  have HFV3 : Hid (∀ j, fv.ownBlock = some j → j < w3.heap.size) := fun j hj => by have := HFV.out j hj; have := hb3.size; have := HSA.out; omega
  clear hr hi hol hF' hb3 HRA HIA HPO HFV HSA c0 c1
  generalize w2.alloc (.cells #[.int .i64 a, .int .i64 b] 35) = w2a at *
  go_wp2_with fail
  refine (of_ out _ _ HR3.out (by omega) HF.out.small).mono ?_
  rintro e w4 ⟨su, s, rfl, hsu, hs, hb4⟩
  have HB4 := Lib.hid (HB3.out.trans (hb4.mono HB3.out.size))
  have HE := Lib.hid (HF.out.nums hs)
  have HT4 : Hid (ChAt w4 fv mv su ou s M x1) := ⟨by rw [← HE.out]; exact HI3.out.below hb4, HM3.out.below hb4, IsSet.setAt hsu hs (by omega), HO3.out.below hb4⟩
  have HFV4 : Hid (∀ j, fv.ownBlock = some j → j < w4.heap.size) := fun j hj => Nat.lt_of_lt_of_le (HFV3.out j hj) hb4.size
  have hnl : (nums s).length ≤ 480 := by rw [← HE.out]; have := HF.out.few; omega
  have hml : M.length ≤ 40 := by have := HF'.out.few; simp at this; omega
  have HMR := Lib.hid HF'.out.rise
  have HMM := Lib.hid HF'.out.mem
  have HX1 := Lib.hid (HF'.out.small x1 (by simp))
  clear hsu hs hb4 HR3 HI3 HO3 HM3 HE HF HF' HFV3
  obtain ⟨fa, fc, rfl⟩ := HT4.out.f.form
  obtain ⟨ma, mc, rfl⟩ := HT4.out.m.form
  have HCS := Lib.hid HT4.out.s.canon
  obtain ⟨L, hL⟩ : ∃ L, L = nums s := ⟨_, rfl⟩
  rw [← hL] at hnl HFV4 ⊢
  have HL := Lib.hid hL
  have hf := HT4.out.f
  rw [← hL] at hf
  have HLI := Lib.hid hf
  clear hL hf
  go_wp2_with fail
  go_loopw [10, 12, 35] (fun a c i wr => ∃ (k : Nat) (wv gv : Value) (wl gl : List Int), k ≤ M.length ∧ wv = a ∧ gv = c ∧ i = .int .i64 k ∧ gl.length ≤ k ∧ Hid (WithAt L M k wl) ∧ Hid (IntRow wr wv wl) ∧ Hid (∀ j, wv.ownBlock = some j → j < wr.heap.size ∧ gv.ownBlock ≠ some j) ∧ Hid (gl = (M.take k).filter fun n => !decide (n ∈ L)) ∧ Hid (wr.ownsRow w4.heap.size 3 1 gv gl.length (gl.map (Value.int .i64))) ∧ Hid (Below w4.heap.size w4 wr)) (fun _ _ i _ => M.length - (intOf i).toNat)
  case atStart => exact ⟨0, _, _, L, [], by omega, rfl, rfl, rfl, by simp, ⟨by rw [HL.out]; exact nums_rise HCS.out, fun n => by simp, by omega⟩, HLI.out, fun j hj => ⟨HFV4.out j hj, fun h => by simp [Value.ownBlock] at h⟩, (by show _ = _; simp), World.ownsRow_nil _ _ _ _, Below.refl _ _⟩
  case round =>
    obtain ⟨k, wv, gv, wl, gl, hk, rfl, rfl, rfl, hgl, HWA, HWI, HWD, HG, HW, HC⟩ := hrel
    have HT := Lib.hid (HT4.out.below HC.out)
    by_cases hlt : k < M.length
    · have ex := List.getElem?_eq_getElem hlt
      obtain ⟨mb, moff, rfl, hmb, c0⟩ := HT.out.m.get ex
      have HNX := Lib.hid (filter_next (p := fun n => !decide (n ∈ L)) hlt)
      have HWN := Lib.hid (withAt_next hlt HWA.out)
      have hwl := HWA.out.2.2
      clear ex
      generalize M[k] = y at *
      go_wp2_with fail
      refine (ref_put wv wl y _ HWI.out HWA.out.1 (by omega)).mono ?_
      rintro e wp ⟨wv', rfl, hi', hbp, ho'⟩
      have HIP := Lib.hid hi'
      have HCP := Lib.hid (HC.out.trans (hbp.mono HC.out.size))
      have HWP := Lib.hid (HW.out.kept (row := none) ⟨hbp.os, hbp.tape, hbp.output, hbp.size, fun k hk _ => hbp.block k hk⟩ (Classical.em _))
      have HDP : Hid (∀ j, wv'.ownBlock = some j → j < wp.heap.size ∧ gv.ownBlock ≠ some j) := fun j hj => by
        rcases ho' j hj with h | ⟨h1, h2⟩
        · obtain ⟨q1, q2⟩ := HWD.out j h
          exact ⟨Nat.lt_of_lt_of_le q1 hbp.size, q2⟩
        · refine ⟨h2, fun h => ?_⟩
          have := (HW.out.lt j h).2
          omega
      have HLP : Hid (IntRow wp (.slice fa L.length fc) L) := HLI.out.below HCP.out
      clear hi' hbp ho' HC HW HWD HWI HWA
      generalize put wl y = wl' at *
      go_wp2_with fail
      refine (ref_has _ L y _ HLP.out).mono ?_
      rintro e wp' ⟨rfl, rfl⟩
      by_cases hy : y ∈ L
      · rw [decide_eq_true hy]
        have HN2 : Hid (gl = (M.take (k + 1)).filter fun n => !decide (n ∈ L)) := by show _ = _; rw [HNX.out, if_neg (by simpa using hy), HG.out]
        clear hy
        go_wp2_with fail
        go_roundw
        case rel => exact ⟨k + 1, wv', gv, wl', gl, by omega, rfl, rfl, by go_num, by omega, HWN, HIP, HDP, HN2, HWP, HCP⟩
        case measure => simp [intOf]; omega
      · rw [decide_eq_false hy]
        have HN2 : Hid (gl ++ [y] = (M.take (k + 1)).filter fun n => !decide (n ∈ L)) := by show _ = _; rw [HNX.out, if_pos (by simpa using hy), HG.out]
        clear hy
        have hba : Below wp.heap.size wp (wp.alloc (.cells #[.int .i64 y] 3)) := (Below.refl _ wp).alloc (Nat.le_refl _) _
        have HIA := Lib.hid (HIP.out.below hba)
        clear hba
        go_wp2_with (at_builtin; refine wpList_append_src _ rfl (.tmp 46) (.tmp 48) 24 rfl w4.heap.size 3 i0 (.int .i64 0) 1 8 Try.underlying24 Hi.out Hz0.out Hz1.out Hz2.out rfl (by decide) gv gl.length (gl.map (Value.int .i64)) rfl (World.ownsRow.alloc HWP.out _) (some ⟨_, 0, none⟩) 1 1 [.int .i64 y] rfl rfl (fun h => by cases h) (one_src (one_new _ _ _)) (fun u hu => by simp at hu; subst hu; rfl) (by unfold maxLen; omega) (by omega) (by have := HCP.out.size; rw [World.size_alloc]; omega) ?_; intro v5 w6 hown4 hg4 hv4; have HO5 := Lib.hid hown4; have HC5 := Lib.hid ((HCP.out.alloc HCP.out.size _).grown hg4 (by rw [World.size_alloc]; have := HCP.out.size; omega) (fun j hj => (HWP.out.lt j hj).1)); have HI5 : Hid (IntRow w6 wv' wl') := HIA.out.kept hg4.size (fun b i x hb hx => hg4.cell hx (fun h => (HDP.out b hb).2 h.symm)); have HD5 : Hid (∀ j, wv'.ownBlock = some j → j < w6.heap.size ∧ v5.ownBlock ≠ some j) := (fun j hj => by
          obtain ⟨q1, q2⟩ := HDP.out j hj
          have hs := hg4.size
          rw [World.size_alloc] at hs hv4
          refine ⟨by omega, fun h => ?_⟩
          rcases hv4 with e | e
          · exact q2 (by rw [← e]; exact h)
          · rw [e] at h; injection h with h; omega); clear hown4 hg4 hv4)
        go_roundw
        case rel => exact ⟨k + 1, wv', v5, wl', gl ++ [y], by omega, rfl, rfl, by go_num, by simp; omega, HWN, HI5, HD5, HN2, by have h := HO5.out; rw [List.length_append, List.map_append]; exact h, HC5⟩
        case measure => simp [intOf]; omega
    · have hks : k = M.length := by omega
      subst hks
      have hwr := HWA.out
      unfold WithAt at hwr
      rw [List.take_of_length_le (Nat.le_refl _)] at hwr HG
      have HWR := Lib.hid hwr
      have HGI := Lib.hid (intRow_own HW.out (by omega))
      have HB5 := Lib.hid (HB4.out.trans (HC.out.mono HB4.out.size))
      have HLI5 : Hid (IntRow wr (.slice fa L.length fc) L) := HLI.out.below HC.out
      clear HC HT4 HW HWD HWA hwr HLI HFV4
      obtain ⟨w5, hw5⟩ : ∃ w5, w5 = wr := ⟨_, rfl⟩
      rw [← hw5] at HT HGI HB5 HLI5 HWI ⊢
      clear hw5
      go_wp2_with fail
      go_loopw [11, 53] (fun a i wr => ∃ (k : Nat) (v : Value) (o : List Int), k ≤ L.length ∧ v = a ∧ i = .int .i64 k ∧ o.length ≤ k ∧ Hid (o = (L.take k).filter fun n => !decide (n ∈ M)) ∧ Hid (wr.ownsRow w5.heap.size 3 1 v o.length (o.map (Value.int .i64))) ∧ Hid (Below w5.heap.size w5 wr)) (fun _ i _ => L.length - (intOf i).toNat)
      case atStart => exact ⟨0, _, [], by omega, rfl, rfl, by simp, (by show _ = _; simp), World.ownsRow_nil _ _ _ _, Below.refl _ _⟩
      case round =>
        obtain ⟨k, v, o, hk, rfl, rfl, hol, HO, HW, HC⟩ := hrel
        by_cases hlt : k < L.length
        · have ex := List.getElem?_eq_getElem hlt
          have HLX := Lib.hid (HLI5.out.below HC.out)
          obtain ⟨b', off, rfl, hbl, c0⟩ := HLX.out.get ex
          have HG2 := Lib.hid (HT.out.m.below HC.out)
          have HNX := Lib.hid (filter_next (p := fun n => !decide (n ∈ M)) hlt)
          clear ex
          generalize L[k] = y at *
          go_wp2_with fail
          refine (ref_has _ M y _ HG2.out).mono ?_
          rintro e wr' ⟨rfl, rfl⟩
          by_cases hy : y ∈ M
          · rw [decide_eq_true hy]
            have HN2 : Hid (o = (L.take (k + 1)).filter fun n => !decide (n ∈ M)) := by show _ = _; rw [HNX.out, if_neg (by simpa using hy), HO.out]
            clear hy
            go_wp2_with fail
            go_roundw
            case rel => exact ⟨k + 1, v, o, by omega, rfl, by go_num, by omega, HN2, HW, HC⟩
            case measure => simp [intOf]; omega
          · rw [decide_eq_false hy]
            have HN2 : Hid (o ++ [y] = (L.take (k + 1)).filter fun n => !decide (n ∈ M)) := by show _ = _; rw [HNX.out, if_pos (by simpa using hy), HO.out]
            clear hy
            go_wp2_with (at_builtin; refine wpList_append_src _ rfl (.tmp 61) (.tmp 63) 24 rfl w5.heap.size 3 i0 (.int .i64 0) 1 8 Try.underlying24 Hi.out Hz0.out Hz1.out Hz2.out rfl (by decide) v o.length (o.map (Value.int .i64)) rfl (World.ownsRow.alloc HW.out _) (some ⟨_, 0, none⟩) 1 1 [.int .i64 y] rfl rfl (fun h => by cases h) (one_src (one_new _ _ _)) (fun u hu => by simp at hu; subst hu; rfl) (by unfold maxLen; omega) (by omega) (by have := HC.out.size; rw [World.size_alloc]; omega) ?_; intro v5 w6 hown4 hg4 _; have HO5 := Lib.hid hown4; have HC5 := Lib.hid ((HC.out.alloc HC.out.size _).grown hg4 (by rw [World.size_alloc]; have := HC.out.size; omega) (fun j hj => (HW.out.lt j hj).1)); clear hown4 hg4)
            go_roundw
            case rel => exact ⟨k + 1, v5, o ++ [y], by omega, rfl, by go_num, by simp; omega, HN2, by have h := HO5.out; rw [List.length_append, List.map_append]; exact h, HC5⟩
            case measure => simp [intOf]; omega
        · have hks : k = L.length := by omega
          subst hks
          rw [List.take_of_length_le (Nat.le_refl _)] at HO
          have HOI := Lib.hid (intRow_own HW.out (by omega))
          have HB6 := Lib.hid (HB5.out.trans (HC.out.mono HB5.out.size))
          have HT6 := Lib.hid (HT.out.below HC.out)
          have HGI6 := Lib.hid (HGI.out.below HC.out)
          have HWI6 := Lib.hid (HWI.out.below HC.out)
          clear HC HT HW HGI HWI HB5 HLI5
          have hx1 := HT6.out.o
          obtain ⟨oa, oc, rfl⟩ : ∃ A cap, ou = .slice A 1 cap := by obtain ⟨A, cap, e, _⟩ := hx1; exact ⟨A, cap, e⟩
          obtain ⟨ob, oo, rfl, hob, c0, c1⟩ := oneSpan hx1
          have HOC0 := Lib.hid c0
          have HOC1 := Lib.hid c1
          go_wp2_with fail
          refine (add s x1 su _ HT6.out.s HX1.out).mono ?_
          rintro e w7 ⟨u7, s7, rfl, hr7, hs7, hb7⟩
          have HS7 : Hid (WideAt w7 u7 s7) := (show SetAt w7 u7 s7 from setAt_of hr7 hs7.1 hs7.2.2.2).wide
          have HN7 : Hid (wl = nums s7) := by
            show _ = _
            refine nums_eq hs7.1 HWR.out.1 fun n => ?_
            rw [HWR.out.2.1 n, hs7.2.1 n, mem_append, HL.out, mem_nums, HMM.out n]
          have hwl := HWR.out.2.2
          have HB7 := Lib.hid (HB6.out.trans (hb7.mono HB6.out.size))
          have HT7 := Lib.hid (HT6.out.below hb7)
          have HGI7 := Lib.hid (HGI6.out.below hb7)
          have HOI7 := Lib.hid (HOI.out.below hb7)
          have HWI7 := Lib.hid (HWI6.out.below hb7)
          clear hr7 hs7 hb7 HB6 HT6 HGI6 HOI HWI6 hx1 c0 c1 hob HOC0 HOC1
          go_wp2_with fail
          refine (is_ s7 _ _ w7 HS7.out (by rw [← HN7.out]; omega) (by rw [← HN7.out]; exact HWI7.out)).mono ?_
          rintro e w8 ⟨rfl, hb8⟩
          have HB8 := Lib.hid (HB7.out.trans (hb8.mono HB7.out.size))
          have HT8 := Lib.hid (HT7.out.below hb8)
          have HGI8 := Lib.hid (HGI7.out.below hb8)
          have HOI8 := Lib.hid (HOI7.out.below hb8)
          obtain ⟨_, _, e8, hob, c0, c1⟩ := oneSpan HT8.out.o
          injection e8 with e8
          injection e8 with e8 e9
          subst e8 e9
          clear hb8 HB7 HT7 HGI7 HOI7 HWI7 HS7 HN7
          go_wp2_with fail
          refine (drop s x1 su _ HT8.out.s HX1.out).mono ?_
          rintro e w9 ⟨u9, s9, rfl, hs9, hm9, hb9⟩
          have HN9 : Hid (o = nums s9) := by
            show _ = _
            rw [HO.out, HL.out]
            exact nums_sift HCS.out hs9.canon fun n => by rw [hm9 n]; simp only [Bool.not_eq_true', decide_eq_false_iff_not]; rw [HMM.out n]
          have HS9 := Lib.hid hs9.wide
          have HB9 := Lib.hid (HB8.out.trans (hb9.mono HB8.out.size))
          have HT9 := Lib.hid (HT8.out.below hb9)
          have HGI9 := Lib.hid (HGI8.out.below hb9)
          have HOI9 := Lib.hid (HOI8.out.below hb9)
          clear hs9 hm9 hb9 HB8 HT8 HGI8 HOI8 hob c0 c1
          go_wp2_with fail
          refine (is_ s9 _ _ w9 HS9.out (by rw [← HN9.out]; omega) (by rw [← HN9.out]; exact HOI9.out)).mono ?_
          rintro e w10 ⟨rfl, hb10⟩
          have HB10 := Lib.hid (HB9.out.trans (hb10.mono HB9.out.size))
          have HT10 := Lib.hid (HT9.out.below hb10)
          have HGI10 := Lib.hid (HGI9.out.below hb10)
          obtain ⟨_, _, e8, hob, c0, c1⟩ := oneSpan HT10.out.o
          injection e8 with e8
          injection e8 with e8 e9
          subst e8 e9
          clear hb10 HB9 HT9 HGI9 HOI9 HS9 HN9
          go_wp2_with fail
          refine (gaps s x1 su _ HT10.out.s HX1.out).mono ?_
          rintro e w11 ⟨u11, s11, rfl, hs11, hm11, hb11⟩
          have HN11 : Hid (gl = nums s11) := by
            show _ = _
            rw [HG.out]
            refine nums_eq hs11.canon (HMR.out.filter _) fun n => ?_
            rw [List.mem_filter, hm11 n, HMM.out n]
            simp only [Bool.not_eq_true', decide_eq_false_iff_not]
            rw [HL.out, mem_nums]
          have HS11 := Lib.hid hs11.wide
          have HB11 := Lib.hid (HB10.out.trans (hb11.mono HB10.out.size))
          have HT11 := Lib.hid (HT10.out.below hb11)
          have HGI11 := Lib.hid (HGI10.out.below hb11)
          clear hs11 hm11 hb11 HB10 HT10 HGI10 hob c0 c1
          go_wp2_with fail
          refine (is_ s11 _ _ w11 HS11.out (by rw [← HN11.out]; omega) (by rw [← HN11.out]; exact HGI11.out)).mono ?_
          rintro e w12 ⟨rfl, hb12⟩
          have HB12 := Lib.hid (HB11.out.trans (hb12.mono HB11.out.size))
          have HT12 := Lib.hid (HT11.out.below hb12)
          have hf12 := HT12.out.f
          rw [← HL.out] at hf12
          have HF12 := Lib.hid hf12
          clear hb12 hf12
          go_wp2_with fail
          refine (is_ s _ _ w12 HT12.out.s.wide (by rw [← HL.out]; omega) (by rw [← HL.out]; exact HF12.out)).mono ?_
          rintro e w13 ⟨rfl, hb13⟩
          go_wp2_with fail
          go_ret
          exact ⟨rfl, HB12.out.trans (hb13.mono HB12.out.size)⟩
end Go.Proofs.Ytimmineopkmdmaa
