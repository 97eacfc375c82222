/- The walk of the law GapsLists. Conditions: the slice lies as slices do, the numbers fit their kinds. -/
import Derived.Test.YtogbifggaomfjaaGapMovesLaw
namespace Go.Proofs.Ytogbifggaomfjaa
open Go.RowKit Sp Go.Sort
set_option linter.unusedVariables false
set_option linter.unusedSimpArgs false

theorem and255 (t : Int) : Go.bits .and .i64 t 255 = t % 256 := by
  have e3 : (BitVec.ofInt 64 255).toNat = 2 ^ 8 - 1 := by decide
  have e4 : (BitVec.ofInt 64 t &&& BitVec.ofInt 64 255).toNat = (t % 256).toNat := by
    rw [BitVec.toNat_and, BitVec.toNat_ofInt, e3, Nat.and_two_pow_sub_one_eq_mod]
    omega
  show IntKind.i64.wrap ((BitVec.ofInt 64 t &&& BitVec.ofInt 64 255).toNat : Nat) = _
  rw [e4, IntKind.wrap_i64]
  omega

theorem few_nums : ∀ {q : List Span}, Canon q → q.length ≤ (nums q).length
  | [], _ => Nat.zero_le _
  | x :: q, h => by
    obtain ⟨h1, _, h3⟩ := canon_cons.1 h
    have ih := few_nums h3
    rw [nums_cons, List.length_append, length_range, List.length_cons]
    omega

/-- How far a set goes: the number behind its last one. -/
def topOf (l : List Int) : Int := if l = [] then 0 else l.getD (l.length - 1) 0 + 1
theorem top_all {q : List Span} (hq : Canon q) (hb : ∀ x, x ∈ q → 0 ≤ x.1 ∧ x.2 ≤ 4096) : 0 ≤ topOf (nums q) ∧ topOf (nums q) ≤ 4096 ∧ ∀ x, x ∈ q → x.2 ≤ topOf (nums q) := by
  unfold topOf
  by_cases h : nums q = []
  · rw [if_pos h]
    refine ⟨by omega, by omega, fun x hx => ?_⟩
    have h1 := hq.1 x hx
    have : x.1 ∈ nums q := (mem_nums q x.1).2 ⟨x, hx, by omega, h1⟩
    rw [h] at this
    cases this
  · rw [if_neg h]
    have hpos : 0 < (nums q).length := by rcases hl : nums q with _ | ⟨a, r⟩; exact absurd hl h; simp
    have hlt : (nums q).length - 1 < (nums q).length := by omega
    have e : (nums q).getD ((nums q).length - 1) 0 = (nums q)[(nums q).length - 1] := by simp [List.getD, hlt]
    rw [e]
    obtain ⟨y, hy, h1, h2⟩ := (mem_nums q _).1 (List.getElem_mem hlt)
    have hby := hb y hy
    refine ⟨by omega, by omega, fun x hx => ?_⟩
    have hcx := hq.1 x hx
    have hm : x.2 - 1 ∈ nums q := (mem_nums q _).2 ⟨x, hx, by omega, by omega⟩
    obtain ⟨i, hi, he⟩ := List.getElem_of_mem hm
    have hr := nums_rise hq
    by_cases hil : i = (nums q).length - 1
    · subst hil; omega
    · have := List.pairwise_iff_getElem.1 hr i ((nums q).length - 1) hi hlt (by omega)
      omega

set_option maxHeartbeats 8000000 in
set_option maxRecDepth 100000 in
theorem walk_GapsLists (b0 : Int) (A : Option Addr) (len cap : Nat) (n : Int) (w : World) (ps : Nat → Int × Int) (h : PairRow w A len ps) (hb : -9223372036854775808 ≤ b0 ∧ b0 ≤ 9223372036854775807) (hn : -9223372036854775808 ≤ n ∧ n ≤ 9223372036854775807) :
    Calls Try.prog 5 #[.int .i64 b0, .slice A len cap, .int .i64 n] w fun e w' => e = .returned (.bool true) ∧ Below w.heap.size w w' := by
  have HP := Lib.hid h
  have HLO := Lib.hid (fun W => seq_of b0 W hb.1 hb.2)
  have hbd : 0 ≤ b0 % 16777216 ∧ b0 % 16777216 < 16777216 := by omega
  clear h hb
  generalize b0 % 16777216 = b at *
  obtain ⟨i0, hi, hz0, hz1, hz2⟩ := info_parts infoInt0
  have Hi := Lib.hid hi
  have Hz0 := Lib.hid hz0
  have Hz1 := Lib.hid hz1
  have Hz2 := Lib.hid hz2
  clear hi hz0 hz1 hz2
  go_enter Try.func5, Try.ntmps5
  go_wp2_with fail
  refine (gap_awake _).mono ?_
  rintro e w1 ⟨rfl, hb1⟩
  have HB1 := Lib.hid hb1
  have HP1 := Lib.hid (HP.out.below hb1)
  clear hb1
  go_wp2_with fail
  refine (few ps A len cap _ HP1.out).mono ?_
  rintro e w2 ⟨fu, fv, out, all, rfl, hr, hi, hol, hF, _, hb2⟩
  have HB2 := Lib.hid (HB1.out.trans (hb2.mono HB1.out.size))
  have HR2 := Lib.hid hr
  have HI2 := Lib.hid hi
  have HF := Lib.hid hF
  have hlo : out.length ≤ 12 := by omega
  have hal : all.length ≤ 480 := by have := hF.few; omega
  have HAB : Hid (∀ x, x ∈ all → -101 ≤ x ∧ x ≤ 101) := fun x hx => by
    obtain ⟨y, hy, h1, h2⟩ := (hF.mem x).1 hx
    have := hF.tiny y hy
    omega
  clear hr hi hol hF hb2
  obtain ⟨fa, fc, rfl⟩ := HI2.out.form
  go_wp2_with fail
  go_loopw [9, 27] (fun a i wr => ∃ (k : Nat) (v : Value) (o : List Int), k ≤ all.length ∧ v = a ∧ i = .int .i64 k ∧ o.length ≤ k ∧ Hid (o = (all.take k).filter fun n => decide (0 ≤ n)) ∧ Hid (wr.ownsRow w2.heap.size 3 1 v o.length (o.map (Value.int .i64))) ∧ Hid (Below w2.heap.size w2 wr)) (fun _ i _ => all.length - (intOf i).toNat)
  case atStart => exact ⟨0, _, [], by omega, rfl, rfl, by simp, (by show _ = _; simp), World.ownsRow_nil _ _ _ _, Below.refl _ _⟩
  case round =>
    obtain ⟨k, v, o, hk, rfl, rfl, hol, HO, HW, HC⟩ := hrel
    by_cases hlt : k < all.length
    · have ex := List.getElem?_eq_getElem hlt
      obtain ⟨g, off, rfl, hbl, c0⟩ := (HI2.out.below HC.out).get ex
      have HNX := Lib.hid (filter_next (p := fun n => decide ((0 : Int) ≤ n)) hlt)
      have hyb := HAB.out _ (List.getElem_mem hlt)
      clear ex
      generalize all[k] = y at *
      by_cases hy : 0 ≤ y
      · have HN2 : Hid (o ++ [y] = (all.take (k + 1)).filter fun n => decide (0 ≤ n)) := by show _ = _; rw [HNX.out, if_pos (by simpa using hy), HO.out]
        go_wp2_with (at_builtin; refine wpList_append_src _ rfl (.tmp 33) (.tmp 35) 45 rfl w2.heap.size 3 i0 (.int .i64 0) 1 8 Try.underlying45 Hi.out Hz0.out Hz1.out Hz2.out rfl (by decide) v o.length (o.map (Value.int .i64)) rfl (World.ownsRow.alloc HW.out _) (some ⟨_, 0, none⟩) 1 1 [.int .i64 y] rfl rfl (fun h => by cases h) (one_src (one_new _ _ _)) (fun u hu => by simp at hu; subst hu; rfl) (by unfold maxLen; omega) (by omega) (by have := HC.out.size; rw [World.size_alloc]; omega) ?_; intro v5 w6 hown4 hg4 _; have HO5 := Lib.hid hown4; have HC5 := Lib.hid ((HC.out.alloc HC.out.size _).grown hg4 (by rw [World.size_alloc]; have := HC.out.size; omega) (fun j hj => (HW.out.lt j hj).1)); clear hown4 hg4)
        go_roundw
        case rel => exact ⟨k + 1, v5, o ++ [y], by omega, rfl, by go_num, by simp; omega, HN2, by have h := HO5.out; rw [List.length_append, List.map_append]; exact h, HC5⟩
        case measure => simp [intOf]; omega
      · have HN2 : Hid (o = (all.take (k + 1)).filter fun n => decide (0 ≤ n)) := by show _ = _; rw [HNX.out, if_neg (by simpa using hy), HO.out]
        go_wp2_with fail
        go_roundw
        case rel => exact ⟨k + 1, v, o, by omega, rfl, by go_num, by omega, HN2, HW, HC⟩
        case measure => simp [intOf]; omega
    · have hks : k = all.length := by omega
      subst hks
      rw [List.take_of_length_le (Nat.le_refl _)] at HO
      have HIO := Lib.hid (intRow_own HW.out (by omega))
      have HB := Lib.hid (HB2.out.trans (HC.out.mono HB2.out.size))
      have HR3 := Lib.hid (HR2.out.below HC.out)
      clear HC HW HI2 HR2 HB2
      go_wp2_with (go_at_call 27; refine (HLO.out _).mono ?_; rintro e w' ⟨rfl, rfl⟩)
      refine (of_ out _ _ HR3.out (by omega) HF.out.small).mono ?_
      rintro e w3 ⟨su, s, rfl, hsu, hs, hb3⟩
      have HB3 := Lib.hid (HB.out.trans (hb3.mono HB.out.size))
      have HS3 := Lib.hid (IsSet.setAt hsu hs (by omega))
      have HNU := Lib.hid (HF.out.nums hs)
      have HSL : Hid (s.length ≤ 12) := by have := hs.2.2.1; show _ ≤ _; omega
      have HIO3 := Lib.hid (HIO.out.below hb3)
      clear hsu hs hb3 HR3 HIO HB
      go_wp2_with fail
      refine (g_list b s su _ HS3.out.wide hbd.1 (by omega) (by have := HSL.out; omega)).mono ?_
      rintro e w4 ⟨ua, q, rfl, hq, hm, hr4, hb4⟩
      have HB4 := Lib.hid (HB3.out.trans (hb4.mono HB3.out.size))
      have HR4 := Lib.hid hr4
      have HQ := Lib.hid hq
      have HM := Lib.hid hm
      have HSM := Lib.hid (small_of_mem hq (fun m h => ((hm m).1 h).1) HS3.out.small)
      have HSM2 := Lib.hid (small_len hq (fun m h => ((hm m).1 h).1) HS3.out.small)
      have HQB : Hid (∀ x, x ∈ q → 0 ≤ x.1 ∧ x.1 < x.2 ∧ x.2 ≤ 4096) := fun x hx => by
        have c := hq.1 x hx
        have m1 := ((hm x.1).1 ⟨x, hx, by omega, c⟩).2
        have m2 := HSM.out x hx
        unfold Small at m2
        omega
      have HE : Hid (o = nums q) := by
        show _ = _
        rw [HO.out, HNU.out]
        exact nums_sift HS3.out.canon hq fun m => by
          rw [hm m, decide_eq_true_eq]
          exact ⟨fun h => ⟨h.1, h.2.1⟩, fun h => ⟨h.1, h.2, by
            obtain ⟨y, hy, h1, h2⟩ := h.1
            have := HS3.out.small y hy
            unfold Small at this
            omega⟩⟩
      have HIO4 := Lib.hid (HIO3.out.below hb4)
      clear hq hm hr4 hb4 HIO3 HO
      have HOB : Hid (∀ x, x ∈ o → 0 ≤ x ∧ x ≤ 4096) := fun x hx => by
        rw [HE.out] at hx
        obtain ⟨y, hy, h1, h2⟩ := (mem_nums q x).1 hx
        have := HQB.out y hy
        omega
      have HPR : Hid (pairs b [] none o = prs b q) := by show _ = _; rw [HE.out]; exact pairs_nums b HQ.out
      have HTOP : Hid (0 ≤ topOf o ∧ topOf o ≤ 4096 ∧ ∀ x, x ∈ q → x.2 ≤ topOf o) := by rw [HE.out]; exact top_all HQ.out (fun x hx => by have := HQB.out x hx; omega)
      have HLEN : Hid (lenOf q = (o.length : Int)) := by show _ = _; rw [HE.out]; exact lenOf_nums HQ.out
      have hol2 : o.length ≤ 480 := by omega
      have HREF := Lib.hid (ref_pairs b v o w4 HIO4.out (by omega) (fun x hx => by have := HOB.out x hx; omega) hbd)
      go_wp2_with fail
      refine HREF.out.mono ?_
      rintro e w5 ⟨vp, rfl, hvp, hb5⟩
      rw [HPR.out] at hvp
      have HB5 := Lib.hid (HB4.out.trans (hb5.mono HB4.out.size))
      have HX5 := Lib.hid (HR4.out.below hb5)
      have HSAM := Lib.hid (num_same ua vp (prs b q) w5 HX5.out hvp (fun x hx => by have := prs_bd b q x hx; omega))
      have HIO5 := Lib.hid (HIO4.out.below hb5)
      clear hvp hb5 HREF HR4 HIO4
      go_wp2_with fail
      refine HSAM.out.mono ?_
      rintro e w6 ⟨rfl, nq, rfl⟩
      have HB6 := Lib.hid (below_drewN' HB5.out nq)
      have HX6 := Lib.hid (HX5.out.drewN nq)
      have HIO6 := Lib.hid (HIO5.out.drewN nq)
      generalize w5.drewN nq = w6 at *
      have HCN := Lib.hid (g_count (prs b q) ua w6 HX6.out (fun x hx => by have := prs_bd b q x hx; omega))
      rw [cnt_prs b q HSM2.out.1, HLEN.out] at HCN
      obtain ⟨oa, oc, rfl⟩ := HIO6.out.form
      have hne : ((o.length : Int) != (o.length : Int)) = false := by simp
      clear HSAM HX5 HIO5 HB5
      go_wp2_with fail
      refine HCN.out.mono ?_
      rintro e w7 ⟨rfl, hb7⟩
      have HB7 := Lib.hid (HB6.out.trans (hb7.mono HB6.out.size))
      have HX7 := Lib.hid (HX6.out.below hb7)
      have HIO7 := Lib.hid (HIO6.out.below hb7)
      clear hb7 HCN HX6 HIO6 HB6
      have HTT : Hid (∃ T, T = topOf o) := ⟨_, rfl⟩
      obtain ⟨T, hT⟩ := HTT.out
      have HT := Lib.hid hT
      have hT0 : 0 ≤ T ∧ T ≤ 4096 := by rw [hT]; exact ⟨HTOP.out.1, HTOP.out.2.1⟩
      clear hT HTT
      have hA := and255 n
      have hn2 : 0 ≤ n % 256 ∧ n % 256 < 256 := by omega
      generalize n % 256 = r at *
      have HAD := Lib.hid (fun W => seq_add b (T + r) W hbd.1 (by omega) (by omega) (by omega))
      have HTO : Hid (∀ W u, NumRow W u (prs b q) → Calls Try.prog 19 #[.int .u32 b, .int .u32 ((b + (T + r)) % 16777216), u] W fun e w' => ∃ u, e = .returned (.tuple #[u, .bool true]) ∧ WideAt w' u q ∧ Below W.heap.size W w') := fun W u hu => by
        refine (g_set b ((b + (T + r)) % 16777216) (prs b q) u W hu hbd.1 (by omega) (by omega) (by omega) (fun x hx => by have := prs_bd b q x hx; omega) (by rw [prs_length]; have := few_nums HQ.out; rw [← HE.out] at this; omega)).mono ?_
        rintro e w' ⟨hh, hb⟩
        rw [if_pos ⟨by rw [prs_length]; omega, by omega, rise_prs b _ q (-1) HQ.out (fun x hx => by have := HQB.out x hx; have := HTOP.out.2.2 x hx; rw [← HT.out] at this; omega)⟩, spansOf_prs b q (fun x hx => by have := HQB.out x hx; omega)] at hh
        obtain ⟨u', h1, h2⟩ := hh
        exact ⟨u', h1, h2, hb⟩
      have HLI := Lib.hid (fun W u (hu : WideAt W u q) => list q u W hu (by rw [← HE.out]; omega))
      have HSS := Lib.hid (fun W u v (hu : IntRow W u o) (hv : IntRow W v o) => (ref_same u v o o W hu hv).mono (fun e w' (hh : e = _ ∧ _) => (⟨by rw [hh.1, sameB, decide_eq_true rfl], hh.2⟩ : e = .returned (.bool true) ∧ ∃ q, w' = W.drewN q)))
      rw [← HE.out] at HLI
      by_cases h0 : o = []
      · have hT0' : T = 0 := by rw [HT.out]; unfold topOf; rw [if_pos h0]
        have hl0 : decide ((0 : Int) < (o.length : Int)) = false := by rw [h0]; rfl
        have hl1 : decide (0 < o.length) = false := by rw [h0]; rfl
        have hl2 : ¬ (0 < o.length) := by rw [h0]; simp
        have HTO0 : Hid (T = 0) := hT0'
        have HAD0 : Hid (∀ W, Calls Try.prog 20 #[.int .u32 b, .int .i64 r] W fun e w' => e = .returned (.int .u32 ((b + (T + r)) % 16777216)) ∧ W = w') := by have h := HAD.out; rw [show T + r = r by omega] at h; rw [show T + r = r by omega]; exact h
        generalize (b + (T + r)) % 16777216 = y at *
        clear h0 hT0'
        go_wp2_with (go_at_call 20; refine (HAD0.out _).mono ?_; rintro e w' ⟨rfl, rfl⟩)
        refine (HTO.out _ _ HX7.out).mono ?_
        rintro e w8 ⟨u8, rfl, hw8, hb8⟩
        have HB8 := Lib.hid (HB7.out.trans (hb8.mono HB7.out.size))
        have HW8 := Lib.hid hw8
        have HIO8 := Lib.hid (HIO7.out.below hb8)
        clear hw8 hb8
        go_wp2_with fail
        refine (HLI.out _ _ HW8.out).mono ?_
        rintro e w9 ⟨v9, rfl, hv9, hb9⟩
        have HB9 := Lib.hid (HB8.out.trans (hb9.mono HB8.out.size))
        have HV9 := Lib.hid hv9
        have HIO9 := Lib.hid (HIO8.out.below hb9)
        clear hv9 hb9
        go_wp2_with fail
        refine (HSS.out _ _ _ HV9.out HIO9.out).mono ?_
        rintro e w10 ⟨rfl, q10, rfl⟩
        go_wp2_with fail
        go_ret
        exact ⟨rfl, below_drewN' HB9.out _⟩
      · have hpos : 0 < o.length := by rcases hl : o with _ | ⟨a, r⟩; exact absurd hl h0; simp
        have ez : o[o.length - 1]? = some (T - 1) := by
          have hT := HT.out
          unfold topOf at hT
          rw [if_neg h0] at hT
          rw [List.getElem?_eq_getElem (by omega)]
          simp [List.getD, show o.length - 1 < o.length by omega] at hT
          rw [hT]; congr 1; omega
        obtain ⟨g, off, hoa, hbl, c0⟩ := HIO7.out.get ez
        subst hoa
        have hl0 : decide ((0 : Int) < (o.length : Int)) = true := by simp; omega
        have hl1 : decide (0 < o.length) = true := by simp; omega
        have hm0 : (0 : Int) ≤ (o.length : Int) - 1 := by omega
        have hm1 : (o.length : Int) - 1 < (o.length : Int) := by omega
        clear h0 ez
        have htt : T - 1 + 1 = T := by omega
        generalize T - 1 = t0 at *
        have HAD0 : Hid (∀ W, Calls Try.prog 20 #[.int .u32 b, .int .i64 (t0 + 1 + r)] W fun e w' => e = .returned (.int .u32 ((b + (T + r)) % 16777216)) ∧ W = w') := by rw [htt]; exact HAD.out
        generalize (b + (T + r)) % 16777216 = y at *
        have HTT := Lib.hid htt
        have ht0 : -1 ≤ t0 ∧ t0 ≤ 4096 := by omega
        clear htt
        go_wp2_with (go_at_call 20; refine (HAD0.out _).mono ?_; rintro e w' ⟨rfl, rfl⟩)
        refine (HTO.out _ _ HX7.out).mono ?_
        rintro e w8 ⟨u8, rfl, hw8, hb8⟩
        have HB8 := Lib.hid (HB7.out.trans (hb8.mono HB7.out.size))
        have HW8 := Lib.hid hw8
        have HIO8 := Lib.hid (HIO7.out.below hb8)
        clear hw8 hb8
        go_wp2_with fail
        refine (HLI.out _ _ HW8.out).mono ?_
        rintro e w9 ⟨v9, rfl, hv9, hb9⟩
        have HB9 := Lib.hid (HB8.out.trans (hb9.mono HB8.out.size))
        have HV9 := Lib.hid hv9
        have HIO9 := Lib.hid (HIO8.out.below hb9)
        clear hv9 hb9
        go_wp2_with fail
        refine (HSS.out _ _ _ HV9.out HIO9.out).mono ?_
        rintro e w10 ⟨rfl, q10, rfl⟩
        go_wp2_with fail
        go_ret
        exact ⟨rfl, below_drewN' HB9.out _⟩
end Go.Proofs.Ytogbifggaomfjaa
