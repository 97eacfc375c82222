/- The walk of the law SpanApart. Conditions: the slice lies as a slice does, the spans' ends are 64-bit numbers. -/
import Derived.Test.YtimmineopkmdmaaSpanApartSets
namespace Go.Proofs.Ytimmineopkmdmaa
open Go.RowKit Sp Go.Sort
set_option linter.unusedVariables false
set_option linter.unusedSimpArgs false

theorem pairRow_two (w : World) (a b c d : Int) (t : TypeId) (ha : -9223372036854775808 ≤ a ∧ a ≤ 9223372036854775807) (hb : -9223372036854775808 ≤ b ∧ b ≤ 9223372036854775807) (hc : -9223372036854775808 ≤ c ∧ c ≤ 9223372036854775807) (hd : -9223372036854775808 ≤ d ∧ d ≤ 9223372036854775807) :
    PairRow (w.alloc (.cells #[.int .i64 a, .int .i64 b, .int .i64 c, .int .i64 d] t)) (some ⟨w.heap.size, 0, none⟩) 2 (fun i => if i = 0 then (a, b) else (c, d)) := by
  refine ⟨by decide, .inr ⟨w.heap.size, 0, rfl, by simp, fun i hi => ?_⟩⟩
  have hn := heap_alloc_new w (.cells #[.int .i64 a, .int .i64 b, .int .i64 c, .int .i64 d] t)
  rcases (show i = 0 ∨ i = 1 by omega) with rfl | rfl
  · exact ⟨by rw [cell_of_row _ _ _ _ _ (0, 0) hn]; rfl, by rw [cell_of_row _ _ _ _ _ (0, 0) hn]; rfl, ha.1, ha.2, hb.1, hb.2⟩
  · exact ⟨by rw [cell_of_row _ _ _ _ _ (0, 0) hn]; rfl, by rw [cell_of_row _ _ _ _ _ (0, 0) hn]; rfl, hc.1, hc.2, hd.1, hd.2⟩

theorem two_boxes (w : World) (x0 x1 y0 y1 : Value) (t : TypeId) : w.heap.size < (((w.alloc (.cells #[x0, x1] t)).alloc (.cells #[y0, y1] t)).drew).heap.size ∧ w.heap.size + 1 < (((w.alloc (.cells #[x0, x1] t)).alloc (.cells #[y0, y1] t)).drew).heap.size ∧
    (((w.alloc (.cells #[x0, x1] t)).alloc (.cells #[y0, y1] t)).drew).cell? ⟨w.heap.size, 0, none⟩ = some x0 ∧ (((w.alloc (.cells #[x0, x1] t)).alloc (.cells #[y0, y1] t)).drew).cell? ⟨w.heap.size, 1, none⟩ = some x1 ∧
    (((w.alloc (.cells #[x0, x1] t)).alloc (.cells #[y0, y1] t)).drew).cell? ⟨w.heap.size + 1, 0, none⟩ = some y0 ∧ (((w.alloc (.cells #[x0, x1] t)).alloc (.cells #[y0, y1] t)).drew).cell? ⟨w.heap.size + 1, 1, none⟩ = some y1 ∧
    Below w.heap.size w (((w.alloc (.cells #[x0, x1] t)).alloc (.cells #[y0, y1] t)).drew) := by
  have hsa : (w.alloc (.cells #[x0, x1] t)).heap.size = w.heap.size + 1 := by simp
  obtain ⟨a0, a1⟩ := two_new w x0 x1 t
  obtain ⟨b0, b1⟩ := two_new (w.alloc (.cells #[x0, x1] t)) y0 y1 t
  have hba := (Below.refl _ (w.alloc (.cells #[x0, x1] t))).alloc (Nat.le_refl _) (.cells #[y0, y1] t)
  rw [hsa] at b0 b1
  rw [← hba.cell (p := ⟨w.heap.size, 0, none⟩) (by rw [hsa]; exact Nat.lt_succ_self _)] at a0
  rw [← hba.cell (p := ⟨w.heap.size, 1, none⟩) (by rw [hsa]; exact Nat.lt_succ_self _)] at a1
  refine ⟨?_, ?_, a0, a1, b0, b1, ((((Below.refl _ w).alloc (Nat.le_refl _) _).alloc (by simp) _)).drew⟩
  · show w.heap.size < ((w.alloc (.cells #[x0, x1] t)).alloc (.cells #[y0, y1] t)).heap.size
    simp; omega
  · show w.heap.size + 1 < ((w.alloc (.cells #[x0, x1] t)).alloc (.cells #[y0, y1] t)).heap.size
    simp

set_option maxHeartbeats 1000000 in
set_option maxRecDepth 100000 in
theorem walk_SpanApart (A : Option Addr) (len cap : Nat) (a b c d : Int) (w : World) (ps : Nat → Int × Int) (h : PairRow w A len ps) (ha : -9223372036854775808 ≤ a ∧ a ≤ 9223372036854775807) (hb : -9223372036854775808 ≤ b ∧ b ≤ 9223372036854775807)
    (hc : -9223372036854775808 ≤ c ∧ c ≤ 9223372036854775807) (hd : -9223372036854775808 ≤ d ∧ d ≤ 9223372036854775807) :
    Calls Try.prog 6 #[.slice A len cap, .agg #[.int .i64 a, .int .i64 b], .agg #[.int .i64 c, .int .i64 d]] w fun e w' => e = .returned (.bool true) ∧ Below w.heap.size w w' := by
  have HP := Lib.hid h
  have HAR := Lib.hid (And.intro (And.intro ha hb) (And.intro hc hd))
  clear h ha hb hc hd
  have hb0 : Below w.heap.size w ((w.alloc (.cells #[.int .i64 a, .int .i64 b] 35)).alloc (.cells #[.int .i64 c, .int .i64 d] 35)) := ((Below.refl _ w).alloc (Nat.le_refl _) _).alloc (by simp) _
  obtain ⟨x0, x1⟩ := two_new w (.int .i64 a) (.int .i64 b) 35
  obtain ⟨y0, y1⟩ := two_new (w.alloc (.cells #[.int .i64 a, .int .i64 b] 35)) (.int .i64 c) (.int .i64 d) 35
  have hba := (Below.refl _ (w.alloc (.cells #[.int .i64 a, .int .i64 b] 35))).alloc (Nat.le_refl _) (.cells #[.int .i64 c, .int .i64 d] 35)
  have hsa : (w.alloc (.cells #[.int .i64 a, .int .i64 b] 35)).heap.size = w.heap.size + 1 := by simp
  rw [hsa] at y0 y1
  rw [← hba.cell (p := ⟨w.heap.size, 0, none⟩) (by rw [hsa]; exact Nat.lt_succ_self _)] at x0
  rw [← hba.cell (p := ⟨w.heap.size, 1, none⟩) (by rw [hsa]; exact Nat.lt_succ_self _)] at x1
  have HX0 := Lib.hid x0
  have HX1 := Lib.hid x1
  have HY0 := Lib.hid y0
  have HY1 := Lib.hid y1
  have HB0 := Lib.hid hb0
  have hg0 : w.heap.size + 1 < ((w.alloc (.cells #[.int .i64 a, .int .i64 b] 35)).alloc (.cells #[.int .i64 c, .int .i64 d] 35)).heap.size := by simp
  clear hb0 x0 x1 y0 y1 hba hsa
  go_enter Try.func6, Try.ntmps6
  go_upto_region 1 with fail
  generalize (w.alloc (.cells #[.int .i64 a, .int .i64 b] 35)).alloc (.cells #[.int .i64 c, .int .i64 d] 35) = w0 at *
  go_wp2_with fail
  refine (span_awake _).mono ?_
  rintro e w1 ⟨rfl, hb1⟩
  have HB1 := Lib.hid (HB0.out.trans (hb1.mono HB0.out.size))
  have HP1 := Lib.hid (HP.out.below HB1.out)
  have hg1 : w.heap.size + 1 < w1.heap.size := Nat.lt_of_lt_of_le hg0 hb1.size
  have HC1 := Lib.hid hb1
  clear hb1
  go_wp2_with fail
  refine (few ps A len cap _ HP1.out).mono ?_
  rintro e w2 ⟨fu, fv, out, all, rfl, hr, hi, hol, hF, _, hb2⟩
  have HB2 := Lib.hid (HB1.out.trans (hb2.mono HB1.out.size))
  have HC2 := Lib.hid (HC1.out.trans (hb2.mono HC1.out.size))
  have HR2 := Lib.hid hr
  have HI2 := Lib.hid hi
  have HF := Lib.hid hF
  have hlo : out.length ≤ 12 := by omega
  have x0 : w2.cell? ⟨w.heap.size, 0, none⟩ = some (.int .i64 a) := by rw [HC2.out.cell (p := ⟨w.heap.size, 0, none⟩) (by simp; omega)]; exact HX0.out
  have x1 : w2.cell? ⟨w.heap.size, 1, none⟩ = some (.int .i64 b) := by rw [HC2.out.cell (p := ⟨w.heap.size, 1, none⟩) (by simp; omega)]; exact HX1.out
  have y0 : w2.cell? ⟨w.heap.size + 1, 0, none⟩ = some (.int .i64 c) := by rw [HC2.out.cell (p := ⟨w.heap.size + 1, 0, none⟩) (by simp; omega)]; exact HY0.out
  have y1 : w2.cell? ⟨w.heap.size + 1, 1, none⟩ = some (.int .i64 d) := by rw [HC2.out.cell (p := ⟨w.heap.size + 1, 1, none⟩) (by simp; omega)]; exact HY1.out
  have HPO := Lib.hid (pairRow_two w2 a b c d 35 HAR.out.1.1 HAR.out.1.2 HAR.out.2.1 HAR.out.2.2)
  have hba : Below w2.heap.size w2 (w2.alloc (.cells #[.int .i64 a, .int .i64 b, .int .i64 c, .int .i64 d] 35)) := (Below.refl _ w2).alloc (Nat.le_refl _) _
  have HBA := Lib.hid (HB2.out.trans (hba.mono HB2.out.size))
  have HRA := Lib.hid (HR2.out.below hba)
  have HIA := Lib.hid (HI2.out.below hba)
  clear hr hi hol hF hb2 hba HI2 HR2 HX0 HX1 HY0 HY1 HC1 HC2 hg0 hg1
  go_wp2_with fail
  refine (few _ _ 2 2 _ HPO.out).mono ?_
  rintro e w3 ⟨ou, mv, two, M, rfl, hr, hi, hol, hF', _, hb3⟩
  obtain ⟨p, q, rfl⟩ : ∃ p q, two = [p, q] := by
    match two, hol with
    | [p, q], _ => exact ⟨p, q, rfl⟩
    | [], h => simp at h
    | [_], h => simp at h
    | _ :: _ :: _ :: _, h => simp at h
  have HB3 := Lib.hid (HBA.out.trans (hb3.mono HBA.out.size))
  have HR3 := Lib.hid (HRA.out.below hb3)
  have HI3 := Lib.hid (HIA.out.below hb3)
  have HSP := Lib.hid (hF'.small p (by simp))
  have HSQ := Lib.hid (hF'.small q (by simp))
  obtain ⟨oa, oc, rfl⟩ : ∃ A cap, ou = .slice A 2 cap := by obtain ⟨A, cap, e, _⟩ := hr; exact ⟨A, cap, e⟩
  obtain ⟨ob, oo, rfl, hob, p0, p1⟩ := hr.get (k := 0) (x := p) rfl
  obtain ⟨_, _, e8, _, q0, q1⟩ := hr.get (k := 1) (x := q) rfl
  injection e8 with e8
  injection e8 with e8 e9
  subst e8 e9
  rw [Nat.zero_mul, Nat.add_zero] at p0 p1
  rw [Nat.one_mul] at q0 q1
  clear hr hi hol hF' hb3 HRA HIA HPO HBA x0 x1 y0 y1
  generalize w2.alloc (.cells #[.int .i64 a, .int .i64 b, .int .i64 c, .int .i64 d] 35) = w2a at *
  obtain ⟨pa, hpa⟩ : ∃ x, x = p.1 := ⟨_, rfl⟩
  obtain ⟨pb, hpb⟩ : ∃ x, x = p.2 := ⟨_, rfl⟩
  obtain ⟨qa, hqa⟩ : ∃ x, x = q.1 := ⟨_, rfl⟩
  obtain ⟨qb, hqb⟩ : ∃ x, x = q.2 := ⟨_, rfl⟩
  have HPP : Hid (p = (pa, pb)) := by rw [hpa, hpb]; rfl
  have HQQ : Hid (q = (qa, qb)) := by rw [hqa, hqb]; rfl
  rw [← hpa] at p0
  rw [← hpb] at p1
  rw [← hqa] at q0
  rw [← hqb] at q1
  clear hpa hpb hqa hqb
  go_upto_region 5 with fail
  go_cut [11, 12] (fun s11 s12 w' => ∃ (w4 : World) (ga gb : Nat), w4 = w' ∧ s11 = .pointer (some ⟨ga, 0, none⟩) ∧ s12 = .pointer (some ⟨gb, 0, none⟩) ∧ ga < w'.heap.size ∧ gb < w'.heap.size ∧ w'.cell? ⟨ga, 0, none⟩ = some (.int .i64 pa) ∧ w'.cell? ⟨ga, 1, none⟩ = some (.int .i64 pb) ∧ w'.cell? ⟨gb, 0, none⟩ = some (.int .i64 qa) ∧ w'.cell? ⟨gb, 1, none⟩ = some (.int .i64 qb) ∧ Hid (Below w3.heap.size w3 w'))
  case first =>
    go_region
    all_goals go_wp2_with fail
    all_goals go_meet
    · obtain ⟨h1, h2, h3, h4, h5, h6, h7⟩ := two_boxes w3 (.int .i64 pa) (.int .i64 pb) (.int .i64 qa) (.int .i64 qb) 35
      exact ⟨_, _, _, rfl, rfl, rfl, h1, h2, h3, h4, h5, h6, h7⟩
    · obtain ⟨h1, h2, h3, h4, h5, h6, h7⟩ := two_boxes w3 (.int .i64 qa) (.int .i64 qb) (.int .i64 pa) (.int .i64 pb) 35
      exact ⟨_, _, _, rfl, rfl, rfl, h2, h1, h5, h6, h3, h4, h7⟩
  case rest =>
    obtain ⟨w4, ga, gb, rfl, rfl, rfl, hga, hgb, u0, u1, v0, v1, H4⟩ := hcut
    have HB4 := Lib.hid (HB3.out.trans (H4.out.mono HB3.out.size))
    have HR4 := Lib.hid (HR3.out.below H4.out)
    have HI4 := Lib.hid (HI3.out.below H4.out)
    clear p0 p1 q0 q1 H4 HB3 HR3 HI3
    go_wp2_with fail
    refine (of_ out _ _ HR4.out (by omega) HF.out.small).mono ?_
    rintro e w5 ⟨su, s, rfl, hsu, hs, hb5⟩
    have HS5 := Lib.hid (IsSet.setAt hsu hs (by omega))
    have HE := Lib.hid (HF.out.nums hs)
    have HI5 : Hid (IntRow w5 fv (nums s)) := by rw [← HE.out]; exact HI4.out.below hb5
    have HB5 := Lib.hid (HB4.out.trans (hb5.mono HB4.out.size))
    have hnl : (nums s).length ≤ 480 := by rw [← HE.out]; have := HF.out.few; omega
    have hga5 : ga < w5.heap.size := Nat.lt_of_lt_of_le hga hb5.size
    have hgb5 : gb < w5.heap.size := Nat.lt_of_lt_of_le hgb hb5.size
    rw [← hb5.cell (p := ⟨ga, 0, none⟩) hga] at u0
    rw [← hb5.cell (p := ⟨ga, 1, none⟩) hga] at u1
    rw [← hb5.cell (p := ⟨gb, 0, none⟩) hgb] at v0
    rw [← hb5.cell (p := ⟨gb, 1, none⟩) hgb] at v1
    clear hsu hb5 HB4 HR4 HI4 HE
    by_cases hmm : max pa qa ≤ min pb qb
    · have hd : decide (max pa qa ≤ min pb qb) = true := by simp only [decide_eq_true_eq]; exact hmm
      have HMM := Lib.hid hmm
      clear hmm
      go_wp2_with fail
      refine (is_ s _ _ w5 HS5.out.wide (by omega) HI5.out).mono ?_
      rintro e w6 ⟨rfl, hb6⟩
      go_wp2_with fail
      go_ret
      exact ⟨rfl, HB5.out.trans (hb6.mono HB5.out.size)⟩
    · have hd : decide (max pa qa ≤ min pb qb) = false := by simp only [decide_eq_false_iff_not]; exact hmm
      obtain ⟨SA, SAmB, SmB, SAB, SB, SmA, SmAB, G, hsets⟩ := Ap.sets_of s p q su ga gb hs.1 hs.2.2.2 HSP.out HSQ.out (fun n ⟨h1, h2⟩ => by
        rw [mem_one, HPP.out] at h1
        rw [mem_one, HQQ.out] at h2
        simp only at h1 h2
        omega)
      have HS := Lib.hid hsets
      have HMM := Lib.hid hmm
      clear hmm hsets hs
      go_wp2_with fail
      rename_i K hK
      refine Reg.wp_region_named (fun a0 ha0 => ?_)
      have h11 : a0.tmps.getD 11 undef = .pointer (some ⟨ga, 0, none⟩) := by rw [ha0]; rfl
      have h12 : a0.tmps.getD 12 undef = .pointer (some ⟨gb, 0, none⟩) := by rw [ha0]; rfl
      have h13 : a0.tmps.getD 13 undef = su := by rw [ha0]; rfl
      have hs0 : a0.tmps.size = 101 := by rw [ha0]; rfl
      have hd0 : a0.defers = [] := by rw [ha0]
      clear ha0
      refine Reg.wp_region_inv (Ap.Inv ⟨s, p, q, su, ga, gb, SA, SAmB, SmB, SAB, SB, SmA, SmAB, G⟩ w5 a0) (by kernel_rfl) (Reg.hac_of (by kernel_rfl)) ?_ ?_ ?_
      · have hrep : ∀ j, j < 52 → (Array.replicate 52 false).getD j true = false := fun j hj => by simp [hj]
        refine ⟨rfl, hs0, fun _ _ => rfl, fun j hj hL => ?_, HS5.out.below (below_drewN' (Below.refl _ _) 1), hga5, hgb5, ⟨?_, ?_⟩, ⟨?_, ?_⟩, below_drewN' (Below.refl _ _) 1⟩
        · have hL2 : (Array.replicate 52 false).getD j true = true := hL
          rw [hrep j hj] at hL2; cases hL2
        · rw [HPP.out]; exact u0
        · rw [HPP.out]; exact u1
        · rw [HQQ.out]; exact v0
        · rw [HQQ.out]; exact v1
      · intro i o ho L a1 w1 hsz hI hL hE
        have hi : i < 52 := (Array.getElem?_eq_some_iff.1 ho).1
        have hsz : L.size = 52 := hsz
        revert hE
        match i, hi, ho, hL with
        | 0, _, ho, hL =>
          cases ho
          intro hE
          have e13 : a1.eval (.tmp 13) = _ := (hI.rest 13 (fun j hj => by unfold Ap.dst; split <;> omega)).trans h13
          exact Ap.stepRun hI hsz (by omega) rfl (Ap.wanted_none rfl) rfl (Ap.run_move _ rfl) (Ap.Good.ofBoth rfl rfl e13 (e13 ▸ hI.set))
        | 1, _, ho, hL =>
          cases ho
          intro hE
          have e11 : a1.eval (.tmp 11) = _ := (hI.rest 11 (fun j hj => by unfold Ap.dst; split <;> omega)).trans h11
          exact Ap.stepRun hI hsz (by omega) rfl (Ap.wanted_none rfl) rfl (Ap.run_load _ rfl _ _ _ e11 hI.ca.1 hI.ca.2) (Ap.Good.ofKnown rfl rfl rfl)
        | 2, _, ho, hL =>
          cases ho
          intro hE
          exact Ap.addArm hI hsz (by omega) rfl (Ap.wanted_none rfl) rfl rfl ((hI.of hsz 0 (by omega) (Reg.edge hE 0 rfl)).2 _ rfl) ((hI.of hsz 1 (by omega) (Reg.edge hE 1 rfl)).1 _ rfl) HS.out.sa HS.out.cSA HS.out.mSA rfl rfl
        | 3, _, ho, hL =>
          cases ho
          intro hE
          have e12 : a1.eval (.tmp 12) = _ := (hI.rest 12 (fun j hj => by unfold Ap.dst; split <;> omega)).trans h12
          exact Ap.stepRun hI hsz (by omega) rfl (Ap.wanted_none rfl) rfl (Ap.run_load _ rfl _ _ _ e12 hI.cb.1 hI.cb.2) (Ap.Good.ofKnown rfl rfl rfl)
        | 4, _, ho, hL =>
          cases ho
          intro hE
          exact Ap.dropArm hI hsz (by omega) rfl (Ap.wanted_none rfl) rfl rfl ((hI.of hsz 2 (by omega) (Reg.edge hE 2 rfl)).2 _ rfl) ((hI.of hsz 3 (by omega) (Reg.edge hE 3 rfl)).1 _ rfl) HS.out.sb HS.out.cSAmB HS.out.mSAmB rfl rfl
        | 5, _, ho, hL =>
          cases ho
          intro hE
          have e13 : a1.eval (.tmp 13) = _ := (hI.rest 13 (fun j hj => by unfold Ap.dst; split <;> omega)).trans h13
          exact Ap.stepRun hI hsz (by omega) rfl (Ap.wanted_none rfl) rfl (Ap.run_move _ rfl) (Ap.Good.ofBoth rfl rfl e13 (e13 ▸ hI.set))
        | 6, _, ho, hL =>
          cases ho
          intro hE
          have e12 : a1.eval (.tmp 12) = _ := (hI.rest 12 (fun j hj => by unfold Ap.dst; split <;> omega)).trans h12
          exact Ap.stepRun hI hsz (by omega) rfl (Ap.wanted_none rfl) rfl (Ap.run_load _ rfl _ _ _ e12 hI.cb.1 hI.cb.2) (Ap.Good.ofKnown rfl rfl rfl)
        | 7, _, ho, hL =>
          cases ho
          intro hE
          exact Ap.dropArm hI hsz (by omega) rfl (Ap.wanted_none rfl) rfl rfl ((hI.of hsz 5 (by omega) (Reg.edge hE 5 rfl)).2 _ rfl) ((hI.of hsz 6 (by omega) (Reg.edge hE 6 rfl)).1 _ rfl) HS.out.sb HS.out.cSmB HS.out.mSmB rfl rfl
        | 8, _, ho, hL =>
          cases ho
          intro hE
          have e11 : a1.eval (.tmp 11) = _ := (hI.rest 11 (fun j hj => by unfold Ap.dst; split <;> omega)).trans h11
          exact Ap.stepRun hI hsz (by omega) rfl (Ap.wanted_none rfl) rfl (Ap.run_load _ rfl _ _ _ e11 hI.ca.1 hI.ca.2) (Ap.Good.ofKnown rfl rfl rfl)
        | 9, _, ho, hL =>
          cases ho
          intro hE
          exact Ap.addArm hI hsz (by omega) rfl (Ap.wanted_none rfl) rfl rfl ((hI.of hsz 7 (by omega) (Reg.edge hE 7 rfl)).2 _ rfl) ((hI.of hsz 8 (by omega) (Reg.edge hE 8 rfl)).1 _ rfl) HS.out.sa HS.out.cSAmB HS.out.mSAmB' rfl rfl
        | 10, _, ho, hL =>
          cases ho
          intro hE
          exact Ap.sameArm hI hsz (by omega) rfl (Ap.wanted_none rfl) rfl rfl ((hI.of hsz 4 (by omega) (Reg.edge hE 4 rfl)).2 _ rfl) ((hI.of hsz 9 (by omega) (Reg.edge hE 9 rfl)).2 _ rfl) rfl rfl
        | 11, _, ho, hL =>
          cases ho
          intro hE
          exact Ap.stepRun hI hsz (by omega) rfl (Ap.wanted_none rfl) rfl (Ap.run_move _ rfl) (Ap.Good.ofKnown rfl rfl ((hI.of hsz 10 (by omega) (Reg.edge hE 10 rfl)).1 _ rfl))
        | 12, _, ho, hL =>
          cases ho
          intro hE
          have e13 : a1.eval (.tmp 13) = _ := (hI.rest 13 (fun j hj => by unfold Ap.dst; split <;> omega)).trans h13
          exact Ap.stepRun hI hsz (by omega) rfl (Ap.wanted_at rfl rfl rfl (by rw [hI.size]; decide) ((hI.of hsz 11 (by omega) (Reg.edge hE 11 rfl)).1 _ rfl)) rfl (Ap.run_move _ rfl) (Ap.Good.ofBoth rfl rfl e13 (e13 ▸ hI.set))
        | 13, _, ho, hL =>
          cases ho
          intro hE
          have e11 : a1.eval (.tmp 11) = _ := (hI.rest 11 (fun j hj => by unfold Ap.dst; split <;> omega)).trans h11
          exact Ap.stepRun hI hsz (by omega) rfl (Ap.wanted_at rfl rfl rfl (by rw [hI.size]; decide) ((hI.of hsz 11 (by omega) (Reg.edge hE 11 rfl)).1 _ rfl)) rfl (Ap.run_load _ rfl _ _ _ e11 hI.ca.1 hI.ca.2) (Ap.Good.ofKnown rfl rfl rfl)
        | 14, _, ho, hL =>
          cases ho
          intro hE
          exact Ap.addArm hI hsz (by omega) rfl (Ap.wanted_at rfl rfl rfl (by rw [hI.size]; decide) ((hI.of hsz 11 (by omega) (Reg.edge hE 11 rfl)).1 _ rfl)) rfl rfl ((hI.of hsz 12 (by omega) (Reg.edge hE 12 rfl)).2 _ rfl) ((hI.of hsz 13 (by omega) (Reg.edge hE 13 rfl)).1 _ rfl) HS.out.sa HS.out.cSA HS.out.mSA rfl rfl
        | 15, _, ho, hL =>
          cases ho
          intro hE
          have e12 : a1.eval (.tmp 12) = _ := (hI.rest 12 (fun j hj => by unfold Ap.dst; split <;> omega)).trans h12
          exact Ap.stepRun hI hsz (by omega) rfl (Ap.wanted_at rfl rfl rfl (by rw [hI.size]; decide) ((hI.of hsz 11 (by omega) (Reg.edge hE 11 rfl)).1 _ rfl)) rfl (Ap.run_load _ rfl _ _ _ e12 hI.cb.1 hI.cb.2) (Ap.Good.ofKnown rfl rfl rfl)
        | 16, _, ho, hL =>
          cases ho
          intro hE
          exact Ap.addArm hI hsz (by omega) rfl (Ap.wanted_at rfl rfl rfl (by rw [hI.size]; decide) ((hI.of hsz 11 (by omega) (Reg.edge hE 11 rfl)).1 _ rfl)) rfl rfl ((hI.of hsz 14 (by omega) (Reg.edge hE 14 rfl)).2 _ rfl) ((hI.of hsz 15 (by omega) (Reg.edge hE 15 rfl)).1 _ rfl) HS.out.sb HS.out.cSAB HS.out.mSAB rfl rfl
        | 17, _, ho, hL =>
          cases ho
          intro hE
          have e13 : a1.eval (.tmp 13) = _ := (hI.rest 13 (fun j hj => by unfold Ap.dst; split <;> omega)).trans h13
          exact Ap.stepRun hI hsz (by omega) rfl (Ap.wanted_at rfl rfl rfl (by rw [hI.size]; decide) ((hI.of hsz 11 (by omega) (Reg.edge hE 11 rfl)).1 _ rfl)) rfl (Ap.run_move _ rfl) (Ap.Good.ofBoth rfl rfl e13 (e13 ▸ hI.set))
        | 18, _, ho, hL =>
          cases ho
          intro hE
          have e12 : a1.eval (.tmp 12) = _ := (hI.rest 12 (fun j hj => by unfold Ap.dst; split <;> omega)).trans h12
          exact Ap.stepRun hI hsz (by omega) rfl (Ap.wanted_at rfl rfl rfl (by rw [hI.size]; decide) ((hI.of hsz 11 (by omega) (Reg.edge hE 11 rfl)).1 _ rfl)) rfl (Ap.run_load _ rfl _ _ _ e12 hI.cb.1 hI.cb.2) (Ap.Good.ofKnown rfl rfl rfl)
        | 19, _, ho, hL =>
          cases ho
          intro hE
          exact Ap.addArm hI hsz (by omega) rfl (Ap.wanted_at rfl rfl rfl (by rw [hI.size]; decide) ((hI.of hsz 11 (by omega) (Reg.edge hE 11 rfl)).1 _ rfl)) rfl rfl ((hI.of hsz 17 (by omega) (Reg.edge hE 17 rfl)).2 _ rfl) ((hI.of hsz 18 (by omega) (Reg.edge hE 18 rfl)).1 _ rfl) HS.out.sb HS.out.cSB HS.out.mSB rfl rfl
        | 20, _, ho, hL =>
          cases ho
          intro hE
          have e11 : a1.eval (.tmp 11) = _ := (hI.rest 11 (fun j hj => by unfold Ap.dst; split <;> omega)).trans h11
          exact Ap.stepRun hI hsz (by omega) rfl (Ap.wanted_at rfl rfl rfl (by rw [hI.size]; decide) ((hI.of hsz 11 (by omega) (Reg.edge hE 11 rfl)).1 _ rfl)) rfl (Ap.run_load _ rfl _ _ _ e11 hI.ca.1 hI.ca.2) (Ap.Good.ofKnown rfl rfl rfl)
        | 21, _, ho, hL =>
          cases ho
          intro hE
          exact Ap.addArm hI hsz (by omega) rfl (Ap.wanted_at rfl rfl rfl (by rw [hI.size]; decide) ((hI.of hsz 11 (by omega) (Reg.edge hE 11 rfl)).1 _ rfl)) rfl rfl ((hI.of hsz 19 (by omega) (Reg.edge hE 19 rfl)).2 _ rfl) ((hI.of hsz 20 (by omega) (Reg.edge hE 20 rfl)).1 _ rfl) HS.out.sa HS.out.cSAB HS.out.mSAB' rfl rfl
        | 22, _, ho, hL =>
          cases ho
          intro hE
          exact Ap.sameArm hI hsz (by omega) rfl (Ap.wanted_at rfl rfl rfl (by rw [hI.size]; decide) ((hI.of hsz 11 (by omega) (Reg.edge hE 11 rfl)).1 _ rfl)) rfl rfl ((hI.of hsz 16 (by omega) (Reg.edge hE 16 rfl)).2 _ rfl) ((hI.of hsz 21 (by omega) (Reg.edge hE 21 rfl)).2 _ rfl) rfl rfl
        | 23, _, ho, hL =>
          cases ho
          intro hE
          exact Ap.stepRun hI hsz (by omega) rfl (Ap.wanted_none rfl) rfl (Ap.run_pick _ _ _ rfl ((hI.of hsz 11 (by omega) (Reg.edge hE 11 rfl)).1 _ rfl)) (Ap.Good.ofKnown rfl rfl ((hI.of hsz 22 (by omega) (Reg.edge hE 22 rfl)).1 _ rfl))
        | 24, _, ho, hL =>
          cases ho
          intro hE
          exact Ap.stepRun hI hsz (by omega) rfl (Ap.wanted_none rfl) rfl (Ap.run_move _ rfl) (Ap.Good.ofKnown rfl rfl ((hI.of hsz 23 (by omega) (Reg.edge hE 23 rfl)).1 _ rfl))
        | 25, _, ho, hL =>
          cases ho
          intro hE
          have e13 : a1.eval (.tmp 13) = _ := (hI.rest 13 (fun j hj => by unfold Ap.dst; split <;> omega)).trans h13
          exact Ap.stepRun hI hsz (by omega) rfl (Ap.wanted_at rfl rfl rfl (by rw [hI.size]; decide) ((hI.of hsz 24 (by omega) (Reg.edge hE 24 rfl)).1 _ rfl)) rfl (Ap.run_move _ rfl) (Ap.Good.ofBoth rfl rfl e13 (e13 ▸ hI.set))
        | 26, _, ho, hL =>
          cases ho
          intro hE
          have e11 : a1.eval (.tmp 11) = _ := (hI.rest 11 (fun j hj => by unfold Ap.dst; split <;> omega)).trans h11
          exact Ap.stepRun hI hsz (by omega) rfl (Ap.wanted_at rfl rfl rfl (by rw [hI.size]; decide) ((hI.of hsz 24 (by omega) (Reg.edge hE 24 rfl)).1 _ rfl)) rfl (Ap.run_load _ rfl _ _ _ e11 hI.ca.1 hI.ca.2) (Ap.Good.ofKnown rfl rfl rfl)
        | 27, _, ho, hL =>
          cases ho
          intro hE
          exact Ap.dropArm hI hsz (by omega) rfl (Ap.wanted_at rfl rfl rfl (by rw [hI.size]; decide) ((hI.of hsz 24 (by omega) (Reg.edge hE 24 rfl)).1 _ rfl)) rfl rfl ((hI.of hsz 25 (by omega) (Reg.edge hE 25 rfl)).2 _ rfl) ((hI.of hsz 26 (by omega) (Reg.edge hE 26 rfl)).1 _ rfl) HS.out.sa HS.out.cSmA HS.out.mSmA rfl rfl
        | 28, _, ho, hL =>
          cases ho
          intro hE
          have e12 : a1.eval (.tmp 12) = _ := (hI.rest 12 (fun j hj => by unfold Ap.dst; split <;> omega)).trans h12
          exact Ap.stepRun hI hsz (by omega) rfl (Ap.wanted_at rfl rfl rfl (by rw [hI.size]; decide) ((hI.of hsz 24 (by omega) (Reg.edge hE 24 rfl)).1 _ rfl)) rfl (Ap.run_load _ rfl _ _ _ e12 hI.cb.1 hI.cb.2) (Ap.Good.ofKnown rfl rfl rfl)
        | 29, _, ho, hL =>
          cases ho
          intro hE
          exact Ap.dropArm hI hsz (by omega) rfl (Ap.wanted_at rfl rfl rfl (by rw [hI.size]; decide) ((hI.of hsz 24 (by omega) (Reg.edge hE 24 rfl)).1 _ rfl)) rfl rfl ((hI.of hsz 27 (by omega) (Reg.edge hE 27 rfl)).2 _ rfl) ((hI.of hsz 28 (by omega) (Reg.edge hE 28 rfl)).1 _ rfl) HS.out.sb HS.out.cSmAB HS.out.mSmAB rfl rfl
        | 30, _, ho, hL =>
          cases ho
          intro hE
          have e13 : a1.eval (.tmp 13) = _ := (hI.rest 13 (fun j hj => by unfold Ap.dst; split <;> omega)).trans h13
          exact Ap.stepRun hI hsz (by omega) rfl (Ap.wanted_at rfl rfl rfl (by rw [hI.size]; decide) ((hI.of hsz 24 (by omega) (Reg.edge hE 24 rfl)).1 _ rfl)) rfl (Ap.run_move _ rfl) (Ap.Good.ofBoth rfl rfl e13 (e13 ▸ hI.set))
        | 31, _, ho, hL =>
          cases ho
          intro hE
          have e12 : a1.eval (.tmp 12) = _ := (hI.rest 12 (fun j hj => by unfold Ap.dst; split <;> omega)).trans h12
          exact Ap.stepRun hI hsz (by omega) rfl (Ap.wanted_at rfl rfl rfl (by rw [hI.size]; decide) ((hI.of hsz 24 (by omega) (Reg.edge hE 24 rfl)).1 _ rfl)) rfl (Ap.run_load _ rfl _ _ _ e12 hI.cb.1 hI.cb.2) (Ap.Good.ofKnown rfl rfl rfl)
        | 32, _, ho, hL =>
          cases ho
          intro hE
          exact Ap.dropArm hI hsz (by omega) rfl (Ap.wanted_at rfl rfl rfl (by rw [hI.size]; decide) ((hI.of hsz 24 (by omega) (Reg.edge hE 24 rfl)).1 _ rfl)) rfl rfl ((hI.of hsz 30 (by omega) (Reg.edge hE 30 rfl)).2 _ rfl) ((hI.of hsz 31 (by omega) (Reg.edge hE 31 rfl)).1 _ rfl) HS.out.sb HS.out.cSmB HS.out.mSmB rfl rfl
        | 33, _, ho, hL =>
          cases ho
          intro hE
          have e11 : a1.eval (.tmp 11) = _ := (hI.rest 11 (fun j hj => by unfold Ap.dst; split <;> omega)).trans h11
          exact Ap.stepRun hI hsz (by omega) rfl (Ap.wanted_at rfl rfl rfl (by rw [hI.size]; decide) ((hI.of hsz 24 (by omega) (Reg.edge hE 24 rfl)).1 _ rfl)) rfl (Ap.run_load _ rfl _ _ _ e11 hI.ca.1 hI.ca.2) (Ap.Good.ofKnown rfl rfl rfl)
        | 34, _, ho, hL =>
          cases ho
          intro hE
          exact Ap.dropArm hI hsz (by omega) rfl (Ap.wanted_at rfl rfl rfl (by rw [hI.size]; decide) ((hI.of hsz 24 (by omega) (Reg.edge hE 24 rfl)).1 _ rfl)) rfl rfl ((hI.of hsz 32 (by omega) (Reg.edge hE 32 rfl)).2 _ rfl) ((hI.of hsz 33 (by omega) (Reg.edge hE 33 rfl)).1 _ rfl) HS.out.sa HS.out.cSmAB HS.out.mSmAB' rfl rfl
        | 35, _, ho, hL =>
          cases ho
          intro hE
          exact Ap.sameArm hI hsz (by omega) rfl (Ap.wanted_at rfl rfl rfl (by rw [hI.size]; decide) ((hI.of hsz 24 (by omega) (Reg.edge hE 24 rfl)).1 _ rfl)) rfl rfl ((hI.of hsz 29 (by omega) (Reg.edge hE 29 rfl)).2 _ rfl) ((hI.of hsz 34 (by omega) (Reg.edge hE 34 rfl)).2 _ rfl) rfl rfl
        | 36, _, ho, hL =>
          cases ho
          intro hE
          exact Ap.stepRun hI hsz (by omega) rfl (Ap.wanted_none rfl) rfl (Ap.run_pick _ _ _ rfl ((hI.of hsz 24 (by omega) (Reg.edge hE 24 rfl)).1 _ rfl)) (Ap.Good.ofKnown rfl rfl ((hI.of hsz 35 (by omega) (Reg.edge hE 35 rfl)).1 _ rfl))
        | 37, _, ho, hL =>
          cases ho
          intro hE
          exact Ap.stepRun hI hsz (by omega) rfl (Ap.wanted_none rfl) rfl (Ap.run_move _ rfl) (Ap.Good.ofKnown rfl rfl ((hI.of hsz 36 (by omega) (Reg.edge hE 36 rfl)).1 _ rfl))
        | 38, _, ho, hL =>
          cases ho
          intro hE
          have e13 : a1.eval (.tmp 13) = _ := (hI.rest 13 (fun j hj => by unfold Ap.dst; split <;> omega)).trans h13
          exact Ap.stepRun hI hsz (by omega) rfl (Ap.wanted_at rfl rfl rfl (by rw [hI.size]; decide) ((hI.of hsz 37 (by omega) (Reg.edge hE 37 rfl)).1 _ rfl)) rfl (Ap.run_move _ rfl) (Ap.Good.ofBoth rfl rfl e13 (e13 ▸ hI.set))
        | 39, _, ho, hL =>
          cases ho
          intro hE
          have e11 : a1.eval (.tmp 11) = _ := (hI.rest 11 (fun j hj => by unfold Ap.dst; split <;> omega)).trans h11
          exact Ap.stepRun hI hsz (by omega) rfl (Ap.wanted_at rfl rfl rfl (by rw [hI.size]; decide) ((hI.of hsz 37 (by omega) (Reg.edge hE 37 rfl)).1 _ rfl)) rfl (Ap.run_load _ rfl _ _ _ e11 hI.ca.1 hI.ca.2) (Ap.Good.ofKnown rfl rfl rfl)
        | 40, _, ho, hL =>
          cases ho
          intro hE
          exact Ap.gapsArm hI hsz (by omega) rfl (Ap.wanted_at rfl rfl rfl (by rw [hI.size]; decide) ((hI.of hsz 37 (by omega) (Reg.edge hE 37 rfl)).1 _ rfl)) rfl rfl ((hI.of hsz 38 (by omega) (Reg.edge hE 38 rfl)).2 _ rfl) ((hI.of hsz 39 (by omega) (Reg.edge hE 39 rfl)).1 _ rfl) HS.out.sa HS.out.cG HS.out.mG rfl rfl
        | 41, _, ho, hL =>
          cases ho
          intro hE
          exact Ap.lenArm hI hsz (by omega) rfl (Ap.wanted_at rfl rfl rfl (by rw [hI.size]; decide) ((hI.of hsz 37 (by omega) (Reg.edge hE 37 rfl)).1 _ rfl)) rfl rfl ((hI.of hsz 40 (by omega) (Reg.edge hE 40 rfl)).2 _ rfl) rfl rfl
        | 42, _, ho, hL =>
          cases ho
          intro hE
          have e13 : a1.eval (.tmp 13) = _ := (hI.rest 13 (fun j hj => by unfold Ap.dst; split <;> omega)).trans h13
          exact Ap.stepRun hI hsz (by omega) rfl (Ap.wanted_at rfl rfl rfl (by rw [hI.size]; decide) ((hI.of hsz 37 (by omega) (Reg.edge hE 37 rfl)).1 _ rfl)) rfl (Ap.run_move _ rfl) (Ap.Good.ofBoth rfl rfl e13 (e13 ▸ hI.set))
        | 43, _, ho, hL =>
          cases ho
          intro hE
          have e11 : a1.eval (.tmp 11) = _ := (hI.rest 11 (fun j hj => by unfold Ap.dst; split <;> omega)).trans h11
          exact Ap.stepRun hI hsz (by omega) rfl (Ap.wanted_at rfl rfl rfl (by rw [hI.size]; decide) ((hI.of hsz 37 (by omega) (Reg.edge hE 37 rfl)).1 _ rfl)) rfl (Ap.run_load _ rfl _ _ _ e11 hI.ca.1 hI.ca.2) (Ap.Good.ofKnown rfl rfl rfl)
        | 44, _, ho, hL =>
          cases ho
          intro hE
          exact Ap.addArm hI hsz (by omega) rfl (Ap.wanted_at rfl rfl rfl (by rw [hI.size]; decide) ((hI.of hsz 37 (by omega) (Reg.edge hE 37 rfl)).1 _ rfl)) rfl rfl ((hI.of hsz 42 (by omega) (Reg.edge hE 42 rfl)).2 _ rfl) ((hI.of hsz 43 (by omega) (Reg.edge hE 43 rfl)).1 _ rfl) HS.out.sa HS.out.cSA HS.out.mSA rfl rfl
        | 45, _, ho, hL =>
          cases ho
          intro hE
          exact Ap.lenArm hI hsz (by omega) rfl (Ap.wanted_at rfl rfl rfl (by rw [hI.size]; decide) ((hI.of hsz 37 (by omega) (Reg.edge hE 37 rfl)).1 _ rfl)) rfl rfl ((hI.of hsz 44 (by omega) (Reg.edge hE 44 rfl)).2 _ rfl) rfl rfl
        | 46, _, ho, hL =>
          cases ho
          intro hE
          have e13 : a1.eval (.tmp 13) = _ := (hI.rest 13 (fun j hj => by unfold Ap.dst; split <;> omega)).trans h13
          exact Ap.stepRun hI hsz (by omega) rfl (Ap.wanted_at rfl rfl rfl (by rw [hI.size]; decide) ((hI.of hsz 37 (by omega) (Reg.edge hE 37 rfl)).1 _ rfl)) rfl (Ap.run_move _ rfl) (Ap.Good.ofBoth rfl rfl e13 (e13 ▸ hI.set))
        | 47, _, ho, hL =>
          cases ho
          intro hE
          exact Ap.lenArm hI hsz (by omega) rfl (Ap.wanted_at rfl rfl rfl (by rw [hI.size]; decide) ((hI.of hsz 37 (by omega) (Reg.edge hE 37 rfl)).1 _ rfl)) rfl rfl ((hI.of hsz 46 (by omega) (Reg.edge hE 46 rfl)).2 _ rfl) rfl rfl
        | 48, _, ho, hL =>
          cases ho
          intro hE
          exact Ap.stepRun hI hsz (by omega) rfl (Ap.wanted_at rfl rfl rfl (by rw [hI.size]; decide) ((hI.of hsz 37 (by omega) (Reg.edge hE 37 rfl)).1 _ rfl)) rfl (Ap.run_sub (.tmp 95) (.tmp 97) _ rfl _ _ _ ((hI.of hsz 45 (by omega) (Reg.edge hE 45 rfl)).1 _ rfl) ((hI.of hsz 47 (by omega) (Reg.edge hE 47 rfl)).1 _ rfl) HS.out.len (by have := HS.out.lenB; omega) (by have := HS.out.lenB; omega)) (Ap.Good.ofKnown rfl rfl rfl)
        | 49, _, ho, hL =>
          cases ho
          intro hE
          exact Ap.stepRun hI hsz (by omega) rfl (Ap.wanted_at rfl rfl rfl (by rw [hI.size]; decide) ((hI.of hsz 37 (by omega) (Reg.edge hE 37 rfl)).1 _ rfl)) rfl (Ap.run_eql (.tmp 91) (.tmp 98) _ rfl _ ((hI.of hsz 41 (by omega) (Reg.edge hE 41 rfl)).1 _ rfl) ((hI.of hsz 48 (by omega) (Reg.edge hE 48 rfl)).1 _ rfl)) (Ap.Good.ofKnown rfl rfl rfl)
        | 50, _, ho, hL =>
          cases ho
          intro hE
          exact Ap.stepRun hI hsz (by omega) rfl (Ap.wanted_none rfl) rfl (Ap.run_pick _ _ _ rfl ((hI.of hsz 37 (by omega) (Reg.edge hE 37 rfl)).1 _ rfl)) (Ap.Good.ofKnown rfl rfl ((hI.of hsz 49 (by omega) (Reg.edge hE 49 rfl)).1 _ rfl))
        | 51, _, ho, hL =>
          cases ho
          intro hE
          exact Ap.stepRun hI hsz (by omega) rfl (Ap.wanted_none rfl) rfl (Ap.run_assign _ rfl) (Ap.Good.ofKnown rfl rfl ((hI.of hsz 50 (by omega) (Reg.edge hE 50 rfl)).1 _ rfl))
        | i + 52, h, _, _ => exact absurd h (by omega)
      · intro L a1 w1 hsz hI hall
        have hsz : L.size = 52 := hsz
        have hall : ∀ i, i < 52 → L.getD i true = true := hall
        have e6 : a1.tmps.getD 6 undef = .bool true := (hI.good 51 (by omega) (hall 51 (by omega))).1 _ rfl
        have hd1 : a1.defers = [] := hI.defers.trans hd0
        refine hK a1 w1 ?_
        refine wp_ret ?_
        exact bodyPost_ret (v := .bool true) (by rw [← e6]; exact results_tmp Try.results6 _ _ _) hd1 ⟨rfl, HB5.out.trans (hI.below.mono HB5.out.size)⟩
end Go.Proofs.Ytimmineopkmdmaa
