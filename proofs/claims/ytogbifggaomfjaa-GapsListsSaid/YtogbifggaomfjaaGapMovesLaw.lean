/- The walk of the law GapsMoves. Conditions: the slice lies as slices do, the numbers fit their kinds. -/
import Derived.Test.YtogbifggaomfjaaGapAwake
import Derived.Test.YtogbifggaomfjaaSpanTwoLaw
namespace Go.Proofs.Ytogbifggaomfjaa
open Go.RowKit Sp Go.Sort
set_option linter.unusedVariables false
set_option linter.unusedSimpArgs false

theorem prs_moved (b n : Int) (q : List Span) : prs ((b + n) % 16777216) q = (prs b q).map fun x => (x + n) % 16777216 := by
  rw [prs_flat, prs_flat, List.map_map]
  apply List.map_congr_left
  intro y _
  simp only [Function.comp]
  omega
theorem small_len {s q : List Span} (hq : Canon q) (hm : ∀ n, Mem q n → Mem s n) (hs : ∀ x, x ∈ s → Small x) : (∀ x, x ∈ q → 0 ≤ x.2 - x.1 ∧ x.2 - x.1 ≤ 8388608) ∧ q.length ≤ 10000 := by
  have hsm := small_of_mem hq hm hs
  refine ⟨fun x hx => ?_, ?_⟩
  · have h := hsm x hx
    have h2 := hq.1 x hx
    unfold Small at h
    omega
  · have := canon_len q (-4096) hq (fun x hx => by have h := hsm x hx; unfold Small at h; omega) (by omega)
    omega

set_option maxHeartbeats 4000000 in
set_option maxRecDepth 100000 in
theorem walk_GapsMoves (b0 : Int) (A : Option Addr) (len cap : Nat) (n : Int) (w : World) (ps : Nat → Int × Int) (h : PairRow w A len ps) (hb : 0 ≤ b0 ∧ b0 < 4294967296) (hn : -9223372036854775808 ≤ n ∧ n ≤ 9223372036854775807) :
    Calls Try.prog 8 #[.int .u32 b0, .slice A len cap, .int .i64 n] w fun e w' => e = .returned (.bool true) ∧ Below w.heap.size w w' := by
  have HP := Lib.hid h
  have HLO := Lib.hid (fun W => seq_low b0 W hb.1 hb.2)
  have hbd : 0 ≤ b0 % 16777216 ∧ b0 % 16777216 < 16777216 := by omega
  clear h hb
  generalize b0 % 16777216 = b at *
  have HAD := Lib.hid (fun (x : Int) (hx : 0 ≤ x ∧ x < 16777216) W => seq_add x n W hx.1 (by omega) hn.1 hn.2)
  go_enter Try.func8, Try.ntmps8
  go_wp2_with fail
  refine (gap_awake _).mono ?_
  rintro e w1 ⟨rfl, hb1⟩
  have HB1 := Lib.hid hb1
  have HP1 := Lib.hid (HP.out.below hb1)
  clear hb1
  go_wp2_with fail
  refine (few ps A len cap _ HP1.out).mono ?_
  rintro e w2 ⟨fu, fv, out, all, rfl, hr, hi, hol, hF, _, hb2⟩
  have HB2 := Lib.hid (HB1.out.trans (hb2.mono HB1.out.size))
  have HR2 := Lib.hid hr
  have HF := Lib.hid hF
  have hlo : out.length ≤ 12 := by omega
  clear hr hi hol hF hb2
  go_wp2_with fail
  refine (of_ out _ _ HR2.out (by omega) HF.out.small).mono ?_
  rintro e w3 ⟨su, s, rfl, hsu, hs, hb3⟩
  have HB3 := Lib.hid (HB2.out.trans (hb3.mono HB2.out.size))
  have HS3 := Lib.hid (IsSet.setAt hsu hs (by omega))
  have HSL : Hid (s.length ≤ 12) := by have := hs.2.2.1; show _ ≤ _; omega
  clear hsu hs hb3 HR2
  go_wp2_with (go_at_call 16; refine (HLO.out _).mono ?_; rintro e w' ⟨rfl, rfl⟩)
  refine (g_list b s su _ HS3.out.wide hbd.1 (by omega) (by have := HSL.out; omega)).mono ?_
  rintro e w4 ⟨ua, q, rfl, hq, hm, hr4, hb4⟩
  have HB4 := Lib.hid (HB3.out.trans (hb4.mono HB3.out.size))
  have HS4 := Lib.hid (HS3.out.below hb4)
  have HR4 := Lib.hid hr4
  have HQ := Lib.hid hq
  have HM := Lib.hid hm
  clear hq hm hr4 hb4
  go_wp2_with (go_at_call 20; refine (HAD.out b hbd _).mono ?_; rintro e w' ⟨rfl, rfl⟩)
  refine (g_list ((b + n) % 16777216) s su _ HS4.out.wide (by omega) (by omega) (by have := HSL.out; omega)).mono ?_
  rintro e w5 ⟨uc, q', rfl, hq', hm', hr5, hb5⟩
  obtain rfl : q' = q := canon_unique _ _ hq' HQ.out fun m => by rw [hm' m, HM.out m]
  have HB5 := Lib.hid (HB4.out.trans (hb5.mono HB4.out.size))
  have HSM := Lib.hid (small_len HQ.out (fun m h => ((HM.out m).1 h).1) HS4.out.small)
  have HX5 := Lib.hid (HR4.out.below hb5)
  have HXB := Lib.hid (prs_bd b q')
  have HYB := Lib.hid (prs_bd ((b + n) % 16777216) q')
  have HCX := Lib.hid (cnt_prs b q' HSM.out.1)
  have HCY := Lib.hid (cnt_prs ((b + n) % 16777216) q' HSM.out.1)
  have HMV := Lib.hid (prs_moved b n q')
  have HLN : Hid ((prs b q').length ≤ 20000) := by have := HSM.out.2; show _ ≤ _; rw [prs_length]; omega
  have HLE : Hid ((prs ((b + n) % 16777216) q').length = (prs b q').length) := by show _ = _; rw [prs_length, prs_length]
  have HY5 := Lib.hid hr5
  clear hq' hm' hr5 hb5
  generalize prs ((b + n) % 16777216) q' = ys at *
  generalize prs b q' = xs at *
  have hlx : xs.length ≤ 20000 := HLN.out
  obtain ⟨A1, c1, rfl⟩ := HX5.out.form
  obtain ⟨A2, c2, rfl⟩ := HY5.out.form
  rw [HLE.out]
  have hY5 := HY5.out
  rw [HLE.out] at hY5
  have HY6 := Lib.hid hY5
  clear hY5 HY5
  have hbb : ((xs.length : Int) != (xs.length : Int)) = false := by simp
  go_wp2_with fail
  go_loopw [40] (fun i wr => ∃ k q : Nat, k ≤ xs.length ∧ i = .int .i64 k ∧ wr = w5.drewN q) (fun i _ => xs.length - (intOf i).toNat)
  case atStart => exact ⟨0, 0, by omega, rfl, rfl⟩
  case round =>
    obtain ⟨k, q, hk, rfl, rfl⟩ := hrel
    by_cases hlt : k < xs.length
    · have ex := List.getElem?_eq_getElem hlt
      have ey : ys[k]? = some ((xs[k] + n) % 16777216) := by rw [HMV.out, List.getElem?_map, ex]; rfl
      obtain ⟨g, off, rfl, hbl, c0⟩ := HX5.out.get ex
      obtain ⟨g', off', rfl, hbl', c0'⟩ := HY6.out.get ey
      have hx := HXB.out _ (List.getElem_mem hlt)
      clear ex ey
      generalize xs[k] = x at *
      have HA := Lib.hid (fun W => (HAD.out x hx W).mono (fun e w' (hh : e = _ ∧ W = w') => (⟨hh.1, hh.2.symm⟩ : e = .returned (.int .u32 ((x + n) % 16777216)) ∧ w' = W)))
      generalize (x + n) % 16777216 = y at *
      have i1 : (0 : Int) ≤ (k : Int) := by omega
      have i2 : (k : Int) < (xs.length : Int) := by omega
      have hbe : (y != y) = false := by simp
      have d0 : (w5.drewN q).cell? ⟨g, off + k, none⟩ = some (.int .u32 x) := c0
      have d1 : (w5.drewN q).cell? ⟨g', off' + k, none⟩ = some (.int .u32 y) := c0'
      clear c0 c0'
      generalize hwq : w5.drewN q = wq at *
      have HWQ := Lib.hid hwq.symm
      clear hwq
      go_wp2_with fail
      go_quiet ((go_at_call 20; exact Calls.quiet_of_same (HA.out _)))
      go_wp2_with fail
      go_roundw
      case rel => exact ⟨k + 1, q + nq, by omega, by go_num, by rw [HWQ.out, World.drewN_drewN]⟩
      case measure => simp [intOf]; omega
    · have HX6 := Lib.hid (HX5.out.drewN q)
      have HY7 := Lib.hid (HY6.out.drewN q)
      have HB6 := Lib.hid (below_drewN' HB5.out q)
      generalize w5.drewN q = w6 at *
      have HCA := Lib.hid (g_count xs _ w6 HX6.out (fun x hx => by have := HXB.out x hx; omega))
      go_wp2_with fail
      refine HCA.out.mono ?_
      rintro e w7 ⟨rfl, hb7⟩
      have HY8 := HY7.out.below hb7
      rw [← HLE.out] at HY8
      have HCB := Lib.hid (g_count ys _ w7 HY8 (fun x hx => by have := HYB.out x hx; omega))
      have HB7 := Lib.hid (HB6.out.trans (hb7.mono HB6.out.size))
      clear hb7 HY8
      rw [HLE.out] at HCB
      go_wp2_with fail
      refine HCB.out.mono ?_
      rintro e w8 ⟨rfl, hb8⟩
      rw [HCX.out, HCY.out]
      have hbe : (lenOf q' == lenOf q') = true := by simp
      go_wp2_with fail
      go_ret
      exact ⟨rfl, HB7.out.trans (hb8.mono HB7.out.size)⟩
end Go.Proofs.Ytogbifggaomfjaa
