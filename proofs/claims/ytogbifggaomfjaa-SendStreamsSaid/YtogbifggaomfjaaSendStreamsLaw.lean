/- The walk of the law SendStreams. Conditions: the slices lie as slices do, the number fits its kind. -/
import Derived.Test.YtogbifggaomfjaaSendStreamsMath
namespace Go.Proofs.Ytogbifggaomfjaa
open Go.RowKit Go.Maps Sp
set_option linter.unusedVariables false
set_option linter.unusedSimpArgs false

theorem and7s (t : Int) : Go.bits .and .i64 t 7 = t % 8 := by
  have e3 : (BitVec.ofInt 64 7).toNat = 2 ^ 3 - 1 := by decide
  have e4 : (BitVec.ofInt 64 t &&& BitVec.ofInt 64 7).toNat = (t % 8).toNat := by
    rw [BitVec.toNat_and, BitVec.toNat_ofInt, e3, Nat.and_two_pow_sub_one_eq_mod]
    omega
  show IntKind.i64.wrap ((BitVec.ofInt 64 t &&& BitVec.ofInt 64 7).toNat : Nat) = _
  rw [e4, IntKind.wrap_i64]
  omega
theorem vars_ms (a1 a2 a3 a4 a5 a6 a7 a8 : Int) (w : World) : (Instr.field 86 (.agg #[.int .u32 a1, .int .u32 a2, .int .u32 a3, .int .u32 a4, .int .u32 a5, .int .i64 a6, .int .i64 a7, .int .i64 a8, .slice none 0 0]) 2).run Try.prog w = .ok (.int .u32 a3) w := by kernel_rfl
theorem vars_pa (a1 a2 a3 a4 a5 a6 a7 a8 : Int) (w : World) : (Instr.field 86 (.agg #[.int .u32 a1, .int .u32 a2, .int .u32 a3, .int .u32 a4, .int .u32 a5, .int .i64 a6, .int .i64 a7, .int .i64 a8, .slice none 0 0]) 4).run Try.prog w = .ok (.int .u32 a5) w := by kernel_rfl

/-- The law's sender while messages go out: k of n did. -/
abbrev StAt (w0 w : World) (gs r mb : Nat) (S : Nat → Prop) (st : Int) (g : Nat → Value) (n k : Nat) : Prop := SndAt w0 w gs r mb S ((st + (k : Int)) % 16777216) st ((st + 200) % 16777216) st st 256 (k : Int) (queue g n k) 256 (wentOut st k) k
/-- The law's sender while they are acknowledged: d are, i polls went out. -/
abbrev AkAt (w0 w : World) (gs r mb : Nat) (S : Nat → Prop) (st : Int) (n d i : Nat) (o : Int) : Prop := SndAt w0 w gs r mb S ((st + (n : Int)) % 16777216) ((st + (d : Int)) % 16777216) ((st + 200) % 16777216) ((st + (i : Int)) % 16777216) ((st + (i : Int)) % 16777216) 256 o [] 256 (keptFrom st n d) n

set_option maxHeartbeats 8000000 in
set_option maxRecDepth 100000 in
theorem walk_SendStreams (st0 : Int) (A : Option Addr) (ln cap : Nat) (B : Option Addr) (ln2 cap2 : Nat) (w : World) (fs : Nat → ByteArray) (fi : Nat → Int) (h : StrIn w A ln fs) (h2 : IntIn w B ln2 fi) (hs : -9223372036854775808 ≤ st0 ∧ st0 ≤ 9223372036854775807) :
    Calls Try.prog 14 #[.int .i64 st0, .slice A ln cap, .slice B ln2 cap2] w fun e w' => e = .returned (.bool true) ∧ Below w.heap.size w w' := by
  have HP := Lib.hid h
  have HQ := Lib.hid h2
  have HOF := Lib.hid (fun W => seq_of st0 W hs.1 hs.2)
  have hst : 0 ≤ st0 % 16777216 ∧ st0 % 16777216 < 16777216 := by omega
  clear h h2 hs
  generalize st0 % 16777216 = st at *
  have HAD := Lib.hid (fun (x : Int) (hx : 0 ≤ x ∧ x ≤ 1000) W => seq_add st x W hst.1 (by omega) (by omega) (by omega))
  have hll := HP.out.1
  have hl2 := HQ.out.1
  unfold maxLen at hll hl2
  obtain ⟨n, hn, hn100, hnl⟩ : ∃ n : Nat, min (ln : Int) 100 = (n : Int) ∧ n ≤ 100 ∧ n ≤ ln := ⟨min ln 100, by omega, by omega, by omega⟩
  go_enter Try.func14, Try.ntmps14
  go_wp2_with fail
  refine (snd_awake _).mono ?_
  rintro e w1 ⟨rfl, hb1⟩
  have HB1 := Lib.hid hb1
  clear hb1
  go_wp2_with (go_at_call 27; refine (HOF.out _).mono ?_; rintro e w' ⟨rfl, rfl⟩)
  refine (snd_new st 256 256 w1 hst (by decide) (by decide)).mono ?_
  rintro e w2 ⟨gs, r, mb, S, rfl, h2⟩
  have H2 := Lib.hid h2
  clear h2
  have HA200 := Lib.hid (HAD.out 200 (by decide))
  go_wp2_with (first | (go_at_call 27; refine (HOF.out _).mono ?_; rintro e w' ⟨rfl, rfl⟩) | (go_at_call 20; refine (HA200.out _).mono ?_; rintro e w' ⟨rfl, rfl⟩))
  refine (snd_open H2.out hst hst ((st + 200) % 16777216) (by omega) (by omega)).mono ?_
  rintro e w3 ⟨rfl, h3⟩
  rw [if_pos (by omega)] at h3
  have H3 := Lib.hid h3
  clear h3 H2
  have HG : Hid (∃ g : Nat → Value, g = fun i => .string (cutS (fs i) 5)) := ⟨_, rfl⟩
  obtain ⟨g, hg⟩ := HG.out
  have HGE : Hid (∀ i, g i = .string (cutS (fs i) 5)) := fun i => by rw [hg]
  clear HG hg
  go_wp2_with fail
  clear hn
  go_loopw [39] (fun i wr => ∃ (k : Nat) (S : Nat → Prop), k ≤ n ∧ i = .int .i64 (k : Int) ∧ Hid (SndAt w1 wr gs r mb S st st ((st + 200) % 16777216) st st 256 0 (queue g k 0) 256 [] 0)) (fun i _ => n - (intOf i).toNat)
  case atStart => exact ⟨0, S, by omega, rfl, H3⟩
  case round =>
    obtain ⟨k, S, hk, rfl, HK⟩ := hrel
    clear H3
    have hbel := HK.out.bel
    have HPW := Lib.hid (HP.out.below (HB1.out.trans (hbel.mono HB1.out.size)))
    by_cases hlt : k < n
    · have e1 : decide ((k : Int) < (n : Int)) = true := decide_eq_true (by omega)
      obtain ⟨b, off, rfl, hbl, hsz, cx⟩ := HPW.out.get (show k < ln by omega)
      have i0 : (0 : Int) ≤ (k : Int) := by omega
      have i1 : (k : Int) < (ln : Int) := by omega
      have HCU := Lib.hid (fun W => law_cut (fs k) 5 W hsz (by decide))
      have HPU := Lib.hid (snd_put HK.out (by rw [queue_len]; omega) (cutS (fs k) 5))
      have hq : queue g k 0 ++ [.string (cutS (fs k) 5)] = queue g (k + 1) 0 := by rw [← HGE.out k, queue_snoc]
      rw [hq] at HPU
      clear hq
      clear hsz hbel
      generalize fs k = x at *
      go_wp2_with (go_at_call 44; refine (HCU.out _).mono ?_; rintro e w' ⟨rfl, rfl⟩)
      refine HPU.out.mono ?_
      rintro e w4 ⟨rfl, S4, h4⟩
      have H4 := Lib.hid h4
      clear h4 HPU HK
      go_wp2_with fail
      go_roundw
      case rel => exact ⟨k + 1, S4, by omega, by go_num, H4⟩
      case measure => simp [intOf]; omega
    · have hkn : k = n := by omega
      have e1 : decide ((k : Int) < (n : Int)) = false := decide_eq_false (by omega)
      subst hkn
      clear hbel HPW
      have H0 : Hid (StAt w1 wr gs r mb S st g k 0) := by
        have h := HK.out
        show SndAt _ _ _ _ _ _ _ _ _ _ _ _ _ _ _ _ _
        rw [show (st + ((0 : Nat) : Int)) % 16777216 = st by omega]
        exact h
      clear HK
      go_wp2_with fail
      go_loopw [52] (fun i wr => ∃ (q : Nat) (S : Nat → Prop), q ≤ k ∧ i = .int .i64 (q : Int) ∧ Hid (StAt w1 wr gs r mb S st g k q)) (fun i _ => k - (intOf i).toNat)
      case atStart => exact ⟨0, S, by omega, rfl, H0⟩
      case round =>
        obtain ⟨q, S, hq, rfl, HK⟩ := hrel
        clear H0
        have hbel := HK.out.bel
        have HPW := Lib.hid (HP.out.below (HB1.out.trans (hbel.mono HB1.out.size)))
        clear hbel
        by_cases hlt : q < k
        · have e1 : decide ((q : Int) < (k : Int)) = true := decide_eq_true (by omega)
          have hC := HK.out
          unfold StAt at hC
          rw [queue_next g hlt, HGE.out q] at hC
          have HNX := Lib.hid (snd_nextYes hC (by omega) (by omega) (by omega) (by omega))
          have HAN := Lib.hid (HAD.out (q : Int) (by omega))
          have HS1 := Lib.hid (show ((st + (q : Int)) % 16777216 + 1) % 16777216 = (st + ((q + 1 : Nat) : Int)) % 16777216 by omega)
          have HWO := Lib.hid (wentOut_succ st q)
          clear hC HK
          generalize hsn : (st + (q : Int)) % 16777216 = sn at *
          clear hsn
          go_wp2_with fail
          refine HNX.out.mono ?_
          rintro e w4 ⟨rfl, h4⟩
          have H4 : Hid (StAt w1 w4 gs r mb S st g k (q + 1)) := by
            have h := h4
            rw [HS1.out] at h
            unfold StAt
            rw [HWO.out]
            exact h
          clear h4 HNX
          have hbel := H4.out.bel
          have HPW4 := Lib.hid (HP.out.below (HB1.out.trans (hbel.mono HB1.out.size)))
          clear hbel HPW
          obtain ⟨b, off, rfl, hbl, hsz, cx⟩ := HPW4.out.get (show q < ln by omega)
          have i0 : (0 : Int) ≤ (q : Int) := by omega
          have i1 : (q : Int) < (ln : Int) := by omega
          have HCU := Lib.hid (fun W => law_cut (fs q) 5 W hsz (by decide))
          clear hsz HPW4
          generalize fs q = x at *
          have hbe : (sn != sn) = false := by simp
          go_wp2_with (first | (go_at_call 27; refine (HOF.out _).mono ?_; rintro e w' ⟨rfl, rfl⟩) | (go_at_call 20; refine (HAN.out _).mono ?_; rintro e w' ⟨rfl, rfl⟩) | (go_at_call 44; refine (HCU.out _).mono ?_; rintro e w' ⟨rfl, rfl⟩))
          go_roundw
          case rel => exact ⟨q + 1, S, by omega, by go_num, H4⟩
          case measure => simp [intOf]; omega
        · have hqk : q = k := by omega
          have e1 : decide ((q : Int) < (k : Int)) = false := decide_eq_false (by omega)
          subst hqk
          clear HPW
          have H0 : Hid (AkAt w1 wr gs r mb S st q 0 0 (q : Int)) := by
            have h := HK.out
            unfold StAt at h
            rw [queue_end, ← keptFrom_0] at h
            show SndAt _ _ _ _ _ _ _ _ _ _ _ _ _ _ _ _ _
            rw [show (st + ((0 : Nat) : Int)) % 16777216 = st by omega]
            exact h
          clear HK
          go_wp2_with fail
          go_loopw [15, 16] (fun dv iv wr => ∃ (d i : Nat) (S : Nat → Prop) (o : Int), d ≤ q ∧ i ≤ ln2 ∧ i ≤ 30 ∧ dv = .int .i64 (d : Int) ∧ iv = .int .i64 (i : Int) ∧ Hid (AkAt w1 wr gs r mb S st q d i o)) (fun _ iv _ => 30 - (intOf iv).toNat)
          case atStart => exact ⟨0, 0, S, _, by omega, by omega, by omega, rfl, rfl, H0⟩
          case round =>
            obtain ⟨d, i, S, o, hd, hil, hi30, rfl, rfl, HC⟩ := hrel
            clear H0
            by_cases hgo : i < ln2 ∧ i < 30
            · have hbel := HC.out.bel
              have HQW := Lib.hid (HQ.out.below (HB1.out.trans (hbel.mono HB1.out.size)))
              clear hbel
              obtain ⟨b, off, rfl, hbl, cx, hx1, hx2⟩ := HQW.out.get hgo.1
              have e1 : decide ((i : Int) < (ln2 : Int)) = true := decide_eq_true (by omega)
              have e2 : decide ((i : Int) < 30) = true := decide_eq_true (by omega)
              have i0 : (0 : Int) ≤ (i : Int) := by omega
              have i1 : (i : Int) < (ln2 : Int) := by omega
              have ha := and7s (fi i)
              have hc0 : 0 ≤ fi i % 8 ∧ fi i % 8 < 8 := by omega
              generalize fi i = x at *
              obtain ⟨c, hc⟩ : ∃ c : Nat, x % 8 = (c : Int) := ⟨(x % 8).toNat, by omega⟩
              rw [hc] at ha hc0
              have HCX := Lib.hid hc
              clear hc HQW
              obtain ⟨d2, hmin, hd2, hdd⟩ : ∃ d2 : Nat, min (q : Int) ((d : Int) + (c : Int)) = (d2 : Int) ∧ d2 ≤ q ∧ d ≤ d2 := ⟨min q (d + c), by omega, by omega, by omega⟩
              have HPO := Lib.hid (snd_poll HC.out (by omega))
              have HS1 := Lib.hid (show ((st + (i : Int)) % 16777216 + 1) % 16777216 = (st + ((i + 1 : Nat) : Int)) % 16777216 by omega)
              rw [HS1.out] at HPO
              have HAN := Lib.hid (HAD.out (d2 : Int) (by omega))
              have HKF := Lib.hid (keptFrom_ack st q d d2 hdd hd2 (by omega))
              go_wp2_with fail
              refine HPO.out.mono ?_
              rintro e w4 ⟨rfl, h4⟩
              have HST := Lib.hid (snd_stat h4 (by omega) (by omega) (by omega) (by omega) (by omega) ((st + (d2 : Int)) % 16777216) st ((st + ((i + 1 : Nat) : Int)) % 16777216) (by omega) hst (by omega) (by unfold withinB; exact decide_eq_true (Int.le_refl _)) (by unfold withinB; exact decide_eq_true (by omega)) (by omega) (by omega))
              rw [HKF.out] at HST
              clear h4 HPO HC hmin HKF
              generalize hsp : (st + ((i + 1 : Nat) : Int)) % 16777216 = sp at *
              generalize hsd : (st + (d2 : Int)) % 16777216 = sd at *
              have HSP := Lib.hid hsp
              have HSD := Lib.hid hsd
              clear hsp hsd
              go_wp2_with (first | (go_at_call 27; refine (HOF.out _).mono ?_; rintro e w' ⟨rfl, rfl⟩) | (go_at_call 20; refine (HAN.out _).mono ?_; rintro e w' ⟨rfl, rfl⟩))
              refine HST.out.mono ?_
              rintro e w5 ⟨rfl, h5⟩
              have HVA := Lib.hid (snd_vars h5 (keptFrom_nodup st q d2 (by omega)))
              rw [keptFrom_len] at HVA
              have H5 := Lib.hid h5
              clear h5 HST
              obtain ⟨R, hR⟩ : ∃ R : Nat, q - d2 = R := ⟨_, rfl⟩
              have hRi : (q : Int) - (d2 : Int) = (R : Int) := by omega
              have HRR := Lib.hid hR
              rw [hR] at HVA
              have hbe : ((R : Int) != (R : Int)) = false := by simp
              have hvk := fun (a1 a2 a3 a4 a5 a6 a7 a8 : Int) (w : World) => vars_kept a1 a2 a3 a4 a5 a6 a7 a8 w
              clear hR
              go_wp2_with fail
              refine HVA.out.mono ?_
              rintro e w6 ⟨rfl, hb6⟩
              have h6 := H5.out.below hb6
              have HLE := Lib.hid (snd_left h6 (keptFrom_nodup st q d2 (by omega)) (by rw [keptFrom_len]; omega) (by rw [← HSD.out]; omega))
              rw [keptFrom_len, HRR.out] at HLE
              have H6 := Lib.hid h6
              clear h6 hb6 HVA H5
              go_wp2_with fail
              refine HLE.out.mono ?_
              rintro e w7 ⟨A7, c7, rfl, hb7⟩
              have H7 := Lib.hid (H6.out.below hb7)
              clear hb7 HLE H6
              go_wp2_with fail
              refine ⟨?_, by simp [intOf]; omega⟩
              have hfin : d2 ≤ q ∧ i + 1 ≤ ln2 ∧ i + 1 ≤ 30 ∧ Value.int .i64 (d2 : Int) = .int .i64 (d2 : Int) ∧ Value.int .i64 ((i : Int) + 1) = .int .i64 ((i + 1 : Nat) : Int) ∧ Hid (AkAt w1 w7 gs r mb S st q d2 (i + 1) 0) := by
                refine ⟨hd2, by omega, by omega, rfl, by go_num, ?_⟩
                have h := H7.out
                rw [← HSP.out, ← HSD.out] at h
                exact h
              repeat apply Exists.intro
              exact hfin
            · have hgi : ¬ i < ln2 ∨ (i < ln2 ∧ ¬ i < 30) := by omega
              clear hgo
              have HVA := Lib.hid (snd_vars HC.out (keptFrom_nodup st q d (by omega)))
              rw [keptFrom_len] at HVA
              have HAN := Lib.hid (HAD.out (q : Int) (by omega))
              have HKF := Lib.hid (keptFrom_ack st q d q hd (Nat.le_refl _) (by omega))
              have hkn : keptFrom st q q = [] := List.eq_nil_of_length_eq_zero (by rw [keptFrom_len]; omega)
              rw [hkn] at HKF
              clear hkn
              have hvp := fun (a1 a2 a3 a4 a5 a6 a7 a8 : Int) (w : World) => vars_pa a1 a2 a3 a4 a5 a6 a7 a8 w
              have hvm := fun (a1 a2 a3 a4 a5 a6 a7 a8 : Int) (w : World) => vars_ms a1 a2 a3 a4 a5 a6 a7 a8 w
              have hee : ((st + 200) % 16777216 == (st + 200) % 16777216) = true := by simp
              rcases hgi with g1 | ⟨g1, g2⟩
              all_goals
                go_wp2_with (first | (go_at_call 27; refine (HOF.out _).mono ?_; rintro e w' ⟨rfl, rfl⟩) | (go_at_call 20; refine (HAN.out _).mono ?_; rintro e w' ⟨rfl, rfl⟩))
                refine HVA.out.mono ?_
                rintro e w4 ⟨rfl, hb4⟩
                have HST := Lib.hid (snd_stat (HC.out.below hb4) (by omega) (by omega) (by omega) (by omega) (by omega) ((st + (q : Int)) % 16777216) st ((st + (i : Int)) % 16777216) (by omega) hst (by omega) (by unfold withinB; exact decide_eq_true (Int.le_refl _)) (by unfold withinB; exact decide_eq_true (Int.le_refl _)) (by omega) (by omega))
                rw [HKF.out] at HST
                clear hb4 HVA HC HKF
                go_wp2_with fail
                refine HST.out.mono ?_
                rintro e w5 ⟨rfl, h5⟩
                have H5 := Lib.hid h5
                have HID := Lib.hid (snd_idleYes h5)
                clear h5 HST
                go_wp2_with fail
                refine HID.out.mono ?_
                rintro e w6 ⟨rfl, q6, rfl⟩
                have H6 := Lib.hid (H5.out.drewN q6)
                clear H5 HID
                generalize w5.drewN q6 = w6 at *
                have HV2 := Lib.hid (snd_vars H6.out List.nodup_nil)
                go_wp2_with fail
                refine HV2.out.mono ?_
                rintro e w7 ⟨rfl, hb7⟩
                have HB7 := Lib.hid (HB1.out.trans ((H6.out.below hb7).bel.mono HB1.out.size))
                clear hb7 HV2 H6
                go_wp2_with (first | (go_at_call 27; refine (HOF.out _).mono ?_; rintro e w' ⟨rfl, rfl⟩) | (go_at_call 20; refine (HA200.out _).mono ?_; rintro e w' ⟨rfl, rfl⟩))
                go_ret
                exact ⟨rfl, HB7.out⟩
end Go.Proofs.Ytogbifggaomfjaa
