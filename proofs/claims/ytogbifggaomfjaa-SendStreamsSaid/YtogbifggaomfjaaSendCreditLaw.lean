/- The walk of the law SendCredit. Conditions: the slice lies as slices do, the number fits its kind. -/
import Derived.Test.YtogbifggaomfjaaSendVars
import Derived.Test.YtogbifggaomfjaaIntIn
namespace Go.Proofs.Ytogbifggaomfjaa
open Go.RowKit Go.Maps
set_option linter.unusedVariables false
set_option linter.unusedSimpArgs false

theorem and255s (t : Int) : Go.bits .and .i64 t 255 = t % 256 := by
  have e3 : (BitVec.ofInt 64 255).toNat = 2 ^ 8 - 1 := by decide
  have e4 : (BitVec.ofInt 64 t &&& BitVec.ofInt 64 255).toNat = (t % 256).toNat := by
    rw [BitVec.toNat_and, BitVec.toNat_ofInt, e3, Nat.and_two_pow_sub_one_eq_mod]
    omega
  show IntKind.i64.wrap ((BitVec.ofInt 64 t &&& BitVec.ofInt 64 255).toNat : Nat) = _
  rw [e4, IntKind.wrap_i64]
  omega

set_option maxHeartbeats 4000000 in
set_option maxRecDepth 100000 in
theorem snd_awake (w : World) : Calls Try.prog 46 #[] w fun e w' => e = .returned (.bool true) ∧ Below w.heap.size w w' := by
  go_enter Try.func46, Try.ntmps46
  go_wp2_with fail
  refine (snd_new 0 9 9 w (by decide) (by decide) (by decide)).mono ?_
  rintro e w1 ⟨gs, r, mb, S, rfl, h1⟩
  have H1 := Lib.hid h1
  clear h1
  go_wp2_with fail
  refine (snd_open H1.out (by decide) (by decide) 1 (by decide) (by decide)).mono ?_
  rintro e w2 ⟨rfl, h2⟩
  have H2 := Lib.hid h2
  clear h2 H1
  go_wp2_with fail
  refine (snd_put H2.out (by decide) _).mono ?_
  rintro e w3 ⟨rfl, S3, h3⟩
  have H3 := Lib.hid h3
  clear h3 H2
  go_wp2_with fail
  refine (snd_put H3.out (by decide) _).mono ?_
  rintro e w4 ⟨rfl, S4, h4⟩
  have H4 : Hid (SndAt w w4 gs r mb S4 0 0 1 0 0 9 0 (.string ⟨#[97]⟩ :: [.string ⟨#[98]⟩]) 9 [] 0) := h4
  clear h4 H3
  go_wp2_with fail
  refine (snd_nextYes H4.out (by decide) (by decide) (by decide) (by decide)).mono ?_
  rintro e w5 ⟨rfl, h5⟩
  have H5 := Lib.hid h5
  clear h5 H4
  go_wp2_with fail
  refine (snd_nextNo H5.out (.inr (by decide))).mono ?_
  rintro e w6 ⟨rfl, q6, rfl⟩
  have H6 := Lib.hid (H5.out.drewN q6)
  clear H5
  generalize w5.drewN q6 = w6 at *
  go_wp2_with fail
  refine (snd_lacks H6.out true (by decide)).mono ?_
  rintro e w7 ⟨rfl, q7, rfl⟩
  have H7 := Lib.hid (H6.out.drewN q7)
  clear H6
  generalize w6.drewN q7 = w7 at *
  go_wp2_with fail
  refine (snd_idle H7.out (by simp)).mono ?_
  rintro e w8 ⟨rfl, rfl⟩
  go_wp2_with fail
  go_ret
  exact ⟨rfl, H7.out.bel⟩

/-- The numbers of the messages that went out. -/
def wentOut (st : Int) (n : Nat) : List Int := (List.range n).map fun i : Nat => (st + (i : Int)) % 16777216
theorem wentOut_succ (st : Int) (n : Nat) : wentOut st (n + 1) = wentOut st n ++ [(st + (n : Int)) % 16777216] := by simp [wentOut, List.range_succ]
theorem wentOut_len (st : Int) (n : Nat) : (wentOut st n).length = n := by simp [wentOut]
theorem wentOut_nodup (st : Int) (n : Nat) (h : n ≤ 16777216) : (wentOut st n).Nodup := by
  unfold wentOut
  rw [List.Nodup, List.pairwise_map]
  refine List.Pairwise.imp_of_mem ?_ (List.nodup_range (n := n))
  intro i j hi hj hij he
  rw [List.mem_range] at hi hj
  omega
theorem vars_kept (a1 a2 a3 a4 a5 a6 a7 a8 : Int) (w : World) : (Instr.field 86 (.agg #[.int .u32 a1, .int .u32 a2, .int .u32 a3, .int .u32 a4, .int .u32 a5, .int .i64 a6, .int .i64 a7, .int .i64 a8, .slice none 0 0]) 7).run Try.prog w = .ok (.int .i64 a8) w := by kernel_rfl
theorem vars_queued (a1 a2 a3 a4 a5 a6 a7 a8 : Int) (w : World) : (Instr.field 86 (.agg #[.int .u32 a1, .int .u32 a2, .int .u32 a3, .int .u32 a4, .int .u32 a5, .int .i64 a6, .int .i64 a7, .int .i64 a8, .slice none 0 0]) 6).run Try.prog w = .ok (.int .i64 a7) w := by kernel_rfl
/-- The law's sender: n went out, m may. -/
abbrev CrAt (w0 w : World) (gs r mb : Nat) (S : Nat → Prop) (st : Int) (n : Nat) (m : Int) : Prop := SndAt w0 w gs r mb S ((st + (n : Int)) % 16777216) st ((st + m) % 16777216) st st 256 (n : Int) (List.replicate (256 - n) (.string ⟨#[109]⟩)) 256 (wentOut st n) n

set_option maxHeartbeats 8000000 in
set_option maxRecDepth 100000 in
theorem walk_SendCredit (st0 : Int) (A : Option Addr) (ln cap : Nat) (w : World) (fi : Nat → Int) (h : IntIn w A ln fi) (hs : -9223372036854775808 ≤ st0 ∧ st0 ≤ 9223372036854775807) :
    Calls Try.prog 13 #[.int .i64 st0, .slice A ln cap] w fun e w' => e = .returned (.bool true) ∧ Below w.heap.size w w' := by
  have HP := Lib.hid h
  have HOF := Lib.hid (fun W => seq_of st0 W hs.1 hs.2)
  have hst : 0 ≤ st0 % 16777216 ∧ st0 % 16777216 < 16777216 := by omega
  clear h hs
  generalize st0 % 16777216 = st at *
  have HAD := Lib.hid (fun (x : Int) (hx : 0 ≤ x ∧ x ≤ 1000) W => seq_add st x W hst.1 (by omega) (by omega) (by omega))
  have hll := HP.out.1
  unfold maxLen at hll
  go_enter Try.func13, Try.ntmps13
  go_wp2_with fail
  refine (snd_awake _).mono ?_
  rintro e w1 ⟨rfl, hb1⟩
  have HB1 := Lib.hid hb1
  clear hb1
  go_wp2_with (go_at_call 27; refine (HOF.out _).mono ?_; rintro e w' ⟨rfl, rfl⟩)
  refine (snd_new st 256 256 w1 hst (by decide) (by decide)).mono ?_
  rintro e w2 ⟨gs, r, mb, S, rfl, h2⟩
  have H2 := Lib.hid h2
  clear h2
  go_wp2_with fail
  go_loopw [25] (fun i wr => ∃ (k : Nat) (S : Nat → Prop), k ≤ 256 ∧ i = .int .i64 (k : Int) ∧ Hid (SndAt w1 wr gs r mb S st st st st st 256 0 (List.replicate k (.string ⟨#[109]⟩)) 256 [] 0)) (fun i _ => 256 - (intOf i).toNat)
  case atStart => exact ⟨0, S, by omega, rfl, H2⟩
  case round =>
    obtain ⟨k, S, hk, rfl, HK⟩ := hrel
    clear H2
    by_cases hlt : k < 256
    · have e1 : decide ((k : Int) < 256) = true := decide_eq_true (by omega)
      go_wp2_with fail
      refine (snd_put HK.out (by simp; omega) _).mono ?_
      rintro e w3 ⟨rfl, S3, h3⟩
      have H3 := Lib.hid h3
      clear h3 HK
      go_wp2_with fail
      go_roundw
      case rel => exact ⟨k + 1, S3, by omega, by go_num, by have h := H3.out; rw [← List.replicate_succ'] at h; exact h⟩
      case measure => simp [intOf]; omega
    · have hk6 : k = 256 := by omega
      have e1 : decide ((k : Int) < 256) = false := decide_eq_false (by omega)
      subst hk6
      have hs0 : (st + 0) % 16777216 = st := by omega
      have H0 : Hid (CrAt w1 wr gs r mb S st 0 0) := by
        have h := HK.out
        show SndAt _ _ _ _ _ _ _ _ _ _ _ _ _ _ _ _ _
        rw [show (st + ((0 : Nat) : Int)) % 16777216 = st from hs0, hs0]
        exact h
      clear HK hs0
      go_wp2_with fail
      go_loopw [6, 7, 8] (fun msv nxv iv wr => ∃ (nx m i : Nat) (S : Nat → Prop), nx = m ∧ m ≤ 255 ∧ i ≤ ln ∧ i ≤ 20 ∧ msv = .int .i64 (m : Int) ∧ nxv = .int .i64 (nx : Int) ∧ iv = .int .i64 (i : Int) ∧ Hid (CrAt w1 wr gs r mb S st nx (m : Int))) (fun _ _ iv _ => 20 - (intOf iv).toNat)
      case atStart => exact ⟨0, 0, 0, S, rfl, by omega, by omega, by omega, rfl, rfl, rfl, H0⟩
      case round =>
        obtain ⟨nx, m, i, S, hnm, hm, hil, hi20, rfl, rfl, rfl, HC⟩ := hrel
        subst hnm
        clear H0
        have hbel := HC.out.bel
        have HPW := Lib.hid (HP.out.below (HB1.out.trans (hbel.mono HB1.out.size)))
        have HBW := Lib.hid (HB1.out.trans (hbel.mono HB1.out.size))
        clear hbel
        by_cases hgo : i < ln ∧ i < 20
        · obtain ⟨g, off, rfl, hbl, cx, hx1, hx2⟩ := HPW.out.get hgo.1
          have e1 : decide ((i : Int) < (ln : Int)) = true := decide_eq_true (by omega)
          have e2 : decide ((i : Int) < 20) = true := decide_eq_true (by omega)
          have i0 : (0 : Int) ≤ (i : Int) := by omega
          have i1 : (i : Int) < (ln : Int) := by omega
          have ha := and255s (fi i)
          have hc0 : 0 ≤ fi i % 256 ∧ fi i % 256 < 256 := by omega
          generalize fi i = x at *
          obtain ⟨c, hc⟩ : ∃ c : Nat, x % 256 = (c : Int) := ⟨(x % 256).toNat, by omega⟩
          rw [hc] at ha hc0
          have HCX := Lib.hid hc
          clear hc
          obtain ⟨M, hM⟩ : ∃ M : Nat, max (nx : Int) (c : Int) = (M : Int) := ⟨max nx c, by omega⟩
          have hMb : M ≤ 255 ∧ nx ≤ M := by omega
          have HOP := Lib.hid (snd_open HC.out hst (by omega) ((st + (c : Int)) % 16777216) (by omega) (by omega))
          have hms : (if ((st + (nx : Int)) % 16777216 - st) % 16777216 ≤ ((st + (c : Int)) % 16777216 - st) % 16777216 then (st + (c : Int)) % 16777216 else (st + (nx : Int)) % 16777216) = (st + (M : Int)) % 16777216 := by
            split <;> congr 2 <;> omega
          rw [hms] at HOP
          have HAC := Lib.hid (HAD.out (c : Int) (by omega))
          generalize hsc : (st + (c : Int)) % 16777216 = sc at *
          have HMM := Lib.hid hM
          clear hms hM hsc
          rcases (show (nx < c ∧ M = c) ∨ (c ≤ nx ∧ M = nx) by have := HMM.out; omega) with ⟨hmc, hMe⟩ | ⟨hmc, hMe⟩
          all_goals
            subst hMe
            go_wp2_with (first | (go_at_call 27; refine (HOF.out _).mono ?_; rintro e w' ⟨rfl, rfl⟩) | (go_at_call 20; refine (HAC.out _).mono ?_; rintro e w' ⟨rfl, rfl⟩))
            refine HOP.out.mono ?_
            rintro e w3 ⟨rfl, h3⟩
            have H3 := Lib.hid h3
            clear h3 HOP HC HPW
            go_wp2_with fail
            go_loopw [7] (fun nxv wr => ∃ (n2 : Nat) (S2 : Nat → Prop), n2 ≤ M ∧ nxv = .int .i64 (n2 : Int) ∧ Hid (CrAt w1 wr gs r mb S2 st n2 (M : Int))) (fun nxv _ => M - (intOf nxv).toNat)
            case atStart => first | exact ⟨nx, S, hMb.2, rfl, H3⟩ | exact ⟨M, S, Nat.le_refl _, rfl, H3⟩
            case round =>
              obtain ⟨n2, S2, hn2, rfl, HC2⟩ := hrel
              clear H3
              by_cases hlt : n2 < M
              · have e3 : decide ((n2 : Int) < (M : Int)) = true := decide_eq_true (by omega)
                have hrep : List.replicate (256 - n2) (Value.string ⟨#[109]⟩) = .string ⟨#[109]⟩ :: List.replicate (256 - (n2 + 1)) (.string ⟨#[109]⟩) := by rw [show 256 - n2 = (256 - (n2 + 1)) + 1 by omega, List.replicate_succ]
                have hC := HC2.out
                unfold CrAt at hC
                rw [hrep] at hC
                have HNX := Lib.hid (snd_nextYes hC (by omega) (by omega) (by omega) (by omega))
                have HAN := Lib.hid (HAD.out (n2 : Int) (by omega))
                have HS1 := Lib.hid (show ((st + (n2 : Int)) % 16777216 + 1) % 16777216 = (st + ((n2 + 1 : Nat) : Int)) % 16777216 by omega)
                have HWO := Lib.hid (wentOut_succ st n2)
                clear hrep hC
                have hbe : ((st + (n2 : Int)) % 16777216 != (st + (n2 : Int)) % 16777216) = false := by simp
                generalize hsn : (st + (n2 : Int)) % 16777216 = sn at *
                have HSN := Lib.hid hsn
                clear hsn
                go_wp2_with fail
                refine HNX.out.mono ?_
                rintro e w4 ⟨rfl, h4⟩
                have H4 : Hid (CrAt w1 w4 gs r mb S2 st (n2 + 1) (M : Int)) := by
                  have h := h4
                  rw [HS1.out] at h
                  unfold CrAt
                  rw [HWO.out]
                  exact h
                clear h4 HNX
                go_wp2_with (first | (go_at_call 27; refine (HOF.out _).mono ?_; rintro e w' ⟨rfl, rfl⟩) | (go_at_call 20; refine (HAN.out _).mono ?_; rintro e w' ⟨rfl, rfl⟩))
                go_roundw
                case rel => exact ⟨n2 + 1, S2, by omega, by go_num, H4⟩
                case measure => simp [intOf]; omega
              · have hn2M : n2 = M := by omega
                have e3 : decide ((n2 : Int) < (M : Int)) = false := decide_eq_false (by omega)
                have H5 : Hid (CrAt w1 wr gs r mb S2 st M (M : Int)) := by have h := HC2.out; rw [hn2M] at h; exact h
                have HNO := Lib.hid (snd_nextNo H5.out (.inr rfl))
                clear HC2
                go_wp2_with fail
                refine HNO.out.mono ?_
                rintro e w4 ⟨rfl, q4, rfl⟩
                have H6 : Hid (CrAt w1 (wr.drewN q4) gs r mb S2 st M (M : Int)) := H5.out.drewN q4
                clear HNO H5
                generalize wr.drewN q4 = w4 at *
                have HLK := Lib.hid (snd_lacks H6.out true (by simp; omega))
                go_wp2_with fail
                refine HLK.out.mono ?_
                rintro e w5 ⟨rfl, q5, rfl⟩
                have H7 : Hid (CrAt w1 (w4.drewN q5) gs r mb S2 st M (M : Int)) := H6.out.drewN q5
                clear HLK H6
                generalize w4.drewN q5 = w5 at *
                have HVA := Lib.hid (snd_vars H7.out (wentOut_nodup st M (by omega)))
                rw [wentOut_len] at HVA
                have hbe : ((M : Int) != (n2 : Int)) = false := by rw [hn2M]; simp
                have hvk := fun (a1 a2 a3 a4 a5 a6 a7 a8 : Int) (w : World) => vars_kept a1 a2 a3 a4 a5 a6 a7 a8 w
                go_wp2_with fail
                refine HVA.out.mono ?_
                rintro e w6 ⟨rfl, hb6⟩
                have H8 : Hid (CrAt w1 w6 gs r mb S2 st M (M : Int)) := H7.out.below hb6
                clear hb6 HVA H7
                go_wp2_with fail
                refine ⟨?_, by simp [intOf]; omega⟩
                repeat apply Exists.intro
                refine ⟨?_, rfl⟩
                exact ⟨M, M, i + 1, S2, rfl, by omega, by omega, by omega, rfl, rfl, by go_num, H8⟩
        · have HVA := Lib.hid (snd_vars HC.out (wentOut_nodup st nx (by omega)))
          have hbe : ((256 - nx : Nat) : Int) = 256 - (nx : Int) := by omega
          rw [List.length_replicate, hbe] at HVA
          have hee : (256 - (nx : Int) == 256 - (nx : Int)) = true := by simp
          have hvq := fun (a1 a2 a3 a4 a5 a6 a7 a8 : Int) (w : World) => vars_queued a1 a2 a3 a4 a5 a6 a7 a8 w
          have hgd : decide ((i : Int) < (ln : Int)) = false ∨ (decide ((i : Int) < (ln : Int)) = true ∧ decide ((i : Int) < 20) = false) := by
            by_cases hq : i < ln
            · exact .inr ⟨decide_eq_true (by omega), decide_eq_false (by omega)⟩
            · exact .inl (decide_eq_false (by omega))
          have hgn : decide (i < ln) = false ∨ (decide (i < ln) = true ∧ decide (i < 20) = false) := by
            by_cases hq : i < ln
            · exact .inr ⟨decide_eq_true hq, decide_eq_false (by omega)⟩
            · exact .inl (decide_eq_false hq)
          have hgi : ¬ i < ln ∨ (i < ln ∧ ¬ i < 20) := by omega
          clear hgo hbe
          rcases hgi with g1 | ⟨g1, g2⟩
          all_goals
            go_wp2_with fail
            refine HVA.out.mono ?_
            rintro e w6 ⟨rfl, hb6⟩
            go_wp2_with fail
            go_ret
            exact ⟨rfl, HBW.out.trans (hb6.mono HBW.out.size)⟩
end Go.Proofs.Ytogbifggaomfjaa
