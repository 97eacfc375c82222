/- The walk of the law WireFlips. Conditions: the unit's row lies as a row does; the numbers are of their kinds. -/
import Derived.Test.YtnocckgbcjienabDoorWireAll
import Derived.Test.YtnocckgbcjienabDoorPduRefCheck
import Derived.Test.YtnocckgbcjienabDoorUnitIn
namespace Go.Proofs.YtnocckgbcjienabDoor
open Go.RowKit
set_option linter.unusedVariables false
set_option linter.unusedSimpArgs false

set_option maxRecDepth 100000 in
theorem flipAtW (s : ByteArray) (at_ : Int) (mask : Nat) (w : World) (hs0 : 0 < s.size) (hs : s.size ≤ 1000) (ha : -40 ≤ at_ ∧ at_ ≤ 9000) (hm : mask < 4294967296) :
    Calls Tryd.prog 26 #[.string s, .int .i64 at_, .int .u32 (mask : Int)] w fun e w' => e = .returned (.string (turnS s at_ mask)) ∧ Below w.heap.size w w' := by
  have HBT := Lib.hid (fun k m (h : k + m = 31) => shl_bit mask k m h hm)
  have hconv := fun W => Lib.run_convert_string_bytes (P := Tryd.prog) W 9 53 5 s Tryd.underlying9 Tryd.underlying53 Tryd.underlying5
  go_enter Tryd.func26, Tryd.ntmps26
  go_wp2_with fail
  generalize grownCap w s.size 0 5 = cap
  have hrow0 : Row8 (Lib.bytesWorld w 5 s) w.heap.size s.size (nums s) := row8_start w s
  have hbel0 : Below w.heap.size w (Lib.bytesWorld w 5 s) := below_bytes w _ s
  have Hrow0 := Lib.hid hrow0
  have Hbel0 := Lib.hid hbel0
  clear hrow0 hbel0 hconv
  generalize Lib.bytesWorld w 5 s = wb at *
  go_loopw [12] (fun i wr => ∃ k : Nat, k ≤ 32 ∧ i = .int .i64 k ∧ Row8 wr w.heap.size s.size (turnZ (nums s) at_ mask k) ∧ Below w.heap.size w wr) (fun i _ => 32 - (intOf i).toNat)
  case atStart => exact ⟨0, by omega, rfl, Hrow0.out, Hbel0.out⟩
  case round =>
    obtain ⟨k, hk, rfl, hrow, hbel⟩ := hrel
    have Hrow := Lib.hid hrow
    have Hbel := Lib.hid hbel
    clear hrow hbel Hrow0 Hbel0
    by_cases hlt : k < 32
    · obtain ⟨m, hm1⟩ : ∃ m, k + m = 31 := ⟨31 - k, by omega⟩
      have hm2 : (31 : Int) - (k : Int) = (m : Int) := by omega
      have hm3 : (m : Int) ≤ 32 := by omega
      have hmb := HBT.out k m hm1
      have hq1 : -1000 ≤ at_ + (k : Int) ∧ at_ + (k : Int) ≤ 10000 := by omega
      obtain ⟨q1, q2⟩ := hq1
      have Hm1 := Lib.hid hm1
      have Hm := Lib.hid hm
      clear hm1 hm
      by_cases hb : mask.testBit m = true
      · rw [hb] at hmb
        have Hb := Lib.hid hb
        clear hb
        by_cases hneg : at_ + (k : Int) < 0
        · have hno := turnZ_out (nums s) at_ mask k (Or.inl hneg)
          have Hno := Lib.hid hno
          have hd : decide ((0 : Int) ≤ at_ + (k : Int)) = false := by rw [decide_eq_false_iff_not]; omega
          have HN := Lib.hid hneg
          clear hno hneg
          go_wp2_with fail
          go_roundw
          case rel => exact ⟨k + 1, by omega, by go_num, by rw [Hno.out]; exact Hrow.out, Hbel.out⟩
          case measure => simp [intOf]; omega
        · obtain ⟨p, hp⟩ : ∃ p : Nat, at_ + (k : Int) = (p : Int) := ⟨(at_ + (k : Int)).toNat, by omega⟩
          have Hp := Lib.hid hp
          have HN := Lib.hid hneg
          rw [hp] at q1 q2
          clear hneg
          by_cases hin : p < 8 * s.size
          · have hin2 : (p : Int) < 8 * (s.size : Int) := by omega
            have hcell := (Hrow.out.2 (p / 8) (by omega)).1
            have hfr := (Hrow.out.2 (p / 8) (by omega)).2
            have hlen : (turnZ (nums s) at_ mask k).length = s.size := Hrow.out.1
            have hst := turnZ_in (nums s) at_ mask k p (by rw [show 31 - k = m by have := Hm1.out; omega]; exact Hb.out) Hp.out (by rw [nums_len]; exact hin)
            have hB2 := turnZ_lt (nums s) (nums_lt s) at_ mask k (p / 8)
            generalize hB : ((turnZ (nums s) at_ mask k).getD (p / 8) 0) = B at *
            have hq : (p : Int) / 8 < (s.size : Int) := by omega
            have Hx := Lib.hid (xor_bit B p hB2)
            have Hst := Lib.hid hst
            clear hB hB2 hst hlen
            go_wp2_with fail
            go_region
            all_goals
              go_wp2
              go_roundw
              case rel => exact ⟨k + 1, by omega, by go_num, by rw [Hst.out]; exact (row8_set Hrow.out (by omega) Hx.out), below_drew (Hbel.out.setCell (Nat.le_refl _) _)⟩
              case measure => simp [intOf]; omega
          · have hin2 : ¬ (p : Int) < 8 * (s.size : Int) := by omega
            have hno := turnZ_out (nums s) at_ mask k (Or.inr (Or.inl (by rw [nums_len]; have := Hp.out; omega)))
            have Hno := Lib.hid hno
            clear hno
            go_wp2_with fail
            go_roundw
            case rel => exact ⟨k + 1, by omega, by go_num, by rw [Hno.out]; exact Hrow.out, Hbel.out⟩
            case measure => simp [intOf]; omega
      · have hno := turnZ_out (nums s) at_ mask k (Or.inr (Or.inr (by rw [show 31 - k = m by have := Hm1.out; omega]; exact Bool.eq_false_iff.2 hb)))
        have Hno := Lib.hid hno
        rw [Bool.eq_false_iff.2 hb] at hmb
        clear hno hb
        go_wp2_with fail
        go_roundw
        case rel => exact ⟨k + 1, by omega, by go_num, by rw [Hno.out]; exact Hrow.out, Hbel.out⟩
        case measure => simp [intOf]; omega
    · have hk32 : k = 32 := by omega
      subst hk32
      have hc2 := row8_string wr w.heap.size s.size cap (turnZ (nums s) at_ mask 32) Hrow.out
      go_wp2_with fail
      go_ret
      exact ⟨rfl, Hbel.out⟩
set_option maxHeartbeats 8000000 in
set_option maxRecDepth 100000 in
theorem walk_WireFlips (k sq n ps mr : Int) (p : Option Addr) (len cap : Nat) (xs : List Int) (se : Bool) (d : ByteArray) (at_ : Int) (mask : Nat) (w : World) (hS : ShapesIn w) (hlen : len = xs.length) (hr : IRowB w (.slice p len cap) xs) (hd : d.size ≤ maxLen) (ha1 : -9223372036854775808 ≤ at_) (ha2 : at_ ≤ 9223372036854775807) (hmask : mask < 4294967296) :
    Calls Tryd.prog 6 #[.agg #[.int .i64 k, .int .i64 sq, .int .i64 n, .int .i64 ps, .int .i64 mr, .slice p len cap, .bool se, .string d], .int .i64 at_, .int .u32 (mask : Int)] w fun e w' => e = .returned (.bool true) ∧ Below w.heap.size w w' := by
  have HLE := Lib.hid hlen
  have HR := Lib.hid hr
  have HD := Lib.hid hd
  have HS := Lib.hid hS
  clear hlen hr hd hS
  go_enter Tryd.func6, Tryd.ntmps6
  go_wp2_with fail
  refine (wire_awake _ (HS.out.next ((Below.refl _ w).alloc (Nat.le_refl _) _))).mono ?_
  rintro e w1 ⟨rfl, hb1⟩
  have HBX := Lib.hid ((rbox_new w k sq n ps mr (.slice p len cap) se d).next hb1)
  have HF1 := Lib.hid ((hb1.block w.heap.size (by rw [World.size_alloc]; omega)).trans (heap_alloc_new w (.cells #[.int .i64 k, .int .i64 sq, .int .i64 n, .int .i64 ps, .int .i64 mr, .slice p len cap, .bool se, .string d] 24)))
  have HW1 := Lib.hid (((Below.refl _ w).alloc (Nat.le_refl _) (.cells #[.int .i64 k, .int .i64 sq, .int .i64 n, .int .i64 ps, .int .i64 mr, .slice p len cap, .bool se, .string d] 24)).trans (hb1.mono (by rw [World.size_alloc]; omega)))
  clear hb1
  obtain ⟨g, hg⟩ : ∃ g, g = w.heap.size := ⟨_, rfl⟩
  have HG := Lib.hid hg
  rw [← hg] at HBX HF1 ⊢
  clear hg
  have HFW := Lib.hid (few_is k sq n ps mr p len cap xs se d w1 HLE.out (HR.out.below HW1.out) HD.out)
  obtain ⟨x0, x1, x2, x3, x4, x5, x6, x7⟩ := HBX.out
  go_wp2_with fail
  refine HFW.out.mono ?_
  rintro e w2 ⟨l, rfl, hrow, hb2, hfar⟩
  have HF2 := Lib.hid ((hb2.block g HBX.out.lt).trans HF1.out)
  have HW2 := Lib.hid (HW1.out.trans (hb2.mono HW1.out.size))
  obtain ⟨A2, c2, hl, hrl⟩ := id hrow
  have HRW := Lib.hid hrow
  have hgl := HBX.out.lt
  have HFAR := Lib.hid hfar
  clear hb2 hrow hrl hfar x0 x1 x2 x3 x4 x5 x6 x7 HFW
  subst hl
  have HN4 : Hid ((0 ≤ in32 n ∧ in32 n < 4294967296) ∧ (0 ≤ in32 ps ∧ in32 ps < 4294967296) ∧ (0 ≤ in32 mr ∧ in32 mr < 4294967296) ∧ (∀ x, x ∈ (xs.take 140).map in32 → 0 ≤ x ∧ x < 4294967296) ∧ ((xs.take 140).map in32).length ≤ 140) :=
    ⟨in32_in _, in32_in _, in32_in _, by
      intro x hx
      obtain ⟨y, _, rfl⟩ := List.mem_map.1 hx
      exact in32_in y, by rw [List.length_map, List.length_take]; omega⟩
  have HD4 : Hid ((cutB d 210).size ≤ 210) := cutB_size d 210
  generalize in32 n = n' at *
  generalize in32 ps = ps' at *
  generalize in32 mr = mr' at *
  generalize cutB d 210 = d' at *
  generalize (xs.take 140).map in32 = ys at *
  go_upto_region 4 with (refine wpList_store_row rfl 24 (.tmp 3) (.tmp 16) rfl g #[.int .i64 k, .int .i64 sq, .int .i64 n', .int .i64 ps', .int .i64 mr', .slice A2 ys.length c2, .bool se, .string d'] rfl rfl 24 _ HF2.out infoRef rfl (runit_one _ _ _ _ _ _ _ _) ?_)
  have HX3 := Lib.hid (rrow_box w2 g k sq n' ps' mr' (.slice A2 ys.length c2) se d' HF2.out)
  have HW3 := Lib.hid (below_setRow (g := g) HW2.out (by have := HG.out; omega) #[.int .i64 k, .int .i64 sq, .int .i64 n', .int .i64 ps', .int .i64 mr', .slice A2 ys.length c2, .bool se, .string d'])
  have HR3 : Hid (IRow (w2.setRow g #[.int .i64 k, .int .i64 sq, .int .i64 n', .int .i64 ps', .int .i64 mr', .slice A2 ys.length c2, .bool se, .string d']) (.slice A2 ys.length c2) ys) := irow_setRow HRW.out (fun r hr h => by have := HFAR.out r hr; omega)
  clear HF1 HF2 HW1 HW2 HBX HRW HFAR hgl
  generalize w2.setRow g #[.int .i64 k, .int .i64 sq, .int .i64 n', .int .i64 ps', .int .i64 mr', .slice A2 ys.length c2, .bool se, .string d'] = w3 at *
  go_wp2_with fail
  refine (wire_new _).mono ?_
  rintro e wn ⟨v, rfl, hh⟩
  have hbn := hh.below
  have HTN := Lib.hid (has_here hh)
  have HXN := Lib.hid (HX3.out.next hbn)
  have HWN := Lib.hid (HW3.out.trans (hbn.mono HW3.out.size))
  have HRN := Lib.hid (HR3.out.below hbn)
  clear hh hbn HX3 HW3 HR3
  have HOW := Lib.hid (own_unit k sq n' ps' mr' A2 ys.length c2 ys se d' wn rfl HRN.out (by have := HN4.out.2.2.2.2; omega) HN4.out.1 HN4.out.2.1 HN4.out.2.2.1 HN4.out.2.2.2.1)
  obtain ⟨x0, x1, x2, x3, x4, x5, x6, x7⟩ := HXN.out
  go_wp2_with fail
  refine HOW.out.mono ?_
  rintro e w5 ⟨A, c, rfl, hnum, hb4, _⟩
  have HNU5 := Lib.hid hnum
  have HX5 := Lib.hid (HXN.out.next hb4)
  have HW5 := Lib.hid (HWN.out.trans (hb4.mono HWN.out.size))
  have HR5 := Lib.hid (HRN.out.below hb4)
  have HT5 := Lib.hid (has_here (HTN.out.next hb4))
  clear hnum hb4 HXN HWN HRN HTN HOW x0 x1 x2 x3 x4 x5 x6 x7
  have HPK := Lib.hid (fun W (hT : Has w5 W v) => wire_pack v k sq n' ps' mr' A c ys se d' w5 W hT ((HS.out.next HW5.out).next hT.below) (HNU5.out.below hT.below) HN4.out.1 HN4.out.2.1 HN4.out.2.2.1 (fun x hx => (HN4.out.2.2.2.1 x hx).1))
  have HCR : Hid (∀ W (hW : Below w5.heap.size w5 W), Calls Tryd.prog 14 #[.agg #[.int .i64 k, .int .i64 sq, .int .i64 n', .int .i64 ps', .int .i64 mr', .slice A2 ys.length c2, .bool se, .string d']] W fun e w' => e = .returned (.int .i64 (checkA k sq n' ps' mr' ys se d')) ∧ Below W.heap.size W w') := fun W hW => by
    have h := ref_check k sq n' ps' mr' A2 ys.length c2 ys se d' W rfl (HR5.out.below hW)
    rw [rCheck_is k sq n' ps' mr' ys se d' HN4.out.1.1 HN4.out.2.1.1 HN4.out.2.2.1.1 (fun x hx => (HN4.out.2.2.2.1 x hx).1)] at h
    exact h
  have HSM := Lib.hid (fun (A9 : Option Addr) (c9 : Nat) W (hW : Below w5.heap.size w5 W) (hn : NumRow W (.slice A9 ys.length c9) ys) => law_same k sq n' ps' mr' A9 ys.length c9 ys se d' k sq n' ps' mr' A2 ys.length c2 ys se d' W hn (HR5.out.below hW) HN4.out.1 HN4.out.2.1 HN4.out.2.2.1 HN4.out.2.2.2.1)
  rw [same_yes ⟨rfl, rfl, rfl, rfl, rfl, rfl, rfl, rfl⟩] at HSM
  have HOP : Hid (checkA k sq n' ps' mr' ys se d' = 0 → (∀ W (hT : Has w5 W v), Calls Tryd.prog 24 #[.pointer (some ⟨v, 0, none⟩), .string (packA k sq n' ps' mr' ys se d')] W fun e w' => ∃ A c, e = .returned (.tuple #[.agg #[.int .i64 k, .int .i64 sq, .int .u32 n', .int .u32 ps', .int .u32 mr', .slice A ys.length c, .bool se, .string d'], .int .i64 0]) ∧ NumRow w' (.slice A ys.length c) ys ∧ Has w5 w' v) ∧ (packA k sq n' ps' mr' ys se d').size % 48 = 0 ∧ (packA k sq n' ps' mr' ys se d').size ≤ 816 ∧ 8 ≤ (packA k sq n' ps' mr' ys se d').size ∧ ∀ (a : Int) (m : Nat), turnS (packA k sq n' ps' mr' ys se d') a m ≠ packA k sq n' ps' mr' ys se d' → fitsB (turnS (packA k sq n' ps' mr' ys se d') a m) = false) := fun hc => by
    obtain ⟨f1, f2, f3, f4⟩ := pack_fits k sq n' ps' mr' ys se d' hc
    have hV : packA k sq n' ps' mr' ys se d' = frameB 0 (bytesA k sq n' ps' mr' ys se d') := if_pos hc
    refine ⟨fun W hT => wire_open_ok v k sq n' ps' mr' ys se d' w5 W hT hT.below.size ((HS.out.next HW5.out).next hT.below) hc (fun x hx => (HN4.out.2.2.2.1 x hx).1), f2, f4, by rw [hV, frame_size]; omega, fun a m => ?_⟩
    rw [hV]
    exact turnS_told (bodyF 0 (bytesA k sq n' ps' mr' ys se d')) a m
  generalize checkA k sq n' ps' mr' ys se d' = C at *
  generalize packA k sq n' ps' mr' ys se d' = X at *
  go_wp2_with fail
  refine (HPK.out _ HT5.out).mono ?_
  rintro e w6 ⟨rfl, hh6⟩
  have HT6 := Lib.hid hh6
  clear hh6
  by_cases hc : C = 0
  case neg =>
    have d1 : (C != 0) = true := by rw [bne_iff_ne]; exact hc
    have d2 : (C == C) = true := by simp
    clear hc HOP
    have HX6 := Lib.hid (HX5.out.next HT6.out.below)
    obtain ⟨x0, x1, x2, x3, x4, x5, x6, x7⟩ := HX6.out
    go_wp2_with fail
    refine (HCR.out _ HT6.out.below).mono ?_
    rintro e w7 ⟨rfl, hb7⟩
    have HB7 := Lib.hid (HT6.out.below.trans (hb7.mono HT6.out.below.size))
    clear hb7
    go_wp2_with fail
    go_ret
    exact ⟨by first | rfl | simp, HW5.out.trans (HB7.out.mono HW5.out.size)⟩
  obtain ⟨ho, hm, hle, hge, htold⟩ := HOP.out hc
  have HO := Lib.hid ho
  have HTD := Lib.hid htold
  have d1 : (C != 0) = false := by rw [bne_eq_false_iff_eq]; exact hc
  obtain rfl := hc
  clear ho htold HOP
  have HFL := Lib.hid (fun (a : Int) W (h1 : -40 ≤ a) (h2 : a ≤ 7000) => flipAtW X a mask W (by omega) (by omega) ⟨h1, by omega⟩ hmask)
  have hTS := fun a => turnS_size X a mask
  have HTS := Lib.hid hTS
  have HX := Lib.hid (show X.size % 48 = 0 ∧ X.size ≤ 816 ∧ 8 ≤ X.size from ⟨hm, hle, hge⟩)
  clear hTS
  go_upto_region 8 with fail
  go_cut [10] (fun s10 w' => ∃ Y : ByteArray, s10 = .string Y ∧ Hid (∃ a : Int, Y = turnS X a mask) ∧ Hid (Below w6.heap.size w6 w'))
  case first =>
    have hw1 : IntKind.i64.wrap (8 * (X.size : Int)) = 8 * (X.size : Int) := by rw [IntKind.wrap_i64]; omega
    have hw2 : IntKind.i64.wrap (8 * (X.size : Int) + 4) = 8 * (X.size : Int) + 4 := by rw [IntKind.wrap_i64]; omega
    go_wp2_with (go_at_call 26; (refine (HFL.out _ _ ?_ ?_).mono ?_); (· first | omega | (split <;> omega) | (repeat' split) <;> omega); (· first | omega | (split <;> omega) | (repeat' split) <;> omega); rintro e w7 ⟨rfl, hb7⟩)
    all_goals
      go_wp2_with fail
      go_meet
      exact ⟨_, rfl, ⟨_, rfl⟩, hb7⟩
  case rest =>
    obtain ⟨Y, rfl, HY, HB7⟩ := hcut
    have HT7 := Lib.hid (HT6.out.next HB7.out)
    have hys : Y.size = X.size := by obtain ⟨a, rfl⟩ := HY.out; exact HTS.out a
    have hEQ := toList_eq2 Y X
    have HYS := Lib.hid hys
    clear hm hle hge hys HFL HT6
    by_cases hxy : Y = X
    · subst hxy
      have hXX : (Y.toList == Y.toList) = true := by simp
      clear hEQ HTD
      go_wp2_with fail
      refine (HO.out _ HT7.out).mono ?_
      rintro e wa ⟨A9, c9, rfl, hn, hha⟩
      have HTA := Lib.hid hha
      have HNA := Lib.hid hn
      clear hha hn
      go_upto_region 10 with (refine wpList_store_row rfl 31 (.tmp 11) (.tmp 45) rfl wa.heap.size #[.int .i64 k, .int .i64 sq, .int .u32 n', .int .u32 ps', .int .u32 mr', .slice A9 ys.length c9, .bool se, .string d'] rfl rfl 31 _ (heap_alloc_new wa _) infoPduW rfl (unit_one _ _ _ _ _ _ _ _) ?_)
      have hbb : Below wa.heap.size wa ((wa.alloc (.cells #[.int .i64 0, .int .i64 0, .int .u32 0, .int .u32 0, .int .u32 0, .slice none 0 0, .bool false, .string ⟨#[]⟩] 31)).setRow wa.heap.size #[.int .i64 k, .int .i64 sq, .int .u32 n', .int .u32 ps', .int .u32 mr', .slice A9 ys.length c9, .bool se, .string d']) := below_setRow ((Below.refl _ wa).alloc (Nat.le_refl _) _) (Nat.le_refl _) _
      have HQB := Lib.hid (row_box (wa.alloc (.cells #[.int .i64 0, .int .i64 0, .int .u32 0, .int .u32 0, .int .u32 0, .slice none 0 0, .bool false, .string ⟨#[]⟩] 31)) wa.heap.size k sq n' ps' mr' (.slice A9 ys.length c9) se d' (heap_alloc_new wa _))
      have HTB := Lib.hid (HTA.out.next hbb)
      have HNB := Lib.hid (HNA.out.below hbb)
      obtain ⟨q9, hq9⟩ : ∃ q9, q9 = wa.heap.size := ⟨_, rfl⟩
      rw [← hq9] at HQB HTB HNB ⊢
      clear hbb hq9 HTA HNA
      generalize (wa.alloc (.cells #[.int .i64 0, .int .i64 0, .int .u32 0, .int .u32 0, .int .u32 0, .slice none 0 0, .bool false, .string ⟨#[]⟩] 31)).setRow q9 #[.int .i64 k, .int .i64 sq, .int .u32 n', .int .u32 ps', .int .u32 mr', .slice A9 ys.length c9, .bool se, .string d'] = wb at *
      have HXB := Lib.hid (HX5.out.next HTB.out.below)
      obtain ⟨x0, x1, x2, x3, x4, x5, x6, x7⟩ := HXB.out
      obtain ⟨z0, z1, z2, z3, z4, z5, z6, z7⟩ := HQB.out
      go_wp2_with fail
      refine (HSM.out A9 c9 _ HTB.out.below HNB.out).mono ?_
      rintro e wd ⟨rfl, hbd⟩
      have HTDD := Lib.hid (HTB.out.next hbd)
      clear hbd x0 x1 x2 x3 x4 x5 x6 x7 z0 z1 z2 z3 z4 z5 z6 z7
      go_wp2_with fail
      go_ret
      exact ⟨by first | rfl | simp, HW5.out.trans (HTDD.out.below.mono HW5.out.size)⟩
    · have hfit : fitsB Y = false := by obtain ⟨a, rfl⟩ := HY.out; exact HTD.out a mask hxy
      have hXX : (Y.toList == X.toList) = false := by rw [hEQ]; exact decide_eq_false hxy
      have HOB := Lib.hid (fun W (hT : Has w5 W v) => wire_open_bad v Y 4 w5 W hT hT.below.size (by decide) (fun g w h => parse_sum Y g w w (by have := HX.out; have := HYS.out; unfold maxLen; omega) h (by have := HX.out; have := HYS.out; omega) (by have := HX.out; have := HYS.out; omega) hfit))
      have HSO : Hid (∀ W (hT : Has W W v), Calls Tryd.prog 25 #[.pointer (some ⟨v, 0, none⟩), .string Y] W fun e w' => e = .returned (.bool false) ∧ Has W w' v) := fun W hT => by
        have h := wire_sound v Y W W hT (by have := HX.out; have := HYS.out; unfold maxLen; omega)
        rw [hfit, Bool.and_false] at h
        exact h
      clear hxy hEQ hfit HTD HO HY HYS HX HTS
      go_wp2_with fail
      refine (HOB.out _ HT7.out).mono ?_
      rintro e wa ⟨rfl, hha⟩
      have HTA := Lib.hid hha
      clear hha
      go_upto_region 10 with (refine wpList_store_row rfl 31 (.tmp 11) (.tmp 45) rfl wa.heap.size #[.int .i64 0, .int .i64 0, .int .u32 0, .int .u32 0, .int .u32 0, .slice none 0 0, .bool false, .string ⟨#[]⟩] rfl rfl 31 _ (heap_alloc_new wa _) infoPduW rfl (unit_one _ _ _ _ _ _ _ _) ?_)
      have hbb : Below wa.heap.size wa ((wa.alloc (.cells #[.int .i64 0, .int .i64 0, .int .u32 0, .int .u32 0, .int .u32 0, .slice none 0 0, .bool false, .string ⟨#[]⟩] 31)).setRow wa.heap.size #[.int .i64 0, .int .i64 0, .int .u32 0, .int .u32 0, .int .u32 0, .slice none 0 0, .bool false, .string ⟨#[]⟩]) := below_setRow ((Below.refl _ wa).alloc (Nat.le_refl _) _) (Nat.le_refl _) _
      have HQB := Lib.hid (row_box (wa.alloc (.cells #[.int .i64 0, .int .i64 0, .int .u32 0, .int .u32 0, .int .u32 0, .slice none 0 0, .bool false, .string ⟨#[]⟩] 31)) wa.heap.size 0 0 0 0 0 (.slice none 0 0) false ⟨#[]⟩ (heap_alloc_new wa _))
      have HTB := Lib.hid (HTA.out.next hbb)
      obtain ⟨q9, hq9⟩ : ∃ q9, q9 = wa.heap.size := ⟨_, rfl⟩
      rw [← hq9] at HQB HTB ⊢
      clear hbb hq9 HTA
      generalize (wa.alloc (.cells #[.int .i64 0, .int .i64 0, .int .u32 0, .int .u32 0, .int .u32 0, .slice none 0 0, .bool false, .string ⟨#[]⟩] 31)).setRow q9 #[.int .i64 0, .int .i64 0, .int .u32 0, .int .u32 0, .int .u32 0, .slice none 0 0, .bool false, .string ⟨#[]⟩] = wb at *
      go_wp2_with fail
      refine (HSO.out _ (has_here HTB.out)).mono ?_
      rintro e wd ⟨rfl, hhd⟩
      have HTE := Lib.hid (HTB.out.next hhd.below)
      have HQE := Lib.hid (HQB.out.next hhd.below)
      clear hhd
      obtain ⟨x0, x1, x2, x3, x4, x5, x6, x7⟩ := HQE.out
      go_wp2_with fail
      go_ret
      exact ⟨by first | rfl | simp, HW5.out.trans (HTE.out.below.mono HW5.out.size)⟩
end Go.Proofs.YtnocckgbcjienabDoor
