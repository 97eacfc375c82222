/- The walk of the law PduBack. Conditions: the unit's row lies as a row does. -/
import Derived.Test.YtnocckgbcjienabDoorPduOwnUnit
import Derived.Test.YtnocckgbcjienabDoorPduDoor
import Derived.Test.YtnocckgbcjienabDoorPduRefCheck
import Derived.Test.YtnocckgbcjienabDoorUnitIn
namespace Go.Proofs.YtnocckgbcjienabDoor
open Go.RowKit
set_option linter.unusedVariables false
set_option linter.unusedSimpArgs false

theorem check_is : CheckIs := fun k sq n ps mr p len cap xs se d w h1 h2 => ref_check k sq n ps mr p len cap xs se d w h1 h2
theorem pduB_mod (k : Nat) (sq n ps mr : Int) (xs : List Int) (se : Bool) (d : ByteArray) : (((pduB k sq n ps mr xs se d).size : Int) % 4 == 0) = true := by
  have h := pduB_size k sq n ps mr xs se d
  have hf : fillOf d.size = (4 - d.size % 4) % 4 := rfl
  rw [beq_iff_eq]
  omega
theorem infoPduP : (Tryd.prog.info? 31).map (·.size) = some 8 := by kernel_rfl
set_option maxHeartbeats 4000000 in
set_option maxRecDepth 100000 in
theorem walk_PduBack (k sq n ps mr : Int) (p : Option Addr) (len cap : Nat) (xs : List Int) (se : Bool) (d : ByteArray) (w : World) (hS : ShapesIn w) (hlen : len = xs.length) (hr : IRowB w (.slice p len cap) xs) (hd : d.size ≤ maxLen) :
    Calls Tryd.prog 3 #[.agg #[.int .i64 k, .int .i64 sq, .int .i64 n, .int .i64 ps, .int .i64 mr, .slice p len cap, .bool se, .string d]] w fun e w' => e = .returned (.bool true) ∧ Below w.heap.size w w' := by
  have HLE := Lib.hid hlen
  have HR := Lib.hid hr
  have HD := Lib.hid hd
  have HS := Lib.hid hS
  clear hlen hr hd hS
  go_enter Tryd.func3, Tryd.ntmps3
  go_wp2_with fail
  refine (pdu_awake _ (HS.out.next ((Below.refl _ w).alloc (Nat.le_refl _) _))).mono ?_
  rintro e w1 ⟨rfl, hb1⟩
  have HBX := Lib.hid ((rbox_new w k sq n ps mr (.slice p len cap) se d).next hb1)
  have HF1 := Lib.hid ((hb1.block w.heap.size (by rw [World.size_alloc]; omega)).trans (heap_alloc_new w (.cells #[.int .i64 k, .int .i64 sq, .int .i64 n, .int .i64 ps, .int .i64 mr, .slice p len cap, .bool se, .string d] 24)))
  have HW1 := Lib.hid (((Below.refl _ w).alloc (Nat.le_refl _) (.cells #[.int .i64 k, .int .i64 sq, .int .i64 n, .int .i64 ps, .int .i64 mr, .slice p len cap, .bool se, .string d] 24)).trans (hb1.mono (by rw [World.size_alloc]; omega)))
  clear hb1
  obtain ⟨g, hg⟩ : ∃ g, g = w.heap.size := ⟨_, rfl⟩
  have HG := Lib.hid hg
  rw [← hg] at HBX HF1 ⊢
  clear hg
  have HFW := Lib.hid (few_is k sq n ps mr p len cap xs se d w1 HLE.out (HR.out.below HW1.out) HD.out)
  obtain ⟨x0, x1, x2, x3, x4, x5, x6, x7⟩ := HBX.out
  go_wp2_with fail
  refine HFW.out.mono ?_
  rintro e w2 ⟨l, rfl, hrow, hb2, hfar⟩
  have HF2 := Lib.hid ((hb2.block g HBX.out.lt).trans HF1.out)
  have HW2 := Lib.hid (HW1.out.trans (hb2.mono HW1.out.size))
  obtain ⟨A2, c2, hl, hrl⟩ := id hrow
  have HRW := Lib.hid hrow
  have hgl := HBX.out.lt
  have HFAR := Lib.hid hfar
  clear hb2 hrow hrl hfar x0 x1 x2 x3 x4 x5 x6 x7 HFW
  subst hl
  have HN4 : Hid ((0 ≤ in32 n ∧ in32 n < 4294967296) ∧ (0 ≤ in32 ps ∧ in32 ps < 4294967296) ∧ (0 ≤ in32 mr ∧ in32 mr < 4294967296) ∧ (∀ x, x ∈ (xs.take 140).map in32 → 0 ≤ x ∧ x < 4294967296) ∧ ((xs.take 140).map in32).length ≤ 140) :=
    ⟨in32_in _, in32_in _, in32_in _, by
      intro x hx
      obtain ⟨y, _, rfl⟩ := List.mem_map.1 hx
      exact in32_in y, by rw [List.length_map, List.length_take]; omega⟩
  have HD4 : Hid ((cutB d 210).size ≤ 210) := cutB_size d 210
  generalize in32 n = n' at *
  generalize in32 ps = ps' at *
  generalize in32 mr = mr' at *
  generalize cutB d 210 = d' at *
  generalize (xs.take 140).map in32 = ys at *
  go_upto_region 4 with (refine wpList_store_row rfl 24 (.tmp 1) (.tmp 9) rfl g #[.int .i64 k, .int .i64 sq, .int .i64 n', .int .i64 ps', .int .i64 mr', .slice A2 ys.length c2, .bool se, .string d'] rfl rfl 24 _ HF2.out infoRef rfl (runit_one _ _ _ _ _ _ _ _) ?_)
  have HX3 := Lib.hid (rrow_box w2 g k sq n' ps' mr' (.slice A2 ys.length c2) se d' HF2.out)
  have HW3 := Lib.hid (below_setRow (g := g) HW2.out (by have := HG.out; omega) #[.int .i64 k, .int .i64 sq, .int .i64 n', .int .i64 ps', .int .i64 mr', .slice A2 ys.length c2, .bool se, .string d'])
  have HR3 : Hid (IRow (w2.setRow g #[.int .i64 k, .int .i64 sq, .int .i64 n', .int .i64 ps', .int .i64 mr', .slice A2 ys.length c2, .bool se, .string d']) (.slice A2 ys.length c2) ys) := irow_setRow HRW.out (fun r hr h => by have := HFAR.out r hr; omega)
  clear HF1 HF2 HW1 HW2 HBX HRW HFAR hgl
  generalize w2.setRow g #[.int .i64 k, .int .i64 sq, .int .i64 n', .int .i64 ps', .int .i64 mr', .slice A2 ys.length c2, .bool se, .string d'] = w3 at *
  have HOW := Lib.hid (own_unit k sq n' ps' mr' A2 ys.length c2 ys se d' w3 rfl HR3.out (by have := HN4.out.2.2.2.2; omega) HN4.out.1 HN4.out.2.1 HN4.out.2.2.1 HN4.out.2.2.2.1)
  obtain ⟨x0, x1, x2, x3, x4, x5, x6, x7⟩ := HX3.out
  go_wp2_with fail
  refine HOW.out.mono ?_
  rintro e w4 ⟨A, c, rfl, hnum, hb4, _⟩
  have HNU := Lib.hid hnum
  have HX4 := Lib.hid (HX3.out.next hb4)
  have HW4 := Lib.hid (HW3.out.trans (hb4.mono HW3.out.size))
  have HR4 := Lib.hid (HR3.out.below hb4)
  clear hnum hb4 HX3 HW3 HR3 HOW x0 x1 x2 x3 x4 x5 x6 x7
  go_upto_region 5 with (refine wpList_store_row rfl 31 (.tmp 3) (.tmp 11) rfl w4.heap.size #[.int .i64 k, .int .i64 sq, .int .u32 n', .int .u32 ps', .int .u32 mr', .slice A ys.length c, .bool se, .string d'] rfl rfl 31 _ (heap_alloc_new w4 _) infoPduP rfl (unit_one _ _ _ _ _ _ _ _) ?_)
  have hb5 : Below w4.heap.size w4 ((w4.alloc (.cells #[.int .i64 0, .int .i64 0, .int .u32 0, .int .u32 0, .int .u32 0, .slice none 0 0, .bool false, .string ⟨#[]⟩] 31)).setRow w4.heap.size #[.int .i64 k, .int .i64 sq, .int .u32 n', .int .u32 ps', .int .u32 mr', .slice A ys.length c, .bool se, .string d']) := below_setRow ((Below.refl _ w4).alloc (Nat.le_refl _) _) (Nat.le_refl _) _
  have HP5 := Lib.hid (row_box (w4.alloc (.cells #[.int .i64 0, .int .i64 0, .int .u32 0, .int .u32 0, .int .u32 0, .slice none 0 0, .bool false, .string ⟨#[]⟩] 31)) w4.heap.size k sq n' ps' mr' (.slice A ys.length c) se d' (heap_alloc_new w4 _))
  have HX5 := Lib.hid (HX4.out.next hb5)
  have HW5 := Lib.hid (HW4.out.trans (hb5.mono HW4.out.size))
  have HR5 := Lib.hid (HR4.out.below hb5)
  have HNU5 := Lib.hid (HNU.out.below hb5)
  obtain ⟨q, hq⟩ : ∃ q, q = w4.heap.size := ⟨_, rfl⟩
  rw [← hq] at HP5 hb5 HX5 HW5 HR5 HNU5 ⊢
  clear hb5 hq HX4 HW4 HR4 HNU
  generalize (w4.alloc (.cells #[.int .i64 0, .int .i64 0, .int .u32 0, .int .u32 0, .int .u32 0, .slice none 0 0, .bool false, .string ⟨#[]⟩] 31)).setRow q #[.int .i64 k, .int .i64 sq, .int .u32 n', .int .u32 ps', .int .u32 mr', .slice A ys.length c, .bool se, .string d'] = w5 at *
  have HCP := Lib.hid (fun W (hW : Below w5.heap.size w5 W) => pdu_checkA k sq n' ps' mr' A ys.length c ys se d' W ((HS.out.next HW5.out).next hW) rfl (HNU5.out.below hW) HN4.out.1 HN4.out.2.1 HN4.out.2.2.1)
  have HBP := Lib.hid (fun W (hW : Below w5.heap.size w5 W) => pdu_bytesA k sq n' ps' mr' A ys.length c ys se d' W ((HS.out.next HW5.out).next hW) rfl (HNU5.out.below hW) HN4.out.1 HN4.out.2.1 HN4.out.2.2.1 (fun x hx => (HN4.out.2.2.2.1 x hx).1))
  have HCR : Hid (∀ W (hW : Below w5.heap.size w5 W), Calls Tryd.prog 14 #[.agg #[.int .i64 k, .int .i64 sq, .int .i64 n', .int .i64 ps', .int .i64 mr', .slice A2 ys.length c2, .bool se, .string d']] W fun e w' => e = .returned (.int .i64 (checkA k sq n' ps' mr' ys se d')) ∧ Below W.heap.size W w') := fun W hW => by
    have h := ref_check k sq n' ps' mr' A2 ys.length c2 ys se d' W rfl (HR5.out.below hW)
    rw [rCheck_is k sq n' ps' mr' ys se d' HN4.out.1.1 HN4.out.2.1.1 HN4.out.2.2.1.1 (fun x hx => (HN4.out.2.2.2.1 x hx).1)] at h
    exact h
  have HBR := Lib.hid (fun W (hW : Below w5.heap.size w5 W) => ref_bytesA check_is k sq n' ps' mr' A2 ys.length c2 ys se d' W rfl (HR5.out.below hW) HN4.out.1.1 HN4.out.2.1.1 HN4.out.2.2.1.1 (fun x hx => (HN4.out.2.2.2.1 x hx).1))
  have HSM := Lib.hid (fun (A9 : Option Addr) (c9 : Nat) W (hW : Below w5.heap.size w5 W) (hn : NumRow W (.slice A9 ys.length c9) ys) => law_same k sq n' ps' mr' A9 ys.length c9 ys se d' k sq n' ps' mr' A2 ys.length c2 ys se d' W hn (HR5.out.below hW) HN4.out.1 HN4.out.2.1 HN4.out.2.2.1 HN4.out.2.2.2.1)
  have HPK : Hid (checkA k sq n' ps' mr' ys se d' = 0 → ((bytesA k sq n' ps' mr' ys se d').size : Int) % 4 = 0 ∧ ∀ W, ShapesIn W → Calls Tryd.prog 17 #[.string (bytesA k sq n' ps' mr' ys se d')] W fun e w' => ∃ l, e = .returned (.tuple #[.agg #[.int .i64 k, .int .i64 sq, .int .u32 n', .int .u32 ps', .int .u32 mr', l, .bool se, .string d'], .int .i64 0]) ∧ NumRow w' l ys ∧ Below W.heap.size W w') := fun hc => by
    have hk : 1 ≤ k ∧ k ≤ 15 := by
      by_cases h : 1 ≤ k ∧ k ≤ 15
      · exact h
      · unfold checkA at hc; rw [if_neg h] at hc; cases hc
    have hB : bytesA k sq n' ps' mr' ys se d' = pduB k.toNat sq n' ps' mr' ys se d' := by unfold bytesA; rw [if_pos hc]
    rw [hB]
    obtain ⟨kk, rfl⟩ : ∃ kk : Nat, k = (kk : Int) := ⟨k.toNat, by omega⟩
    rw [Int.toNat_natCast]
    refine ⟨by have := pduB_mod kk sq n' ps' mr' ys se d'; rwa [beq_iff_eq] at this, fun W hW => ?_⟩
    unfold checkA at hc
    rw [if_pos hk, Int.toNat_natCast] at hc
    exact pdu_parse_ok kk sq n' ps' mr' ys se d' W (by omega) hW hc (fun x hx => (HN4.out.2.2.2.1 x hx).1)
  rw [same_yes ⟨rfl, rfl, rfl, rfl, rfl, rfl, rfl, rfl⟩] at HSM
  generalize checkA k sq n' ps' mr' ys se d' = C at *
  generalize bytesA k sq n' ps' mr' ys se d' = X at *
  obtain ⟨x0, x1, x2, x3, x4, x5, x6, x7⟩ := HX5.out
  obtain ⟨y0, y1, y2, y3, y4, y5, y6, y7⟩ := HP5.out
  have hC : (C != C) = false := by simp
  have hX : (X.toList == X.toList) = true := by simp
  have HDR := Lib.hid ((Below.refl w5.heap.size w5).drew)
  go_region_held3 (fun w' => w'.cell? ⟨g, 0, none⟩ = some (.int .i64 k) ∧ w'.cell? ⟨g, 1, none⟩ = some (.int .i64 sq) ∧ w'.cell? ⟨g, 2, none⟩ = some (.int .i64 n') ∧ w'.cell? ⟨g, 3, none⟩ = some (.int .i64 ps') ∧ w'.cell? ⟨g, 4, none⟩ = some (.int .i64 mr') ∧ w'.cell? ⟨g, 5, none⟩ = some (.slice A2 ys.length c2) ∧ w'.cell? ⟨g, 6, none⟩ = some (.bool se) ∧ w'.cell? ⟨g, 7, none⟩ = some (.string d') ∧ w'.cell? ⟨q, 0, none⟩ = some (.int .i64 k) ∧ w'.cell? ⟨q, 1, none⟩ = some (.int .i64 sq) ∧ w'.cell? ⟨q, 2, none⟩ = some (.int .u32 n') ∧ w'.cell? ⟨q, 3, none⟩ = some (.int .u32 ps') ∧ w'.cell? ⟨q, 4, none⟩ = some (.int .u32 mr') ∧ w'.cell? ⟨q, 5, none⟩ = some (.slice A ys.length c) ∧ w'.cell? ⟨q, 6, none⟩ = some (.bool se) ∧ w'.cell? ⟨q, 7, none⟩ = some (.string d'))
    (first | go_keep)
    (first
      | (go_at_call 13; (with_reducible refine (HCP.out _ HDR.out).mono ?_); rintro e wa ⟨rfl, hbwa⟩
         have HBwa := Lib.hid (Below.trans HDR.out (hbwa.mono (Below.size HDR.out)))
         have HXwa := Lib.hid (HX5.out.next HBwa.out)
         have HPwa := Lib.hid (HP5.out.next HBwa.out)
         clear hbwa
         obtain ⟨x0wa, x1wa, x2wa, x3wa, x4wa, x5wa, x6wa, x7wa⟩ := HXwa.out
         obtain ⟨y0wa, y1wa, y2wa, y3wa, y4wa, y5wa, y6wa, y7wa⟩ := HPwa.out)
      | (go_at_call 14; (with_reducible refine (HCR.out _ HBwa.out).mono ?_); rintro e wb ⟨rfl, hbwb⟩
         have HBwb := Lib.hid (Below.trans HBwa.out (hbwb.mono (Below.size HBwa.out)))
         have HXwb := Lib.hid (HX5.out.next HBwb.out)
         have HPwb := Lib.hid (HP5.out.next HBwb.out)
         clear hbwb
         obtain ⟨x0wb, x1wb, x2wb, x3wb, x4wb, x5wb, x6wb, x7wb⟩ := HXwb.out
         obtain ⟨y0wb, y1wb, y2wb, y3wb, y4wb, y5wb, y6wb, y7wb⟩ := HPwb.out)
      | (go_at_call 15; (with_reducible refine (HBP.out _ HBwb.out).mono ?_); rintro e wd ⟨rfl, hbwd⟩
         have HBwd := Lib.hid (Below.trans HBwb.out (hbwd.mono (Below.size HBwb.out)))
         have HXwd := Lib.hid (HX5.out.next HBwd.out)
         have HPwd := Lib.hid (HP5.out.next HBwd.out)
         clear hbwd
         obtain ⟨x0wd, x1wd, x2wd, x3wd, x4wd, x5wd, x6wd, x7wd⟩ := HXwd.out
         obtain ⟨y0wd, y1wd, y2wd, y3wd, y4wd, y5wd, y6wd, y7wd⟩ := HPwd.out)
      | (go_at_call 16; (with_reducible refine (HBR.out _ HBwd.out).mono ?_); rintro e we ⟨rfl, hbwe⟩
         have HBwe := Lib.hid (Below.trans HBwd.out (hbwe.mono (Below.size HBwd.out)))
         have HXwe := Lib.hid (HX5.out.next HBwe.out)
         have HPwe := Lib.hid (HP5.out.next HBwe.out)
         clear hbwe
         obtain ⟨x0we, x1we, x2we, x3we, x4we, x5we, x6we, x7we⟩ := HXwe.out
         obtain ⟨y0we, y1we, y2we, y3we, y4we, y5we, y6we, y7we⟩ := HPwe.out)
      | fail)
  clear x0wa x1wa x2wa x3wa x4wa x5wa x6wa x7wa y0wa y1wa y2wa y3wa y4wa y5wa y6wa y7wa x0wb x1wb x2wb x3wb x4wb x5wb x6wb x7wb y0wb y1wb y2wb y3wb y4wb y5wb y6wb y7wb x0wd x1wd x2wd x3wd x4wd x5wd x6wd x7wd y0wd y1wd y2wd y3wd y4wd y5wd y6wd y7wd x0 x1 x2 x3 x4 x5 x6 x7 y0 y1 y2 y3 y4 y5 y6 y7 HXwa HXwb HXwd HPwa HPwb HPwd HBwa HBwb HBwd HDR
  go_wp2_with fail
  refine (HCR.out _ HBwe.out).mono ?_
  rintro e w6 ⟨rfl, hb6⟩
  have HB6 := Lib.hid (HBwe.out.trans (hb6.mono HBwe.out.size))
  clear hb6 x0we x1we x2we x3we x4we x5we x6we x7we y0we y1we y2we y3we y4we y5we y6we y7we HBwe HXwe HPwe
  have HX6 := Lib.hid (HX5.out.next HB6.out)
  have HP6 := Lib.hid (HP5.out.next HB6.out)
  obtain ⟨x0, x1, x2, x3, x4, x5, x6, x7⟩ := HX6.out
  obtain ⟨y0, y1, y2, y3, y4, y5, y6, y7⟩ := HP6.out
  by_cases hc : C = 0
  · obtain ⟨hm, hpk⟩ := HPK.out hc
    have HPA := Lib.hid hpk
    have hm4 : ((X.size : Int) % 4 == 0) = true := by rw [beq_iff_eq]; exact hm
    subst hc
    clear hm hpk HPK hC hX
    go_wp2_with fail
    refine (HBP.out _ HB6.out).mono ?_
    rintro e w7 ⟨rfl, hb7⟩
    have HB7 := Lib.hid (HB6.out.trans (hb7.mono HB6.out.size))
    clear hb7
    go_wp2_with fail
    refine (HPA.out w7 ((HS.out.next HW5.out).next HB7.out)).mono ?_
    rintro e w8 ⟨l, rfl, hnl, hb8⟩
    have HB8 := Lib.hid (HB7.out.trans (hb8.mono HB7.out.size))
    have HNL := Lib.hid hnl
    obtain ⟨A9, c9, el, _⟩ := id hnl
    subst el
    clear hb8 hnl x0 x1 x2 x3 x4 x5 x6 x7 y0 y1 y2 y3 y4 y5 y6 y7
    go_upto_region 10 with (refine wpList_store_row rfl 31 (.tmp 4) (.tmp 31) rfl w8.heap.size #[.int .i64 k, .int .i64 sq, .int .u32 n', .int .u32 ps', .int .u32 mr', .slice A9 ys.length c9, .bool se, .string d'] rfl rfl 31 _ (heap_alloc_new w8 _) infoPduP rfl (unit_one _ _ _ _ _ _ _ _) ?_)
    have hb9 : Below w8.heap.size w8 ((w8.alloc (.cells #[.int .i64 0, .int .i64 0, .int .u32 0, .int .u32 0, .int .u32 0, .slice none 0 0, .bool false, .string ⟨#[]⟩] 31)).setRow w8.heap.size #[.int .i64 k, .int .i64 sq, .int .u32 n', .int .u32 ps', .int .u32 mr', .slice A9 ys.length c9, .bool se, .string d']) := below_setRow ((Below.refl _ w8).alloc (Nat.le_refl _) _) (Nat.le_refl _) _
    have HQ9 := Lib.hid (row_box (w8.alloc (.cells #[.int .i64 0, .int .i64 0, .int .u32 0, .int .u32 0, .int .u32 0, .slice none 0 0, .bool false, .string ⟨#[]⟩] 31)) w8.heap.size k sq n' ps' mr' (.slice A9 ys.length c9) se d' (heap_alloc_new w8 _))
    have HB9 := Lib.hid (HB8.out.trans (hb9.mono HB8.out.size))
    have HNL9 := Lib.hid (HNL.out.below hb9)
    obtain ⟨q9, hq9⟩ : ∃ q9, q9 = w8.heap.size := ⟨_, rfl⟩
    rw [← hq9] at HQ9 HB9 HNL9 ⊢
    clear hb9 hq9 HB8 HNL
    generalize (w8.alloc (.cells #[.int .i64 0, .int .i64 0, .int .u32 0, .int .u32 0, .int .u32 0, .slice none 0 0, .bool false, .string ⟨#[]⟩] 31)).setRow q9 #[.int .i64 k, .int .i64 sq, .int .u32 n', .int .u32 ps', .int .u32 mr', .slice A9 ys.length c9, .bool se, .string d'] = w9 at *
    have HX9 := Lib.hid (HX5.out.next HB9.out)
    have HP9 := Lib.hid (HP5.out.next HB9.out)
    obtain ⟨x0, x1, x2, x3, x4, x5, x6, x7⟩ := HX9.out
    obtain ⟨z0, z1, z2, z3, z4, z5, z6, z7⟩ := HQ9.out
    go_wp2_with fail
    refine (HSM.out A9 c9 _ HB9.out HNL9.out).mono ?_
    rintro e wa ⟨rfl, hba⟩
    have HBA := Lib.hid (HB9.out.trans (hba.mono HB9.out.size))
    clear hba x0 x1 x2 x3 x4 x5 x6 x7 z0 z1 z2 z3 z4 z5 z6 z7
    have HPA2 := Lib.hid (HP5.out.next HBA.out)
    obtain ⟨y0, y1, y2, y3, y4, y5, y6, y7⟩ := HPA2.out
    go_wp2_with fail
    refine (HBP.out _ HBA.out).mono ?_
    rintro e wb ⟨rfl, hbb⟩
    have HBB := Lib.hid (HBA.out.trans (hbb.mono HBA.out.size))
    clear hbb
    go_wp2_with fail
    go_ret
    exact ⟨rfl, HW5.out.trans (HBB.out.mono HW5.out.size)⟩
  · have hne : (C != 0) = true := by rw [bne_iff_ne]; exact hc
    clear hc
    go_wp2_with fail
    go_ret
    exact ⟨rfl, HW5.out.trans (HB6.out.mono HW5.out.size)⟩
end Go.Proofs.YtnocckgbcjienabDoor
