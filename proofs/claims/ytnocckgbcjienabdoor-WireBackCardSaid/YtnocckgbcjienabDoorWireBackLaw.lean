/- The walk of the law WireBack. Conditions: the unit's row lies as a row does. -/
import Derived.Test.YtnocckgbcjienabDoorWireAll
import Derived.Test.YtnocckgbcjienabDoorPduRefCheck
import Derived.Test.YtnocckgbcjienabDoorUnitIn
namespace Go.Proofs.YtnocckgbcjienabDoor
open Go.RowKit
set_option linter.unusedVariables false
set_option linter.unusedSimpArgs false

theorem check_isW : CheckIs := fun k sq n ps mr p len cap xs se d w h1 h2 => ref_check k sq n ps mr p len cap xs se d w h1 h2
set_option maxHeartbeats 4000000 in
set_option maxRecDepth 100000 in
theorem ref_pack (k sq n ps mr : Int) (A : Option Addr) (c : Nat) (xs : List Int) (se : Bool) (d : ByteArray) (w : World) (hr : IRow w (.slice A xs.length c) xs) (h1 : 0 ≤ n) (h2 : 0 ≤ ps) (h3 : 0 ≤ mr) (hxs : ∀ x, x ∈ xs → 0 ≤ x) :
    Calls Tryd.prog 22 #[.agg #[.int .i64 k, .int .i64 sq, .int .i64 n, .int .i64 ps, .int .i64 mr, .slice A xs.length c, .bool se, .string d]] w fun e w' => e = .returned (.string (packA k sq n ps mr xs se d)) ∧ Below w.heap.size w w' := by
  have hb := (Below.refl _ w).alloc (Nat.le_refl _) (.cells #[.int .i64 k, .int .i64 sq, .int .i64 n, .int .i64 ps, .int .i64 mr, .slice A xs.length c, .bool se, .string d] 24)
  have HP := Lib.hid (rbox_new w k sq n ps mr (.slice A xs.length c) se d)
  have HB := Lib.hid hb
  have HCR : Hid (∀ W (hW : Below (w.alloc (.cells #[.int .i64 k, .int .i64 sq, .int .i64 n, .int .i64 ps, .int .i64 mr, .slice A xs.length c, .bool se, .string d] 24)).heap.size (w.alloc (.cells #[.int .i64 k, .int .i64 sq, .int .i64 n, .int .i64 ps, .int .i64 mr, .slice A xs.length c, .bool se, .string d] 24)) W), Calls Tryd.prog 14 #[.agg #[.int .i64 k, .int .i64 sq, .int .i64 n, .int .i64 ps, .int .i64 mr, .slice A xs.length c, .bool se, .string d]] W fun e w' => e = .returned (.int .i64 (checkA k sq n ps mr xs se d)) ∧ Below W.heap.size W w') := fun W hW => by
    have h := ref_check k sq n ps mr A xs.length c xs se d W rfl ((hr.below hb).below hW)
    rw [rCheck_is k sq n ps mr xs se d h1 h2 h3 hxs] at h
    exact h
  have HBR := Lib.hid (fun W (hW : Below (w.alloc (.cells #[.int .i64 k, .int .i64 sq, .int .i64 n, .int .i64 ps, .int .i64 mr, .slice A xs.length c, .bool se, .string d] 24)).heap.size (w.alloc (.cells #[.int .i64 k, .int .i64 sq, .int .i64 n, .int .i64 ps, .int .i64 mr, .slice A xs.length c, .bool se, .string d] 24)) W) => ref_bytesA check_isW k sq n ps mr A xs.length c xs se d W rfl ((hr.below hb).below hW) h1 h2 h3 hxs)
  have hsm := bytesA_small k sq n ps mr xs se d
  have HFB := Lib.hid (fun W => ref_bytes 0 (bytesA k sq n ps mr xs se d) W (by omega) (by omega))
  have HV : Hid (packA k sq n ps mr xs se d = if checkA k sq n ps mr xs se d = 0 then frameB 0 (bytesA k sq n ps mr xs se d) else ⟨#[]⟩) := rfl
  clear hb hr h1 h2 h3 hxs hsm
  generalize frameB 0 (bytesA k sq n ps mr xs se d) = F at *
  generalize bytesA k sq n ps mr xs se d = B at *
  generalize packA k sq n ps mr xs se d = V at *
  generalize checkA k sq n ps mr xs se d = C at *
  obtain ⟨q, hq⟩ : ∃ q, q = w.heap.size := ⟨_, rfl⟩
  obtain ⟨y0, y1, y2, y3, y4, y5, y6, y7⟩ := HP.out
  go_enter Tryd.func22, Tryd.ntmps22
  go_upto_region 1 with fail
  rw [← hq] at HP y0 y1 y2 y3 y4 y5 y6 y7 ⊢
  clear hq
  generalize w.alloc (.cells #[.int .i64 k, .int .i64 sq, .int .i64 n, .int .i64 ps, .int .i64 mr, .slice A xs.length c, .bool se, .string d] 24) = w1 at *
  go_wp2_with fail
  refine (HCR.out _ (Below.refl _ _)).mono ?_
  rintro e w2 ⟨rfl, hb2⟩
  have HB2 := Lib.hid hb2
  have HP2 := Lib.hid (HP.out.next hb2)
  clear hb2 y0 y1 y2 y3 y4 y5 y6 y7
  by_cases hc : C = 0
  · have HV1 := Lib.hid (HV.out.trans (if_pos hc))
    have d1 : (C != 0) = false := by rw [bne_eq_false_iff_eq]; exact hc
    obtain ⟨y0, y1, y2, y3, y4, y5, y6, y7⟩ := HP2.out
    clear hc
    go_wp2_with fail
    refine (HBR.out _ HB2.out).mono ?_
    rintro e w3 ⟨rfl, hb3⟩
    have HB3 := Lib.hid (HB2.out.trans (hb3.mono HB2.out.size))
    clear hb3
    go_wp2_with fail
    refine (HFB.out _).mono ?_
    rintro e w4 ⟨rfl, hb4⟩
    have HB4 := Lib.hid (HB3.out.trans (hb4.mono HB3.out.size))
    clear hb4
    go_wp2_with fail
    go_ret
    exact ⟨by rw [HV1.out]; rfl, HB.out.trans (HB4.out.mono HB.out.size)⟩
  · have HV1 := Lib.hid (HV.out.trans (if_neg hc))
    have d1 : (C != 0) = true := by rw [bne_iff_ne]; exact hc
    clear hc
    go_wp2_with fail
    go_ret
    exact ⟨by rw [HV1.out]; rfl, HB.out.trans (HB2.out.mono HB.out.size)⟩
set_option maxHeartbeats 8000000 in
set_option maxRecDepth 100000 in
theorem walk_WireBack (k sq n ps mr : Int) (p : Option Addr) (len cap : Nat) (xs : List Int) (se : Bool) (d : ByteArray) (w : World) (hS : ShapesIn w) (hlen : len = xs.length) (hr : IRowB w (.slice p len cap) xs) (hd : d.size ≤ maxLen) :
    Calls Tryd.prog 5 #[.agg #[.int .i64 k, .int .i64 sq, .int .i64 n, .int .i64 ps, .int .i64 mr, .slice p len cap, .bool se, .string d]] w fun e w' => e = .returned (.bool true) ∧ Below w.heap.size w w' := by
  have HLE := Lib.hid hlen
  have HR := Lib.hid hr
  have HD := Lib.hid hd
  have HS := Lib.hid hS
  clear hlen hr hd hS
  go_enter Tryd.func5, Tryd.ntmps5
  go_wp2_with fail
  refine (wire_awake _ (HS.out.next ((Below.refl _ w).alloc (Nat.le_refl _) _))).mono ?_
  rintro e w1 ⟨rfl, hb1⟩
  have HBX := Lib.hid ((rbox_new w k sq n ps mr (.slice p len cap) se d).next hb1)
  have HF1 := Lib.hid ((hb1.block w.heap.size (by rw [World.size_alloc]; omega)).trans (heap_alloc_new w (.cells #[.int .i64 k, .int .i64 sq, .int .i64 n, .int .i64 ps, .int .i64 mr, .slice p len cap, .bool se, .string d] 24)))
  have HW1 := Lib.hid (((Below.refl _ w).alloc (Nat.le_refl _) (.cells #[.int .i64 k, .int .i64 sq, .int .i64 n, .int .i64 ps, .int .i64 mr, .slice p len cap, .bool se, .string d] 24)).trans (hb1.mono (by rw [World.size_alloc]; omega)))
  clear hb1
  obtain ⟨g, hg⟩ : ∃ g, g = w.heap.size := ⟨_, rfl⟩
  have HG := Lib.hid hg
  rw [← hg] at HBX HF1 ⊢
  clear hg
  have HFW := Lib.hid (few_is k sq n ps mr p len cap xs se d w1 HLE.out (HR.out.below HW1.out) HD.out)
  obtain ⟨x0, x1, x2, x3, x4, x5, x6, x7⟩ := HBX.out
  go_wp2_with fail
  refine HFW.out.mono ?_
  rintro e w2 ⟨l, rfl, hrow, hb2, hfar⟩
  have HF2 := Lib.hid ((hb2.block g HBX.out.lt).trans HF1.out)
  have HW2 := Lib.hid (HW1.out.trans (hb2.mono HW1.out.size))
  obtain ⟨A2, c2, hl, hrl⟩ := id hrow
  have HRW := Lib.hid hrow
  have hgl := HBX.out.lt
  have HFAR := Lib.hid hfar
  clear hb2 hrow hrl hfar x0 x1 x2 x3 x4 x5 x6 x7 HFW
  subst hl
  have HN4 : Hid ((0 ≤ in32 n ∧ in32 n < 4294967296) ∧ (0 ≤ in32 ps ∧ in32 ps < 4294967296) ∧ (0 ≤ in32 mr ∧ in32 mr < 4294967296) ∧ (∀ x, x ∈ (xs.take 140).map in32 → 0 ≤ x ∧ x < 4294967296) ∧ ((xs.take 140).map in32).length ≤ 140) :=
    ⟨in32_in _, in32_in _, in32_in _, by
      intro x hx
      obtain ⟨y, _, rfl⟩ := List.mem_map.1 hx
      exact in32_in y, by rw [List.length_map, List.length_take]; omega⟩
  have HD4 : Hid ((cutB d 210).size ≤ 210) := cutB_size d 210
  generalize in32 n = n' at *
  generalize in32 ps = ps' at *
  generalize in32 mr = mr' at *
  generalize cutB d 210 = d' at *
  generalize (xs.take 140).map in32 = ys at *
  go_upto_region 4 with (refine wpList_store_row rfl 24 (.tmp 1) (.tmp 12) rfl g #[.int .i64 k, .int .i64 sq, .int .i64 n', .int .i64 ps', .int .i64 mr', .slice A2 ys.length c2, .bool se, .string d'] rfl rfl 24 _ HF2.out infoRef rfl (runit_one _ _ _ _ _ _ _ _) ?_)
  have HX3 := Lib.hid (rrow_box w2 g k sq n' ps' mr' (.slice A2 ys.length c2) se d' HF2.out)
  have HW3 := Lib.hid (below_setRow (g := g) HW2.out (by have := HG.out; omega) #[.int .i64 k, .int .i64 sq, .int .i64 n', .int .i64 ps', .int .i64 mr', .slice A2 ys.length c2, .bool se, .string d'])
  have HR3 : Hid (IRow (w2.setRow g #[.int .i64 k, .int .i64 sq, .int .i64 n', .int .i64 ps', .int .i64 mr', .slice A2 ys.length c2, .bool se, .string d']) (.slice A2 ys.length c2) ys) := irow_setRow HRW.out (fun r hr h => by have := HFAR.out r hr; omega)
  clear HF1 HF2 HW1 HW2 HBX HRW HFAR hgl
  generalize w2.setRow g #[.int .i64 k, .int .i64 sq, .int .i64 n', .int .i64 ps', .int .i64 mr', .slice A2 ys.length c2, .bool se, .string d'] = w3 at *
  go_wp2_with fail
  refine (wire_new _).mono ?_
  rintro e wn ⟨v, rfl, hh⟩
  have hbn := hh.below
  have HTN := Lib.hid (has_here hh)
  have HXN := Lib.hid (HX3.out.next hbn)
  have HWN := Lib.hid (HW3.out.trans (hbn.mono HW3.out.size))
  have HRN := Lib.hid (HR3.out.below hbn)
  clear hh hbn HX3 HW3 HR3
  have HOW := Lib.hid (own_unit k sq n' ps' mr' A2 ys.length c2 ys se d' wn rfl HRN.out (by have := HN4.out.2.2.2.2; omega) HN4.out.1 HN4.out.2.1 HN4.out.2.2.1 HN4.out.2.2.2.1)
  obtain ⟨x0, x1, x2, x3, x4, x5, x6, x7⟩ := HXN.out
  go_wp2_with fail
  refine HOW.out.mono ?_
  rintro e w4 ⟨A, c, rfl, hnum, hb4, _⟩
  have HNU := Lib.hid hnum
  have HX4 := Lib.hid (HXN.out.next hb4)
  have HW4 := Lib.hid (HWN.out.trans (hb4.mono HWN.out.size))
  have HR4 := Lib.hid (HRN.out.below hb4)
  have HT4 := Lib.hid (HTN.out.next hb4)
  clear hnum hb4 HXN HWN HRN HTN HOW x0 x1 x2 x3 x4 x5 x6 x7
  go_upto_region 6 with (refine wpList_store_row rfl 31 (.tmp 4) (.tmp 15) rfl w4.heap.size #[.int .i64 k, .int .i64 sq, .int .u32 n', .int .u32 ps', .int .u32 mr', .slice A ys.length c, .bool se, .string d'] rfl rfl 31 _ (heap_alloc_new w4 _) infoPduW rfl (unit_one _ _ _ _ _ _ _ _) ?_)
  have hb5 : Below w4.heap.size w4 ((w4.alloc (.cells #[.int .i64 0, .int .i64 0, .int .u32 0, .int .u32 0, .int .u32 0, .slice none 0 0, .bool false, .string ⟨#[]⟩] 31)).setRow w4.heap.size #[.int .i64 k, .int .i64 sq, .int .u32 n', .int .u32 ps', .int .u32 mr', .slice A ys.length c, .bool se, .string d']) := below_setRow ((Below.refl _ w4).alloc (Nat.le_refl _) _) (Nat.le_refl _) _
  have HP5 := Lib.hid (row_box (w4.alloc (.cells #[.int .i64 0, .int .i64 0, .int .u32 0, .int .u32 0, .int .u32 0, .slice none 0 0, .bool false, .string ⟨#[]⟩] 31)) w4.heap.size k sq n' ps' mr' (.slice A ys.length c) se d' (heap_alloc_new w4 _))
  have HX5 := Lib.hid (HX4.out.next hb5)
  have HW5 := Lib.hid (HW4.out.trans (hb5.mono HW4.out.size))
  have HR5 := Lib.hid (HR4.out.below hb5)
  have HNU5 := Lib.hid (HNU.out.below hb5)
  have HT5 := Lib.hid (has_here (HT4.out.next hb5))
  obtain ⟨q, hq⟩ : ∃ q, q = w4.heap.size := ⟨_, rfl⟩
  rw [← hq] at HP5 hb5 HX5 HW5 HR5 HNU5 HT5 ⊢
  clear hb5 hq HX4 HW4 HR4 HNU HT4
  generalize (w4.alloc (.cells #[.int .i64 0, .int .i64 0, .int .u32 0, .int .u32 0, .int .u32 0, .slice none 0 0, .bool false, .string ⟨#[]⟩] 31)).setRow q #[.int .i64 k, .int .i64 sq, .int .u32 n', .int .u32 ps', .int .u32 mr', .slice A ys.length c, .bool se, .string d'] = w5 at *
  have HPK := Lib.hid (fun W (hT : Has w5 W v) => wire_pack v k sq n' ps' mr' A c ys se d' w5 W hT ((HS.out.next HW5.out).next hT.below) (HNU5.out.below hT.below) HN4.out.1 HN4.out.2.1 HN4.out.2.2.1 (fun x hx => (HN4.out.2.2.2.1 x hx).1))
  have HSZ := Lib.hid (fun W (hW : Below w5.heap.size w5 W) => wire_size k sq n' ps' mr' A c ys se d' W ((HS.out.next HW5.out).next hW) (HNU5.out.below hW) HN4.out.1 HN4.out.2.1 HN4.out.2.2.1 (fun x hx => (HN4.out.2.2.2.1 x hx).1))
  have HCR : Hid (∀ W (hW : Below w5.heap.size w5 W), Calls Tryd.prog 14 #[.agg #[.int .i64 k, .int .i64 sq, .int .i64 n', .int .i64 ps', .int .i64 mr', .slice A2 ys.length c2, .bool se, .string d']] W fun e w' => e = .returned (.int .i64 (checkA k sq n' ps' mr' ys se d')) ∧ Below W.heap.size W w') := fun W hW => by
    have h := ref_check k sq n' ps' mr' A2 ys.length c2 ys se d' W rfl (HR5.out.below hW)
    rw [rCheck_is k sq n' ps' mr' ys se d' HN4.out.1.1 HN4.out.2.1.1 HN4.out.2.2.1.1 (fun x hx => (HN4.out.2.2.2.1 x hx).1)] at h
    exact h
  have HRP := Lib.hid (fun W (hW : Below w5.heap.size w5 W) => ref_pack k sq n' ps' mr' A2 c2 ys se d' W (HR5.out.below hW) HN4.out.1.1 HN4.out.2.1.1 HN4.out.2.2.1.1 (fun x hx => (HN4.out.2.2.2.1 x hx).1))
  have HSM := Lib.hid (fun (A9 : Option Addr) (c9 : Nat) W (hW : Below w5.heap.size w5 W) (hn : NumRow W (.slice A9 ys.length c9) ys) => law_same k sq n' ps' mr' A9 ys.length c9 ys se d' k sq n' ps' mr' A2 ys.length c2 ys se d' W hn (HR5.out.below hW) HN4.out.1 HN4.out.2.1 HN4.out.2.2.1 HN4.out.2.2.2.1)
  rw [same_yes ⟨rfl, rfl, rfl, rfl, rfl, rfl, rfl, rfl⟩] at HSM
  have HOP : Hid (checkA k sq n' ps' mr' ys se d' = 0 → (∀ W (hT : Has w5 W v), Calls Tryd.prog 24 #[.pointer (some ⟨v, 0, none⟩), .string (packA k sq n' ps' mr' ys se d')] W fun e w' => ∃ A c, e = .returned (.tuple #[.agg #[.int .i64 k, .int .i64 sq, .int .u32 n', .int .u32 ps', .int .u32 mr', .slice A ys.length c, .bool se, .string d'], .int .i64 0]) ∧ NumRow w' (.slice A ys.length c) ys ∧ Has w5 w' v) ∧ (∀ W (hT : Has w5 W v), Calls Tryd.prog 25 #[.pointer (some ⟨v, 0, none⟩), .string (packA k sq n' ps' mr' ys se d')] W fun e w' => e = .returned (.bool true) ∧ Has w5 w' v) ∧ (packA k sq n' ps' mr' ys se d').size % 48 = 0) := fun hc => by
    obtain ⟨f1, f2, f3, f4⟩ := pack_fits k sq n' ps' mr' ys se d' hc
    refine ⟨fun W hT => wire_open_ok v k sq n' ps' mr' ys se d' w5 W hT hT.below.size ((HS.out.next HW5.out).next hT.below) hc (fun x hx => (HN4.out.2.2.2.1 x hx).1), fun W hT => ?_, f2⟩
    have h := wire_sound v (packA k sq n' ps' mr' ys se d') w5 W hT (by unfold maxLen; omega)
    rw [f1, decide_eq_true f2] at h
    exact h
  have HSS : Hid (sizeA k sq n' ps' mr' ys se d' = ((packA k sq n' ps' mr' ys se d').size : Int)) := by
    show _ = _
    by_cases hc : checkA k sq n' ps' mr' ys se d' = 0
    · exact (pack_fits k sq n' ps' mr' ys se d' hc).2.2.1.symm
    · unfold sizeA packA; rw [if_neg hc, if_neg hc]; rfl
  rw [HSS.out] at HSZ
  generalize checkA k sq n' ps' mr' ys se d' = C at *
  generalize packA k sq n' ps' mr' ys se d' = X at *
  have hC : (C != C) = false := by simp
  have hX : (X.toList == X.toList) = true := by simp
  have hL : ((X.size : Int) != (X.size : Int)) = false := by simp
  clear HSS
  obtain ⟨y0, y1, y2, y3, y4, y5, y6, y7⟩ := HP5.out
  go_wp2_with fail
  refine (HPK.out _ HT5.out).mono ?_
  rintro e w6 ⟨rfl, hh6⟩
  have HT6 := Lib.hid hh6
  clear hh6 y0 y1 y2 y3 y4 y5 y6 y7
  have HX6 := Lib.hid (HX5.out.next HT6.out.below)
  obtain ⟨x0, x1, x2, x3, x4, x5, x6, x7⟩ := HX6.out
  go_wp2_with fail
  refine (HCR.out _ HT6.out.below).mono ?_
  rintro e w7 ⟨rfl, hb7⟩
  have HT7 := Lib.hid (HT6.out.next hb7)
  clear hb7 x0 x1 x2 x3 x4 x5 x6 x7
  have HX7 := Lib.hid (HX5.out.next HT7.out.below)
  obtain ⟨x0, x1, x2, x3, x4, x5, x6, x7⟩ := HX7.out
  go_wp2_with fail
  refine (HRP.out _ HT7.out.below).mono ?_
  rintro e w8 ⟨rfl, hb8⟩
  have HT8 := Lib.hid (HT7.out.next hb8)
  clear hb8 x0 x1 x2 x3 x4 x5 x6 x7
  have HP8 := Lib.hid (HP5.out.next HT8.out.below)
  obtain ⟨y0, y1, y2, y3, y4, y5, y6, y7⟩ := HP8.out
  go_wp2_with fail
  refine (HSZ.out _ HT8.out.below).mono ?_
  rintro e w9 ⟨rfl, hb9⟩
  have HT9 := Lib.hid (HT8.out.next hb9)
  clear hb9 y0 y1 y2 y3 y4 y5 y6 y7
  by_cases hc : C = 0
  · obtain ⟨ho, hso, hm⟩ := HOP.out hc
    have HO := Lib.hid ho
    have HSO := Lib.hid hso
    have hm4 : ((X.size : Int) % 48 == 0) = true := by rw [beq_iff_eq]; omega
    have d1 : (C != 0) = false := by rw [bne_eq_false_iff_eq]; exact hc
    clear hc ho hso hm HOP
    go_wp2_with fail
    refine (HO.out _ HT9.out).mono ?_
    rintro e wa ⟨A9, c9, rfl, hn, hha⟩
    have HTA := Lib.hid hha
    have HNA := Lib.hid hn
    clear hha hn
    go_upto_region 12 with (refine wpList_store_row rfl 31 (.tmp 7) (.tmp 45) rfl wa.heap.size #[.int .i64 k, .int .i64 sq, .int .u32 n', .int .u32 ps', .int .u32 mr', .slice A9 ys.length c9, .bool se, .string d'] rfl rfl 31 _ (heap_alloc_new wa _) infoPduW rfl (unit_one _ _ _ _ _ _ _ _) ?_)
    have hbb : Below wa.heap.size wa ((wa.alloc (.cells #[.int .i64 0, .int .i64 0, .int .u32 0, .int .u32 0, .int .u32 0, .slice none 0 0, .bool false, .string ⟨#[]⟩] 31)).setRow wa.heap.size #[.int .i64 k, .int .i64 sq, .int .u32 n', .int .u32 ps', .int .u32 mr', .slice A9 ys.length c9, .bool se, .string d']) := below_setRow ((Below.refl _ wa).alloc (Nat.le_refl _) _) (Nat.le_refl _) _
    have HQB := Lib.hid (row_box (wa.alloc (.cells #[.int .i64 0, .int .i64 0, .int .u32 0, .int .u32 0, .int .u32 0, .slice none 0 0, .bool false, .string ⟨#[]⟩] 31)) wa.heap.size k sq n' ps' mr' (.slice A9 ys.length c9) se d' (heap_alloc_new wa _))
    have HTB := Lib.hid (HTA.out.next hbb)
    have HNB := Lib.hid (HNA.out.below hbb)
    obtain ⟨q9, hq9⟩ : ∃ q9, q9 = wa.heap.size := ⟨_, rfl⟩
    rw [← hq9] at HQB HTB HNB ⊢
    clear hbb hq9 HTA HNA
    generalize (wa.alloc (.cells #[.int .i64 0, .int .i64 0, .int .u32 0, .int .u32 0, .int .u32 0, .slice none 0 0, .bool false, .string ⟨#[]⟩] 31)).setRow q9 #[.int .i64 k, .int .i64 sq, .int .u32 n', .int .u32 ps', .int .u32 mr', .slice A9 ys.length c9, .bool se, .string d'] = wb at *
    have HXB := Lib.hid (HX5.out.next HTB.out.below)
    obtain ⟨x0, x1, x2, x3, x4, x5, x6, x7⟩ := HXB.out
    obtain ⟨z0, z1, z2, z3, z4, z5, z6, z7⟩ := HQB.out
    go_wp2_with fail
    refine (HSM.out A9 c9 _ HTB.out.below HNB.out).mono ?_
    rintro e wd ⟨rfl, hbd⟩
    have HTD := Lib.hid (HTB.out.next hbd)
    clear hbd x0 x1 x2 x3 x4 x5 x6 x7 z0 z1 z2 z3 z4 z5 z6 z7
    go_wp2_with fail
    refine (HSO.out _ HTD.out).mono ?_
    rintro e we ⟨rfl, hhe⟩
    have HTE := Lib.hid hhe
    clear hhe
    go_wp2_with fail
    go_ret
    exact ⟨by first | rfl | simp, HW5.out.trans (HTE.out.below.mono HW5.out.size)⟩
  · have d1 : (C != 0) = true := by rw [bne_iff_ne]; exact hc
    clear hc
    go_wp2_with fail
    go_ret
    exact ⟨by first | rfl | simp, HW5.out.trans (HT9.out.below.mono HW5.out.size)⟩
end Go.Proofs.YtnocckgbcjienabDoor
