/- The walk of the law WireSizes. Conditions: the unit's row lies as a row does. -/
import Derived.Test.YtnocckgbcjienabDoorWireAll
import Derived.Test.YtnocckgbcjienabDoorPduRefCheck
import Derived.Test.YtnocckgbcjienabDoorUnitIn
namespace Go.Proofs.YtnocckgbcjienabDoor
open Go.RowKit
set_option linter.unusedVariables false
set_option linter.unusedSimpArgs false

set_option maxHeartbeats 4000000 in
set_option maxRecDepth 100000 in
theorem walk_WireSizes (k sq n ps mr : Int) (p : Option Addr) (len cap : Nat) (xs : List Int) (se : Bool) (d : ByteArray) (w : World) (hS : ShapesIn w) (hlen : len = xs.length) (hr : IRowB w (.slice p len cap) xs) (hd : d.size ≤ maxLen) :
    Calls Tryd.prog 7 #[.agg #[.int .i64 k, .int .i64 sq, .int .i64 n, .int .i64 ps, .int .i64 mr, .slice p len cap, .bool se, .string d]] w fun e w' => e = .returned (.bool true) ∧ Below w.heap.size w w' := by
  have HLE := Lib.hid hlen
  have HR := Lib.hid hr
  have HD := Lib.hid hd
  have HS := Lib.hid hS
  clear hlen hr hd hS
  go_enter Tryd.func7, Tryd.ntmps7
  go_wp2_with fail
  refine (wire_awake _ (HS.out.next ((Below.refl _ w).alloc (Nat.le_refl _) _))).mono ?_
  rintro e w1 ⟨rfl, hb1⟩
  have HBX := Lib.hid ((rbox_new w k sq n ps mr (.slice p len cap) se d).next hb1)
  have HF1 := Lib.hid ((hb1.block w.heap.size (by rw [World.size_alloc]; omega)).trans (heap_alloc_new w (.cells #[.int .i64 k, .int .i64 sq, .int .i64 n, .int .i64 ps, .int .i64 mr, .slice p len cap, .bool se, .string d] 24)))
  have HW1 := Lib.hid (((Below.refl _ w).alloc (Nat.le_refl _) (.cells #[.int .i64 k, .int .i64 sq, .int .i64 n, .int .i64 ps, .int .i64 mr, .slice p len cap, .bool se, .string d] 24)).trans (hb1.mono (by rw [World.size_alloc]; omega)))
  clear hb1
  obtain ⟨g, hg⟩ : ∃ g, g = w.heap.size := ⟨_, rfl⟩
  have HG := Lib.hid hg
  rw [← hg] at HBX HF1 ⊢
  clear hg
  have HFW := Lib.hid (few_is k sq n ps mr p len cap xs se d w1 HLE.out (HR.out.below HW1.out) HD.out)
  obtain ⟨x0, x1, x2, x3, x4, x5, x6, x7⟩ := HBX.out
  go_wp2_with fail
  refine HFW.out.mono ?_
  rintro e w2 ⟨l, rfl, hrow, hb2, hfar⟩
  have HF2 := Lib.hid ((hb2.block g HBX.out.lt).trans HF1.out)
  have HW2 := Lib.hid (HW1.out.trans (hb2.mono HW1.out.size))
  obtain ⟨A2, c2, hl, hrl⟩ := id hrow
  have HRW := Lib.hid hrow
  have hgl := HBX.out.lt
  have HFAR := Lib.hid hfar
  clear hb2 hrow hrl hfar x0 x1 x2 x3 x4 x5 x6 x7 HFW
  subst hl
  have HN4 : Hid ((0 ≤ in32 n ∧ in32 n < 4294967296) ∧ (0 ≤ in32 ps ∧ in32 ps < 4294967296) ∧ (0 ≤ in32 mr ∧ in32 mr < 4294967296) ∧ (∀ x, x ∈ (xs.take 140).map in32 → 0 ≤ x ∧ x < 4294967296) ∧ ((xs.take 140).map in32).length ≤ 140) :=
    ⟨in32_in _, in32_in _, in32_in _, by
      intro x hx
      obtain ⟨y, _, rfl⟩ := List.mem_map.1 hx
      exact in32_in y, by rw [List.length_map, List.length_take]; omega⟩
  have HD4 : Hid ((cutB d 210).size ≤ 210) := cutB_size d 210
  generalize in32 n = n' at *
  generalize in32 ps = ps' at *
  generalize in32 mr = mr' at *
  generalize cutB d 210 = d' at *
  generalize (xs.take 140).map in32 = ys at *
  go_upto_region 4 with (refine wpList_store_row rfl 24 (.tmp 1) (.tmp 9) rfl g #[.int .i64 k, .int .i64 sq, .int .i64 n', .int .i64 ps', .int .i64 mr', .slice A2 ys.length c2, .bool se, .string d'] rfl rfl 24 _ HF2.out infoRef rfl (runit_one _ _ _ _ _ _ _ _) ?_)
  have HX3 := Lib.hid (rrow_box w2 g k sq n' ps' mr' (.slice A2 ys.length c2) se d' HF2.out)
  have HW3 := Lib.hid (below_setRow (g := g) HW2.out (by have := HG.out; omega) #[.int .i64 k, .int .i64 sq, .int .i64 n', .int .i64 ps', .int .i64 mr', .slice A2 ys.length c2, .bool se, .string d'])
  have HR3 : Hid (IRow (w2.setRow g #[.int .i64 k, .int .i64 sq, .int .i64 n', .int .i64 ps', .int .i64 mr', .slice A2 ys.length c2, .bool se, .string d']) (.slice A2 ys.length c2) ys) := irow_setRow HRW.out (fun r hr h => by have := HFAR.out r hr; omega)
  clear HF1 HF2 HW1 HW2 HBX HRW HFAR hgl
  generalize w2.setRow g #[.int .i64 k, .int .i64 sq, .int .i64 n', .int .i64 ps', .int .i64 mr', .slice A2 ys.length c2, .bool se, .string d'] = w3 at *
  have HOW := Lib.hid (own_unit k sq n' ps' mr' A2 ys.length c2 ys se d' w3 rfl HR3.out (by have := HN4.out.2.2.2.2; omega) HN4.out.1 HN4.out.2.1 HN4.out.2.2.1 HN4.out.2.2.2.1)
  obtain ⟨x0, x1, x2, x3, x4, x5, x6, x7⟩ := HX3.out
  go_wp2_with fail
  refine HOW.out.mono ?_
  rintro e w4 ⟨A, c, rfl, hnum, hb4, _⟩
  have HNU := Lib.hid hnum
  have HX4 := Lib.hid (HX3.out.next hb4)
  have HW4 := Lib.hid (HW3.out.trans (hb4.mono HW3.out.size))
  have HR4 := Lib.hid (HR3.out.below hb4)
  clear hnum hb4 HX3 HW3 HR3 HOW x0 x1 x2 x3 x4 x5 x6 x7
  go_upto_region 5 with (refine wpList_store_row rfl 31 (.tmp 3) (.tmp 11) rfl w4.heap.size #[.int .i64 k, .int .i64 sq, .int .u32 n', .int .u32 ps', .int .u32 mr', .slice A ys.length c, .bool se, .string d'] rfl rfl 31 _ (heap_alloc_new w4 _) infoPduW rfl (unit_one _ _ _ _ _ _ _ _) ?_)
  have hb5 : Below w4.heap.size w4 ((w4.alloc (.cells #[.int .i64 0, .int .i64 0, .int .u32 0, .int .u32 0, .int .u32 0, .slice none 0 0, .bool false, .string ⟨#[]⟩] 31)).setRow w4.heap.size #[.int .i64 k, .int .i64 sq, .int .u32 n', .int .u32 ps', .int .u32 mr', .slice A ys.length c, .bool se, .string d']) := below_setRow ((Below.refl _ w4).alloc (Nat.le_refl _) _) (Nat.le_refl _) _
  have HP5 := Lib.hid (row_box (w4.alloc (.cells #[.int .i64 0, .int .i64 0, .int .u32 0, .int .u32 0, .int .u32 0, .slice none 0 0, .bool false, .string ⟨#[]⟩] 31)) w4.heap.size k sq n' ps' mr' (.slice A ys.length c) se d' (heap_alloc_new w4 _))
  have HX5 := Lib.hid (HX4.out.next hb5)
  have HW5 := Lib.hid (HW4.out.trans (hb5.mono HW4.out.size))
  have HR5 := Lib.hid (HR4.out.below hb5)
  have HNU5 := Lib.hid (HNU.out.below hb5)
  obtain ⟨q, hq⟩ : ∃ q, q = w4.heap.size := ⟨_, rfl⟩
  rw [← hq] at HP5 hb5 HX5 HW5 HR5 HNU5 ⊢
  clear hb5 hq HX4 HW4 HR4 HNU
  generalize (w4.alloc (.cells #[.int .i64 0, .int .i64 0, .int .u32 0, .int .u32 0, .int .u32 0, .slice none 0 0, .bool false, .string ⟨#[]⟩] 31)).setRow q #[.int .i64 k, .int .i64 sq, .int .u32 n', .int .u32 ps', .int .u32 mr', .slice A ys.length c, .bool se, .string d'] = w5 at *
  have HBP := Lib.hid (fun W (hW : Below w5.heap.size w5 W) => pdu_bytesA k sq n' ps' mr' A ys.length c ys se d' W ((HS.out.next HW5.out).next hW) rfl (HNU5.out.below hW) HN4.out.1 HN4.out.2.1 HN4.out.2.2.1 (fun x hx => (HN4.out.2.2.2.1 x hx).1))
  have HSZ := Lib.hid (fun W (hW : Below w5.heap.size w5 W) => wire_size k sq n' ps' mr' A c ys se d' W ((HS.out.next HW5.out).next hW) (HNU5.out.below hW) HN4.out.1 HN4.out.2.1 HN4.out.2.2.1 (fun x hx => (HN4.out.2.2.2.1 x hx).1))
  have HCR : Hid (∀ W (hW : Below w5.heap.size w5 W), Calls Tryd.prog 14 #[.agg #[.int .i64 k, .int .i64 sq, .int .i64 n', .int .i64 ps', .int .i64 mr', .slice A2 ys.length c2, .bool se, .string d']] W fun e w' => e = .returned (.int .i64 (checkA k sq n' ps' mr' ys se d')) ∧ Below W.heap.size W w') := fun W hW => by
    have h := ref_check k sq n' ps' mr' A2 ys.length c2 ys se d' W rfl (HR5.out.below hW)
    rw [rCheck_is k sq n' ps' mr' ys se d' HN4.out.1.1 HN4.out.2.1.1 HN4.out.2.2.1.1 (fun x hx => (HN4.out.2.2.2.1 x hx).1)] at h
    exact h
  have hsm := bytesA_small k sq n' ps' mr' ys se d'
  have HVS : Hid (checkA k sq n' ps' mr' ys se d' = 0 → sizeA k sq n' ps' mr' ys se d' = cellsOf ((bytesA k sq n' ps' mr' ys se d').size : Int) * 48) := fun h => if_pos h
  have HVN : Hid (checkA k sq n' ps' mr' ys se d' ≠ 0 → sizeA k sq n' ps' mr' ys se d' = 0 ∧ (bytesA k sq n' ps' mr' ys se d').size = 0) := fun h => ⟨if_neg h, by unfold bytesA; rw [if_neg h]; rfl⟩
  generalize checkA k sq n' ps' mr' ys se d' = C at *
  generalize bytesA k sq n' ps' mr' ys se d' = X at *
  generalize sizeA k sq n' ps' mr' ys se d' = Z at *
  obtain ⟨y0, y1, y2, y3, y4, y5, y6, y7⟩ := HP5.out
  go_wp2_with fail
  refine (HBP.out _ (Below.refl _ _)).mono ?_
  rintro e w6 ⟨rfl, hb6⟩
  have HB6 := Lib.hid hb6
  clear hb6 y0 y1 y2 y3 y4 y5 y6 y7
  have HX6 := Lib.hid (HX5.out.next HB6.out)
  obtain ⟨x0, x1, x2, x3, x4, x5, x6, x7⟩ := HX6.out
  go_wp2_with fail
  refine (HCR.out _ HB6.out).mono ?_
  rintro e w7 ⟨rfl, hb7⟩
  have HB7 := Lib.hid (HB6.out.trans (hb7.mono HB6.out.size))
  clear hb7 x0 x1 x2 x3 x4 x5 x6 x7
  have HP7 := Lib.hid (HP5.out.next HB7.out)
  obtain ⟨y0, y1, y2, y3, y4, y5, y6, y7⟩ := HP7.out
  by_cases hc : C = 0
  · have HZ := Lib.hid (HVS.out hc)
    have d1 : (C != 0) = false := by rw [bne_eq_false_iff_eq]; exact hc
    have HCE := Lib.hid (fun W => cells (X.size : Int) W (by omega) (by omega))
    have hL : (X.size : Int) + 8 ≤ 48 * cellsOf (X.size : Int) ∧ 48 * cellsOf (X.size : Int) < (X.size : Int) + 56 ∧ 0 ≤ cellsOf (X.size : Int) ∧ cellsOf (X.size : Int) ≤ 2000 := by unfold cellsOf; omega
    generalize cellsOf (X.size : Int) = L at *
    obtain rfl := HZ.out
    have e1 : ((L * 48) % 48 == 0) = true := by rw [beq_iff_eq]; omega
    have e2 : decide ((X.size : Int) + 8 ≤ L * 48) = true := decide_eq_true (by omega)
    have e3 : decide (L * 48 < (X.size : Int) + 8 + 48) = true := decide_eq_true (by omega)
    have e5 : IntKind.i64.wrap (48 * L) = 48 * L := by rw [IntKind.wrap_i64]; omega
    have e4 : (L * 48 == 48 * L) = true := by rw [beq_iff_eq]; omega
    clear hc HVS HVN
    go_wp2_with fail
    refine (HSZ.out _ HB7.out).mono ?_
    rintro e w8 ⟨rfl, hb8⟩
    have HB8 := Lib.hid (HB7.out.trans (hb8.mono HB7.out.size))
    clear hb8
    go_wp2_with fail
    refine (HCE.out _).mono ?_
    rintro e w9 ⟨rfl, rfl⟩
    go_wp2_with fail
    go_ret
    exact ⟨by first | rfl | simp [e4], HW5.out.trans (HB8.out.mono HW5.out.size)⟩
  · obtain ⟨rfl, hx0⟩ := HVN.out hc
    have d1 : (C != 0) = true := by rw [bne_iff_ne]; exact hc
    have d2 : ((X.size : Int) == 0) = true := by rw [beq_iff_eq]; omega
    clear hc HVS HVN
    go_wp2_with fail
    refine (HSZ.out _ HB7.out).mono ?_
    rintro e w8 ⟨rfl, hb8⟩
    have HB8 := Lib.hid (HB7.out.trans (hb8.mono HB7.out.size))
    clear hb8
    go_wp2_with fail
    go_ret
    exact ⟨by first | rfl | simp [d2], HW5.out.trans (HB8.out.mono HW5.out.size)⟩
end Go.Proofs.YtnocckgbcjienabDoor
