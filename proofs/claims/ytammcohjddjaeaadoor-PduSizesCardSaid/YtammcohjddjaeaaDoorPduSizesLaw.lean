/- The walk of the law PduSizes (begun). Conditions: the unit's row lies as a row does. -/
import Derived.Test.YtammcohjddjaeaaDoorPduOwn
import Derived.Test.YtammcohjddjaeaaDoorPduRefCheck
import Derived.Test.YtammcohjddjaeaaDoorPduRefSame
import Derived.Test.YtammcohjddjaeaaDoorPduDoor
import Derived.Test.YtammcohjddjaeaaDoorUnitIn
namespace Go.Proofs.YtammcohjddjaeaaDoor
open Go.RowKit
set_option linter.unusedVariables false
set_option linter.unusedSimpArgs false

theorem pduB_size (k : Nat) (sq n ps mr : Int) (xs : List Int) (se : Bool) (d : ByteArray) :
    (pduB k sq n ps mr xs se d).size = d.size + fillOf d.size + 4 * (xs.length + (if hasSQ k = true then 1 else 0) + (if hasPS k = true then 1 else 0) + (if hasMR k = true then 1 else 0) + 1) := by
  unfold pduB pduL allWords wordsL
  rw [strOfNums_size, List.length_append, List.length_append, dataI_len, List.length_replicate, flat_len, List.length_append, List.length_append, List.length_append, List.length_append]
  repeat' split
  all_goals rfl
theorem size_eq {P D c : Nat} {W : Int} (hs : P = D + (4 - D % 4) % 4 + 4 * c) (hD : D ≤ 210) (hc : W = (c : Int)) (hb : c ≤ 200) :
    ((P : Int) == IntKind.i64.wrap (IntKind.i64.wrap (IntKind.i64.wrap ((IntKind.i64.wrap ((D : Int) + 3)).tdiv 4) * 4) + IntKind.i64.wrap (4 * W))) = true := by
  have ws : ∀ x : Int, 0 ≤ x → x < 1000000 → IntKind.i64.wrap x = x := fun x h0 h1 => by rw [IntKind.wrap_i64]; omega
  have e2 : ((D : Int) + 3).tdiv 4 = (((D + 3) / 4 : Nat) : Int) := by
    rw [show ((D : Int) + 3) = ((D + 3 : Nat) : Int) by omega]; rfl
  rw [hc, ws ((D : Int) + 3) (by omega) (by omega), e2, ws (((D + 3) / 4 : Nat) : Int) (by omega) (by omega)]
  have e3 := ws ((((D + 3) / 4 : Nat) : Int) * 4) (by omega) (by omega)
  have e4 := ws (4 * (c : Int)) (by omega) (by omega)
  rw [e3, e4, ws _ (by omega) (by omega), beq_iff_eq]
  omega
set_option maxRecDepth 100000 in
theorem own_bytes (k sq n ps mr : Int) (p : Option Addr) (len cap : Nat) (xs : List Int) (se : Bool) (d : ByteArray) (w : World) (hS : ShapesIn w) (hlen : len = xs.length) (hr : IRow w (.slice p len cap) xs) (hxl : xs.length ≤ 1000)
    (h1 : 0 ≤ n ∧ n < 4294967296) (h2 : 0 ≤ ps ∧ ps < 4294967296) (h3 : 0 ≤ mr ∧ mr < 4294967296) (hxs : ∀ x, x ∈ xs → 0 ≤ x ∧ x < 4294967296) :
    Calls Tryd.prog 14 #[.agg #[.int .i64 k, .int .i64 sq, .int .i64 n, .int .i64 ps, .int .i64 mr, .slice p len cap, .bool se, .string d]] w fun e w' => ∃ v, e = .returned v ∧ Below w.heap.size w w' ∧
      ∀ W, Below w'.heap.size w' W → Calls Tryd.prog 17 #[v] W fun e w2 => e = .returned (.string (bytesA k sq n ps mr xs se d)) ∧ Below W.heap.size W w2 := by
  refine (own_is k sq n ps mr p len cap xs se d w hlen hr hxl).mono ?_
  rintro e w' ⟨l, rfl, hrow, hb⟩
  rw [in32_id h1, in32_id h2, in32_id h3]
  have hmap : xs.map in32 = xs := by
    have : xs.map in32 = xs.map id := List.map_congr_left fun x hx => in32_id (hxs x hx)
    rw [this, List.map_id]
  rw [hmap] at hrow
  refine ⟨_, rfl, hb, fun W hW => ?_⟩
  obtain ⟨A, c, e, _⟩ := id hrow
  subst e
  exact pdu_bytesA k sq n ps mr A xs.length c xs se d W ((hS.next hb).next hW) rfl (hrow.below hW) h1 h2 h3 (fun x hx => (hxs x hx).1)

set_option maxHeartbeats 4000000 in
set_option maxRecDepth 100000 in
theorem walk_PduSizes (k sq n ps mr : Int) (p : Option Addr) (len cap : Nat) (xs : List Int) (se : Bool) (d : ByteArray) (w : World) (hS : ShapesIn w) (hlen : len = xs.length) (hr : IRowB w (.slice p len cap) xs) (hd : d.size ≤ maxLen) :
    Calls Tryd.prog 6 #[.agg #[.int .i64 k, .int .i64 sq, .int .i64 n, .int .i64 ps, .int .i64 mr, .slice p len cap, .bool se, .string d]] w fun e w' => e = .returned (.bool true) ∧ Below w.heap.size w w' := by
  have HLE := Lib.hid hlen
  have HR := Lib.hid hr
  have HD := Lib.hid hd
  have HS := Lib.hid hS
  clear hlen hr hd hS
  go_enter Tryd.func6, Tryd.ntmps6
  go_wp2_with fail
  refine (pdu_awake _ (HS.out.next ((Below.refl _ w).alloc (Nat.le_refl _) _))).mono ?_
  rintro e w1 ⟨rfl, hb1⟩
  have HBX := Lib.hid ((rbox_new w k sq n ps mr (.slice p len cap) se d).next hb1)
  have HF1 := Lib.hid ((hb1.block w.heap.size (by rw [World.size_alloc]; omega)).trans (heap_alloc_new w (.cells #[.int .i64 k, .int .i64 sq, .int .i64 n, .int .i64 ps, .int .i64 mr, .slice p len cap, .bool se, .string d] 24)))
  have HW1 := Lib.hid (((Below.refl _ w).alloc (Nat.le_refl _) (.cells #[.int .i64 k, .int .i64 sq, .int .i64 n, .int .i64 ps, .int .i64 mr, .slice p len cap, .bool se, .string d] 24)).trans (hb1.mono (by rw [World.size_alloc]; omega)))
  clear hb1
  obtain ⟨g, hg⟩ : ∃ g, g = w.heap.size := ⟨_, rfl⟩
  have HG := Lib.hid hg
  rw [← hg] at HBX HF1 ⊢
  clear hg
  have HFW := Lib.hid (few_is k sq n ps mr p len cap xs se d w1 HLE.out (HR.out.below HW1.out) HD.out)
  obtain ⟨x0, x1, x2, x3, x4, x5, x6, x7⟩ := HBX.out
  go_wp2_with fail
  refine HFW.out.mono ?_
  rintro e w2 ⟨l, rfl, hrow, hb2, hfar⟩
  have HF2 := Lib.hid ((hb2.block g HBX.out.lt).trans HF1.out)
  have HW2 := Lib.hid (HW1.out.trans (hb2.mono HW1.out.size))
  obtain ⟨A2, c2, hl, hrl⟩ := id hrow
  have HRW := Lib.hid hrow
  have hgl := HBX.out.lt
  have HFAR := Lib.hid hfar
  clear hb2 hrow hrl hfar x0 x1 x2 x3 x4 x5 x6 x7 HFW
  subst hl
  generalize hn' : in32 n = n' at *
  generalize hps' : in32 ps = ps' at *
  generalize hmr' : in32 mr = mr' at *
  generalize hd' : cutB d 210 = d' at *
  generalize hys : (xs.take 140).map in32 = ys at *
  have HN' := Lib.hid hn'
  have HPS' := Lib.hid hps'
  have HMR' := Lib.hid hmr'
  have HD' := Lib.hid hd'
  have HYS := Lib.hid hys
  clear hn' hps' hmr' hd' hys
  go_upto_region 4 with (refine wpList_store_row rfl 24 (.tmp 1) (.tmp 7) rfl g #[.int .i64 k, .int .i64 sq, .int .i64 n', .int .i64 ps', .int .i64 mr', .slice A2 ys.length c2, .bool se, .string d'] rfl rfl 24 _ HF2.out infoRef rfl (runit_one _ _ _ _ _ _ _ _) ?_)
  have HX3 := Lib.hid (rrow_box w2 g k sq n' ps' mr' (.slice A2 ys.length c2) se d' HF2.out)
  have HW3 := Lib.hid (below_setRow (g := g) HW2.out (by have := HG.out; omega) #[.int .i64 k, .int .i64 sq, .int .i64 n', .int .i64 ps', .int .i64 mr', .slice A2 ys.length c2, .bool se, .string d'])
  have HR3 : Hid (IRow (w2.setRow g #[.int .i64 k, .int .i64 sq, .int .i64 n', .int .i64 ps', .int .i64 mr', .slice A2 ys.length c2, .bool se, .string d']) (.slice A2 ys.length c2) ys) := by
    obtain ⟨A, c, e, h1, h2⟩ := HRW.out
    refine ⟨A, c, e, h1, h2.imp id fun ⟨b, off, ea, hb, hc⟩ => ⟨b, off, ea, by rw [setRow_size]; exact hb, fun i x hx => ?_⟩⟩
    injection e with e1 e2 e3
    subst e1
    have hne : b ≠ g := fun h => by have := HFAR.out b (by rw [ea]; rfl); omega
    rw [World.cell?_of_block (w := w2) (setRow_other _ _ _ _ hne)]
    exact hc i x hx
  clear HF1 HF2 HW1 HW2 HBX HRW HFAR hgl
  generalize w2.setRow g #[.int .i64 k, .int .i64 sq, .int .i64 n', .int .i64 ps', .int .i64 mr', .slice A2 ys.length c2, .bool se, .string d'] = w3 at *
  have HCK := Lib.hid (ref_check k sq n' ps' mr' A2 ys.length c2 ys se d' w3 rfl HR3.out)
  obtain ⟨x0, x1, x2, x3, x4, x5, x6, x7⟩ := HX3.out
  go_wp2_with fail
  refine HCK.out.mono ?_
  rintro e w4 ⟨rfl, hb4⟩
  have HX4 := Lib.hid (HX3.out.next hb4)
  have HW4 := Lib.hid (HW3.out.trans (hb4.mono HW3.out.size))
  have HN4 : Hid ((0 ≤ n' ∧ n' < 4294967296) ∧ (0 ≤ ps' ∧ ps' < 4294967296) ∧ (0 ≤ mr' ∧ mr' < 4294967296) ∧ (∀ x, x ∈ ys → 0 ≤ x ∧ x < 4294967296) ∧ ys.length ≤ 140) :=
    ⟨by rw [← HN'.out]; exact in32_in _, by rw [← HPS'.out]; exact in32_in _, by rw [← HMR'.out]; exact in32_in _, by
      rw [← HYS.out]
      intro x hx
      obtain ⟨y, _, rfl⟩ := List.mem_map.1 hx
      exact in32_in y, by rw [← HYS.out, List.length_map, List.length_take]; omega⟩
  have HOB := Lib.hid (fun W (hW : Below w4.heap.size w4 W) => own_bytes k sq n' ps' mr' A2 ys.length c2 ys se d' W ((HS.out.next HW4.out).next hW) rfl ((HR3.out.below hb4).below hW) (by have := HN4.out.2.2.2.2; omega) HN4.out.1 HN4.out.2.1 HN4.out.2.2.1 HN4.out.2.2.2.1)
  have HRC := Lib.hid (rCheck_is k sq n' ps' mr' ys se d' HN4.out.1.1 HN4.out.2.1.1 HN4.out.2.2.1.1 (fun x hx => (HN4.out.2.2.2.1 x hx).1))
  have hyl := HN4.out.2.2.2.2
  clear hb4 HX3 HW3 HR3 HCK HN' HPS' HMR' HYS x0 x1 x2 x3 x4 x5 x6 x7
  obtain ⟨x0, x1, x2, x3, x4, x5, x6, x7⟩ := HX4.out
  rw [HRC.out]
  by_cases hc : checkA k sq n' ps' mr' ys se d' = 0
  · have hk : 1 ≤ k ∧ k ≤ 15 := by
      by_cases h : 1 ≤ k ∧ k ≤ 15
      · exact h
      · unfold checkA at hc; rw [if_neg h] at hc; cases hc
    have hB : bytesA k sq n' ps' mr' ys se d' = pduB k.toNat sq n' ps' mr' ys se d' := by unfold bytesA; rw [if_pos hc]
    rw [hB] at HOB
    rw [hc]
    obtain ⟨kk, rfl⟩ : ∃ kk : Nat, k = (kk : Int) := ⟨k.toNat, by omega⟩
    rw [Int.toNat_natCast] at HOB
    have hqs : hasSQi (kk : Int) = hasSQ kk := by
      have h16 : ∀ i : Fin 16, hasSQi (i.val : Int) = hasSQ i.val := by decide
      exact h16 ⟨kk, by omega⟩
    have HSZ := Lib.hid (pduB_size kk sq n' ps' mr' ys se d')
    have hdl : d'.size ≤ 210 := by rw [← HD'.out]; exact cutB_size d 210
    have hfl : fillOf d'.size = (4 - d'.size % 4) % 4 := rfl
    have hw : (((kk : Int) == 10) = true ∧ ((kk : Int) == 11) = false ∧ ((kk : Int) == 12) = false ∧ hasPS kk = true ∧ hasMR kk = false) ∨ (((kk : Int) == 10) = false ∧ ((kk : Int) == 11) = true ∧ ((kk : Int) == 12) = false ∧ hasPS kk = true ∧ hasMR kk = true) ∨
        (((kk : Int) == 10) = false ∧ ((kk : Int) == 11) = false ∧ ((kk : Int) == 12) = true ∧ hasPS kk = false ∧ hasMR kk = true) ∨ (((kk : Int) == 10) = false ∧ ((kk : Int) == 11) = false ∧ ((kk : Int) == 12) = false ∧ hasPS kk = false ∧ hasMR kk = false) := by
      have h16 : ∀ i : Fin 16, ((((i.val : Int) == 10) = true ∧ ((i.val : Int) == 11) = false ∧ ((i.val : Int) == 12) = false ∧ hasPS i.val = true ∧ hasMR i.val = false) ∨ (((i.val : Int) == 10) = false ∧ ((i.val : Int) == 11) = true ∧ ((i.val : Int) == 12) = false ∧ hasPS i.val = true ∧ hasMR i.val = true) ∨
        (((i.val : Int) == 10) = false ∧ ((i.val : Int) == 11) = false ∧ ((i.val : Int) == 12) = true ∧ hasPS i.val = false ∧ hasMR i.val = true) ∨ (((i.val : Int) == 10) = false ∧ ((i.val : Int) == 11) = false ∧ ((i.val : Int) == 12) = false ∧ hasPS i.val = false ∧ hasMR i.val = false)) := by decide
      exact h16 ⟨kk, by omega⟩
    have hq2 : hasSQ kk = true ∨ hasSQ kk = false := by cases hasSQ kk <;> simp
    have HQ := Lib.hid (ref_hasSQ (kk : Int) w4)
    rw [hqs] at HQ
    clear hc hB HRC hqs
    generalize pduB kk sq n' ps' mr' ys se d' = PB at *
    go_wp2_with fail
    refine HQ.out.mono ?_
    rintro e w5 ⟨rfl, hb5⟩
    have HX5 := Lib.hid (HX4.out.next hb5)
    have HW5 := Lib.hid (HW4.out.trans (hb5.mono HW4.out.size))
    have HO5 := Lib.hid (fun W (hW : Below w5.heap.size w5 W) => HOB.out W (hb5.trans (hW.mono hb5.size)))
    clear hb5 x0 x1 x2 x3 x4 x5 x6 x7 HX4 HW4 HOB HQ
    obtain ⟨x0, x1, x2, x3, x4, x5, x6, x7⟩ := HX5.out
    rcases hq2 with hq | hq <;> rcases hw with ⟨e1, e2, e3, p1, p2⟩ | ⟨e1, e2, e3, p1, p2⟩ | ⟨e1, e2, e3, p1, p2⟩ | ⟨e1, e2, e3, p1, p2⟩
    all_goals
      rw [hq, p1, p2] at HSZ
      rw [hq]
      clear p1 p2 hq
      go_upto_region 13 with fail
    all_goals
      have hsz := HSZ.out
      simp only [Bool.false_eq_true, if_true, if_false] at hsz
      rw [hfl] at hsz
      have hpb : PB.size ≤ 1000 := by omega
      have HS2 := Lib.hid hsz
      clear hsz hfl HSZ
      go_region_held3 (fun w' => w'.cell? ⟨g, 0, none⟩ = some (.int .i64 (kk : Int)) ∧ w'.cell? ⟨g, 1, none⟩ = some (.int .i64 sq) ∧ w'.cell? ⟨g, 2, none⟩ = some (.int .i64 n') ∧ w'.cell? ⟨g, 3, none⟩ = some (.int .i64 ps') ∧ w'.cell? ⟨g, 4, none⟩ = some (.int .i64 mr') ∧ w'.cell? ⟨g, 5, none⟩ = some (.slice A2 ys.length c2) ∧ w'.cell? ⟨g, 6, none⟩ = some (.bool se) ∧ w'.cell? ⟨g, 7, none⟩ = some (.string d'))
        (first | go_keep)
        (first
          | (go_at_call 14; (with_reducible refine (HO5.out _ ((Below.refl _ w5).drew)).mono ?_); rintro e wl ⟨v, rfl, hbl, hBy⟩
             have HBY := Lib.hid (hBy wl (Below.refl _ _))
             have HBL := Lib.hid hbl
             have HX6 := Lib.hid ((HX5.out.next ((Below.refl _ w5).drew)).next hbl)
             clear hBy hbl
             obtain ⟨y0, y1, y2, y3, y4, y5, y6, y7⟩ := HX6.out)
          | (go_at_call 17; (with_reducible refine HBY.out.mono ?_); rintro e wm ⟨rfl, hbm⟩
             have HBM := Lib.hid hbm
             have HX7 := Lib.hid (HX6.out.next hbm)
             clear hbm
             obtain ⟨z0, z1, z2, z3, z4, z5, z6, z7⟩ := HX7.out))
      go_wp2_with fail
      go_ret
      exact ⟨congrArg (fun b => Ending.returned (.bool b)) (size_eq HS2.out hdl (by omega) (by omega)), ((HW5.out.drew).trans (HBL.out.mono HW5.out.drew.size)).trans (HBM.out.mono ((HW5.out.drew).trans (HBL.out.mono HW5.out.drew.size)).size)⟩
  · have hB : bytesA k sq n' ps' mr' ys se d' = ⟨#[]⟩ := by unfold bytesA; rw [if_neg hc]
    rw [hB] at HOB
    have hne : (checkA k sq n' ps' mr' ys se d' == 0) = false := by rw [beq_eq_false_iff_ne]; exact hc
    clear hc hB HRC
    generalize checkA k sq n' ps' mr' ys se d' = C at *
    go_wp2_with fail
    refine (HOB.out w4 (Below.refl _ _)).mono ?_
    rintro e w5 ⟨v, rfl, hb5, hBy⟩
    have HBy := Lib.hid (hBy w5 (Below.refl _ _))
    clear hBy
    go_wp2_with fail
    refine HBy.out.mono ?_
    rintro e w6 ⟨rfl, hb6⟩
    go_wp2_with fail
    go_ret
    exact ⟨rfl, (HW4.out.trans (hb5.mono HW4.out.size)).trans (hb6.mono (HW4.out.trans (hb5.mono HW4.out.size)).size)⟩
end Go.Proofs.YtammcohjddjaeaaDoor
