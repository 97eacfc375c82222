/- Several texts joined: PduSizesLaw, PduSameLaw, PduInj, PduOwnUnit, WireNew, WirePack, WireOpen, WireAwake. -/
import Derived.Test.YtnocckgbcjienabDoorPduOwn
import Derived.Test.YtnocckgbcjienabDoorPduRefCheck
import Derived.Test.YtnocckgbcjienabDoorPduRefSame
import Derived.Test.YtnocckgbcjienabDoorPduDoor
import Derived.Test.YtnocckgbcjienabDoorUnitIn
import Derived.Test.YtnocckgbcjienabDoorPduFew
import Derived.Test.YtnocckgbcjienabDoorPduWords
import Derived.Test.YtnocckgbcjienabDoorFrameTurn
import Derived.Test.YtnocckgbcjienabDoorPduParse
import Derived.Test.YtnocckgbcjienabDoorPduRefBytes
import Derived.Test.YtnocckgbcjienabDoorFrameBackLaw
namespace Go.Proofs.YtnocckgbcjienabDoor
open Go.RowKit
set_option linter.unusedVariables false
set_option linter.unusedSimpArgs false

theorem pduB_size (k : Nat) (sq n ps mr : Int) (xs : List Int) (se : Bool) (d : ByteArray) :
    (pduB k sq n ps mr xs se d).size = d.size + fillOf d.size + 4 * (xs.length + (if hasSQ k = true then 1 else 0) + (if hasPS k = true then 1 else 0) + (if hasMR k = true then 1 else 0) + 1) := by
  unfold pduB pduL allWords wordsL
  rw [strOfNums_size, List.length_append, List.length_append, dataI_len, List.length_replicate, flat_len, List.length_append, List.length_append, List.length_append, List.length_append]
  repeat' split
  all_goals rfl
theorem size_eq {P D c : Nat} {W : Int} (hs : P = D + (4 - D % 4) % 4 + 4 * c) (hD : D ≤ 210) (hc : W = (c : Int)) (hb : c ≤ 200) :
    ((P : Int) == IntKind.i64.wrap (IntKind.i64.wrap (IntKind.i64.wrap ((IntKind.i64.wrap ((D : Int) + 3)).tdiv 4) * 4) + IntKind.i64.wrap (4 * W))) = true := by
  have ws : ∀ x : Int, 0 ≤ x → x < 1000000 → IntKind.i64.wrap x = x := fun x h0 h1 => by rw [IntKind.wrap_i64]; omega
  have e2 : ((D : Int) + 3).tdiv 4 = (((D + 3) / 4 : Nat) : Int) := by
    rw [show ((D : Int) + 3) = ((D + 3 : Nat) : Int) by omega]; rfl
  rw [hc, ws ((D : Int) + 3) (by omega) (by omega), e2, ws (((D + 3) / 4 : Nat) : Int) (by omega) (by omega)]
  have e3 := ws ((((D + 3) / 4 : Nat) : Int) * 4) (by omega) (by omega)
  have e4 := ws (4 * (c : Int)) (by omega) (by omega)
  rw [e3, e4, ws _ (by omega) (by omega), beq_iff_eq]
  omega
set_option maxRecDepth 100000 in
theorem own_bytes (k sq n ps mr : Int) (p : Option Addr) (len cap : Nat) (xs : List Int) (se : Bool) (d : ByteArray) (w : World) (hS : ShapesIn w) (hlen : len = xs.length) (hr : IRow w (.slice p len cap) xs) (hxl : xs.length ≤ 1000)
    (h1 : 0 ≤ n ∧ n < 4294967296) (h2 : 0 ≤ ps ∧ ps < 4294967296) (h3 : 0 ≤ mr ∧ mr < 4294967296) (hxs : ∀ x, x ∈ xs → 0 ≤ x ∧ x < 4294967296) :
    Calls Tryd.prog 12 #[.agg #[.int .i64 k, .int .i64 sq, .int .i64 n, .int .i64 ps, .int .i64 mr, .slice p len cap, .bool se, .string d]] w fun e w' => ∃ v, e = .returned v ∧ Below w.heap.size w w' ∧
      ∀ W, Below w'.heap.size w' W → Calls Tryd.prog 15 #[v] W fun e w2 => e = .returned (.string (bytesA k sq n ps mr xs se d)) ∧ Below W.heap.size W w2 := by
  refine (own_is k sq n ps mr p len cap xs se d w hlen hr hxl).mono ?_
  rintro e w' ⟨l, rfl, hrow, hb⟩
  rw [in32_id h1, in32_id h2, in32_id h3]
  have hmap : xs.map in32 = xs := by
    have : xs.map in32 = xs.map id := List.map_congr_left fun x hx => in32_id (hxs x hx)
    rw [this, List.map_id]
  rw [hmap] at hrow
  refine ⟨_, rfl, hb, fun W hW => ?_⟩
  obtain ⟨A, c, e, _⟩ := id hrow
  subst e
  exact pdu_bytesA k sq n ps mr A xs.length c xs se d W ((hS.next hb).next hW) rfl (hrow.below hW) h1 h2 h3 (fun x hx => (hxs x hx).1)

end Go.Proofs.YtnocckgbcjienabDoor
namespace Go.Proofs.YtnocckgbcjienabDoor
open Go.RowKit
set_option linter.unusedVariables false
set_option linter.unusedSimpArgs false

def sameP (k sq n ps mr : Int) (xs : List Int) (se : Bool) (d : ByteArray) (k' sq' n' ps' mr' : Int) (xs' : List Int) (se' : Bool) (d' : ByteArray) : Prop :=
  k = k' ∧ sq = sq' ∧ n = n' ∧ ps = ps' ∧ mr = mr' ∧ xs = xs' ∧ se = se' ∧ d = d'
open Classical in
noncomputable def sameB (k sq n ps mr : Int) (xs : List Int) (se : Bool) (d : ByteArray) (k' sq' n' ps' mr' : Int) (xs' : List Int) (se' : Bool) (d' : ByteArray) : Bool := decide (sameP k sq n ps mr xs se d k' sq' n' ps' mr' xs' se' d')
theorem same_no {k sq n ps mr : Int} {xs : List Int} {se : Bool} {d : ByteArray} {k' sq' n' ps' mr' : Int} {xs' : List Int} {se' : Bool} {d' : ByteArray} (h : ¬ sameP k sq n ps mr xs se d k' sq' n' ps' mr' xs' se' d') : sameB k sq n ps mr xs se d k' sq' n' ps' mr' xs' se' d' = false := by
  unfold sameB; simp [h]
theorem same_yes {k sq n ps mr : Int} {xs : List Int} {se : Bool} {d : ByteArray} {k' sq' n' ps' mr' : Int} {xs' : List Int} {se' : Bool} {d' : ByteArray} (h : sameP k sq n ps mr xs se d k' sq' n' ps' mr' xs' se' d') : sameB k sq n ps mr xs se d k' sq' n' ps' mr' xs' se' d' = true := by
  unfold sameB; simp [h]
theorem wrap32 {x : Int} (h : 0 ≤ x ∧ x < 4294967296) : IntKind.i64.wrap x = x := by rw [IntKind.wrap_i64]; omega
theorem take_all_eq {xs ys : List Int} (h : xs.length = ys.length) (ht : xs.take ys.length = ys.take ys.length) : xs = ys := by
  rw [List.take_of_length_le (by omega), List.take_of_length_le (Nat.le_refl _)] at ht; exact ht

set_option maxHeartbeats 4000000 in
set_option maxRecDepth 100000 in
theorem law_same (k sq n ps mr : Int) (p : Option Addr) (len cap : Nat) (xs : List Int) (se : Bool) (d : ByteArray) (k' sq' n' ps' mr' : Int) (p' : Option Addr) (len' cap' : Nat) (xs' : List Int) (se' : Bool) (d' : ByteArray) (w : World)
    (hr : NumRow w (.slice p len cap) xs) (hr' : IRow w (.slice p' len' cap') xs') (h1 : 0 ≤ n ∧ n < 4294967296) (h2 : 0 ≤ ps ∧ ps < 4294967296) (h3 : 0 ≤ mr ∧ mr < 4294967296) (hx : ∀ x, x ∈ xs → 0 ≤ x ∧ x < 4294967296) :
    Calls Tryd.prog 18 #[.agg #[.int .i64 k, .int .i64 sq, .int .u32 n, .int .u32 ps, .int .u32 mr, .slice p len cap, .bool se, .string d], .agg #[.int .i64 k', .int .i64 sq', .int .i64 n', .int .i64 ps', .int .i64 mr', .slice p' len' cap', .bool se', .string d']] w fun e w' => e = .returned (.bool (sameB k sq n ps mr xs se d k' sq' n' ps' mr' xs' se' d')) ∧ Below w.heap.size w w' := by
  obtain ⟨A, c, ee, hl, hc⟩ := id hr
  injection ee with ee1 ee2 ee3
  subst ee1 ee2 ee3
  obtain ⟨A', c', ee', hl', hc'⟩ := id hr'
  injection ee' with ee1 ee2 ee3
  subst ee1 ee2 ee3
  clear hc hc'
  obtain ⟨wa, hwa⟩ : ∃ wa, wa = (w.alloc (.cells #[.int .i64 k, .int .i64 sq, .int .u32 n, .int .u32 ps, .int .u32 mr, .slice p xs.length cap, .bool se, .string d] 31)).alloc (.cells #[.int .i64 k', .int .i64 sq', .int .i64 n', .int .i64 ps', .int .i64 mr', .slice p' xs'.length cap', .bool se', .string d'] 24) := ⟨_, rfl⟩
  have hb1 := (Below.refl _ w).alloc (Nat.le_refl _) (.cells #[.int .i64 k, .int .i64 sq, .int .u32 n, .int .u32 ps, .int .u32 mr, .slice p xs.length cap, .bool se, .string d] 31)
  have hb2 : Below (w.alloc (.cells #[.int .i64 k, .int .i64 sq, .int .u32 n, .int .u32 ps, .int .u32 mr, .slice p xs.length cap, .bool se, .string d] 31)).heap.size (w.alloc (.cells #[.int .i64 k, .int .i64 sq, .int .u32 n, .int .u32 ps, .int .u32 mr, .slice p xs.length cap, .bool se, .string d] 31)) wa := by rw [hwa]; exact (Below.refl _ _).alloc (Nat.le_refl _) _
  have HBX := Lib.hid ((box_new w k sq n ps mr (.slice p xs.length cap) se d).next hb2)
  have HRX : Hid (RBox wa (w.heap.size + 1) k' sq' n' ps' mr' (.slice p' xs'.length cap') se' d') := by
    have h := rbox_new (w.alloc (.cells #[.int .i64 k, .int .i64 sq, .int .u32 n, .int .u32 ps, .int .u32 mr, .slice p xs.length cap, .bool se, .string d] 31)) k' sq' n' ps' mr' (.slice p' xs'.length cap') se' d'
    rw [World.size_alloc] at h
    rw [hwa]; exact h
  have HB := Lib.hid (hb1.trans (hb2.mono hb1.size))
  have HR := Lib.hid ((hr.below hb1).below hb2)
  have HR' := Lib.hid ((hr'.below hb1).below hb2)
  have e1 := wrap32 h1
  have e2 := wrap32 h2
  have e3 := wrap32 h3
  have HX := Lib.hid hx
  have hd := toList_eq2 d d'
  have HD := Lib.hid hd
  clear hb1 hb2 hr hr' hx hd
  obtain ⟨x0, x1, x2, x3, x4, x5, x6, x7⟩ := HBX.out
  obtain ⟨y0, y1, y2, y3, y4, y5, y6, y7⟩ := HRX.out
  have HV : Hid (∀ b : Bool, (b = true ↔ sameP k sq n ps mr xs se d k' sq' n' ps' mr' xs' se' d') → sameB k sq n ps mr xs se d k' sq' n' ps' mr' xs' se' d' = b) := fun b hb => by
    cases b with
    | true => exact same_yes (hb.1 rfl)
    | false => exact same_no (fun h => by have := hb.2 h; cases this)
  generalize sameB k sq n ps mr xs se d k' sq' n' ps' mr' xs' se' d' = V at *
  by_cases c1 : k = k'
  case neg =>
    have b1 : (k != k') = true := by rw [bne_iff_ne]; exact c1
    obtain rfl := HV.out false ⟨(fun h => by cases h), fun h => absurd h.1 c1⟩
    clear c1
    go_enter Tryd.func18, Tryd.ntmps18
    go_upto_region 1 with fail
    rw [← hwa]
    clear hwa
    go_wp2_with fail
    go_ret
    exact ⟨rfl, HB.out⟩
  have C1 := Lib.hid c1
  clear c1
  by_cases c2 : sq = sq'
  case neg =>
    have b1 : (k != k') = false := by rw [bne_eq_false_iff_eq]; exact C1.out
    have b2 : (sq != sq') = true := by rw [bne_iff_ne]; exact c2
    obtain rfl := HV.out false ⟨(fun h => by cases h), fun h => absurd h.2.1 c2⟩
    clear c2
    go_enter Tryd.func18, Tryd.ntmps18
    go_upto_region 1 with fail
    rw [← hwa]
    clear hwa
    go_wp2_with fail
    go_ret
    exact ⟨rfl, HB.out⟩
  have C2 := Lib.hid c2
  clear c2
  by_cases c3 : n = n'
  case neg =>
    have b1 : (k != k') = false := by rw [bne_eq_false_iff_eq]; exact C1.out
    have b2 : (sq != sq') = false := by rw [bne_eq_false_iff_eq]; exact C2.out
    have b3 : (n != n') = true := by rw [bne_iff_ne]; exact c3
    obtain rfl := HV.out false ⟨(fun h => by cases h), fun h => absurd h.2.2.1 c3⟩
    clear c3
    go_enter Tryd.func18, Tryd.ntmps18
    go_upto_region 1 with fail
    rw [← hwa]
    clear hwa
    go_wp2_with fail
    go_ret
    exact ⟨rfl, HB.out⟩
  have C3 := Lib.hid c3
  clear c3
  by_cases c4 : ps = ps'
  case neg =>
    have b1 : (k != k') = false := by rw [bne_eq_false_iff_eq]; exact C1.out
    have b2 : (sq != sq') = false := by rw [bne_eq_false_iff_eq]; exact C2.out
    have b3 : (n != n') = false := by rw [bne_eq_false_iff_eq]; exact C3.out
    have b4 : (ps != ps') = true := by rw [bne_iff_ne]; exact c4
    obtain rfl := HV.out false ⟨(fun h => by cases h), fun h => absurd h.2.2.2.1 c4⟩
    clear c4
    go_enter Tryd.func18, Tryd.ntmps18
    go_upto_region 1 with fail
    rw [← hwa]
    clear hwa
    go_wp2_with fail
    go_ret
    exact ⟨rfl, HB.out⟩
  have C4 := Lib.hid c4
  clear c4
  by_cases c5 : mr = mr'
  case neg =>
    have b1 : (k != k') = false := by rw [bne_eq_false_iff_eq]; exact C1.out
    have b2 : (sq != sq') = false := by rw [bne_eq_false_iff_eq]; exact C2.out
    have b3 : (n != n') = false := by rw [bne_eq_false_iff_eq]; exact C3.out
    have b4 : (ps != ps') = false := by rw [bne_eq_false_iff_eq]; exact C4.out
    have b5 : (mr != mr') = true := by rw [bne_iff_ne]; exact c5
    obtain rfl := HV.out false ⟨(fun h => by cases h), fun h => absurd h.2.2.2.2.1 c5⟩
    clear c5
    go_enter Tryd.func18, Tryd.ntmps18
    go_upto_region 1 with fail
    rw [← hwa]
    clear hwa
    go_wp2_with fail
    go_ret
    exact ⟨rfl, HB.out⟩
  have C5 := Lib.hid c5
  clear c5
  by_cases c6 : se = se'
  case neg =>
    have b1 : (k != k') = false := by rw [bne_eq_false_iff_eq]; exact C1.out
    have b2 : (sq != sq') = false := by rw [bne_eq_false_iff_eq]; exact C2.out
    have b3 : (n != n') = false := by rw [bne_eq_false_iff_eq]; exact C3.out
    have b4 : (ps != ps') = false := by rw [bne_eq_false_iff_eq]; exact C4.out
    have b5 : (mr != mr') = false := by rw [bne_eq_false_iff_eq]; exact C5.out
    have b6 : (se != se') = true := by rw [bne_iff_ne]; exact c6
    obtain rfl := HV.out false ⟨(fun h => by cases h), fun h => absurd h.2.2.2.2.2.2.1 c6⟩
    have C6 := Lib.hid c6
    clear c6
    go_enter Tryd.func18, Tryd.ntmps18
    go_upto_region 1 with fail
    rw [← hwa]
    clear hwa
    have c6 := C6.out
    go_wp2_with fail
    go_ret
    exact ⟨rfl, HB.out⟩
  have C6 := Lib.hid c6
  clear c6
  have b1 : (k != k') = false := by rw [bne_eq_false_iff_eq]; exact C1.out
  have b2 : (sq != sq') = false := by rw [bne_eq_false_iff_eq]; exact C2.out
  have b3 : (n != n') = false := by rw [bne_eq_false_iff_eq]; exact C3.out
  have b4 : (ps != ps') = false := by rw [bne_eq_false_iff_eq]; exact C4.out
  have b5 : (mr != mr') = false := by rw [bne_eq_false_iff_eq]; exact C5.out
  have b6 : (se != se') = false := by rw [bne_eq_false_iff_eq]; exact C6.out
  by_cases c7 : d = d'
  case neg =>
    have b7 : (d.toList == d'.toList) = false := by rw [HD.out]; exact decide_eq_false c7
    obtain rfl := HV.out false ⟨(fun h => by cases h), fun h => absurd h.2.2.2.2.2.2.2 c7⟩
    clear c7
    go_enter Tryd.func18, Tryd.ntmps18
    go_upto_region 1 with fail
    rw [← hwa]
    clear hwa
    have c6 := C6.out
    go_wp2_with fail
    go_ret
    exact ⟨rfl, HB.out⟩
  have C7 := Lib.hid c7
  clear c7
  have b7 : (d.toList == d'.toList) = true := by rw [HD.out]; exact decide_eq_true C7.out
  by_cases c8 : xs.length = xs'.length
  case neg =>
    have b8 : ((xs.length : Int) != (xs'.length : Int)) = true := by rw [bne_iff_ne]; omega
    obtain rfl := HV.out false ⟨(fun h => by cases h), fun h => absurd (congrArg List.length h.2.2.2.2.2.1) c8⟩
    clear c8
    go_enter Tryd.func18, Tryd.ntmps18
    go_upto_region 1 with fail
    rw [← hwa]
    clear hwa
    have c6 := C6.out
    go_wp2_with fail
    go_ret
    exact ⟨rfl, HB.out⟩
  have C8 := Lib.hid c8
  clear c8
  have b8 : ((xs.length : Int) != (xs'.length : Int)) = false := by rw [bne_eq_false_iff_eq]; have := C8.out; omega
  have HVV : Hid (∀ b : Bool, (b = true ↔ xs = xs') → V = b) := fun b hb => HV.out b ⟨fun h => ⟨C1.out, C2.out, C3.out, C4.out, C5.out, hb.1 h, C6.out, C7.out⟩, fun h => hb.2 h.2.2.2.2.2.1⟩
  have HC8 := C8
  clear HV HD C1 C2 C3 C4 C5 C7
  go_enter Tryd.func18, Tryd.ntmps18
  go_upto_region 1 with fail
  rw [← hwa]
  clear hwa
  have c6 := C6.out
  have HC := HR.out
  have HC' := HR'.out
  obtain ⟨A, c, ee, hl, hc⟩ := HC
  injection ee with ee1 ee2 ee3
  subst ee1 ee3
  clear ee2
  obtain ⟨A', c', ee', hl', hc'⟩ := HC'
  injection ee' with ee1 ee2 ee3
  subst ee1 ee3
  clear ee2
  have HCC := Lib.hid hc
  have HCC' := Lib.hid hc'
  clear hc hc'
  go_wp2_with fail
  go_loop [69] (fun i => ∃ j : Nat, j ≤ xs'.length ∧ i = .int .i64 j ∧ Hid (xs.take j = xs'.take j)) (fun i => xs'.length - (intOf i).toNat)
  case atStart => exact ⟨0, by omega, rfl, by show _ = _; rfl⟩
  case round =>
    obtain ⟨j, hj, rfl, HN⟩ := hrel
    by_cases hlt : j < xs'.length
    · have hlt2 : j < xs.length := by have := HC8.out; omega
      have hx := List.getElem?_eq_getElem hlt2
      have hx' := List.getElem?_eq_getElem hlt
      obtain ⟨b, off, rfl, hb, hcell⟩ := HCC.out.resolve_left (by rintro rfl; simp at hlt2)
      obtain ⟨b', off', rfl, hb', hcell'⟩ := HCC'.out.resolve_left (by rintro rfl; simp at hlt)
      have hcx := hcell j _ hx
      have hcx' := hcell' j _ hx'
      have hj0 : (0 : Int) ≤ (j : Int) := by omega
      have hj1 : (j : Int) < (xs'.length : Int) := by omega
      have hj2 : (j : Int) < (xs.length : Int) := by omega
      have e9 := wrap32 (HX.out _ (List.getElem_mem hlt2))
      have HT : Hid (xs.take (j + 1) = xs.take j ++ [xs[j]] ∧ xs'.take (j + 1) = xs'.take j ++ [xs'[j]]) := ⟨List.take_succ_eq_append_getElem hlt2, List.take_succ_eq_append_getElem hlt⟩
      have HNE : Hid (xs[j] ≠ xs'[j] → xs ≠ xs') := fun h e => by subst e; exact h rfl
      clear hcell hcell' hx hx'
      generalize xs[j] = x at *
      generalize xs'[j] = x' at *
      by_cases hxx : x = x'
      · have hd : (x != x') = false := by rw [bne_eq_false_iff_eq]; exact hxx
        have HXX := Lib.hid hxx
        clear hxx
        go_wp2_with fail
        go_round
        case rel => exact ⟨j + 1, by omega, by go_num, by show _ = _; rw [HT.out.1, HT.out.2, HN.out, HXX.out]⟩
        case measure => simp [intOf]; omega
      · have hd : (x != x') = true := by rw [bne_iff_ne]; exact hxx
        have HXX := Lib.hid (HNE.out hxx)
        obtain rfl := HVV.out false ⟨(fun h => by cases h), fun h => absurd h HXX.out⟩
        clear hxx
        go_wp2_with fail
        go_ret
        exact ⟨rfl, HB.out⟩
    · have hjl : j = xs'.length := by omega
      subst hjl
      have HXX := Lib.hid (take_all_eq HC8.out HN.out)
      obtain rfl := HVV.out true ⟨fun _ => HXX.out, fun _ => rfl⟩
      go_wp2_with fail
      go_ret
      exact ⟨rfl, HB.out⟩
end Go.Proofs.YtnocckgbcjienabDoor
namespace Go.Proofs.YtnocckgbcjienabDoor
open Go.RowKit
set_option linter.unusedVariables false
set_option linter.unusedSimpArgs false

theorem strI_inj {a b : List Int} (ha : ∀ x, x ∈ a → 0 ≤ x ∧ x < 256) (hb : ∀ x, x ∈ b → 0 ≤ x ∧ x < 256) (h : strOfNums a = strOfNums b) : a = b := by
  have e : nums (strOfNums a) = nums (strOfNums b) := by rw [h]
  rw [nums_strI a ha, nums_strI b hb] at e
  have back : ∀ l : List Int, (∀ x, x ∈ l → 0 ≤ x ∧ x < 256) → (l.map Int.toNat).map Int.ofNat = l := by
    intro l hl
    rw [List.map_map]
    conv => rhs; rw [← List.map_id l]
    apply List.map_congr_left
    intro x hx
    have := hl x hx
    show ((x.toNat : Nat) : Int) = x
    omega
  rw [← back a ha, ← back b hb, e]
theorem wordB_in2 (x : Int) (h : 0 ≤ x ∧ x < 4294967296) : ∀ b, b ∈ wordB x → 0 ≤ b ∧ b < 256 := by
  intro b hb
  unfold wordB at hb
  simp only [List.mem_cons, List.not_mem_nil, or_false] at hb
  omega
theorem wordB_inj {x y : Int} (hx : 0 ≤ x ∧ x < 4294967296) (hy : 0 ≤ y ∧ y < 4294967296) (h : wordB x = wordB y) : x = y := by
  unfold wordB at h
  injection h with h1 h
  injection h with h2 h
  injection h with h3 h
  injection h with h4 h
  omega
theorem flat_in (l : List Int) (h : ∀ x, x ∈ l → 0 ≤ x ∧ x < 4294967296) : ∀ b, b ∈ l.flatMap wordB → 0 ≤ b ∧ b < 256 := by
  intro b hb
  obtain ⟨x, hx, hb⟩ := List.mem_flatMap.1 hb
  exact wordB_in2 x (h x hx) b hb
theorem flat_inj : ∀ (a b : List Int) (ha : ∀ x, x ∈ a → 0 ≤ x ∧ x < 4294967296) (hb : ∀ x, x ∈ b → 0 ≤ x ∧ x < 4294967296) (h : a.flatMap wordB = b.flatMap wordB), a = b
  | [], [], _, _, _ => rfl
  | [], y :: b, _, _, h => by simp [wordB] at h
  | x :: a, [], _, _, h => by simp [wordB] at h
  | x :: a, y :: b, ha, hb, h => by
    rw [List.flatMap_cons, List.flatMap_cons] at h
    have hl : (wordB x).length = (wordB y).length := rfl
    obtain ⟨h1, h2⟩ := List.append_inj h hl
    rw [wordB_inj (ha x (by simp)) (hb y (by simp)) h1, flat_inj a b (fun z hz => ha z (by simp [hz])) (fun z hz => hb z (by simp [hz])) h2]
theorem opt_inj {b : Bool} {x y : Int} {a c : List Int} (h0 : b = false → x = 0 ∧ y = 0) (hl : a.length = c.length) (h : a ++ (if b = true then [x] else []) = c ++ (if b = true then [y] else [])) : a = c ∧ x = y := by
  obtain ⟨h1, h2⟩ := List.append_inj h hl
  refine ⟨h1, ?_⟩
  cases b with
  | true =>
    rw [if_pos rfl, if_pos rfl] at h2
    injection h2
  | false =>
    obtain ⟨h3, h4⟩ := h0 rfl
    rw [h3, h4]
theorem pduB_inj {k sq n ps mr : Int} {xs : List Int} {se : Bool} {d : ByteArray} {k' sq' n' ps' mr' : Int} {xs' : List Int} {se' : Bool} {d' : ByteArray} {j j' : Nat} (hkj : k = (j : Int)) (hkj' : k' = (j' : Int)) (hk : 1 ≤ j ∧ j ≤ 15) (hk' : 1 ≤ j' ∧ j' ≤ 15)
    (h : checkV j sq n ps mr xs se d = 0) (h' : checkV j' sq' n' ps' mr' xs' se' d' = 0) (hx : ∀ x, x ∈ xs → 0 ≤ x) (hx' : ∀ x, x ∈ xs' → 0 ≤ x) (e : pduB j sq n ps mr xs se d = pduB j' sq' n' ps' mr' xs' se' d') :
    k = k' ∧ sq = sq' ∧ n = n' ∧ ps = ps' ∧ mr = mr' ∧ xs = xs' ∧ se = se' ∧ d = d' := by
  obtain ⟨U1, U2, U3, U4, U5, U6, U7⟩ := unit_ok h
  obtain ⟨V1, V2, V3, V4, V5, V6, V7⟩ := unit_ok h'
  obtain ⟨q1, q2, q3, q4⟩ := seam_is hk h (fillOf d.size) rfl
  obtain ⟨p1, p2, p3, p4⟩ := seam_is hk' h' (fillOf d'.size) rfl
  have hin := allWords_in j sq n ps mr xs se d (by omega) U3 U4 U5 U6 hx U7
  have hin' := allWords_in j' sq' n' ps' mr' xs' se' d' (by omega) V3 V4 V5 V6 hx' V7
  have q : ∀ (b : Bool) (x : Int), (if b = true then [x] else []).length ≤ 1 := fun b x => by cases b <;> simp
  have hwl : ∀ (k : Nat) (sq ps mr : Int) (xs : List Int), xs.length ≤ 128 → (wordsL k sq ps mr xs).length ≤ 131 := by
    intro k sq ps mr xs h
    unfold wordsL
    simp only [List.length_append]
    have q1 := q (hasSQ k) sq; have q2 := q (hasPS k) ps; have q3 := q (hasMR k) mr
    omega
  have hf : fillOf d.size ≤ 3 := by unfold fillOf; omega
  have hf' : fillOf d'.size ≤ 3 := by unfold fillOf; omega
  have hP := parts d (fillOf d.size) (wordsL j sq ps mr xs) (lastW (fillOf d.size) j n se) hf U2 (hwl _ _ _ _ _ U1)
  have hP' := parts d' (fillOf d'.size) (wordsL j' sq' ps' mr' xs') (lastW (fillOf d'.size) j' n' se') hf' V2 (hwl _ _ _ _ _ V1)
  have hs : pduB j sq n ps mr xs se d = strOfNums (dataI d ++ List.replicate (fillOf d.size) 0 ++ (wordsL j sq ps mr xs ++ [lastW (fillOf d.size) j n se]).flatMap wordB) := rfl
  have hs' : pduB j' sq' n' ps' mr' xs' se' d' = strOfNums (dataI d' ++ List.replicate (fillOf d'.size) 0 ++ (wordsL j' sq' ps' mr' xs' ++ [lastW (fillOf d'.size) j' n' se']).flatMap wordB) := rfl
  rw [← hs] at hP
  rw [← hs', ← e] at hP'
  generalize pduB j sq n ps mr xs se d = s at *
  have he : d.size + fillOf d.size + 4 * (wordsL j sq ps mr xs).length = d'.size + fillOf d'.size + 4 * (wordsL j' sq' ps' mr' xs').length := by
    have a := hP.size; have b := hP'.size; omega
  have hl1 := hP.last
  have hl2 := hP'.last
  rw [← he, hl1] at hl2
  have hLi := lastW_in (fillOf d.size) j n se hf (by omega) U4
  have hLi' := lastW_in (fillOf d'.size) j' n' se' hf' (by omega) V4
  have hL : lastW (fillOf d.size) j n se = lastW (fillOf d'.size) j' n' se' := by
    have := flat_inj _ _ (fun x hx => by rw [List.mem_singleton.1 hx]; exact hLi) (fun x hx => by rw [List.mem_singleton.1 hx]; exact hLi') (strI_inj (flat_in _ fun x hx => by rw [List.mem_singleton.1 hx]; exact hLi) (flat_in _ fun x hx => by rw [List.mem_singleton.1 hx]; exact hLi') hl2)
    injection this
  obtain ⟨m, hm⟩ : ∃ m : Nat, n = (m : Int) := ⟨n.toNat, by omega⟩
  obtain ⟨m', hm'⟩ : ∃ m : Nat, n' = (m : Int) := ⟨n'.toNat, by omega⟩
  subst hm hm'
  obtain ⟨a1, a2, a3, a4⟩ := last_parts (fillOf d.size) j m se hf (by omega) (by omega)
  obtain ⟨b1, b2, b3, b4⟩ := last_parts (fillOf d'.size) j' m' se' hf' (by omega) (by omega)
  rw [hL] at a1 a2 a3 a4
  have ek : j = j' := by have := a1.symm.trans b1; omega
  have en : m = m' := by have := a2.symm.trans b2; omega
  have ese : se = se' := a3.symm.trans b3
  have ef : fillOf d.size = fillOf d'.size := by have := a4.symm.trans b4; omega
  subst ek en ese
  rw [he] at q1
  have eds : d.size = d'.size := by have := q1.symm.trans p1; omega
  have hd1 := hP.data
  have hd2 := hP'.data
  rw [← eds, hd1] at hd2
  subst hd2
  have hw1 := hP.words
  have hw2 := hP'.words
  rw [← he, hw1] at hw2
  have hWi : ∀ x, x ∈ wordsL j sq ps mr xs → 0 ≤ x ∧ x < 4294967296 := fun x hx => hin x (List.mem_append_left _ hx)
  have hWi' : ∀ x, x ∈ wordsL j sq' ps' mr' xs' → 0 ≤ x ∧ x < 4294967296 := fun x hx => hin' x (List.mem_append_left _ hx)
  have hW := flat_inj _ _ hWi hWi' (strI_inj (flat_in _ hWi) (flat_in _ hWi') hw2)
  unfold wordsL at hW he
  have hlen : xs.length = xs'.length := by
    simp only [List.length_append] at he
    have r : ∀ (b : Bool) (x y : Int), (if b = true then [x] else []).length = (if b = true then [y] else []).length := fun b x y => by cases b <;> rfl
    have r1 := r (hasSQ j) sq sq'; have r2 := r (hasPS j) ps ps'; have r3 := r (hasMR j) mr mr'
    omega
  have r : ∀ (b : Bool) (x y : Int), (if b = true then [x] else []).length = (if b = true then [y] else []).length := fun b x y => by cases b <;> rfl
  obtain ⟨hW, emr⟩ := opt_inj (fun h => ⟨q4 h, p4 h⟩) (by simp only [List.length_append]; rw [hlen, r (hasSQ j) sq sq', r (hasPS j) ps ps']) hW
  obtain ⟨hW, eps⟩ := opt_inj (fun h => ⟨q3 h, p3 h⟩) (by simp only [List.length_append]; rw [hlen, r (hasSQ j) sq sq']) hW
  obtain ⟨exs, esq⟩ := opt_inj (fun h => ⟨q2 h, p2 h⟩) hlen hW
  exact ⟨by rw [hkj, hkj'], esq, rfl, eps, emr, exs, rfl, rfl⟩
end Go.Proofs.YtnocckgbcjienabDoor
namespace Go.Proofs.YtnocckgbcjienabDoor
open Go.RowKit
set_option linter.unusedVariables false
set_option linter.unusedSimpArgs false

theorem step_store_row {P : Program} {ops : Array Oper} {o : Oper} {a : Act} {w : World} {K : Act → World → Prop} {Q : Exit → Act → World → Prop} {E : Prop} (hgd : o.guard = none) (ty : TypeId) (x y : Operand) (ho : o.op = .store ty x y)
    (g : Nat) (cells : Array Value) (hx : a.eval x = .pointer (some ⟨g, 0, none⟩)) (hy : a.eval y = .agg cells)
    (t : TypeId) (old : Array Value) (hg : w.heap[g]? = some (.cells old t (0, 0))) (hi : (P.info? ty).map (·.size) = some cells.size)
    (hold : old.size = cells.size) (h1 : cells.all (·.oneCell') = true)
    (h : K (a.put o.dst undef) (w.setRow g cells)) : if Region.wanted o (yielded ops a.tmps) = true then Oper.wp P o a w K Q else E := by
  have hw : Region.wanted o (yielded ops a.tmps) = true := by simp [Region.wanted, hgd]
  rw [if_pos hw]
  exact wp_store_row ty x y ho g cells hx hy t old hg hi hold h1 h
theorem irow_setRow {w : World} {g : Nat} {cs : Array Value} {A : Option Addr} {n c : Nat} {xs : List Int} (h : IRow w (.slice A n c) xs) (hne : ∀ r, (Value.slice A n c).ownBlock = some r → r ≠ g) : IRow (w.setRow g cs) (.slice A n c) xs := by
  obtain ⟨A', c', e, h1, h2⟩ := h
  injection e with e1 e2 e3
  subst e1 e2 e3
  refine ⟨A, c, rfl, h1, h2.imp id fun ⟨b, off, ea, hb, hc⟩ => ⟨b, off, ea, by rw [setRow_size]; exact hb, fun i x hx => ?_⟩⟩
  subst ea
  rw [World.cell?_of_block (w := w) (setRow_other _ _ _ _ (hne b rfl))]
  exact hc i x hx
theorem rbox_setRow {w : World} {R g : Nat} {cs : Array Value} {k sq n ps mr : Int} {l : Value} {se : Bool} {d : ByteArray} (h : RBox w R k sq n ps mr l se d) (hne : R ≠ g) : RBox (w.setRow g cs) R k sq n ps mr l se d := by
  have hb : (w.setRow g cs).heap[R]? = w.heap[R]? := setRow_other _ _ _ _ hne
  obtain ⟨x0, x1, x2, x3, x4, x5, x6, x7⟩ := h
  exact ⟨by rw [World.cell?_of_block (w := w) hb]; exact x0, by rw [World.cell?_of_block (w := w) hb]; exact x1, by rw [World.cell?_of_block (w := w) hb]; exact x2, by rw [World.cell?_of_block (w := w) hb]; exact x3, by rw [World.cell?_of_block (w := w) hb]; exact x4, by rw [World.cell?_of_block (w := w) hb]; exact x5, by rw [World.cell?_of_block (w := w) hb]; exact x6, by rw [World.cell?_of_block (w := w) hb]; exact x7⟩
set_option maxRecDepth 100000 in
theorem own_unit (k sq n ps mr : Int) (p : Option Addr) (len cap : Nat) (xs : List Int) (se : Bool) (d : ByteArray) (w : World) (hlen : len = xs.length) (hr : IRow w (.slice p len cap) xs) (hxl : xs.length ≤ 1000)
    (h1 : 0 ≤ n ∧ n < 4294967296) (h2 : 0 ≤ ps ∧ ps < 4294967296) (h3 : 0 ≤ mr ∧ mr < 4294967296) (hxs : ∀ x, x ∈ xs → 0 ≤ x ∧ x < 4294967296) :
    Calls Tryd.prog 12 #[.agg #[.int .i64 k, .int .i64 sq, .int .i64 n, .int .i64 ps, .int .i64 mr, .slice p len cap, .bool se, .string d]] w fun e w' => ∃ A c, e = .returned (.agg #[.int .i64 k, .int .i64 sq, .int .u32 n, .int .u32 ps, .int .u32 mr, .slice A xs.length c, .bool se, .string d]) ∧ NumRow w' (.slice A xs.length c) xs ∧ Below w.heap.size w w' ∧ w.heap.size ≤ w'.heap.size := by
  refine (own_is k sq n ps mr p len cap xs se d w hlen hr hxl).mono ?_
  rintro e w' ⟨l, rfl, hrow, hb⟩
  rw [in32_id h1, in32_id h2, in32_id h3]
  have hmap : xs.map in32 = xs := by
    have : xs.map in32 = xs.map id := List.map_congr_left fun x hx => in32_id (hxs x hx)
    rw [this, List.map_id]
  rw [hmap] at hrow
  obtain ⟨A, c, e, _⟩ := id hrow
  subst e
  exact ⟨A, c, rfl, hrow, hb, hb.size⟩
end Go.Proofs.YtnocckgbcjienabDoor
namespace Go.Proofs.YtnocckgbcjienabDoor
open Go.RowKit
set_option linter.unusedVariables false
set_option linter.unusedSimpArgs false

theorem wire_folded : Array.foldl (fun cs x => cs.setIfInBounds x.snd x.fst) Tryd.zeroCells79 tabArr.zipIdx 0 256 = tabArr := by kernel_rfl
theorem tab_here (w1 : World) (t : TypeId) : TabAt (w1.alloc (.cells tabArr t)) w1.heap.size := by
  intro b hb
  rw [cell_of_row _ _ b _ _ (0, 0) (heap_alloc_new w1 _)]
  exact tabArr_get b hb
theorem wire_new (w : World) : Calls Tryd.prog 20 #[] w fun e w' => ∃ g, e = .returned (.pointer (some ⟨g, 0, none⟩)) ∧ Has w w' g := by
  have hf := wire_folded
  have hm := fun W => crc_make W
  have hts := tabArr_size
  have ht := fun W t => tab_here W t
  have HF := Lib.hid hf
  have HT := Lib.hid ht
  clear hf ht
  generalize tabArr = T at *
  go_enter Tryd.func20, Tryd.ntmps20
  go_wp2_with fail
  refine (hm _).mono ?_
  rintro e w1 ⟨rfl, hb1⟩
  go_wp2_with fail
  rw [HF.out]
  go_ret
  exact ⟨_, rfl, HT.out w1 _, by simp, hb1.alloc hb1.size _⟩
end Go.Proofs.YtnocckgbcjienabDoor
namespace Go.Proofs.YtnocckgbcjienabDoor
open Go.RowKit
set_option linter.unusedVariables false
set_option linter.unusedSimpArgs false

theorem bytesA_small (k sq n ps mr : Int) (xs : List Int) (se : Bool) (d : ByteArray) : (bytesA k sq n ps mr xs se d).size ≤ 735 := by
  unfold bytesA
  split
  · rename_i hc
    have hk : 1 ≤ k ∧ k ≤ 15 := by
      by_cases h : 1 ≤ k ∧ k ≤ 15
      · exact h
      · unfold checkA at hc; rw [if_neg h] at hc; cases hc
    unfold checkA at hc
    rw [if_pos hk] at hc
    obtain ⟨U1, U2, _⟩ := unit_ok hc
    rw [pduB_size]
    have hf : fillOf d.size = (4 - d.size % 4) % 4 := rfl
    repeat' split
    all_goals omega
  · show 0 ≤ _; omega
def packA (k sq n ps mr : Int) (xs : List Int) (se : Bool) (d : ByteArray) : ByteArray := if checkA k sq n ps mr xs se d = 0 then frameB 0 (bytesA k sq n ps mr xs se d) else ⟨#[]⟩
def sizeA (k sq n ps mr : Int) (xs : List Int) (se : Bool) (d : ByteArray) : Int := if checkA k sq n ps mr xs se d = 0 then cellsOf ((bytesA k sq n ps mr xs se d).size : Int) * 48 else 0
theorem has_here {w W : World} {g : Nat} (h : Has w W g) : Has W W g := ⟨h.tab, h.lt, Below.refl _ _⟩
theorem frame_built (b : ByteArray) (w : World) : (Instr.build 60 #[(0, .int .u8 0), (1, .string b)]).run Tryd.prog w = .ok (.agg #[.int .u8 0, .string b]) w := run_build w 60 _ _ (by kernel_rfl)
set_option maxHeartbeats 4000000 in
set_option maxRecDepth 100000 in
theorem wire_pack (g : Nat) (k sq n ps mr : Int) (A : Option Addr) (c : Nat) (xs : List Int) (se : Bool) (d : ByteArray) (w0 w : World) (hT : Has w0 w g) (hS : ShapesIn w) (hr : NumRow w (.slice A xs.length c) xs) (h1 : 0 ≤ n ∧ n < 4294967296) (h2 : 0 ≤ ps ∧ ps < 4294967296) (h3 : 0 ≤ mr ∧ mr < 4294967296) (hxs : ∀ x, x ∈ xs → 0 ≤ x) :
    Calls Tryd.prog 21 #[.pointer (some ⟨g, 0, none⟩), .agg #[.int .i64 k, .int .i64 sq, .int .u32 n, .int .u32 ps, .int .u32 mr, .slice A xs.length c, .bool se, .string d]] w fun e w' => e = .returned (.tuple #[.string (packA k sq n ps mr xs se d), .int .i64 (checkA k sq n ps mr xs se d)]) ∧ Has w0 w' g := by
  have hb := (Below.refl _ w).alloc (Nat.le_refl _) (.cells #[.int .i64 k, .int .i64 sq, .int .u32 n, .int .u32 ps, .int .u32 mr, .slice A xs.length c, .bool se, .string d] 31)
  have HP := Lib.hid (box_new w k sq n ps mr (.slice A xs.length c) se d)
  have HT := Lib.hid (hT.next hb)
  have HCK := Lib.hid (fun W (hW : Below (w.alloc (.cells #[.int .i64 k, .int .i64 sq, .int .u32 n, .int .u32 ps, .int .u32 mr, .slice A xs.length c, .bool se, .string d] 31)).heap.size (w.alloc (.cells #[.int .i64 k, .int .i64 sq, .int .u32 n, .int .u32 ps, .int .u32 mr, .slice A xs.length c, .bool se, .string d] 31)) W) => pdu_checkA k sq n ps mr A xs.length c xs se d W ((hS.next hb).next hW) rfl ((hr.below hb).below hW) h1 h2 h3)
  have HBY := Lib.hid (fun W (hW : Below (w.alloc (.cells #[.int .i64 k, .int .i64 sq, .int .u32 n, .int .u32 ps, .int .u32 mr, .slice A xs.length c, .bool se, .string d] 31)).heap.size (w.alloc (.cells #[.int .i64 k, .int .i64 sq, .int .u32 n, .int .u32 ps, .int .u32 mr, .slice A xs.length c, .bool se, .string d] 31)) W) => pdu_bytesA k sq n ps mr A xs.length c xs se d W ((hS.next hb).next hW) rfl ((hr.below hb).below hW) h1 h2 h3 hxs)
  have hsm := bytesA_small k sq n ps mr xs se d
  have HFB := Lib.hid (fun W (hW : Has W W g) => frame_bytes 0 (bytesA k sq n ps mr xs se d) g W W (by omega) (by omega) hW)
  have HV : Hid (packA k sq n ps mr xs se d = if checkA k sq n ps mr xs se d = 0 then frameB 0 (bytesA k sq n ps mr xs se d) else ⟨#[]⟩) := rfl
  clear hb hT hS hr h1 h2 h3 hxs hsm
  generalize frameB 0 (bytesA k sq n ps mr xs se d) = F at *
  generalize bytesA k sq n ps mr xs se d = B at *
  generalize packA k sq n ps mr xs se d = V at *
  generalize checkA k sq n ps mr xs se d = C at *
  have hbu := fun W => frame_built B W
  obtain ⟨q, hq⟩ : ∃ q, q = w.heap.size := ⟨_, rfl⟩
  obtain ⟨y0, y1, y2, y3, y4, y5, y6, y7⟩ := HP.out
  go_enter Tryd.func21, Tryd.ntmps21
  go_upto_region 1 with fail
  rw [← hq] at HP y0 y1 y2 y3 y4 y5 y6 y7 ⊢
  clear hq
  generalize w.alloc (.cells #[.int .i64 k, .int .i64 sq, .int .u32 n, .int .u32 ps, .int .u32 mr, .slice A xs.length c, .bool se, .string d] 31) = w1 at *
  go_wp2_with fail
  refine (HCK.out _ (Below.refl _ _)).mono ?_
  rintro e w2 ⟨rfl, hb2⟩
  have HB2 := Lib.hid hb2
  have HP2 := Lib.hid (HP.out.next hb2)
  have HT2 := Lib.hid (HT.out.next hb2)
  clear hb2 y0 y1 y2 y3 y4 y5 y6 y7
  by_cases hc : C = 0
  · have HV1 := Lib.hid (HV.out.trans (if_pos hc))
    have d1 : (C != 0) = false := by rw [bne_eq_false_iff_eq]; exact hc
    obtain ⟨y0, y1, y2, y3, y4, y5, y6, y7⟩ := HP2.out
    have HC := Lib.hid hc
    clear hc
    go_upto_region 4 with fail
    have HDR := Lib.hid (HB2.out.drew)
    go_region_held3 (fun w' => w'.cell? ⟨q, 0, none⟩ = some (.int .i64 k) ∧ w'.cell? ⟨q, 1, none⟩ = some (.int .i64 sq) ∧ w'.cell? ⟨q, 2, none⟩ = some (.int .u32 n) ∧ w'.cell? ⟨q, 3, none⟩ = some (.int .u32 ps) ∧ w'.cell? ⟨q, 4, none⟩ = some (.int .u32 mr) ∧ w'.cell? ⟨q, 5, none⟩ = some (.slice A xs.length c) ∧ w'.cell? ⟨q, 6, none⟩ = some (.bool se) ∧ w'.cell? ⟨q, 7, none⟩ = some (.string d))
      (first | go_keep)
      (first
        | (go_at_call 15; (with_reducible refine (HBY.out _ HDR.out).mono ?_); rintro e wa ⟨rfl, hba⟩
           have HBA := Lib.hid (HDR.out.trans (hba.mono HDR.out.size))
           have HPA := Lib.hid (HP.out.next HBA.out)
           clear hba
           obtain ⟨a0, a1, a2, a3, a4, a5, a6, a7⟩ := HPA.out)
        | (go_at_call 30; (with_reducible refine (HFB.out _ (has_here (HT.out.next HBA.out))).mono ?_); rintro e wb ⟨rfl, hhb⟩
           have HTB := Lib.hid ((HT.out.next HBA.out).next hhb.below)
           have HPB := Lib.hid (HPA.out.next hhb.below)
           clear hhb
           obtain ⟨b0, b1, b2, b3, b4, b5, b6, b7⟩ := HPB.out)
        | fail)
    go_wp2_with fail
    go_ret2
    exact ⟨by rw [HV1.out, HC.out]; rfl, HTB.out⟩
  · have HV1 := Lib.hid (HV.out.trans (if_neg hc))
    have d1 : (C != 0) = true := by rw [bne_iff_ne]; exact hc
    clear hc
    go_wp2_with fail
    go_ret2
    exact ⟨by rw [HV1.out]; rfl, HT2.out⟩

set_option maxRecDepth 100000 in
theorem wire_sound (g : Nat) (s : ByteArray) (w0 w : World) (hT : Has w0 w g) (hs : s.size ≤ maxLen) :
    Calls Tryd.prog 25 #[.pointer (some ⟨g, 0, none⟩), .string s] w fun e w' => e = .returned (.bool (decide (s.size % 48 = 0) && fitsB s)) ∧ Has w0 w' g := by
  have HF := Lib.hid (fitsHas s g w0 w hs hT)
  have HT := Lib.hid hT
  clear hT hs
  generalize fitsB s = F at *
  by_cases h : s.size % 48 = 0
  · have d1 : ((s.size : Int) % 48 == 0) = true := by rw [beq_iff_eq]; omega
    rw [decide_eq_true h, Bool.true_and]
    clear h
    go_enter Tryd.func25, Tryd.ntmps25
    go_wp2_with fail
    refine HF.out.mono ?_
    rintro e w1 ⟨rfl, hh⟩
    have HH := Lib.hid hh
    clear hh
    go_wp2_with fail
    go_ret
    exact ⟨rfl, HH.out⟩
  · have d1 : ((s.size : Int) % 48 == 0) = false := by rw [beq_eq_false_iff_ne]; omega
    rw [decide_eq_false h, Bool.false_and]
    clear h
    go_enter Tryd.func25, Tryd.ntmps25
    go_wp2_with fail
    go_ret
    exact ⟨rfl, HT.out⟩
set_option maxHeartbeats 4000000 in
set_option maxRecDepth 100000 in
theorem wire_size (k sq n ps mr : Int) (A : Option Addr) (c : Nat) (xs : List Int) (se : Bool) (d : ByteArray) (w : World) (hS : ShapesIn w) (hr : NumRow w (.slice A xs.length c) xs) (h1 : 0 ≤ n ∧ n < 4294967296) (h2 : 0 ≤ ps ∧ ps < 4294967296) (h3 : 0 ≤ mr ∧ mr < 4294967296) (hxs : ∀ x, x ∈ xs → 0 ≤ x) :
    Calls Tryd.prog 23 #[.agg #[.int .i64 k, .int .i64 sq, .int .u32 n, .int .u32 ps, .int .u32 mr, .slice A xs.length c, .bool se, .string d]] w fun e w' => e = .returned (.int .i64 (sizeA k sq n ps mr xs se d)) ∧ Below w.heap.size w w' := by
  have hb := (Below.refl _ w).alloc (Nat.le_refl _) (.cells #[.int .i64 k, .int .i64 sq, .int .u32 n, .int .u32 ps, .int .u32 mr, .slice A xs.length c, .bool se, .string d] 31)
  have HP := Lib.hid (box_new w k sq n ps mr (.slice A xs.length c) se d)
  have HB := Lib.hid hb
  have HCK := Lib.hid (fun W (hW : Below (w.alloc (.cells #[.int .i64 k, .int .i64 sq, .int .u32 n, .int .u32 ps, .int .u32 mr, .slice A xs.length c, .bool se, .string d] 31)).heap.size (w.alloc (.cells #[.int .i64 k, .int .i64 sq, .int .u32 n, .int .u32 ps, .int .u32 mr, .slice A xs.length c, .bool se, .string d] 31)) W) => pdu_checkA k sq n ps mr A xs.length c xs se d W ((hS.next hb).next hW) rfl ((hr.below hb).below hW) h1 h2 h3)
  have HBY := Lib.hid (fun W (hW : Below (w.alloc (.cells #[.int .i64 k, .int .i64 sq, .int .u32 n, .int .u32 ps, .int .u32 mr, .slice A xs.length c, .bool se, .string d] 31)).heap.size (w.alloc (.cells #[.int .i64 k, .int .i64 sq, .int .u32 n, .int .u32 ps, .int .u32 mr, .slice A xs.length c, .bool se, .string d] 31)) W) => pdu_bytesA k sq n ps mr A xs.length c xs se d W ((hS.next hb).next hW) rfl ((hr.below hb).below hW) h1 h2 h3 hxs)
  have hsm := bytesA_small k sq n ps mr xs se d
  have HV : Hid (sizeA k sq n ps mr xs se d = if checkA k sq n ps mr xs se d = 0 then cellsOf ((bytesA k sq n ps mr xs se d).size : Int) * 48 else 0) := rfl
  clear hb hS hr h1 h2 h3 hxs
  generalize bytesA k sq n ps mr xs se d = B at *
  generalize sizeA k sq n ps mr xs se d = V at *
  generalize checkA k sq n ps mr xs se d = C at *
  have HCE := Lib.hid (fun W => cells (B.size : Int) W (by omega) (by omega))
  have hcl : 0 ≤ cellsOf (B.size : Int) ∧ cellsOf (B.size : Int) ≤ 2000 := by unfold cellsOf; omega
  generalize cellsOf (B.size : Int) = L at *
  obtain ⟨q, hq⟩ : ∃ q, q = w.heap.size := ⟨_, rfl⟩
  obtain ⟨y0, y1, y2, y3, y4, y5, y6, y7⟩ := HP.out
  go_enter Tryd.func23, Tryd.ntmps23
  go_upto_region 1 with fail
  rw [← hq] at HP y0 y1 y2 y3 y4 y5 y6 y7 ⊢
  clear hq
  generalize w.alloc (.cells #[.int .i64 k, .int .i64 sq, .int .u32 n, .int .u32 ps, .int .u32 mr, .slice A xs.length c, .bool se, .string d] 31) = w1 at *
  go_wp2_with fail
  refine (HCK.out _ (Below.refl _ _)).mono ?_
  rintro e w2 ⟨rfl, hb2⟩
  have HB2 := Lib.hid hb2
  have HP2 := Lib.hid (HP.out.next hb2)
  clear hb2 y0 y1 y2 y3 y4 y5 y6 y7
  by_cases hc : C = 0
  · have HV1 := Lib.hid (HV.out.trans (if_pos hc))
    have d1 : (C != 0) = false := by rw [bne_eq_false_iff_eq]; exact hc
    have hw : IntKind.i64.wrap (L * 48) = L * 48 := by rw [IntKind.wrap_i64]; omega
    obtain ⟨y0, y1, y2, y3, y4, y5, y6, y7⟩ := HP2.out
    clear hc
    go_wp2_with fail
    refine (HBY.out _ HB2.out).mono ?_
    rintro e w3 ⟨rfl, hb3⟩
    have HB3 := Lib.hid (HB2.out.trans (hb3.mono HB2.out.size))
    clear hb3
    go_wp2_with fail
    refine (HCE.out _).mono ?_
    rintro e w4 ⟨rfl, rfl⟩
    go_wp2_with fail
    go_ret
    exact ⟨by rw [HV1.out]; rfl, HB.out.trans (HB3.out.mono HB.out.size)⟩
  · have HV1 := Lib.hid (HV.out.trans (if_neg hc))
    have d1 : (C != 0) = true := by rw [bne_iff_ne]; exact hc
    clear hc
    go_wp2_with fail
    go_ret
    exact ⟨by rw [HV1.out]; rfl, HB.out.trans (HB2.out.mono HB.out.size)⟩
end Go.Proofs.YtnocckgbcjienabDoor
namespace Go.Proofs.YtnocckgbcjienabDoor
open Go.RowKit
set_option linter.unusedVariables false
set_option linter.unusedSimpArgs false

theorem res_open (tmps : Array Value) (w : World) (r : Nat) (k sq n ps mr : Int) (l : Value) (se : Bool) (d : ByteArray) (err : Int) (h4 : tmps.getD 4 undef = .pointer (some ⟨r, 0, none⟩)) (h5 : tmps.getD 5 undef = .int .i64 err)
    (c : BoxAt w r k sq n ps mr l se d) :
    (results Tryd.f24 tmps).run Tryd.prog w = .ok (.tuple #[.agg #[.int .i64 k, .int .i64 sq, .int .u32 n, .int .u32 ps, .int .u32 mr, l, .bool se, .string d], .int .i64 err]) w := by
  obtain ⟨x0, x1, x2, x3, x4, x5, x6, x7⟩ := c
  simp only [results, Tryd.results24]
  simp only [List.mapM_toArray, List.mapM_cons, List.mapM_nil, h4, h5]
  go_simp
theorem has_setRow {w0 w : World} {g q : Nat} {cs : Array Value} (h : Has w0 w g) (hq : w0.heap.size ≤ q) (hne : g ≠ q) : Has w0 (w.setRow q cs) g :=
  ⟨fun b hb => by rw [World.cell?_of_block (w := w) (setRow_other _ _ _ _ hne)]; exact h.tab b hb, by rw [setRow_size]; exact h.lt, below_setRow h.below hq _⟩
/-- What Parse says of a text is wrong, Open says. -/
def OpenBad (s : ByteArray) (err : Int) : Prop := ∀ (g : Nat) (w : World), Has w w g → Calls Tryd.prog 31 #[.pointer (some ⟨g, 0, none⟩), .string s] w (FrameOut w g 0 ⟨#[]⟩ err)
set_option maxHeartbeats 4000000 in
set_option maxRecDepth 100000 in
theorem wire_open_bad (g : Nat) (s : ByteArray) (err : Int) (w0 w : World) (hT : Has w0 w g) (h0 : w0.heap.size ≤ w.heap.size) (he : err ≠ 0) (hB : OpenBad s err) :
    Calls Tryd.prog 24 #[.pointer (some ⟨g, 0, none⟩), .string s] w fun e w' => e = .returned (.tuple #[.agg #[.int .i64 0, .int .i64 0, .int .u32 0, .int .u32 0, .int .u32 0, .slice none 0 0, .bool false, .string ⟨#[]⟩], .int .i64 err]) ∧ Has w0 w' g := by
  have hb := (Below.refl _ w).alloc (Nat.le_refl _) (.cells #[.int .i64 0, .int .i64 0, .int .u32 0, .int .u32 0, .int .u32 0, .slice none 0 0, .bool false, .string ⟨#[]⟩] 31)
  have HP := Lib.hid (box_new w 0 0 0 0 0 (.slice none 0 0) false ⟨#[]⟩)
  have HT := Lib.hid (hT.next hb)
  have HH : Hid ((w.alloc (.cells #[.int .i64 0, .int .i64 0, .int .u32 0, .int .u32 0, .int .u32 0, .slice none 0 0, .bool false, .string ⟨#[]⟩] 31)).heap[w.heap.size]? = some (.cells #[.int .i64 0, .int .i64 0, .int .u32 0, .int .u32 0, .int .u32 0, .slice none 0 0, .bool false, .string ⟨#[]⟩] 31 (0, 0))) := heap_alloc_new w _
  have HBB := Lib.hid hB
  have d1 : (err != 0) = true := by rw [bne_iff_ne]; exact he
  have hgq := hT.lt
  have hbz := fun W => run_build (P := Tryd.prog) W 31 #[] #[.int .i64 0, .int .i64 0, .int .u32 0, .int .u32 0, .int .u32 0, .slice none 0 0, .bool false, .string ⟨#[]⟩] (by kernel_rfl)
  clear hb hT hB he
  obtain ⟨q, hq⟩ : ∃ q, q = w.heap.size := ⟨_, rfl⟩
  rw [← hq] at hgq h0
  go_enter Tryd.func24, Tryd.ntmps24
  go_upto_region 1 with fail
  rw [← hq] at HP HH ⊢
  clear hq
  generalize w.alloc (.cells #[.int .i64 0, .int .i64 0, .int .u32 0, .int .u32 0, .int .u32 0, .slice none 0 0, .bool false, .string ⟨#[]⟩] 31) = w1 at *
  go_wp2_with fail
  refine (HBB.out g _ (has_here HT.out)).mono ?_
  rintro e w2 ⟨rfl, hh⟩
  have hb3 := (Below.refl w2.heap.size w2).alloc (Nat.le_refl _) (.cells #[.int .u8 0, .string ⟨#[]⟩] 60)
  have hb13 := hh.below.trans (hb3.mono hh.below.size)
  have HT3 := Lib.hid (HT.out.next hb13)
  have HH3 := Lib.hid ((hb13.block q HP.out.lt).trans HH.out)
  clear hh hb3 hb13
  go_upto_region 3 with fail
  generalize w2.alloc (.cells #[.int .u8 0, .string ⟨#[]⟩] 60) = w3 at *
  go_wp2_with (refine wpList_store_row rfl 31 (.tmp 4) (.tmp 19) rfl q #[.int .i64 0, .int .i64 0, .int .u32 0, .int .u32 0, .int .u32 0, .slice none 0 0, .bool false, .string ⟨#[]⟩] rfl rfl 31 _ HH3.out infoPdu rfl (unit_one _ _ _ _ _ _ _ _) ?_)
  exact bodyPost_ret (res_open _ _ q 0 0 0 0 0 (.slice none 0 0) false ⟨#[]⟩ err rfl rfl (row_box w3 q 0 0 0 0 0 (.slice none 0 0) false ⟨#[]⟩ HH3.out)) rfl ⟨rfl, has_setRow HT3.out h0 (by omega)⟩
set_option maxHeartbeats 4000000 in
set_option maxRecDepth 100000 in
theorem wire_open_ok (g : Nat) (k sq n ps mr : Int) (xs : List Int) (se : Bool) (d : ByteArray) (w0 w : World) (hT : Has w0 w g) (h0 : w0.heap.size ≤ w.heap.size) (hS : ShapesIn w) (hok : checkA k sq n ps mr xs se d = 0) (hxs : ∀ x, x ∈ xs → 0 ≤ x) :
    Calls Tryd.prog 24 #[.pointer (some ⟨g, 0, none⟩), .string (packA k sq n ps mr xs se d)] w fun e w' => ∃ A c, e = .returned (.tuple #[.agg #[.int .i64 k, .int .i64 sq, .int .u32 n, .int .u32 ps, .int .u32 mr, .slice A xs.length c, .bool se, .string d], .int .i64 0]) ∧ NumRow w' (.slice A xs.length c) xs ∧ Has w0 w' g := by
  have hk : 1 ≤ k ∧ k ≤ 15 := by
    by_cases h : 1 ≤ k ∧ k ≤ 15
    · exact h
    · unfold checkA at hok; rw [if_neg h] at hok; cases hok
  have hsm := bytesA_small k sq n ps mr xs se d
  have hV : packA k sq n ps mr xs se d = frameB 0 (bytesA k sq n ps mr xs se d) := if_pos hok
  have hB : bytesA k sq n ps mr xs se d = pduB k.toNat sq n ps mr xs se d := if_pos hok
  have HPF := Lib.hid (fun W (hW : Has W W g) => parse_frame 0 (bytesA k sq n ps mr xs se d) g W W (by omega) (by omega) hW)
  have HPP : Hid (∀ W, ShapesIn W → Calls Tryd.prog 17 #[.string (bytesA k sq n ps mr xs se d)] W fun e w' => ∃ l, e = .returned (.tuple #[.agg #[.int .i64 k, .int .i64 sq, .int .u32 n, .int .u32 ps, .int .u32 mr, l, .bool se, .string d], .int .i64 0]) ∧ NumRow w' l xs ∧ Below W.heap.size W w' ∧ ∀ r, l.ownBlock = some r → W.heap.size ≤ r) := fun W hW => by
    rw [hB]
    obtain ⟨kk, rfl⟩ : ∃ kk : Nat, k = (kk : Int) := ⟨k.toNat, by omega⟩
    rw [Int.toNat_natCast]
    unfold checkA at hok
    rw [if_pos hk, Int.toNat_natCast] at hok
    exact pdu_parse_far kk sq n ps mr xs se d W (by omega) hW hok hxs
  rw [hV]
  generalize bytesA k sq n ps mr xs se d = B at *
  generalize frameB 0 B = F at *
  have hb := (Below.refl _ w).alloc (Nat.le_refl _) (.cells #[.int .i64 0, .int .i64 0, .int .u32 0, .int .u32 0, .int .u32 0, .slice none 0 0, .bool false, .string ⟨#[]⟩] 31)
  have HP := Lib.hid (box_new w 0 0 0 0 0 (.slice none 0 0) false ⟨#[]⟩)
  have HT := Lib.hid (hT.next hb)
  have HH : Hid ((w.alloc (.cells #[.int .i64 0, .int .i64 0, .int .u32 0, .int .u32 0, .int .u32 0, .slice none 0 0, .bool false, .string ⟨#[]⟩] 31)).heap[w.heap.size]? = some (.cells #[.int .i64 0, .int .i64 0, .int .u32 0, .int .u32 0, .int .u32 0, .slice none 0 0, .bool false, .string ⟨#[]⟩] 31 (0, 0))) := heap_alloc_new w _
  have HSI := Lib.hid (fun W (hW : Below (w.alloc (.cells #[.int .i64 0, .int .i64 0, .int .u32 0, .int .u32 0, .int .u32 0, .slice none 0 0, .bool false, .string ⟨#[]⟩] 31)).heap.size (w.alloc (.cells #[.int .i64 0, .int .i64 0, .int .u32 0, .int .u32 0, .int .u32 0, .slice none 0 0, .bool false, .string ⟨#[]⟩] 31)) W) => (hS.next hb).next hW)
  have hgq := hT.lt
  clear hb hT hS hok hxs hk hsm hV hB
  obtain ⟨q, hq⟩ : ∃ q, q = w.heap.size := ⟨_, rfl⟩
  rw [← hq] at hgq h0
  go_enter Tryd.func24, Tryd.ntmps24
  go_upto_region 1 with fail
  rw [← hq] at HP HH ⊢
  clear hq
  generalize w.alloc (.cells #[.int .i64 0, .int .i64 0, .int .u32 0, .int .u32 0, .int .u32 0, .slice none 0 0, .bool false, .string ⟨#[]⟩] 31) = w1 at *
  go_wp2_with fail
  refine (HPF.out _ (has_here HT.out)).mono ?_
  rintro e w2 ⟨rfl, hh⟩
  have hb3 := (Below.refl w2.heap.size w2).alloc (Nat.le_refl _) (.cells #[.int .u8 0, .string B] 60)
  have hb13 := hh.below.trans (hb3.mono hh.below.size)
  have HB3 := Lib.hid hb13
  obtain ⟨f0, f1⟩ := agg_new w2 0 B 60
  clear hh hb3 hb13
  obtain ⟨r, hr⟩ : ∃ r, r = w2.heap.size := ⟨_, rfl⟩
  go_upto_region 6 with fail
  rw [← hr] at f0 f1 ⊢
  clear hr
  generalize w2.alloc (.cells #[.int .u8 0, .string B] 60) = w3 at *
  go_wp2_with fail
  refine (HPP.out _ (HSI.out _ HB3.out)).mono ?_
  rintro e w4 ⟨l, rfl, hnl, hb4, hfar⟩
  obtain ⟨A, c, el, _⟩ := id hnl
  subst el
  have HB4 := Lib.hid (HB3.out.trans (hb4.mono HB3.out.size))
  have HNL := Lib.hid hnl
  have HH4 := Lib.hid ((HB4.out.block q HP.out.lt).trans HH.out)
  have HNE : Hid (∀ b, xs ≠ [] → A = some b → b.block ≠ q) := fun b h1 h2 => by
    subst h2
    have h3 := hfar b.block rfl
    have h4 := HB3.out.size
    have h5 := HP.out.lt
    omega
  clear hb4 hnl f0 f1 hfar
  go_wp2_with (refine wpList_store_row rfl 31 (.tmp 4) (.tmp 29) rfl q #[.int .i64 k, .int .i64 sq, .int .u32 n, .int .u32 ps, .int .u32 mr, .slice A xs.length c, .bool se, .string d] rfl rfl 31 _ HH4.out infoPdu rfl (unit_one _ _ _ _ _ _ _ _) ?_)
  exact bodyPost_ret (res_open _ _ q k sq n ps mr (.slice A xs.length c) se d 0 rfl rfl (row_box w4 q k sq n ps mr (.slice A xs.length c) se d HH4.out)) rfl ⟨A, c, rfl, HNL.out.row_other HNE.out, has_setRow (HT.out.next HB4.out) h0 (by omega)⟩
end Go.Proofs.YtnocckgbcjienabDoor
namespace Go.Proofs.YtnocckgbcjienabDoor
open Go.RowKit
set_option linter.unusedVariables false
set_option linter.unusedSimpArgs false

theorem infoPduW : (Tryd.prog.info? 31).map (·.size) = some 8 := by kernel_rfl
theorem wake_check : checkA 13 0 0 0 0 [] false ⟨#[120]⟩ = 0 := by decide +kernel
theorem pack_fits (k sq n ps mr : Int) (xs : List Int) (se : Bool) (d : ByteArray) (h : checkA k sq n ps mr xs se d = 0) : fitsB (packA k sq n ps mr xs se d) = true ∧ (packA k sq n ps mr xs se d).size % 48 = 0 ∧ ((packA k sq n ps mr xs se d).size : Int) = sizeA k sq n ps mr xs se d ∧ (packA k sq n ps mr xs se d).size ≤ 816 := by
  have hV : packA k sq n ps mr xs se d = frameB 0 (bytesA k sq n ps mr xs se d) := if_pos h
  have hsm := bytesA_small k sq n ps mr xs se d
  have hs := frame_size 0 (bytesA k sq n ps mr xs se d)
  obtain ⟨h1, h2, h3⟩ := cells_fill (bytesA k sq n ps mr xs se d).size
  have hz : sizeA k sq n ps mr xs se d = cellsOf ((bytesA k sq n ps mr xs se d).size : Int) * 48 := if_pos h
  rw [hV]
  refine ⟨fits_seal _, by omega, by rw [hz]; omega, by omega⟩
theorem wake_size : (packA 13 0 0 0 0 [] false ⟨#[120]⟩).size = 48 := by
  have h := (pack_fits 13 0 0 0 0 [] false ⟨#[120]⟩ wake_check).2.2.1
  have e : sizeA 13 0 0 0 0 [] false ⟨#[120]⟩ = 48 := by decide +kernel
  omega
set_option maxHeartbeats 4000000 in
set_option maxRecDepth 100000 in
theorem wire_awake (w : World) (hS : ShapesIn w) : Calls Tryd.prog 19 #[] w fun e w' => e = .returned (.bool true) ∧ Below w.heap.size w w' := by
  have hz := wake_size
  obtain ⟨hf, hm, _, _⟩ := pack_fits 13 0 0 0 0 [] false ⟨#[120]⟩ wake_check
  have HPK := Lib.hid (fun (g : Nat) (W : World) (hT : Has w W g) => wire_pack g 13 0 0 0 0 none 0 [] false ⟨#[120]⟩ w W hT (hS.next hT.below) (numRow_nil W) (by decide) (by decide) (by decide) (fun x h => by cases h))
  have HOP := Lib.hid (fun (g : Nat) (W : World) (hT : Has w W g) => wire_open_ok g 13 0 0 0 0 [] false ⟨#[120]⟩ w W hT hT.below.size (hS.next hT.below) wake_check (fun x h => by cases h))
  have HSO := Lib.hid (fun (g : Nat) (W : World) (hT : Has w W g) => wire_sound g (packA 13 0 0 0 0 [] false ⟨#[120]⟩) w W hT (by rw [hz]; unfold maxLen; omega))
  rw [wake_check] at HPK
  rw [hf, decide_eq_true hm] at HSO
  clear hf hm hS
  generalize packA 13 0 0 0 0 [] false ⟨#[120]⟩ = X at *
  have hb := fun W => run_build (P := Tryd.prog) W 31 #[(0, .int .i64 13), (7, .string ⟨#[120]⟩)] #[.int .i64 13, .int .i64 0, .int .u32 0, .int .u32 0, .int .u32 0, .slice none 0 0, .bool false, .string ⟨#[120]⟩] (by kernel_rfl)
  have hz48 : ((X.size : Int) == 48) = true := by rw [beq_iff_eq]; omega
  go_enter Tryd.func19, Tryd.ntmps19
  go_wp2_with fail
  refine (wire_new _).mono ?_
  rintro e w1 ⟨g, rfl, hh1⟩
  have HT1 := Lib.hid hh1
  clear hh1
  go_wp2_with fail
  refine (HPK.out g _ HT1.out).mono ?_
  rintro e w2 ⟨rfl, hh2⟩
  have HT2 := Lib.hid hh2
  clear hh2
  go_wp2_with fail
  refine (HOP.out g _ HT2.out).mono ?_
  rintro e w3 ⟨A, c, rfl, hn, hh3⟩
  have HT3 := Lib.hid hh3
  clear hh3 hn
  go_upto_region 6 with (refine wpList_store_row rfl 31 (.tmp 4) (.tmp 19) rfl w3.heap.size #[.int .i64 13, .int .i64 0, .int .u32 0, .int .u32 0, .int .u32 0, .slice A 0 c, .bool false, .string ⟨#[120]⟩] rfl rfl 31 _ (heap_alloc_new w3 _) infoPduW rfl (unit_one _ _ _ _ _ _ _ _) ?_)
  have hb4 : Below w3.heap.size w3 ((w3.alloc (.cells #[.int .i64 0, .int .i64 0, .int .u32 0, .int .u32 0, .int .u32 0, .slice none 0 0, .bool false, .string ⟨#[]⟩] 31)).setRow w3.heap.size #[.int .i64 13, .int .i64 0, .int .u32 0, .int .u32 0, .int .u32 0, .slice A 0 c, .bool false, .string ⟨#[120]⟩]) := below_setRow ((Below.refl _ w3).alloc (Nat.le_refl _) _) (Nat.le_refl _) _
  have HQ := Lib.hid (row_box (w3.alloc (.cells #[.int .i64 0, .int .i64 0, .int .u32 0, .int .u32 0, .int .u32 0, .slice none 0 0, .bool false, .string ⟨#[]⟩] 31)) w3.heap.size 13 0 0 0 0 (.slice A 0 c) false ⟨#[120]⟩ (heap_alloc_new w3 _))
  have HT4 := Lib.hid (HT3.out.next hb4)
  obtain ⟨q, hq⟩ : ∃ q, q = w3.heap.size := ⟨_, rfl⟩
  rw [← hq] at HQ hb4 HT4 ⊢
  clear hb4 hq
  generalize (w3.alloc (.cells #[.int .i64 0, .int .i64 0, .int .u32 0, .int .u32 0, .int .u32 0, .slice none 0 0, .bool false, .string ⟨#[]⟩] 31)).setRow q #[.int .i64 13, .int .i64 0, .int .u32 0, .int .u32 0, .int .u32 0, .slice A 0 c, .bool false, .string ⟨#[120]⟩] = w4 at *
  obtain ⟨x0, x1, x2, x3, x4, x5, x6, x7⟩ := HQ.out
  go_wp2_with fail
  refine (HSO.out g _ HT4.out).mono ?_
  rintro e w5 ⟨rfl, hh5⟩
  have HB5 := Lib.hid hh5.below
  clear hh5
  go_wp2_with fail
  go_ret
  exact ⟨rfl, HB5.out⟩
end Go.Proofs.YtnocckgbcjienabDoor
