/- The contract of the laws' Same: is a unit the document's? Conditions: the program's numbers are of 32 bits; the rows lie as rows do. -/
import Derived.Test.YtnocckgbcjienabDoorPduFew
import Derived.Test.YtnocckgbcjienabDoorPduWords
import Derived.Test.YtnocckgbcjienabDoorFrameTurn
namespace Go.Proofs.YtnocckgbcjienabDoor
open Go.RowKit
set_option linter.unusedVariables false
set_option linter.unusedSimpArgs false

def sameP (k sq n ps mr : Int) (xs : List Int) (se : Bool) (d : ByteArray) (k' sq' n' ps' mr' : Int) (xs' : List Int) (se' : Bool) (d' : ByteArray) : Prop :=
  k = k' ∧ sq = sq' ∧ n = n' ∧ ps = ps' ∧ mr = mr' ∧ xs = xs' ∧ se = se' ∧ d = d'
open Classical in
noncomputable def sameB (k sq n ps mr : Int) (xs : List Int) (se : Bool) (d : ByteArray) (k' sq' n' ps' mr' : Int) (xs' : List Int) (se' : Bool) (d' : ByteArray) : Bool := decide (sameP k sq n ps mr xs se d k' sq' n' ps' mr' xs' se' d')
theorem same_no {k sq n ps mr : Int} {xs : List Int} {se : Bool} {d : ByteArray} {k' sq' n' ps' mr' : Int} {xs' : List Int} {se' : Bool} {d' : ByteArray} (h : ¬ sameP k sq n ps mr xs se d k' sq' n' ps' mr' xs' se' d') : sameB k sq n ps mr xs se d k' sq' n' ps' mr' xs' se' d' = false := by
  unfold sameB; simp [h]
theorem same_yes {k sq n ps mr : Int} {xs : List Int} {se : Bool} {d : ByteArray} {k' sq' n' ps' mr' : Int} {xs' : List Int} {se' : Bool} {d' : ByteArray} (h : sameP k sq n ps mr xs se d k' sq' n' ps' mr' xs' se' d') : sameB k sq n ps mr xs se d k' sq' n' ps' mr' xs' se' d' = true := by
  unfold sameB; simp [h]
theorem wrap32 {x : Int} (h : 0 ≤ x ∧ x < 4294967296) : IntKind.i64.wrap x = x := by rw [IntKind.wrap_i64]; omega
theorem take_all_eq {xs ys : List Int} (h : xs.length = ys.length) (ht : xs.take ys.length = ys.take ys.length) : xs = ys := by
  rw [List.take_of_length_le (by omega), List.take_of_length_le (Nat.le_refl _)] at ht; exact ht

set_option maxHeartbeats 4000000 in
set_option maxRecDepth 100000 in
theorem law_same (k sq n ps mr : Int) (p : Option Addr) (len cap : Nat) (xs : List Int) (se : Bool) (d : ByteArray) (k' sq' n' ps' mr' : Int) (p' : Option Addr) (len' cap' : Nat) (xs' : List Int) (se' : Bool) (d' : ByteArray) (w : World)
    (hr : NumRow w (.slice p len cap) xs) (hr' : IRow w (.slice p' len' cap') xs') (h1 : 0 ≤ n ∧ n < 4294967296) (h2 : 0 ≤ ps ∧ ps < 4294967296) (h3 : 0 ≤ mr ∧ mr < 4294967296) (hx : ∀ x, x ∈ xs → 0 ≤ x ∧ x < 4294967296) :
    Calls Tryd.prog 18 #[.agg #[.int .i64 k, .int .i64 sq, .int .u32 n, .int .u32 ps, .int .u32 mr, .slice p len cap, .bool se, .string d], .agg #[.int .i64 k', .int .i64 sq', .int .i64 n', .int .i64 ps', .int .i64 mr', .slice p' len' cap', .bool se', .string d']] w fun e w' => e = .returned (.bool (sameB k sq n ps mr xs se d k' sq' n' ps' mr' xs' se' d')) ∧ Below w.heap.size w w' := by
  obtain ⟨A, c, ee, hl, hc⟩ := id hr
  injection ee with ee1 ee2 ee3
  subst ee1 ee2 ee3
  obtain ⟨A', c', ee', hl', hc'⟩ := id hr'
  injection ee' with ee1 ee2 ee3
  subst ee1 ee2 ee3
  clear hc hc'
  obtain ⟨wa, hwa⟩ : ∃ wa, wa = (w.alloc (.cells #[.int .i64 k, .int .i64 sq, .int .u32 n, .int .u32 ps, .int .u32 mr, .slice p xs.length cap, .bool se, .string d] 31)).alloc (.cells #[.int .i64 k', .int .i64 sq', .int .i64 n', .int .i64 ps', .int .i64 mr', .slice p' xs'.length cap', .bool se', .string d'] 24) := ⟨_, rfl⟩
  have hb1 := (Below.refl _ w).alloc (Nat.le_refl _) (.cells #[.int .i64 k, .int .i64 sq, .int .u32 n, .int .u32 ps, .int .u32 mr, .slice p xs.length cap, .bool se, .string d] 31)
  have hb2 : Below (w.alloc (.cells #[.int .i64 k, .int .i64 sq, .int .u32 n, .int .u32 ps, .int .u32 mr, .slice p xs.length cap, .bool se, .string d] 31)).heap.size (w.alloc (.cells #[.int .i64 k, .int .i64 sq, .int .u32 n, .int .u32 ps, .int .u32 mr, .slice p xs.length cap, .bool se, .string d] 31)) wa := by rw [hwa]; exact (Below.refl _ _).alloc (Nat.le_refl _) _
  have HBX := Lib.hid ((box_new w k sq n ps mr (.slice p xs.length cap) se d).next hb2)
  have HRX : Hid (RBox wa (w.heap.size + 1) k' sq' n' ps' mr' (.slice p' xs'.length cap') se' d') := by
    have h := rbox_new (w.alloc (.cells #[.int .i64 k, .int .i64 sq, .int .u32 n, .int .u32 ps, .int .u32 mr, .slice p xs.length cap, .bool se, .string d] 31)) k' sq' n' ps' mr' (.slice p' xs'.length cap') se' d'
    rw [World.size_alloc] at h
    rw [hwa]; exact h
  have HB := Lib.hid (hb1.trans (hb2.mono hb1.size))
  have HR := Lib.hid ((hr.below hb1).below hb2)
  have HR' := Lib.hid ((hr'.below hb1).below hb2)
  have e1 := wrap32 h1
  have e2 := wrap32 h2
  have e3 := wrap32 h3
  have HX := Lib.hid hx
  have hd := toList_eq2 d d'
  have HD := Lib.hid hd
  clear hb1 hb2 hr hr' hx hd
  obtain ⟨x0, x1, x2, x3, x4, x5, x6, x7⟩ := HBX.out
  obtain ⟨y0, y1, y2, y3, y4, y5, y6, y7⟩ := HRX.out
  have HV : Hid (∀ b : Bool, (b = true ↔ sameP k sq n ps mr xs se d k' sq' n' ps' mr' xs' se' d') → sameB k sq n ps mr xs se d k' sq' n' ps' mr' xs' se' d' = b) := fun b hb => by
    cases b with
    | true => exact same_yes (hb.1 rfl)
    | false => exact same_no (fun h => by have := hb.2 h; cases this)
  generalize sameB k sq n ps mr xs se d k' sq' n' ps' mr' xs' se' d' = V at *
  by_cases c1 : k = k'
  case neg =>
    have b1 : (k != k') = true := by rw [bne_iff_ne]; exact c1
    obtain rfl := HV.out false ⟨(fun h => by cases h), fun h => absurd h.1 c1⟩
    clear c1
    go_enter Tryd.func18, Tryd.ntmps18
    go_upto_region 1 with fail
    rw [← hwa]
    clear hwa
    go_wp2_with fail
    go_ret
    exact ⟨rfl, HB.out⟩
  have C1 := Lib.hid c1
  clear c1
  by_cases c2 : sq = sq'
  case neg =>
    have b1 : (k != k') = false := by rw [bne_eq_false_iff_eq]; exact C1.out
    have b2 : (sq != sq') = true := by rw [bne_iff_ne]; exact c2
    obtain rfl := HV.out false ⟨(fun h => by cases h), fun h => absurd h.2.1 c2⟩
    clear c2
    go_enter Tryd.func18, Tryd.ntmps18
    go_upto_region 1 with fail
    rw [← hwa]
    clear hwa
    go_wp2_with fail
    go_ret
    exact ⟨rfl, HB.out⟩
  have C2 := Lib.hid c2
  clear c2
  by_cases c3 : n = n'
  case neg =>
    have b1 : (k != k') = false := by rw [bne_eq_false_iff_eq]; exact C1.out
    have b2 : (sq != sq') = false := by rw [bne_eq_false_iff_eq]; exact C2.out
    have b3 : (n != n') = true := by rw [bne_iff_ne]; exact c3
    obtain rfl := HV.out false ⟨(fun h => by cases h), fun h => absurd h.2.2.1 c3⟩
    clear c3
    go_enter Tryd.func18, Tryd.ntmps18
    go_upto_region 1 with fail
    rw [← hwa]
    clear hwa
    go_wp2_with fail
    go_ret
    exact ⟨rfl, HB.out⟩
  have C3 := Lib.hid c3
  clear c3
  by_cases c4 : ps = ps'
  case neg =>
    have b1 : (k != k') = false := by rw [bne_eq_false_iff_eq]; exact C1.out
    have b2 : (sq != sq') = false := by rw [bne_eq_false_iff_eq]; exact C2.out
    have b3 : (n != n') = false := by rw [bne_eq_false_iff_eq]; exact C3.out
    have b4 : (ps != ps') = true := by rw [bne_iff_ne]; exact c4
    obtain rfl := HV.out false ⟨(fun h => by cases h), fun h => absurd h.2.2.2.1 c4⟩
    clear c4
    go_enter Tryd.func18, Tryd.ntmps18
    go_upto_region 1 with fail
    rw [← hwa]
    clear hwa
    go_wp2_with fail
    go_ret
    exact ⟨rfl, HB.out⟩
  have C4 := Lib.hid c4
  clear c4
  by_cases c5 : mr = mr'
  case neg =>
    have b1 : (k != k') = false := by rw [bne_eq_false_iff_eq]; exact C1.out
    have b2 : (sq != sq') = false := by rw [bne_eq_false_iff_eq]; exact C2.out
    have b3 : (n != n') = false := by rw [bne_eq_false_iff_eq]; exact C3.out
    have b4 : (ps != ps') = false := by rw [bne_eq_false_iff_eq]; exact C4.out
    have b5 : (mr != mr') = true := by rw [bne_iff_ne]; exact c5
    obtain rfl := HV.out false ⟨(fun h => by cases h), fun h => absurd h.2.2.2.2.1 c5⟩
    clear c5
    go_enter Tryd.func18, Tryd.ntmps18
    go_upto_region 1 with fail
    rw [← hwa]
    clear hwa
    go_wp2_with fail
    go_ret
    exact ⟨rfl, HB.out⟩
  have C5 := Lib.hid c5
  clear c5
  by_cases c6 : se = se'
  case neg =>
    have b1 : (k != k') = false := by rw [bne_eq_false_iff_eq]; exact C1.out
    have b2 : (sq != sq') = false := by rw [bne_eq_false_iff_eq]; exact C2.out
    have b3 : (n != n') = false := by rw [bne_eq_false_iff_eq]; exact C3.out
    have b4 : (ps != ps') = false := by rw [bne_eq_false_iff_eq]; exact C4.out
    have b5 : (mr != mr') = false := by rw [bne_eq_false_iff_eq]; exact C5.out
    have b6 : (se != se') = true := by rw [bne_iff_ne]; exact c6
    obtain rfl := HV.out false ⟨(fun h => by cases h), fun h => absurd h.2.2.2.2.2.2.1 c6⟩
    have C6 := Lib.hid c6
    clear c6
    go_enter Tryd.func18, Tryd.ntmps18
    go_upto_region 1 with fail
    rw [← hwa]
    clear hwa
    have c6 := C6.out
    go_wp2_with fail
    go_ret
    exact ⟨rfl, HB.out⟩
  have C6 := Lib.hid c6
  clear c6
  have b1 : (k != k') = false := by rw [bne_eq_false_iff_eq]; exact C1.out
  have b2 : (sq != sq') = false := by rw [bne_eq_false_iff_eq]; exact C2.out
  have b3 : (n != n') = false := by rw [bne_eq_false_iff_eq]; exact C3.out
  have b4 : (ps != ps') = false := by rw [bne_eq_false_iff_eq]; exact C4.out
  have b5 : (mr != mr') = false := by rw [bne_eq_false_iff_eq]; exact C5.out
  have b6 : (se != se') = false := by rw [bne_eq_false_iff_eq]; exact C6.out
  by_cases c7 : d = d'
  case neg =>
    have b7 : (d.toList == d'.toList) = false := by rw [HD.out]; exact decide_eq_false c7
    obtain rfl := HV.out false ⟨(fun h => by cases h), fun h => absurd h.2.2.2.2.2.2.2 c7⟩
    clear c7
    go_enter Tryd.func18, Tryd.ntmps18
    go_upto_region 1 with fail
    rw [← hwa]
    clear hwa
    have c6 := C6.out
    go_wp2_with fail
    go_ret
    exact ⟨rfl, HB.out⟩
  have C7 := Lib.hid c7
  clear c7
  have b7 : (d.toList == d'.toList) = true := by rw [HD.out]; exact decide_eq_true C7.out
  by_cases c8 : xs.length = xs'.length
  case neg =>
    have b8 : ((xs.length : Int) != (xs'.length : Int)) = true := by rw [bne_iff_ne]; omega
    obtain rfl := HV.out false ⟨(fun h => by cases h), fun h => absurd (congrArg List.length h.2.2.2.2.2.1) c8⟩
    clear c8
    go_enter Tryd.func18, Tryd.ntmps18
    go_upto_region 1 with fail
    rw [← hwa]
    clear hwa
    have c6 := C6.out
    go_wp2_with fail
    go_ret
    exact ⟨rfl, HB.out⟩
  have C8 := Lib.hid c8
  clear c8
  have b8 : ((xs.length : Int) != (xs'.length : Int)) = false := by rw [bne_eq_false_iff_eq]; have := C8.out; omega
  have HVV : Hid (∀ b : Bool, (b = true ↔ xs = xs') → V = b) := fun b hb => HV.out b ⟨fun h => ⟨C1.out, C2.out, C3.out, C4.out, C5.out, hb.1 h, C6.out, C7.out⟩, fun h => hb.2 h.2.2.2.2.2.1⟩
  have HC8 := C8
  clear HV HD C1 C2 C3 C4 C5 C7
  go_enter Tryd.func18, Tryd.ntmps18
  go_upto_region 1 with fail
  rw [← hwa]
  clear hwa
  have c6 := C6.out
  have HC := HR.out
  have HC' := HR'.out
  obtain ⟨A, c, ee, hl, hc⟩ := HC
  injection ee with ee1 ee2 ee3
  subst ee1 ee3
  clear ee2
  obtain ⟨A', c', ee', hl', hc'⟩ := HC'
  injection ee' with ee1 ee2 ee3
  subst ee1 ee3
  clear ee2
  have HCC := Lib.hid hc
  have HCC' := Lib.hid hc'
  clear hc hc'
  go_wp2_with fail
  go_loop [69] (fun i => ∃ j : Nat, j ≤ xs'.length ∧ i = .int .i64 j ∧ Hid (xs.take j = xs'.take j)) (fun i => xs'.length - (intOf i).toNat)
  case atStart => exact ⟨0, by omega, rfl, by show _ = _; rfl⟩
  case round =>
    obtain ⟨j, hj, rfl, HN⟩ := hrel
    by_cases hlt : j < xs'.length
    · have hlt2 : j < xs.length := by have := HC8.out; omega
      have hx := List.getElem?_eq_getElem hlt2
      have hx' := List.getElem?_eq_getElem hlt
      obtain ⟨b, off, rfl, hb, hcell⟩ := HCC.out.resolve_left (by rintro rfl; simp at hlt2)
      obtain ⟨b', off', rfl, hb', hcell'⟩ := HCC'.out.resolve_left (by rintro rfl; simp at hlt)
      have hcx := hcell j _ hx
      have hcx' := hcell' j _ hx'
      have hj0 : (0 : Int) ≤ (j : Int) := by omega
      have hj1 : (j : Int) < (xs'.length : Int) := by omega
      have hj2 : (j : Int) < (xs.length : Int) := by omega
      have e9 := wrap32 (HX.out _ (List.getElem_mem hlt2))
      have HT : Hid (xs.take (j + 1) = xs.take j ++ [xs[j]] ∧ xs'.take (j + 1) = xs'.take j ++ [xs'[j]]) := ⟨List.take_succ_eq_append_getElem hlt2, List.take_succ_eq_append_getElem hlt⟩
      have HNE : Hid (xs[j] ≠ xs'[j] → xs ≠ xs') := fun h e => by subst e; exact h rfl
      clear hcell hcell' hx hx'
      generalize xs[j] = x at *
      generalize xs'[j] = x' at *
      by_cases hxx : x = x'
      · have hd : (x != x') = false := by rw [bne_eq_false_iff_eq]; exact hxx
        have HXX := Lib.hid hxx
        clear hxx
        go_wp2_with fail
        go_round
        case rel => exact ⟨j + 1, by omega, by go_num, by show _ = _; rw [HT.out.1, HT.out.2, HN.out, HXX.out]⟩
        case measure => simp [intOf]; omega
      · have hd : (x != x') = true := by rw [bne_iff_ne]; exact hxx
        have HXX := Lib.hid (HNE.out hxx)
        obtain rfl := HVV.out false ⟨(fun h => by cases h), fun h => absurd h HXX.out⟩
        clear hxx
        go_wp2_with fail
        go_ret
        exact ⟨rfl, HB.out⟩
    · have hjl : j = xs'.length := by omega
      subst hjl
      have HXX := Lib.hid (take_all_eq HC8.out HN.out)
      obtain rfl := HVV.out true ⟨fun _ => HXX.out, fun _ => rfl⟩
      go_wp2_with fail
      go_ret
      exact ⟨rfl, HB.out⟩
end Go.Proofs.YtnocckgbcjienabDoor
