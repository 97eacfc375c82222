/- The contract of the document's own Bytes of a unit. Conditions: its numbers are from 0 on; its row lies as a row does. -/
import Derived.Test.YtnocckgbcjienabDoorPduRefBox
import Derived.Test.YtnocckgbcjienabDoorPduRefSame
import Derived.Deep.DeepCutAuto
import Derived.Test.YtnocckgbcjienabDoorFrameRef
namespace Go.Proofs.YtnocckgbcjienabDoor
open Go.RowKit
set_option linter.unusedVariables false
set_option linter.unusedSimpArgs false

theorem ref_word (x : Int) (w : World) (h : 0 ≤ x ∧ x < 4294967296) :
    Calls Tryd.prog 46 #[.int .i64 x] w fun e w' => e = .returned (.string (strOfNums (wordB x))) ∧ Below w.heap.size w w' := by
  have hconv := conv4
  have H : Hid (strOfNums [x / 16777216, x / 65536 % 256, x / 256 % 256, x % 256] = strOfNums (wordB x)) := rfl
  generalize strOfNums (wordB x) = F at *
  go_enter Tryd.func46, Tryd.ntmps46
  go_wp2_with fail
  go_ret
  exact ⟨by rw [← H.out]; rfl, (Below.refl _ _).alloc (Nat.le_refl _) _⟩
theorem str_append (a b : List Int) : strOfNums a ++ strOfNums b = strOfNums (a ++ b) := by
  apply nums_inj
  rw [nums_append, nums_strOfNums, nums_strOfNums, nums_strOfNums, List.map_append]
theorem data_zeros (d : ByteArray) (j : Nat) : d ++ zeros j = strOfNums (dataI d ++ List.replicate j 0) := by
  apply nums_inj
  rw [nums_append, nums_zeros, nums_strOfNums, List.map_append]
  congr 1
  · unfold dataI
    rw [List.map_map]
    conv => lhs; rw [← List.map_id (nums d)]
    apply List.map_congr_left
    intro b hb
    have := nums_lt d b hb
    simp only [Function.comp, id, UInt8.toNat_ofNat']
    show b = (Int.ofNat b).toNat % 2 ^ 8
    rw [Int.toNat_natCast (n := b) |> (fun h => show (Int.ofNat b).toNat = b from h)]
    omega
  · rw [List.map_replicate]; rfl

def optB (b : Bool) (x : Int) : List Int := if b = true then [x] else []
theorem optB_len (b : Bool) (x : Int) : (optB b x).length ≤ 1 := by cases b <;> simp [optB]
theorem flatB_len (l : List Int) : (l.flatMap wordB).length = 4 * l.length := flat_len l
/-- The document's order of the words is the program's: who has an SQ has no list. -/
theorem sq_first {k : Nat} {sq n ps mr : Int} {xs : List Int} {se : Bool} {d : ByteArray} (hk : 1 ≤ k ∧ k ≤ 15) (h : checkV k sq n ps mr xs se d = 0) : optB (hasSQ k) sq ++ xs ++ optB (hasPS k) ps ++ optB (hasMR k) mr = wordsL k sq ps mr xs := by
  unfold wordsL
  have e : optB (hasSQ k) sq ++ xs = xs ++ optB (hasSQ k) sq := by
    cases hq : hasSQ k with
    | false => simp [optB]
    | true =>
      have hx : xs = [] := by
        unfold checkV at h
        split at h
        · omega
        · split at h
          · rename_i hg
            rw [Bool.and_eq_true, Bool.and_eq_true] at hg
            have h2 := hg.1.2
            unfold listFitsV at h2
            rw [Bool.and_eq_true] at h2
            have h22 := h2.2
            have hl : listOf k = 0 := by
              have hc : k = 1 ∨ k = 2 ∨ k = 3 ∨ k = 4 ∨ k = 5 ∨ k = 6 ∨ k = 7 ∨ k = 8 ∨ k = 9 ∨ k = 10 ∨ k = 11 ∨ k = 12 ∨ k = 13 ∨ k = 14 ∨ k = 15 := by omega
              rcases hc with rfl | rfl | rfl | rfl | rfl | rfl | rfl | rfl | rfl | rfl | rfl | rfl | rfl | rfl | rfl <;> first | rfl | exact absurd hq (by decide)
            rw [hl, if_neg (by decide), if_neg (by decide), beq_iff_eq] at h22
            exact List.eq_nil_of_length_eq_zero (by omega)
          · omega
      subst hx
      simp
  rw [e]
  rfl
theorem kind_atoms (k : Nat) (hk : 1 ≤ k ∧ k ≤ 15) : (((k : Int) == 10) = true ∧ hasPS k = true) ∨ (((k : Int) == 10) = false ∧ ((k : Int) == 11) = true ∧ hasPS k = true) ∨ (((k : Int) == 10) = false ∧ ((k : Int) == 11) = false ∧ hasPS k = false) := by
  have hc : k = 1 ∨ k = 2 ∨ k = 3 ∨ k = 4 ∨ k = 5 ∨ k = 6 ∨ k = 7 ∨ k = 8 ∨ k = 9 ∨ k = 10 ∨ k = 11 ∨ k = 12 ∨ k = 13 ∨ k = 14 ∨ k = 15 := by omega
  rcases hc with rfl | rfl | rfl | rfl | rfl | rfl | rfl | rfl | rfl | rfl | rfl | rfl | rfl | rfl | rfl <;> decide
theorem kind_atoms2 (k : Nat) (hk : 1 ≤ k ∧ k ≤ 15) : (((k : Int) == 11) = true ∧ hasMR k = true) ∨ (((k : Int) == 11) = false ∧ ((k : Int) == 12) = true ∧ hasMR k = true) ∨ (((k : Int) == 11) = false ∧ ((k : Int) == 12) = false ∧ hasMR k = false) := by
  have hc : k = 1 ∨ k = 2 ∨ k = 3 ∨ k = 4 ∨ k = 5 ∨ k = 6 ∨ k = 7 ∨ k = 8 ∨ k = 9 ∨ k = 10 ∨ k = 11 ∨ k = 12 ∨ k = 13 ∨ k = 14 ∨ k = 15 := by omega
  rcases hc with rfl | rfl | rfl | rfl | rfl | rfl | rfl | rfl | rfl | rfl | rfl | rfl | rfl | rfl | rfl <;> decide

def DW (DT OQ xs Q M : List Int) : List Int := DT ++ (OQ ++ xs ++ Q ++ M).flatMap wordB
theorem DW_len (DT OQ xs Q M : List Int) : (DW DT OQ xs Q M).length = DT.length + 4 * (OQ.length + xs.length + Q.length + M.length) := by
  unfold DW
  rw [List.length_append, flatB_len, List.length_append, List.length_append, List.length_append]

def CheckIs : Prop := ∀ (k sq n ps mr : Int) (p : Option Addr) (len cap : Nat) (xs : List Int) (se : Bool) (d : ByteArray) (w : World) (_ : len = xs.length) (_ : IRow w (.slice p len cap) xs),
    Calls Tryd.prog 14 #[.agg #[.int .i64 k, .int .i64 sq, .int .i64 n, .int .i64 ps, .int .i64 mr, .slice p len cap, .bool se, .string d]] w fun e w' => e = .returned (.int .i64 (rCheck k sq n ps mr xs se d)) ∧ Below w.heap.size w w'

set_option maxHeartbeats 4000000 in
set_option maxRecDepth 100000 in
theorem ref_bytes_ok (HCI : CheckIs) (k : Nat) (sq n ps mr : Int) (p : Option Addr) (len cap : Nat) (xs : List Int) (se : Bool) (d : ByteArray) (w : World) (hk : 1 ≤ k ∧ k ≤ 15) (hlen : len = xs.length) (hr : IRow w (.slice p len cap) xs) (h1 : 0 ≤ n) (h2 : 0 ≤ ps) (h3 : 0 ≤ mr) (hx : ∀ x, x ∈ xs → 0 ≤ x) (hok : checkV k sq n ps mr xs se d = 0) :
    Calls Tryd.prog 16 #[.agg #[.int .i64 (k : Int), .int .i64 sq, .int .i64 n, .int .i64 ps, .int .i64 mr, .slice p len cap, .bool se, .string d]] w fun e w' => e = .returned (.string (pduB k sq n ps mr xs se d)) ∧ Below w.heap.size w w' := by
  obtain ⟨U1, U2, U3, U4, U5, U6, U7⟩ := unit_ok hok
  have HSF := Lib.hid (sq_first hk hok)
  have HWLN : Hid ((wordsL k sq ps mr xs).length ≤ 131) := by
    show _ ≤ _
    unfold wordsL
    simp only [List.length_append]
    have q : ∀ (b : Bool) (x : Int), (if b = true then [x] else []).length ≤ 1 := fun b x => by cases b <;> simp
    have q1 := q (hasSQ k) sq; have q2 := q (hasPS k) ps; have q3 := q (hasMR k) mr
    omega
  have HLW := Lib.hid (lastW_in (fillOf d.size) k n se (by unfold fillOf; omega) (by omega) U4)
  have HBX := Lib.hid (rbox_new w (k : Int) sq n ps mr (.slice p len cap) se d)
  have HB := Lib.hid ((Below.refl _ w).alloc (Nat.le_refl _) (.cells #[.int .i64 (k : Int), .int .i64 sq, .int .i64 n, .int .i64 ps, .int .i64 mr, .slice p len cap, .bool se, .string d] 24))
  have HR := Lib.hid (hr.below ((Below.refl _ w).alloc (Nat.le_refl _) (.cells #[.int .i64 (k : Int), .int .i64 sq, .int .i64 n, .int .i64 ps, .int .i64 mr, .slice p len cap, .bool se, .string d] 24)))
  have HCK : Hid (∀ W, IRow W (.slice p len cap) xs → Calls Tryd.prog 14 #[.agg #[.int .i64 (k : Int), .int .i64 sq, .int .i64 n, .int .i64 ps, .int .i64 mr, .slice p len cap, .bool se, .string d]] W fun e w' => e = .returned (.int .i64 0) ∧ Below W.heap.size W w') := fun W h => by
    have h := HCI (k : Int) sq n ps mr p len cap xs se d W hlen h
    rw [rCheck_is (k : Int) sq n ps mr xs se d h1 h2 h3 hx] at h
    unfold checkA at h
    rw [if_pos (show 1 ≤ (k : Int) ∧ (k : Int) ≤ 15 by omega), Int.toNat_natCast, hok] at h
    exact h
  have HPB : Hid (pduB k sq n ps mr xs se d = strOfNums (dataI d ++ List.replicate (fillOf d.size) 0 ++ (wordsL k sq ps mr xs ++ [lastW (fillOf d.size) k n se]).flatMap wordB)) := rfl
  have HSQ : Hid (∀ W, Calls Tryd.prog 41 #[.int .i64 (k : Int)] W fun e w' => e = .returned (.bool (hasSQ k)) ∧ Below W.heap.size W w') := fun W => by rw [← (kind_all k hk).1]; exact ref_hasSQ _ W
  have HK1 := Lib.hid (kind_atoms k hk)
  have HK2 := Lib.hid (kind_atoms2 k hk)
  have HLWD : Hid ((fillOf d.size : Int) * 1073741824 + (if se = true then 536870912 else 0) + (k : Int) * 16777216 + n = lastW (fillOf d.size) k n se) := rfl
  have HWQ := Lib.hid (fun W => ref_word sq W (by omega))
  have HWP := Lib.hid (fun W => ref_word ps W (by omega))
  have HWM := Lib.hid (fun W => ref_word mr W (by omega))
  have HWL := Lib.hid (fun W => ref_word (lastW (fillOf d.size) k n se) W HLW.out)
  have HF3 : Hid (fillOf d.size ≤ 3 ∧ (d.size + fillOf d.size) % 4 = 0 ∧ ∀ j, j < fillOf d.size → (d.size + j) % 4 ≠ 0) := ⟨by unfold fillOf; omega, by unfold fillOf; omega, fun j hj => by unfold fillOf at hj; omega⟩
  have hconv := conv1
  have HXR : Hid (∀ x, x ∈ xs → 0 ≤ x ∧ x < 4294967296) := fun x h => by have := hx x h; have := U7 x h; omega
  have HLEN := Lib.hid hlen
  obtain ⟨x0, x1, x2, x3, x4, x5, x6, x7⟩ := HBX.out
  have hn0 : 0 ≤ n := h1
  have hn1 : n ≤ 16777215 := U4.2
  have hk0 : (1 : Int) ≤ (k : Int) := by omega
  have hk1 : (k : Int) ≤ 15 := by omega
  clear hok hr hlen hx h1 h2 h3 U3 U4 U5 U6 U7
  go_enter Tryd.func16, Tryd.ntmps16
  go_upto_region 1 with fail
  generalize w.alloc (.cells #[.int .i64 (k : Int), .int .i64 sq, .int .i64 n, .int .i64 ps, .int .i64 mr, .slice p len cap, .bool se, .string d] 24) = W at *
  go_wp2_with fail
  refine (HCK.out _ HR.out).mono ?_
  rintro e w1 ⟨rfl, hb1⟩
  have HW1 := Lib.hid hb1
  clear hb1 x0 x1 x2 x3 x4 x5 x6 x7
  obtain ⟨x0, x1, x2, x3, x4, x5, x6, x7⟩ := HBX.out.next HW1.out
  go_wp2_with fail
  clear x0 x1 x2 x3 x4 x5 x6 x7
  go_loopw [3, 4] (fun s i wr => ∃ j : Nat, j ≤ fillOf d.size ∧ i = .int .i64 j ∧ s = .string (d ++ zeros j) ∧ Hid (Below W.heap.size W wr)) (fun _ i _ => fillOf d.size - (intOf i).toNat)
  case atStart => exact ⟨0, by omega, rfl, by rw [show zeros 0 = ByteArray.empty from rfl, ByteArray.append_empty], HW1⟩
  case round =>
    obtain ⟨j, hj, rfl, rfl, HW⟩ := hrel
    have hsz : (d ++ zeros j).size = d.size + j := by rw [ByteArray.size_append, noughts_size]
    have hj3 : j ≤ 3 := by have := HF3.out.1; omega
    by_cases hlt : j < fillOf d.size
    · have hd : (((d.size : Int) + (j : Int)) % 4 != 0) = true := by rw [bne_iff_ne]; have := HF3.out.2.2 j hlt; omega
      have hz : d ++ zeros j ++ strOfNums [0] = d ++ zeros (j + 1) := by rw [ByteArray.append_assoc, zeros_succ]
      have hn : ¬ 9223372036854775807 < d.size + j + 1 := by omega
      have hsz1 : (strOfNums [0]).size = 1 := by rw [strOfNums_size]; rfl
      have HZ := Lib.hid hz
      clear hz
      go_wp2_with fail
      go_roundw
      case rel => exact ⟨j + 1, by omega, by go_num, by rw [HZ.out], HW.out.alloc HW.out.size _⟩
      case measure => simp [intOf]; omega
    · have hjf : j = fillOf d.size := by omega
      subst hjf
      have hd : (((d.size : Int) + (fillOf d.size : Int)) % 4 != 0) = false := by rw [bne_eq_false_iff_eq]; have := HF3.out.2.1; omega
      clear HW1
      obtain ⟨x0, x1, x2, x3, x4, x5, x6, x7⟩ := HBX.out.next HW.out
      --BEGIN
      go_wp2_with fail
      refine (HSQ.out _).mono ?_
      rintro e w2 ⟨rfl, hb2⟩
      have HW2 := Lib.hid (HW.out.trans (hb2.mono HW.out.size))
      clear hb2 HW x0 x1 x2 x3 x4 x5 x6 x7
      have HW := HW2
      clear HW2
      rw [data_zeros]
      have HD0 : Hid ((dataI d ++ List.replicate (fillOf d.size) 0).length ≤ 203) := by show _ ≤ _; rw [List.length_append, dataI_len, List.length_replicate]; have := HF3.out.1; omega
      have HXL : Hid (xs.length ≤ 128) := U1
      have HSL := Lib.hid (fun l : List Int => strOfNums_size l)
      generalize dataI d ++ List.replicate (fillOf d.size) 0 = DT at *
      clear hconv hsz hd HF3
      have HPL : Hid ((DT).length ≤ 203 + 4 * 131) := by have := HD0.out; show _ ≤ _; omega
      obtain ⟨x0, x1, x2, x3, x4, x5, x6, x7⟩ := HBX.out.next HW.out
      go_upto_if 25 with fail
      go_cut [3] (fun s3 w' => ∃ wz, wz = w' ∧ s3 = .string (strOfNums (DW DT (optB (hasSQ k) sq) [] [] [])) ∧ Hid (Below W.heap.size W w'))
      case first =>
        cases hq : hasSQ k with
        | true =>
          have HNL : Hid ((DW DT (optB (hasSQ k) sq) [] [] []) = (DT) ++ wordB sq) := by show _ = _; rw [hq]; simp [DW, optB]
          clear hq
          have hs1 := HSL.out (DT)
          have hs2 := HSL.out (wordB sq)
          have hlp : (DT).length ≤ 203 + 4 * 131 := HPL.out
          have hw4 : (wordB sq).length = 4 := rfl
          have hns : ¬ 9223372036854775807 < (strOfNums (DT)).size + (strOfNums (wordB sq)).size := by rw [hs1, hs2, hw4]; omega
          have hap := str_append (DT) (wordB sq)
          have HAP := Lib.hid hap
          clear hap hs1 hs2 hlp hw4
          generalize (DT) = PV at *
          generalize strOfNums PV = SP at *
          generalize strOfNums (wordB sq) = SW at *
          go_wp2_with fail
          refine (HWQ.out _).mono ?_
          rintro e wb ⟨rfl, hbb⟩
          have HWb := Lib.hid (HW.out.trans (hbb.mono HW.out.size))
          clear hbb
          go_wp2_with fail
          go_meet
          exact ⟨_, rfl, by rw [HNL.out, HAP.out], HWb⟩
        | false =>
          have HNL : Hid ((DW DT (optB (hasSQ k) sq) [] [] []) = (DT)) := by show _ = _; rw [hq]; simp [DW, optB]
          clear hq
          have HNL2 := HNL.out
          go_wp2_with fail
          go_meet
          exact ⟨_, rfl, by rw [HNL2], HW⟩
      case rest =>
        obtain ⟨w3, rfl, rfl, HW9⟩ := hcut
        clear HW x0 x1 x2 x3 x4 x5 x6 x7
        have HW := HW9
        clear HW9
        have HQL : Hid ((optB (hasSQ k) sq).length ≤ 1) := optB_len _ _
        clear HPL
        obtain ⟨x0, x1, x2, x3, x4, x5, x6, x7⟩ := HBX.out.next HW.out
        have HRX := Lib.hid (HR.out.below HW.out)
        go_wp2_with fail
        clear x0 x1 x2 x3 x4 x5 x6 x7
        obtain rfl := HLEN.out
        obtain ⟨A, c, ee, _, hc⟩ := HR.out
        injection ee with ee1 ee2 ee3
        subst ee1 ee3
        have HC := Lib.hid hc
        clear hc
        generalize optB (hasSQ k) sq = OQ at *
        go_loopw [3, 34] (fun s i wr => ∃ j : Nat, j ≤ xs.length ∧ i = .int .i64 j ∧ s = .string (strOfNums (DW DT OQ (xs.take j) [] [])) ∧ Hid (Below W.heap.size W wr)) (fun _ i _ => xs.length - (intOf i).toNat)
        case atStart => exact ⟨0, by omega, rfl, by rw [List.take_zero], HW⟩
        case round =>
          clear HW HRX
          obtain ⟨j, hj, rfl, rfl, HW⟩ := hrel
          by_cases hlt : j < xs.length
          · have hx := List.getElem?_eq_getElem hlt
            have hne : xs ≠ [] := by rintro rfl; simp at hlt
            obtain ⟨b, off, rfl, hb, hcell⟩ := HC.out.resolve_left hne
            have hcx : wr.cell? ⟨b, off + j, none⟩ = some (.int .i64 xs[j]) := by rw [HW.out.cell (p := ⟨b, off + j, none⟩) hb]; exact hcell j _ hx
            have hj0 : (0 : Int) ≤ (j : Int) := by omega
            have hj1 : (j : Int) < (xs.length : Int) := by omega
            have hxr := HXR.out _ (List.getElem_mem hlt)
            have HWX := Lib.hid (fun W => ref_word xs[j] W hxr)
            have HNL : Hid (DW DT OQ (xs.take (j + 1)) [] [] = DW DT OQ (xs.take j) [] [] ++ wordB xs[j]) := by show _ = _; unfold DW; rw [List.take_succ_eq_append_getElem hlt, List.append_nil, List.append_nil, List.append_nil, List.append_nil, ← List.append_assoc, List.flatMap_append, ← List.append_assoc]; simp
            have hlp : (DW DT OQ (xs.take j) [] []).length ≤ 1000 := by
              rw [DW_len, List.length_take]; simp only [List.length_nil]
              have := HD0.out; have := HXL.out; have := HQL.out
              omega
            clear hcell hx hne hxr
            generalize xs[j] = x at *
            generalize DW DT OQ (xs.take j) [] [] = PV at *
            have hs1 := HSL.out PV
            have hs2 := HSL.out (wordB x)
            have hw4 : (wordB x).length = 4 := rfl
            have hns : ¬ 9223372036854775807 < (strOfNums PV).size + (strOfNums (wordB x)).size := by rw [hs1, hs2, hw4]; omega
            have HAP := Lib.hid (str_append PV (wordB x))
            clear hs1 hs2 hlp hw4
            generalize strOfNums PV = SP at *
            generalize strOfNums (wordB x) = SW at *
            go_wp2_with fail
            refine (HWX.out _).mono ?_
            rintro e wb ⟨rfl, hbb⟩
            have HWb := Lib.hid (HW.out.trans (hbb.mono HW.out.size))
            clear hbb
            go_wp2_with fail
            go_roundw
            case rel => exact ⟨j + 1, by omega, by go_num, by rw [HNL.out, HAP.out], HWb⟩
            case measure => simp [intOf]; omega
          · have hjl : j = xs.length := by omega
            subst hjl
            rw [List.take_of_length_le (Nat.le_refl _)]
            have HPL : Hid ((DW DT OQ xs [] []).length ≤ 203 + 4 * 131) := by
              show _ ≤ _
              rw [DW_len]; simp only [List.length_nil]
              have := HD0.out; have := HXL.out; have := HQL.out
              omega
            obtain ⟨x0, x1, x2, x3, x4, x5, x6, x7⟩ := HBX.out.next HW.out
            go_upto_region 15 with fail
            go_cut [50] (fun s w' => s = .bool (hasPS k) ∧ wr = w')
            case first =>
              rcases HK1.out with ⟨a1, a2⟩ | ⟨a1, a2, a3⟩ | ⟨a1, a2, a3⟩
              · go_wp2_with fail
                go_meet
                exact ⟨by rw [a2], rfl⟩
              · go_wp2_with fail
                go_meet
                exact ⟨by rw [a3], rfl⟩
              · go_wp2_with fail
                go_meet
                exact ⟨by rw [a3], rfl⟩
            case rest =>
              obtain ⟨rfl, rfl⟩ := hcut
              go_upto_if 50 with fail
              go_cut [3] (fun s3 w' => ∃ wz, wz = w' ∧ s3 = .string (strOfNums (DW DT OQ xs (optB (hasPS k) ps) [])) ∧ Hid (Below W.heap.size W w'))
              case first =>
                cases hq : hasPS k with
                | true =>
                  have HNL : Hid ((DW DT OQ xs (optB (hasPS k) ps) []) = (DW DT OQ xs [] []) ++ wordB ps) := by show _ = _; rw [hq]; simp [DW, optB]
                  clear hq
                  have hs1 := HSL.out (DW DT OQ xs [] [])
                  have hs2 := HSL.out (wordB ps)
                  have hlp : (DW DT OQ xs [] []).length ≤ 203 + 4 * 131 := HPL.out
                  have hw4 : (wordB ps).length = 4 := rfl
                  have hns : ¬ 9223372036854775807 < (strOfNums (DW DT OQ xs [] [])).size + (strOfNums (wordB ps)).size := by rw [hs1, hs2, hw4]; omega
                  have hap := str_append (DW DT OQ xs [] []) (wordB ps)
                  have HAP := Lib.hid hap
                  clear hap hs1 hs2 hlp hw4
                  generalize (DW DT OQ xs [] []) = PV at *
                  generalize strOfNums PV = SP at *
                  generalize strOfNums (wordB ps) = SW at *
                  go_wp2_with fail
                  refine (HWP.out _).mono ?_
                  rintro e wb ⟨rfl, hbb⟩
                  have HWb := Lib.hid (HW.out.trans (hbb.mono HW.out.size))
                  clear hbb
                  go_wp2_with fail
                  go_meet
                  exact ⟨_, rfl, by rw [HNL.out, HAP.out], HWb⟩
                | false =>
                  have HNL : Hid ((DW DT OQ xs (optB (hasPS k) ps) []) = (DW DT OQ xs [] [])) := by show _ = _; rw [hq]; simp [DW, optB]
                  clear hq
                  have HNL2 := HNL.out
                  go_wp2_with fail
                  go_meet
                  exact ⟨_, rfl, by rw [HNL2], HW⟩
              case rest =>
                obtain ⟨w5, rfl, rfl, HW9⟩ := hcut
                clear HW x0 x1 x2 x3 x4 x5 x6 x7
                have HW := HW9
                clear HW9
                clear HPL
                have HPL : Hid ((DW DT OQ xs (optB (hasPS k) ps) []).length ≤ 203 + 4 * 131) := by
                  show _ ≤ _
                  rw [DW_len]; simp only [List.length_nil]
                  have := HD0.out; have := HXL.out; have := HQL.out; have := optB_len (hasPS k) ps
                  omega
                obtain ⟨x0, x1, x2, x3, x4, x5, x6, x7⟩ := HBX.out.next HW.out
                go_upto_region 17 with fail
                go_cut [63] (fun s w' => s = .bool (hasMR k) ∧ w5 = w')
                case first =>
                  rcases HK2.out with ⟨a1, a2⟩ | ⟨a1, a2, a3⟩ | ⟨a1, a2, a3⟩
                  · go_wp2_with fail
                    go_meet
                    exact ⟨by rw [a2], rfl⟩
                  · go_wp2_with fail
                    go_meet
                    exact ⟨by rw [a3], rfl⟩
                  · go_wp2_with fail
                    go_meet
                    exact ⟨by rw [a3], rfl⟩
                case rest =>
                  obtain ⟨rfl, rfl⟩ := hcut
                  go_upto_if 63 with fail
                  go_cut [3] (fun s3 w' => ∃ wz, wz = w' ∧ s3 = .string (strOfNums (DW DT OQ xs (optB (hasPS k) ps) (optB (hasMR k) mr))) ∧ Hid (Below W.heap.size W w'))
                  case first =>
                    cases hq : hasMR k with
                    | true =>
                      have HNL : Hid ((DW DT OQ xs (optB (hasPS k) ps) (optB (hasMR k) mr)) = (DW DT OQ xs (optB (hasPS k) ps) []) ++ wordB mr) := by show _ = _; rw [hq]; simp [DW, optB]
                      clear hq
                      have hs1 := HSL.out (DW DT OQ xs (optB (hasPS k) ps) [])
                      have hs2 := HSL.out (wordB mr)
                      have hlp : (DW DT OQ xs (optB (hasPS k) ps) []).length ≤ 203 + 4 * 131 := HPL.out
                      have hw4 : (wordB mr).length = 4 := rfl
                      have hns : ¬ 9223372036854775807 < (strOfNums (DW DT OQ xs (optB (hasPS k) ps) [])).size + (strOfNums (wordB mr)).size := by rw [hs1, hs2, hw4]; omega
                      have hap := str_append (DW DT OQ xs (optB (hasPS k) ps) []) (wordB mr)
                      have HAP := Lib.hid hap
                      clear hap hs1 hs2 hlp hw4
                      generalize (DW DT OQ xs (optB (hasPS k) ps) []) = PV at *
                      generalize strOfNums PV = SP at *
                      generalize strOfNums (wordB mr) = SW at *
                      go_wp2_with fail
                      refine (HWM.out _).mono ?_
                      rintro e wb ⟨rfl, hbb⟩
                      have HWb := Lib.hid (HW.out.trans (hbb.mono HW.out.size))
                      clear hbb
                      go_wp2_with fail
                      go_meet
                      exact ⟨_, rfl, by rw [HNL.out, HAP.out], HWb⟩
                    | false =>
                      have HNL : Hid ((DW DT OQ xs (optB (hasPS k) ps) (optB (hasMR k) mr)) = (DW DT OQ xs (optB (hasPS k) ps) [])) := by show _ = _; rw [hq]; simp [DW, optB]
                      clear hq
                      have HNL2 := HNL.out
                      go_wp2_with fail
                      go_meet
                      exact ⟨_, rfl, by rw [HNL2], HW⟩
                  case rest =>
                    obtain ⟨w6, rfl, rfl, HW9⟩ := hcut
                    clear HW x0 x1 x2 x3 x4 x5 x6 x7
                    have HW := HW9
                    clear HW9
                    have HFIN : Hid (pduB k sq n ps mr xs se d = strOfNums ((DW DT OQ xs (optB (hasPS k) ps) (optB (hasMR k) mr)) ++ wordB (lastW (fillOf d.size) k n se))) := by
                      show _ = _
                      rw [HPB.out]; unfold DW; rw [HSF.out]
                      simp
                    clear HPL
                    have hpl : (DW DT OQ xs (optB (hasPS k) ps) (optB (hasMR k) mr)).length ≤ 1000 := by
                      unfold DW; rw [List.length_append, flatB_len, HSF.out]
                      have := HD0.out; have := HWLN.out
                      omega
                    have hs1 := HSL.out (DW DT OQ xs (optB (hasPS k) ps) (optB (hasMR k) mr))
                    have hs2 := HSL.out (wordB (lastW (fillOf d.size) k n se))
                    have hw4 : (wordB (lastW (fillOf d.size) k n se)).length = 4 := rfl
                    have hns : ¬ 9223372036854775807 < (strOfNums (DW DT OQ xs (optB (hasPS k) ps) (optB (hasMR k) mr))).size + (strOfNums (wordB (lastW (fillOf d.size) k n se))).size := by rw [hs1, hs2, hw4]; omega
                    have HAP := Lib.hid (str_append (DW DT OQ xs (optB (hasPS k) ps) (optB (hasMR k) mr)) (wordB (lastW (fillOf d.size) k n se)))
                    rw [← HAP.out] at HFIN
                    clear hs1 hs2 hw4 hpl HAP HPB HSF
                    generalize DW DT OQ xs (optB (hasPS k) ps) (optB (hasMR k) mr) = PV at *
                    generalize strOfNums PV = SP at *
                    generalize strOfNums (wordB (lastW (fillOf d.size) k n se)) = SW at *
                    generalize lastW (fillOf d.size) k n se = LW at *
                    have hf3 : ((fillOf d.size : Nat) : Int) ≤ 3 := by omega
                    generalize fillOf d.size = FI at *
                    obtain ⟨x0, x1, x2, x3, x4, x5, x6, x7⟩ := HBX.out.next HW.out
                    cases se
                    all_goals
                      have hlwd := HLWD.out
                      simp only [if_true, if_false, Bool.false_eq_true, Int.add_zero] at hlwd
                      go_wp2_with fail
                      refine (HWL.out _).mono ?_
                      rintro e wb ⟨rfl, hbb⟩
                      have HWb := Lib.hid (HW.out.trans (hbb.mono HW.out.size))
                      clear hbb
                      go_wp2_with fail
                      go_ret
                      exact ⟨by rw [HFIN.out]; rfl, HB.out.trans (HWb.out.mono HB.out.size)⟩

set_option maxRecDepth 100000 in
theorem ref_bytesA (HCI : CheckIs) (k sq n ps mr : Int) (p : Option Addr) (len cap : Nat) (xs : List Int) (se : Bool) (d : ByteArray) (w : World) (hlen : len = xs.length) (hr : IRow w (.slice p len cap) xs) (h1 : 0 ≤ n) (h2 : 0 ≤ ps) (h3 : 0 ≤ mr) (hx : ∀ x, x ∈ xs → 0 ≤ x) :
    Calls Tryd.prog 16 #[.agg #[.int .i64 k, .int .i64 sq, .int .i64 n, .int .i64 ps, .int .i64 mr, .slice p len cap, .bool se, .string d]] w fun e w' => e = .returned (.string (bytesA k sq n ps mr xs se d)) ∧ Below w.heap.size w w' := by
  by_cases hc : checkA k sq n ps mr xs se d = 0
  · have hk : 1 ≤ k ∧ k ≤ 15 := by
      by_cases hk : 1 ≤ k ∧ k ≤ 15
      · exact hk
      · unfold checkA at hc; rw [if_neg hk] at hc; omega
    obtain ⟨m, rfl⟩ : ∃ m : Nat, k = (m : Int) := ⟨k.toNat, by omega⟩
    unfold bytesA
    rw [if_pos hc, Int.toNat_natCast]
    have hv : checkV m sq n ps mr xs se d = 0 := by unfold checkA at hc; rw [if_pos hk, Int.toNat_natCast] at hc; exact hc
    exact ref_bytes_ok HCI m sq n ps mr p len cap xs se d w (by omega) hlen hr h1 h2 h3 hx hv
  · have HCK := Lib.hid (HCI k sq n ps mr p len cap xs se d _ hlen (hr.below ((Below.refl _ w).alloc (Nat.le_refl _) (.cells #[.int .i64 k, .int .i64 sq, .int .i64 n, .int .i64 ps, .int .i64 mr, .slice p len cap, .bool se, .string d] 24))))
    rw [rCheck_is k sq n ps mr xs se d h1 h2 h3 hx] at HCK
    unfold bytesA
    rw [if_neg hc]
    have hcb : (checkA k sq n ps mr xs se d != 0) = true := by rw [bne_iff_ne]; exact hc
    generalize checkA k sq n ps mr xs se d = C at *
    obtain ⟨x0, x1, x2, x3, x4, x5, x6, x7⟩ := rbox_new w k sq n ps mr (.slice p len cap) se d
    have HB := Lib.hid ((Below.refl _ w).alloc (Nat.le_refl _) (.cells #[.int .i64 k, .int .i64 sq, .int .i64 n, .int .i64 ps, .int .i64 mr, .slice p len cap, .bool se, .string d] 24))
    clear hc hlen hr h1 h2 h3 hx
    go_enter Tryd.func16, Tryd.ntmps16
    go_upto_region 1 with fail
    generalize w.alloc (.cells #[.int .i64 k, .int .i64 sq, .int .i64 n, .int .i64 ps, .int .i64 mr, .slice p len cap, .bool se, .string d] 24) = W at *
    go_wp2_with fail
    refine HCK.out.mono ?_
    rintro e w3 ⟨rfl, hb3⟩
    have HB3 := Lib.hid hb3
    clear hb3
    go_wp2_with fail
    go_ret
    exact ⟨rfl, HB.out.trans (HB3.out.mono HB.out.size)⟩
end Go.Proofs.YtnocckgbcjienabDoor
