/- The contract of package event's Unhex. No conditions but the text's length. -/
import Derived.Test.YtnocckgbcjienaaDoorEvParts
import Derived.Deep.OwnRows
namespace Go.Proofs.YtnocckgbcjienaaDoor
open Go.RowKit
set_option linter.unusedVariables false
set_option linter.unusedSimpArgs false

/-- A digit's value; below 0: it is none. -/
def digI (c : Nat) : Int := if 48 ≤ c ∧ c ≤ 57 then (c : Int) - 48 else if 97 ≤ c ∧ c ≤ 102 then (c : Int) - 87 else -1
set_option maxRecDepth 100000 in
theorem dig_index (c : Nat) (hc : c < 256) : Lib.indexByte ([48, 49, 50, 51, 52, 53, 54, 55, 56, 57, 97, 98, 99, 100, 101, 102] : List UInt8) (c : Int).toNat.toUInt8 = digI c := by
  have h : ∀ x : Fin 256, Lib.indexByte ([48, 49, 50, 51, 52, 53, 54, 55, 56, 57, 97, 98, 99, 100, 101, 102] : List UInt8) ((x.val : Nat) : Int).toNat.toUInt8 = digI x.val := by decide +kernel
  exact h ⟨c, hc⟩
theorem ev_index (c : Nat) (hc : c < 256) (w : World) :
    Calls Tryd.prog 23 #[.string ⟨#[48, 49, 50, 51, 52, 53, 54, 55, 56, 57, 97, 98, 99, 100, 101, 102]⟩, .int .u8 (c : Int)] w fun e w' => e = .returned (.int .i64 (digI c)) ∧ w' = w :=
  (Go.Proofs.Any.strings_IndexByte Tryd.layIndex ⟨#[48, 49, 50, 51, 52, 53, 54, 55, 56, 57, 97, 98, 99, 100, 101, 102]⟩ (c : Int) w).mono fun e w' ⟨he, hw⟩ => ⟨by rw [he, ← dig_index c hc], hw⟩
/-- What stands in a row of bytes behind i signs. -/
def partH (l : List Nat) (i j : Nat) : Int := if 2 * j + 1 < i then 16 * digI (l.getD (2 * j) 0) + digI (l.getD (2 * j + 1) 0) else if 2 * j < i then digI (l.getD (2 * j) 0) else 0
def allDig (l : List Nat) : Prop := ∀ c, c ∈ l → 0 ≤ digI c
def pairsL (l : List Nat) : List Int := (List.range (l.length / 2)).map fun j => 16 * digI (l.getD (2 * j) 0) + digI (l.getD (2 * j + 1) 0)
def unB (s : ByteArray) : ByteArray := strOfNums (pairsL (nums s))
theorem dig_lt (c : Nat) : digI c < 16 := by unfold digI; repeat' split <;> omega
set_option maxRecDepth 1000000 in
theorem nib (a b : Int) (ha : 0 ≤ a ∧ a < 16) (hb : 0 ≤ b ∧ b < 16) : bits .or .u8 (a * 16) (b % 256) = 16 * a + b := by
  have h : ∀ x y : Fin 16, bits .or .u8 ((x.val : Int) * 16) ((y.val : Int) % 256) = 16 * (x.val : Int) + (y.val : Int) := by decide +kernel
  obtain ⟨x, rfl⟩ := Int.eq_ofNat_of_zero_le ha.1
  obtain ⟨y, rfl⟩ := Int.eq_ofNat_of_zero_le hb.1
  exact h ⟨x, by omega⟩ ⟨y, by omega⟩
set_option maxHeartbeats 4000000 in
set_option maxRecDepth 100000 in
theorem ev_unhex_no (s : ByteArray) (w : World) (h : s.size = 0 ∨ s.size % 2 ≠ 0) (hne : s ≠ ⟨#[45]⟩) :
    Calls Tryd.prog 16 #[.string s] w fun e w' => e = .returned (.tuple #[.string ⟨#[]⟩, .bool false]) ∧ w' = w := by
  have h1 : (s.toList == [45]) = false := by
    rw [show ([45] : List UInt8) = (⟨#[45]⟩ : ByteArray).toList by rw [ByteArray.toList_eq], toList_eq2]
    exact decide_eq_false hne
  have hE := empty_size s
  by_cases h0 : s.size = 0
  · rw [decide_eq_true h0] at hE
    clear h h0 hne
    go_enter Tryd.func16, Tryd.ntmps16
    go_wp2_with fail
    go_ret2
    exact ⟨rfl, rfl⟩
  · rw [decide_eq_false h0] at hE
    have d1 : ((s.size : Int) % 2 != 0) = true := by rw [bne_iff_ne]; omega
    clear h h0 hne
    go_enter Tryd.func16, Tryd.ntmps16
    go_wp2_with fail
    go_ret2
    exact ⟨rfl, rfl⟩
theorem ev_unhex_none (w : World) : Calls Tryd.prog 16 #[.string ⟨#[45]⟩] w fun e w' => e = .returned (.tuple #[.string ⟨#[]⟩, .bool true]) ∧ w' = w := by
  go_enter Tryd.func16, Tryd.ntmps16
  go_wp2_with fail
  go_ret2
  exact ⟨rfl, rfl⟩
open Classical in
noncomputable def unhexV (s : ByteArray) : Value := if allDig (nums s) then .tuple #[.string (unB s), .bool true] else .tuple #[.string ⟨#[]⟩, .bool false]
set_option maxHeartbeats 4000000 in
set_option maxRecDepth 100000 in
theorem ev_unhex (s : ByteArray) (w : World) (h0 : s.size ≠ 0) (h2 : s.size % 2 = 0) (hs : s.size ≤ 100000) :
    Calls Tryd.prog 16 #[.string s] w fun e w' => e = .returned (unhexV s) ∧ Below w.heap.size w w' := by
  have h1 : (s.toList == [45]) = false := by
    rw [show ([45] : List UInt8) = (⟨#[45]⟩ : ByteArray).toList by rw [ByteArray.toList_eq], toList_eq2]
    apply decide_eq_false
    intro e
    rw [e] at h2
    exact absurd h2 (by decide)
  have hE := empty_size s
  rw [decide_eq_false h0] at hE
  have d1 : ((s.size : Int) % 2 != 0) = false := by rw [bne_eq_false_iff_eq]; omega
  obtain ⟨m, hm⟩ : ∃ m : Nat, s.size = 2 * m := ⟨s.size / 2, by omega⟩
  have hq : ((s.size : Int) / 2) = (m : Int) := by omega
  have HYES : Hid (allDig (nums s) → unhexV s = .tuple #[.string (unB s), .bool true]) := fun h => by unfold unhexV; rw [if_pos h]
  have HNO : Hid (¬ allDig (nums s) → unhexV s = .tuple #[.string ⟨#[]⟩, .bool false]) := fun h => by unfold unhexV; rw [if_neg h]
  generalize unhexV s = V at *
  have HM := Lib.hid hm
  have hs9 := hs
  clear h0 h2 hm
  have hmk := run_make_row' (P := Tryd.prog) 43 5 (.int .u8 0) 1 Tryd.underlying43 infoByte1 rfl .i64 .i64 m (by have := HM.out; omega) (by have := HM.out; omega)
  go_enter Tryd.func16, Tryd.ntmps16
  go_wp2_with fail
  go_loopw [23] (fun i wr => ∃ k : Nat, k ≤ s.size ∧ i = .int .i64 k ∧ Hid (∀ c, c ∈ (nums s).take k → 0 ≤ digI c) ∧ Hid (wr.rowIs w.heap.size 5 m (fun j => .int .u8 (partH (nums s) k j))) ∧ Hid (Below w.heap.size w wr)) (fun i _ => s.size - (intOf i).toNat)
  case atStart => exact ⟨0, by omega, rfl, fun c h => by simp at h, (World.rowIs_made w (.int .u8 0) m _).congr (fun j _ => by unfold partH; rw [if_neg (by omega), if_neg (by omega)]), (Below.refl _ w).alloc (Nat.le_refl _) _⟩
  case round =>
    obtain ⟨k, hk, rfl, HA, HR, HB⟩ := hrel
    by_cases hlt : k < s.size
    · have hj0 : (0 : Int) ≤ (k : Int) := by omega
      have hj1 : (k : Int) < (s.size : Int) := by omega
      have hlb := s[k].toNat_lt
      have HIX := Lib.hid (fun W => ev_index s[k].toNat hlb W)
      have HNT : Hid ((nums s).take (k + 1) = (nums s).take k ++ [s[k].toNat]) := nums_take s k hlt
      have HGK : Hid ((nums s).getD k 0 = s[k].toNat) := by
        show _ = _
        have h := nums_take s k hlt
        rw [List.take_succ_eq_append_getElem (by rw [nums_len]; exact hlt)] at h
        have h2 := List.append_cancel_left h
        injection h2 with h2
        rw [List.getD_eq_getElem?_getD, List.getElem?_eq_getElem (by rw [nums_len]; exact hlt)]
        exact h2
      have hdl := dig_lt s[k].toNat
      go_wp2_with fail
      refine (HIX.out _).mono ?_
      rintro e w2 ⟨rfl, rfl⟩
      by_cases hD : 0 ≤ digI s[k].toNat
      · have d0 : decide (digI s[k].toNat < 0) = false := decide_eq_false (by omega)
        obtain ⟨q, hqk⟩ : ∃ q, q = k / 2 := ⟨_, rfl⟩
        have hkq : ((k : Int) / 2) = (q : Int) := by omega
        have hq1 : q < m := by have := HM.out; omega
        have hcell : w2.cell? ⟨w.heap.size, q, none⟩ = some (.int .u8 (partH (nums s) k q)) := HR.out.cell hq1
        have hfr : w2.frozen? ⟨w.heap.size, q, none⟩ = false := HR.out.frozen q
        have hold : 0 ≤ partH (nums s) k q ∧ partH (nums s) k q < 16 ∧ partH (nums s) (k + 1) q = 16 * partH (nums s) k q + digI s[k].toNat := by
          unfold partH
          rw [if_neg (by omega)]
          by_cases hev : 2 * q = k
          · rw [if_neg (by omega), if_neg (by omega), if_pos (by omega), hev, HGK.out]; omega
          · rw [if_pos (by omega), if_pos (by omega), show 2 * q + 1 = k by omega, HGK.out]
            have hin : (nums s).getD (2 * q) 0 ∈ (nums s).take k := by
              have hl2 : 2 * q < (nums s).length := by rw [nums_len]; omega
              rw [List.getD_eq_getElem?_getD, List.getElem?_eq_getElem hl2]
              exact List.mem_take_iff_getElem.2 ⟨2 * q, by omega, rfl⟩
            have h1 := HA.out _ hin
            have h2 := dig_lt ((nums s).getD (2 * q) 0)
            omega
        obtain ⟨o1, o2, o3⟩ := hold
        have hnb := nib (partH (nums s) k q) (digI s[k].toNat) ⟨o1, o2⟩ ⟨hD, hdl⟩
        have HO3 := Lib.hid (hnb.trans o3.symm)
        have hq0 : (0 : Int) ≤ (q : Int) := by omega
        have hq2 : (q : Int) < (m : Int) := by omega
        have HAN : Hid (∀ c, c ∈ (nums s).take (k + 1) → 0 ≤ digI c) := fun c hc => by
          rw [HNT.out] at hc
          rcases List.mem_append.1 hc with h | h
          · exact HA.out c h
          · rw [List.mem_singleton.1 h]; exact hD
        clear o3 hnb hD
        generalize digI s[k].toNat = D at *
        generalize partH (nums s) k q = old at *
        have HQK := Lib.hid hqk
        clear hqk
        go_upto_region 12 with fail
        clear HIX HYES HNO HM hmk hq d1 hE h1 HNT hlb
        go_wp2_with fail
        go_roundw
        case rel =>
          refine ⟨k + 1, by omega, by go_num, HAN, ?_, Below.setCell HB.out (p := ⟨w.heap.size, q, none⟩) (Nat.le_refl _) _⟩
          have h1 := (HR.out.set q (.int .u8 (bits .or .u8 (old * 16) (D % 256)))).congr (g := fun j => .int .u8 (partH (nums s) (k + 1) j)) (fun j _ => by
            by_cases hj : j = q
            · rw [if_pos hj, hj, HO3.out]
            · rw [if_neg hj]
              have e : partH (nums s) (k + 1) j = partH (nums s) k j := by
                have hqk := HQK.out
                unfold partH
                repeat' split
                all_goals first | rfl | (exfalso; omega)
              rw [e])
          exact h1
        case measure => simp [intOf]; omega
      · have d0 : decide (digI s[k].toNat < 0) = true := decide_eq_true (by omega)
        have HV := Lib.hid (HNO.out (fun h => hD (h _ (by
          have h2 : s[k].toNat ∈ (nums s).take (k + 1) := by rw [HNT.out]; simp
          exact List.mem_of_mem_take h2))))
        clear hD hdl HIX
        generalize digI s[k].toNat = D at *
        go_wp2_with fail
        go_ret2
        exact ⟨by rw [HV.out]; rfl, HB.out⟩
    · have hkl : k = s.size := by omega
      subst hkl
      have HV := Lib.hid (HYES.out (fun c hc => HA.out c (by rw [List.take_of_length_le (by rw [nums_len]; exact Nat.le_refl _)]; exact hc)))
      have hpl : (pairsL (nums s)).length = m := by unfold pairsL; rw [List.length_map, List.length_range, nums_len]; have := HM.out; omega
      have HRW := HR
      clear HR HNO hmk
      have hrow : ∀ i, i < m → wr.cell? ⟨w.heap.size, 0 + i, none⟩ = some (.int .u8 ((pairsL (nums s)).getD i 0)) := fun i hi => by
        rw [Nat.zero_add, HRW.out.cell hi]
        have e : partH (nums s) s.size i = (pairsL (nums s)).getD i 0 := by
          rw [List.getD_eq_getElem?_getD, List.getElem?_eq_getElem (by omega)]
          unfold pairsL partH
          have := HM.out
          rw [if_pos (by omega)]
          simp
        rw [e]
      have hcv := run_convert_bytes_arg (P := Tryd.prog) wr 43 5 Tryd.underlying43 Tryd.underlying5 w.heap.size 0 m m (pairsL (nums s)) hpl hrow 9 Tryd.underlying9
      clear hrow HRW hpl
      go_wp2_with fail
      go_ret2
      exact ⟨by rw [HV.out]; rfl, HB.out⟩
end Go.Proofs.YtnocckgbcjienaaDoor
