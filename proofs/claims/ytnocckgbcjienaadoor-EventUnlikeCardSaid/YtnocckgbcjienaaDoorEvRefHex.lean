/- The contracts of the document's own Hex and of the law's written. No conditions but the text's length. -/
import Derived.Test.YtnocckgbcjienaaDoorEvUnhex
namespace Go.Proofs.YtnocckgbcjienaaDoor
open Go.RowKit
set_option linter.unusedVariables false
set_option linter.unusedSimpArgs false

theorem row_two (w : World) (a b : Int) (t : TypeId) : (w.alloc (.cells #[.int .i64 a, .int .i64 b] t)).cell? ⟨w.heap.size, 0, none⟩ = some (.int .i64 a) ∧ (w.alloc (.cells #[.int .i64 a, .int .i64 b] t)).cell? ⟨w.heap.size, 1, none⟩ = some (.int .i64 b) := by
  have hn := heap_alloc_new w (.cells #[.int .i64 a, .int .i64 b] t)
  constructor
  · rw [cell_of_row _ _ 0 _ _ (0, 0) hn]; rfl
  · rw [cell_of_row _ _ 1 _ _ (0, 0) hn]; rfl
def hexS (l : List Nat) : ByteArray := strOfNums (l.flatMap fun b => [hexDigit (b / 16), hexDigit (b % 16)])
theorem hexS_size (l : List Nat) : (hexS l).size = 2 * l.length := by
  unfold hexS
  rw [strOfNums_size, List.length_flatMap]
  have e : (l.map fun b => ([hexDigit (b / 16), hexDigit (b % 16)]).length) = l.map fun _ => 2 := rfl
  rw [e, List.map_const', List.sum_replicate_nat]; omega
set_option maxHeartbeats 4000000 in
set_option maxRecDepth 100000 in
theorem ev_ref_hex (s : ByteArray) (w : World) (hs : s.size ≤ 1000) :
    Calls Tryd.prog 18 #[.string s] w fun e w' => e = .returned (.string (hexB s)) ∧ Below w.heap.size w w' := by
  have hE := empty_size s
  have HV : Hid (hexB s = if s.size = 0 then ⟨#[45]⟩ else strOfNums (hexL s)) := rfl
  generalize hexB s = V at *
  by_cases h0 : s.size = 0
  · have HV2 := Lib.hid (HV.out.trans (if_pos h0))
    rw [decide_eq_true h0] at hE
    obtain rfl := HV2.out
    clear HV h0
    go_enter Tryd.func18, Tryd.ntmps18
    go_wp2_with fail
    go_ret
    exact ⟨rfl, Below.refl _ _⟩
  · have HV2 := Lib.hid (HV.out.trans (if_neg h0))
    rw [decide_eq_false h0] at hE
    clear HV h0
    have hconv := fun W a => convE W a
    go_enter Tryd.func18, Tryd.ntmps18
    go_wp2_with fail
    go_loopw [3, 4] (fun b i wr => ∃ j : Nat, j ≤ s.size ∧ i = .int .i64 j ∧ b = .string (hexS ((nums s).take j)) ∧ Hid (Below w.heap.size w wr)) (fun _ i _ => s.size - (intOf i).toNat)
    case atStart => exact ⟨0, by omega, rfl, rfl, Below.refl _ _⟩
    case round =>
      obtain ⟨j, hj, rfl, rfl, HB⟩ := hrel
      by_cases hlt : j < s.size
      · have hj0 : (0 : Int) ≤ (j : Int) := by omega
        have hj1 : (j : Int) < (s.size : Int) := by omega
        have hlb := s[j].toNat_lt
        have HNT : Hid ((nums s).take (j + 1) = (nums s).take j ++ [s[j].toNat]) := nums_take s j hlt
        have hsz := hexS_size ((nums s).take j)
        rw [List.length_take, nums_len] at hsz
        have q0 : IntKind.i64.wrap ((s[j].toNat : Int) / 16) = (s[j].toNat : Int) / 16 := by rw [IntKind.wrap_i64]; omega
        go_upto_region 7 with fail
        go_region
        obtain ⟨c0, c1⟩ := row_two wr ((s[j].toNat : Int) / 16) ((s[j].toNat : Int) % 16) 3
        have HC : Hid (((wr.alloc (.cells #[.int .i64 ((s[j].toNat : Int) / 16), .int .i64 ((s[j].toNat : Int) % 16)] 3)).drew).cell? ⟨wr.heap.size, 0, none⟩ = some (.int .i64 ((s[j].toNat : Int) / 16)) ∧ ((wr.alloc (.cells #[.int .i64 ((s[j].toNat : Int) / 16), .int .i64 ((s[j].toNat : Int) % 16)] 3)).drew).cell? ⟨wr.heap.size, 1, none⟩ = some (.int .i64 ((s[j].toNat : Int) % 16))) := ⟨c0, c1⟩
        have HB2 := Lib.hid ((HB.out.alloc HB.out.size (.cells #[.int .i64 ((s[j].toNat : Int) / 16), .int .i64 ((s[j].toNat : Int) % 16)] 3)).drew)
        have HNX : Hid (hexS ((nums s).take (j + 1)) = hexS ((nums s).take j) ++ strOfNums [hexDigit (s[j].toNat / 16), hexDigit (s[j].toNat % 16)]) := by
          show _ = _
          rw [HNT.out]
          unfold hexS
          rw [str_append, List.flatMap_append]
          simp
        have hA : ∃ a b : Nat, a < 16 ∧ b < 16 ∧ (s[j].toNat : Int) / 16 = (a : Int) ∧ (s[j].toNat : Int) % 16 = (b : Int) ∧ s[j].toNat / 16 = a ∧ s[j].toNat % 16 = b := ⟨s[j].toNat / 16, s[j].toNat % 16, by omega, by omega, by omega, by omega, rfl, rfl⟩
        obtain ⟨a, b, ha, hb, ea, eb, ea2, eb2⟩ := hA
        rw [ea, eb] at HC HB2 ⊢
        rw [ea2, eb2] at HNX
        clear c0 c1 ea eb ea2 eb2 hlb q0 HNT
        generalize (wr.alloc (.cells #[.int .i64 (a : Int), .int .i64 (b : Int)] 3)).drew = w2 at *
        generalize wr.heap.size = r at *
        generalize hexS ((nums s).take j) = T at *
        have hs9 := hs
        go_wp2_with fail
        go_loopw [3, 27] (fun x i wq => ∃ k : Nat, k ≤ 2 ∧ i = .int .i64 k ∧ x = .string (T ++ strOfNums ([hexDigit a, hexDigit b].take k)) ∧ Hid (wq.cell? ⟨r, 0, none⟩ = some (.int .i64 (a : Int)) ∧ wq.cell? ⟨r, 1, none⟩ = some (.int .i64 (b : Int))) ∧ Hid (Below w.heap.size w wq)) (fun _ i _ => 2 - (intOf i).toNat)
        case atStart => exact ⟨0, by omega, rfl, by rw [List.take_zero, show strOfNums [] = ⟨#[]⟩ from rfl]; exact congrArg Value.string (ByteArray.append_empty (b := T)).symm, HC, HB2⟩
        case round =>
          obtain ⟨k, hk, rfl, rfl, HC, HB⟩ := hrel
          obtain ⟨c0, c1⟩ := HC.out
          have hlt0 := pos_of_cell c0
          have HL0 := Lib.hid hlt0
          clear hlt0
          have hcase : k = 2 ∨ k < 2 := by omega
          rcases hcase with rfl | hk2
          · go_wp2_with fail
            exact ⟨⟨j + 1, by omega, by go_num, by rw [HNX.out]; rfl, HB⟩, by simp [intOf]; omega⟩
          · obtain ⟨x, hx, hcx, hst⟩ : ∃ x : Nat, x < 16 ∧ wr.cell? ⟨r, k, none⟩ = some (.int .i64 (x : Int)) ∧ strOfNums ([hexDigit a, hexDigit b].take (k + 1)) = strOfNums ([hexDigit a, hexDigit b].take k) ++ strOfNums [hexDigit x] := by
              have h01 : k = 0 ∨ k = 1 := by omega
              rcases h01 with rfl | rfl
              · exact ⟨a, ha, c0, by rw [str_append]; rfl⟩
              · exact ⟨b, hb, c1, by rw [str_append]; rfl⟩
            have hTs : (T ++ strOfNums ([hexDigit a, hexDigit b].take k)).size ≤ 2 * s.size + 2 := by
              rw [ByteArray.size_append, strOfNums_size, List.length_take]
              simp only [List.length_cons, List.length_nil]
              omega
            have hk0 : (0 : Int) ≤ (k : Int) := by omega
            have hk1 : (k : Int) < 2 := by omega
            have hx0 : (0 : Int) ≤ (x : Int) := by omega
            have hx1 : (x : Int) < 16 := by omega
            have HST := Lib.hid hst
            clear hst c0 c1
            obtain ⟨TK, hTK⟩ : ∃ TK, TK = T ++ strOfNums ([hexDigit a, hexDigit b].take k) := ⟨_, rfl⟩
            have HTKD := Lib.hid hTK
            rw [← hTK] at hTs ⊢
            clear hTK
            have hss : ∀ y : Int, (strOfNums [y]).size = 1 := fun y => by rw [strOfNums_size]; rfl
            by_cases h10 : (x : Int) < 10
            · have d1 : decide ((x : Int) < 10) = true := decide_eq_true h10
              have HHD : Hid (hexDigit x = 48 + (x : Int)) := by show _ = _; unfold hexDigit; rw [if_pos (by omega)]
              have hn : ¬ 9223372036854775807 < TK.size + 1 := by omega
              have hss1 := hss (48 + (x : Int))
              have HTK : Hid (TK ++ strOfNums [48 + (x : Int)] = T ++ strOfNums ([hexDigit a, hexDigit b].take (k + 1))) := by
                show _ = _
                rw [HST.out, HHD.out, ← ByteArray.append_assoc, HTKD.out]
              have hbn := (Below.refl wr.heap.size wr).alloc (Nat.le_refl _) (.cells #[.int .u8 (48 + (x : Int))] 5)
              have HCN : Hid ((wr.alloc (.cells #[.int .u8 (48 + (x : Int))] 5)).cell? ⟨r, 0, none⟩ = some (.int .i64 (a : Int)) ∧ (wr.alloc (.cells #[.int .u8 (48 + (x : Int))] 5)).cell? ⟨r, 1, none⟩ = some (.int .i64 (b : Int))) := ⟨by rw [hbn.cell (p := ⟨r, 0, none⟩) HL0.out]; exact HC.out.1, by rw [hbn.cell (p := ⟨r, 1, none⟩) HL0.out]; exact HC.out.2⟩
              clear hbn
              go_wp2_with fail
              exact ⟨⟨k + 1, by omega, by go_num, by rw [HTK.out], HCN, HB.out.alloc HB.out.size _⟩, by simp [intOf]; omega⟩
            · have d1 : decide ((x : Int) < 10) = false := decide_eq_false h10
              have HHD : Hid (hexDigit x = 87 + (x : Int)) := by show _ = _; unfold hexDigit; rw [if_neg (by omega)]
              have hn : ¬ 9223372036854775807 < TK.size + 1 := by omega
              have hss1 := hss (87 + (x : Int))
              have HTK : Hid (TK ++ strOfNums [87 + (x : Int)] = T ++ strOfNums ([hexDigit a, hexDigit b].take (k + 1))) := by
                show _ = _
                rw [HST.out, HHD.out, ← ByteArray.append_assoc, HTKD.out]
              have hbn := (Below.refl wr.heap.size wr).alloc (Nat.le_refl _) (.cells #[.int .u8 (87 + (x : Int))] 5)
              have HCN : Hid ((wr.alloc (.cells #[.int .u8 (87 + (x : Int))] 5)).cell? ⟨r, 0, none⟩ = some (.int .i64 (a : Int)) ∧ (wr.alloc (.cells #[.int .u8 (87 + (x : Int))] 5)).cell? ⟨r, 1, none⟩ = some (.int .i64 (b : Int))) := ⟨by rw [hbn.cell (p := ⟨r, 0, none⟩) HL0.out]; exact HC.out.1, by rw [hbn.cell (p := ⟨r, 1, none⟩) HL0.out]; exact HC.out.2⟩
              clear hbn
              go_wp2_with fail
              exact ⟨⟨k + 1, by omega, by go_num, by rw [HTK.out], HCN, HB.out.alloc HB.out.size _⟩, by simp [intOf]; omega⟩
      · have hjl : j = s.size := by omega
        subst hjl
        have hTA : hexS ((nums s).take s.size) = strOfNums (hexL s) := by
          rw [List.take_of_length_le (by rw [nums_len]; exact Nat.le_refl _)]; rfl
        rw [hTA, ← HV2.out]
        go_wp2_with fail
        go_ret
        exact ⟨rfl, HB.out⟩

theorem bytes_cell (w : World) (s : ByteArray) (j : Nat) (hj : j < s.size) : (Lib.bytesWorld w 5 s).cell? ⟨w.heap.size, j, none⟩ = some (.int .u8 ((nums s).getD j 0 : Nat)) := by
  rw [cell_of_row _ _ j _ _ _ (Lib.bytesWorld_at_new w _ s)]
  unfold Lib.bytesCells
  rw [Array.getElem?_append_left (by rw [Array.size_map]; exact hj), Array.getElem?_map]
  have hl : j < s.data.size := hj
  rw [Array.getElem?_eq_getElem hl, List.getD_eq_getElem?_getD]
  unfold nums
  rw [List.getElem?_map, Array.getElem?_toList, Array.getElem?_eq_getElem hl]
  rfl
open Classical in
noncomputable def writtenV (s : ByteArray) : Bool := decide (s = ⟨#[45]⟩ ∨ (s.size ≠ 0 ∧ s.size % 2 = 0 ∧ allDig (nums s)))
set_option maxHeartbeats 4000000 in
set_option maxRecDepth 100000 in
theorem ev_written (s : ByteArray) (w : World) (hs : s.size ≤ 1000) :
    Calls Tryd.prog 19 #[.string s] w fun e w' => e = .returned (.bool (writtenV s)) ∧ Below w.heap.size w w' := by
  have hE := empty_size s
  have h45 : (s.toList == [45]) = decide (s = ⟨#[45]⟩) := by
    have h := toList_eq2 s ⟨#[45]⟩
    rw [show (⟨#[45]⟩ : ByteArray).toList = [45] by rw [ByteArray.toList_eq]] at h
    exact h
  have HYES : Hid ((s = ⟨#[45]⟩ ∨ (s.size ≠ 0 ∧ s.size % 2 = 0 ∧ allDig (nums s))) → writtenV s = true) := fun h => by unfold writtenV; simp only [decide_eq_true_eq]; exact h
  have HNO : Hid (¬ (s = ⟨#[45]⟩ ∨ (s.size ≠ 0 ∧ s.size % 2 = 0 ∧ allDig (nums s))) → writtenV s = false) := fun h => by unfold writtenV; simp only [decide_eq_false_iff_not]; exact h
  generalize writtenV s = V at *
  by_cases h1 : s = ⟨#[45]⟩
  · obtain rfl := HYES.out (.inl h1)
    rw [decide_eq_true h1] at h45
    clear h1 HYES HNO
    go_enter Tryd.func19, Tryd.ntmps19
    go_wp2_with fail
    go_ret
    exact ⟨rfl, Below.refl _ _⟩
  rw [decide_eq_false h1] at h45
  have HYES2 : Hid ((s.size ≠ 0 ∧ s.size % 2 = 0 ∧ allDig (nums s)) → V = true) := fun h => HYES.out (.inr h)
  have HNO2 : Hid (¬ (s.size ≠ 0 ∧ s.size % 2 = 0 ∧ allDig (nums s)) → V = false) := fun h => HNO.out (fun h2 => h2.elim h1 h)
  clear HYES HNO h1
  have hconv := fun W => Lib.run_convert_string_bytes (P := Tryd.prog) W 9 43 5 s Tryd.underlying9 Tryd.underlying43 Tryd.underlying5
  go_enter Tryd.func19, Tryd.ntmps19
  have HBC := Lib.hid (fun j (hj : j < s.size) => bytes_cell w s j hj)
  have HB0 := Lib.hid (Joins.below_bytesWorld w.heap.size w 5 s (Nat.le_refl _))
  go_upto_region 4 with fail
  clear hconv
  generalize Lib.bytesWorld w 5 s = w1 at *
  generalize grownCap w s.size 0 5 = cp at *
  have hs9 := hs
  go_loop [10] (fun i => ∃ k : Nat, k ≤ s.size ∧ i = .int .i64 k ∧ Hid (∀ c, c ∈ (nums s).take k → 0 ≤ digI c)) (fun i => s.size - (intOf i).toNat)
  case atStart => exact ⟨0, by omega, rfl, fun c h => by simp at h⟩
  case round =>
    obtain ⟨k, hk, rfl, HA⟩ := hrel
    by_cases hlt : k < s.size
    · have hc := HBC.out k hlt
      have hj0 : (0 : Int) ≤ (k : Int) := by omega
      have hj1 : (k : Int) < (s.size : Int) := by omega
      have HNT : Hid ((nums s).take (k + 1) = (nums s).take k ++ [(nums s).getD k 0]) := by
        show _ = _
        rw [List.take_succ_eq_append_getElem (by rw [nums_len]; exact hlt), List.getD_eq_getElem?_getD, List.getElem?_eq_getElem (by rw [nums_len]; exact hlt)]
        rfl
      have HIN : Hid ((nums s).getD k 0 ∈ nums s) := by
        show _ ∈ _
        rw [List.getD_eq_getElem?_getD, List.getElem?_eq_getElem (by rw [nums_len]; exact hlt)]
        exact List.getElem_mem _
      generalize (nums s).getD k 0 = c at *
      by_cases hD : 0 ≤ digI c
      · have HAN : Hid (∀ c, c ∈ (nums s).take (k + 1) → 0 ≤ digI c) := fun x hx => by
          rw [HNT.out] at hx
          rcases List.mem_append.1 hx with h | h
          · exact HA.out x h
          · rw [List.mem_singleton.1 h]; exact hD
        have hcc : (48 ≤ c ∧ c ≤ 57) ∨ (97 ≤ c ∧ c ≤ 102) := by
          unfold digI at hD
          split at hD
          · left; omega
          · split at hD
            · right; omega
            · omega
        rcases hcc with hcc | hcc
        · have e1 : decide ((c : Int) < 48) = false := decide_eq_false (by omega)
          have e2 : decide (57 < (c : Int)) = false := decide_eq_false (by omega)
          clear hD hcc
          go_wp2_with fail
          go_round
          case rel => exact ⟨k + 1, by omega, by go_num, HAN⟩
          case measure => simp [intOf]; omega
        · have e1 : decide ((c : Int) < 48) = false := decide_eq_false (by omega)
          have e2 : decide (57 < (c : Int)) = true := decide_eq_true (by omega)
          have e3 : decide ((c : Int) < 97) = false := decide_eq_false (by omega)
          have e4 : decide (102 < (c : Int)) = false := decide_eq_false (by omega)
          clear hD hcc
          go_wp2_with fail
          go_round
          case rel => exact ⟨k + 1, by omega, by go_num, HAN⟩
          case measure => simp [intOf]; omega
      · obtain rfl := HNO2.out (fun h => hD (h.2.2 _ HIN.out))
        have hcc : c < 48 ∨ (57 < c ∧ c < 97) ∨ 102 < c := by unfold digI at hD; split at hD <;> first | omega | (split at hD <;> omega)
        clear hD
        rcases hcc with hcc | hcc | hcc
        · have e1 : decide ((c : Int) < 48) = true := decide_eq_true (by omega)
          have e3 : decide ((c : Int) < 97) = true := decide_eq_true (by omega)
          clear hcc
          go_wp2_with fail
          go_ret
          exact ⟨rfl, HB0.out⟩
        · have e1 : decide ((c : Int) < 48) = false := decide_eq_false (by omega)
          have e2 : decide (57 < (c : Int)) = true := decide_eq_true (by omega)
          have e3 : decide ((c : Int) < 97) = true := decide_eq_true (by omega)
          clear hcc
          go_wp2_with fail
          go_ret
          exact ⟨rfl, HB0.out⟩
        · have e1 : decide ((c : Int) < 48) = false := decide_eq_false (by omega)
          have e2 : decide (57 < (c : Int)) = true := decide_eq_true (by omega)
          have e3 : decide ((c : Int) < 97) = false := decide_eq_false (by omega)
          have e4 : decide (102 < (c : Int)) = true := decide_eq_true (by omega)
          clear hcc
          go_wp2_with fail
          go_ret
          exact ⟨rfl, HB0.out⟩
    · have hkl : k = s.size := by omega
      subst hkl
      have HAD : Hid (allDig (nums s)) := fun c hc => HA.out c (by rw [List.take_of_length_le (by rw [nums_len]; exact Nat.le_refl _)]; exact hc)
      by_cases h0 : s.size = 0
      · rw [decide_eq_true h0] at hE
        obtain rfl := HNO2.out (fun h => h.1 h0)
        clear h0
        go_wp2_with fail
        go_ret
        exact ⟨by first | rfl | simp, HB0.out⟩
      · rw [decide_eq_false h0] at hE
        by_cases h2 : s.size % 2 = 0
        · obtain rfl := HYES2.out ⟨h0, h2, HAD.out⟩
          have d1 : ((s.size : Int) % 2 == 0) = true := by rw [beq_iff_eq]; omega
          clear h0 h2
          go_wp2_with fail
          go_ret
          exact ⟨by first | rfl | simp, HB0.out⟩
        · obtain rfl := HNO2.out (fun h => h2 h.2.1)
          have d1 : ((s.size : Int) % 2 == 0) = false := by rw [beq_eq_false_iff_ne]; omega
          clear h0 h2
          go_wp2_with fail
          go_ret
          exact ⟨by first | rfl | simp, HB0.out⟩
end Go.Proofs.YtnocckgbcjienaaDoor
