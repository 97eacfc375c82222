/- The walk of RulesCovered. Conditions: the variable letters lies as its initialiser leaves it. -/
import Derived.Test.YtoacfopekgfbcaaDoorRulLaws
namespace Go.Proofs.YtoacfopekgfbcaaDoor
open Go.RowKit Go.Maps
set_option linter.unusedVariables false
set_option linter.unusedSimpArgs false

/-- How many states ahead handle it. -/
def hanV (k : Int) : Nat → Int
  | 0 => 0
  | n + 1 => hanV k n + if ofV ((n : Int) + 1) k = 1 then 1 else 0
/-- May something be asked? -/
def someV (s : Int) : Nat → Bool
  | 0 => false
  | n + 1 => someV s n || mayV s ((n : Int) + 1)
def covV (s k : Int) : Bool := (ofV s k == 0 || ofV s k == 1 || (ofV s k == 3 && s == 1) || ofV s k == 2 || ofV s k == 4) && (ofV s k == 0 || ofV s k == 1 || !(letV k == 0))
theorem cov_all (n : Nat) (hn : n < 10) (k : Nat) (hk : k < 15) : covV ((n : Int) + 1) ((k : Int) + 1) = true := by
  have hc : ∀ (n : Fin 10) (k : Fin 15), covV ((n.val : Int) + 1) ((k.val : Int) + 1) = true := by decide +kernel
  exact hc ⟨n, hn⟩ ⟨k, hk⟩
theorem some_all (n : Nat) (hn : n < 10) : someV ((n : Int) + 1) 11 = true ∧ mayV ((n : Int) + 1) 7 = decide (n = 9) := by
  have hc : ∀ (n : Fin 10), someV ((n.val : Int) + 1) 11 = true ∧ mayV ((n.val : Int) + 1) 7 = decide (n.val = 9) := by decide +kernel
  exact hc ⟨n, hn⟩
theorem han_all (k : Nat) (hk : k < 15) : 1 ≤ hanV ((k : Int) + 1) 10 := by
  have hc : ∀ (k : Fin 15), 1 ≤ hanV ((k.val : Int) + 1) 10 := by decide +kernel
  exact hc ⟨k, hk⟩
theorem han_b (k : Int) : ∀ n, 0 ≤ hanV k n ∧ hanV k n ≤ n
  | 0 => ⟨Int.le_refl 0, Int.le_refl 0⟩
  | n + 1 => by
    have := han_b k n
    unfold hanV
    split <;> omega
set_option maxHeartbeats 8000000 in
set_option maxRecDepth 100000 in
theorem walk_RulesCovered (x : Int) (w : World) (hL : LetIn w) : Calls Tryd.prog 5 #[.int .i64 x] w fun e w' => e = .returned (.bool true) ∧ Below w.heap.size w w' := by
  have HL := Lib.hid hL
  have HA := Lib.hid (rul_awake w hL)
  obtain ⟨y, hy⟩ : ∃ y, y = x % 256 := ⟨_, rfl⟩
  have hand := and255 x
  rw [← hy] at hand
  have hy0 : 0 ≤ y := by omega
  have hy1 : y < 256 := by omega
  clear hL hy
  go_enter Tryd.func5, Tryd.ntmps5
  go_wp2_with fail
  refine (HA.out).mono ?_
  rintro e w1 ⟨rfl, hb⟩
  have HB1 := Lib.hid hb
  clear hb
  go_upto_region 4 with fail
  obtain ⟨j, hj⟩ : ∃ j : Nat, (j : Int) = y % 15 := ⟨(y % 15).toNat, by omega⟩
  have hj2 : j < 15 := by omega
  first | rw [← hj] | (simp only [Int.tmod_eq_emod_of_nonneg hy0]; rw [← hj])
  clear hj hand hy0 hy1
  obtain ⟨k, hk⟩ : ∃ k : Int, k = (j : Int) + 1 := ⟨_, rfl⟩
  rw [show (1 : Int) + (j : Int) = k by omega]
  have HK := Lib.hid hk
  have HJ := Lib.hid hj2
  clear hk hj2
  go_wp2_with fail
  go_loopw [3, 4] (fun h s wr => ∃ n : Nat, n ≤ 10 ∧ h = .int .i64 (hanV k n) ∧ s = .int .i64 ((n : Int) + 1) ∧ Hid (Below w.heap.size w wr)) (fun _ s _ => 11 - (intOf s).toNat)
  case atStart => exact ⟨0, by omega, rfl, rfl, HB1⟩
  case round =>
    obtain ⟨n, hn, rfl, rfl, HW⟩ := hrel
    by_cases hlt : n < 10
    · obtain ⟨s, hs⟩ : ∃ s : Int, s = (n : Int) + 1 := ⟨_, rfl⟩
      have hcov := cov_all n hlt j HJ.out
      have hsome := some_all n hlt
      have hhan : hanV k (n + 1) = hanV k n + if ofV ((n : Int) + 1) k = 1 then 1 else 0 := rfl
      have hhb := han_b k n
      rw [← HK.out, ← hs] at hcov
      rw [← hs] at hsome hhan
      rw [← hs]
      have hs1 : 1 ≤ s := by omega
      have hs2 : s ≤ 10 := by omega
      have hk1 : 1 ≤ k := by have := HK.out; omega
      have hk2 : k ≤ 15 := by have := HK.out; have := HJ.out; omega
      have H1 := Lib.hid (fun W => rul_of s k ⟨by omega, by omega⟩ ⟨by omega, by omega⟩ W)
      have H2 := Lib.hid (fun W h => rul_letter k ⟨by omega, by omega⟩ W h)
      have HM := Lib.hid (fun (q : Int) (h : 0 ≤ q ∧ q ≤ 100) (r : Bool) (e : mayV s q = r) W => rul_mayc s q r ⟨by omega, by omega⟩ ⟨by omega, by omega⟩ e W)
      have HS := Lib.hid hs
      have HHAN := Lib.hid hhan
      have HSOME := Lib.hid hsome
      have HSV : Hid (∀ q, someV s (q + 1) = (someV s q || mayV s ((q : Int) + 1))) := fun q => rfl
      have HS0 : Hid (someV s 0 = false) := rfl
      have hh1 := hhb.1
      have hh2 : hanV k n ≤ 10 := by omega
      clear hs hhan hsome hhb hn
      generalize hanV k n = h at *
      unfold covV at hcov
      generalize ofV s k = v at *
      generalize letV k = l at *
      go_wp2_with fail
      refine (H1.out _).mono ?_
      rintro e w2 ⟨rfl, hb⟩
      have HB2 := Lib.hid (HW.out.trans (hb.mono HW.out.size))
      clear hb HW H1
      have hv : v = 0 ∨ v = 1 ∨ (v = 3 ∧ (s == 1) = true ∧ (l == 0) = false) ∨ (v = 2 ∧ (l == 0) = false) ∨ (v = 4 ∧ (l == 0) = false) := by
        simp only [Bool.and_eq_true, Bool.or_eq_true, beq_iff_eq, Bool.not_eq_true', beq_eq_false_iff_ne, ne_eq] at hcov ⊢
        omega
      clear hcov
      rcases hv with rfl | rfl | ⟨rfl, e1, e2⟩ | ⟨rfl, e2⟩ | ⟨rfl, e2⟩
      · skip
        clear H2
        go_wp2_with fail
        go_loopw [6, 7] (fun b i wr => ∃ q : Nat, q ≤ 11 ∧ b = .bool (someV s q) ∧ i = .int .i64 ((q : Int) + 1) ∧ Hid (Below w.heap.size w wr)) (fun _ i _ => 12 - (intOf i).toNat)
        case atStart => exact ⟨0, by omega, by rw [HS0.out], rfl, HB2⟩
        case round =>
          obtain ⟨q, hq, rfl, rfl, HW3⟩ := hrel
          by_cases hql : q < 11
          · have hsv := HSV.out q
            have HSQ := Lib.hid hsv
            clear hsv HSV
            cases hb : someV s q
            · have HC := Lib.hid (HM.out ((q : Int) + 1) (by omega) _ rfl)
              rw [hb] at HSQ
              clear hb
              generalize mayV s ((q : Int) + 1) = mq at *
              go_wp2_with fail
              refine (HC.out _).mono ?_
              rintro e w4 ⟨rfl, hb⟩
              have HB4 := Lib.hid (HW3.out.trans (hb.mono HW3.out.size))
              clear hb
              go_wp2_with fail
              go_roundw
              case rel => exact ⟨q + 1, by omega, by rw [HSQ.out]; simp, by go_num, HB4⟩
              case measure => simp [intOf]; omega
            · rw [hb] at HSQ
              clear hb
              go_wp2_with fail
              go_roundw
              case rel => exact ⟨q + 1, by omega, by rw [HSQ.out]; simp, by go_num, HW3⟩
              case measure => simp [intOf]; omega
          · obtain rfl : q = 11 := by omega
            have hb11 := HSOME.out.1
            rw [hb11]
            clear hb11 hq hql
            have HC := Lib.hid (HM.out 7 (by omega) _ HSOME.out.2)
            go_wp2_with fail
            refine (HC.out _).mono ?_
            rintro e w4 ⟨rfl, hb⟩
            have HB4 := Lib.hid (HW3.out.trans (hb.mono HW3.out.size))
            clear hb
            by_cases h9 : n = 9
            · have d1 : decide (n = 9) = true := decide_eq_true h9
              have d2 : (s == 10) = true := by have := HS.out; simp; omega
              clear h9
              go_wp2_with fail
              go_roundw
              case rel => exact ⟨n + 1, by omega, by rw [HHAN.out]; first | rfl | simp, by rw [HS.out]; go_num, HB4⟩
              case measure => simp [intOf]; have := HS.out; omega
            · have d1 : decide (n = 9) = false := decide_eq_false h9
              have d2 : (s == 10) = false := beq_false_of_ne (by have := HS.out; omega)
              clear h9
              go_wp2_with fail
              go_roundw
              case rel => exact ⟨n + 1, by omega, by rw [HHAN.out]; first | rfl | simp, by rw [HS.out]; go_num, HB4⟩
              case measure => simp [intOf]; have := HS.out; omega
      · skip
        clear H2
        go_wp2_with fail
        go_loopw [6, 7] (fun b i wr => ∃ q : Nat, q ≤ 11 ∧ b = .bool (someV s q) ∧ i = .int .i64 ((q : Int) + 1) ∧ Hid (Below w.heap.size w wr)) (fun _ i _ => 12 - (intOf i).toNat)
        case atStart => exact ⟨0, by omega, by rw [HS0.out], rfl, HB2⟩
        case round =>
          obtain ⟨q, hq, rfl, rfl, HW3⟩ := hrel
          by_cases hql : q < 11
          · have hsv := HSV.out q
            have HSQ := Lib.hid hsv
            clear hsv HSV
            cases hb : someV s q
            · have HC := Lib.hid (HM.out ((q : Int) + 1) (by omega) _ rfl)
              rw [hb] at HSQ
              clear hb
              generalize mayV s ((q : Int) + 1) = mq at *
              go_wp2_with fail
              refine (HC.out _).mono ?_
              rintro e w4 ⟨rfl, hb⟩
              have HB4 := Lib.hid (HW3.out.trans (hb.mono HW3.out.size))
              clear hb
              go_wp2_with fail
              go_roundw
              case rel => exact ⟨q + 1, by omega, by rw [HSQ.out]; simp, by go_num, HB4⟩
              case measure => simp [intOf]; omega
            · rw [hb] at HSQ
              clear hb
              go_wp2_with fail
              go_roundw
              case rel => exact ⟨q + 1, by omega, by rw [HSQ.out]; simp, by go_num, HW3⟩
              case measure => simp [intOf]; omega
          · obtain rfl : q = 11 := by omega
            have hb11 := HSOME.out.1
            rw [hb11]
            clear hb11 hq hql
            have HC := Lib.hid (HM.out 7 (by omega) _ HSOME.out.2)
            go_wp2_with fail
            refine (HC.out _).mono ?_
            rintro e w4 ⟨rfl, hb⟩
            have HB4 := Lib.hid (HW3.out.trans (hb.mono HW3.out.size))
            clear hb
            by_cases h9 : n = 9
            · have d1 : decide (n = 9) = true := decide_eq_true h9
              have d2 : (s == 10) = true := by have := HS.out; simp; omega
              clear h9
              go_wp2_with fail
              go_roundw
              case rel => exact ⟨n + 1, by omega, by rw [HHAN.out]; first | rfl | simp, by rw [HS.out]; go_num, HB4⟩
              case measure => simp [intOf]; have := HS.out; omega
            · have d1 : decide (n = 9) = false := decide_eq_false h9
              have d2 : (s == 10) = false := beq_false_of_ne (by have := HS.out; omega)
              clear h9
              go_wp2_with fail
              go_roundw
              case rel => exact ⟨n + 1, by omega, by rw [HHAN.out]; first | rfl | simp, by rw [HS.out]; go_num, HB4⟩
              case measure => simp [intOf]; have := HS.out; omega
      · have e3 : (s != 1) = false := by simp [bne, e1]
        go_wp2_with fail
        refine (H2.out _ (HL.out.next HB2.out)).mono ?_
        rintro e w3 ⟨rfl, rfl⟩
        clear H2
        go_wp2_with fail
        go_loopw [6, 7] (fun b i wr => ∃ q : Nat, q ≤ 11 ∧ b = .bool (someV s q) ∧ i = .int .i64 ((q : Int) + 1) ∧ Hid (Below w.heap.size w wr)) (fun _ i _ => 12 - (intOf i).toNat)
        case atStart => exact ⟨0, by omega, by rw [HS0.out], rfl, HB2⟩
        case round =>
          obtain ⟨q, hq, rfl, rfl, HW3⟩ := hrel
          by_cases hql : q < 11
          · have hsv := HSV.out q
            have HSQ := Lib.hid hsv
            clear hsv HSV
            cases hb : someV s q
            · have HC := Lib.hid (HM.out ((q : Int) + 1) (by omega) _ rfl)
              rw [hb] at HSQ
              clear hb
              generalize mayV s ((q : Int) + 1) = mq at *
              go_wp2_with fail
              refine (HC.out _).mono ?_
              rintro e w4 ⟨rfl, hb⟩
              have HB4 := Lib.hid (HW3.out.trans (hb.mono HW3.out.size))
              clear hb
              go_wp2_with fail
              go_roundw
              case rel => exact ⟨q + 1, by omega, by rw [HSQ.out]; simp, by go_num, HB4⟩
              case measure => simp [intOf]; omega
            · rw [hb] at HSQ
              clear hb
              go_wp2_with fail
              go_roundw
              case rel => exact ⟨q + 1, by omega, by rw [HSQ.out]; simp, by go_num, HW3⟩
              case measure => simp [intOf]; omega
          · obtain rfl : q = 11 := by omega
            have hb11 := HSOME.out.1
            rw [hb11]
            clear hb11 hq hql
            have HC := Lib.hid (HM.out 7 (by omega) _ HSOME.out.2)
            go_wp2_with fail
            refine (HC.out _).mono ?_
            rintro e w4 ⟨rfl, hb⟩
            have HB4 := Lib.hid (HW3.out.trans (hb.mono HW3.out.size))
            clear hb
            by_cases h9 : n = 9
            · have d1 : decide (n = 9) = true := decide_eq_true h9
              have d2 : (s == 10) = true := by have := HS.out; simp; omega
              clear h9
              go_wp2_with fail
              go_roundw
              case rel => exact ⟨n + 1, by omega, by rw [HHAN.out]; first | rfl | simp, by rw [HS.out]; go_num, HB4⟩
              case measure => simp [intOf]; have := HS.out; omega
            · have d1 : decide (n = 9) = false := decide_eq_false h9
              have d2 : (s == 10) = false := beq_false_of_ne (by have := HS.out; omega)
              clear h9
              go_wp2_with fail
              go_roundw
              case rel => exact ⟨n + 1, by omega, by rw [HHAN.out]; first | rfl | simp, by rw [HS.out]; go_num, HB4⟩
              case measure => simp [intOf]; have := HS.out; omega
      · go_wp2_with fail
        refine (H2.out _ (HL.out.next HB2.out)).mono ?_
        rintro e w3 ⟨rfl, rfl⟩
        clear H2
        go_wp2_with fail
        go_loopw [6, 7] (fun b i wr => ∃ q : Nat, q ≤ 11 ∧ b = .bool (someV s q) ∧ i = .int .i64 ((q : Int) + 1) ∧ Hid (Below w.heap.size w wr)) (fun _ i _ => 12 - (intOf i).toNat)
        case atStart => exact ⟨0, by omega, by rw [HS0.out], rfl, HB2⟩
        case round =>
          obtain ⟨q, hq, rfl, rfl, HW3⟩ := hrel
          by_cases hql : q < 11
          · have hsv := HSV.out q
            have HSQ := Lib.hid hsv
            clear hsv HSV
            cases hb : someV s q
            · have HC := Lib.hid (HM.out ((q : Int) + 1) (by omega) _ rfl)
              rw [hb] at HSQ
              clear hb
              generalize mayV s ((q : Int) + 1) = mq at *
              go_wp2_with fail
              refine (HC.out _).mono ?_
              rintro e w4 ⟨rfl, hb⟩
              have HB4 := Lib.hid (HW3.out.trans (hb.mono HW3.out.size))
              clear hb
              go_wp2_with fail
              go_roundw
              case rel => exact ⟨q + 1, by omega, by rw [HSQ.out]; simp, by go_num, HB4⟩
              case measure => simp [intOf]; omega
            · rw [hb] at HSQ
              clear hb
              go_wp2_with fail
              go_roundw
              case rel => exact ⟨q + 1, by omega, by rw [HSQ.out]; simp, by go_num, HW3⟩
              case measure => simp [intOf]; omega
          · obtain rfl : q = 11 := by omega
            have hb11 := HSOME.out.1
            rw [hb11]
            clear hb11 hq hql
            have HC := Lib.hid (HM.out 7 (by omega) _ HSOME.out.2)
            go_wp2_with fail
            refine (HC.out _).mono ?_
            rintro e w4 ⟨rfl, hb⟩
            have HB4 := Lib.hid (HW3.out.trans (hb.mono HW3.out.size))
            clear hb
            by_cases h9 : n = 9
            · have d1 : decide (n = 9) = true := decide_eq_true h9
              have d2 : (s == 10) = true := by have := HS.out; simp; omega
              clear h9
              go_wp2_with fail
              go_roundw
              case rel => exact ⟨n + 1, by omega, by rw [HHAN.out]; first | rfl | simp, by rw [HS.out]; go_num, HB4⟩
              case measure => simp [intOf]; have := HS.out; omega
            · have d1 : decide (n = 9) = false := decide_eq_false h9
              have d2 : (s == 10) = false := beq_false_of_ne (by have := HS.out; omega)
              clear h9
              go_wp2_with fail
              go_roundw
              case rel => exact ⟨n + 1, by omega, by rw [HHAN.out]; first | rfl | simp, by rw [HS.out]; go_num, HB4⟩
              case measure => simp [intOf]; have := HS.out; omega
      · go_wp2_with fail
        refine (H2.out _ (HL.out.next HB2.out)).mono ?_
        rintro e w3 ⟨rfl, rfl⟩
        clear H2
        go_wp2_with fail
        go_loopw [6, 7] (fun b i wr => ∃ q : Nat, q ≤ 11 ∧ b = .bool (someV s q) ∧ i = .int .i64 ((q : Int) + 1) ∧ Hid (Below w.heap.size w wr)) (fun _ i _ => 12 - (intOf i).toNat)
        case atStart => exact ⟨0, by omega, by rw [HS0.out], rfl, HB2⟩
        case round =>
          obtain ⟨q, hq, rfl, rfl, HW3⟩ := hrel
          by_cases hql : q < 11
          · have hsv := HSV.out q
            have HSQ := Lib.hid hsv
            clear hsv HSV
            cases hb : someV s q
            · have HC := Lib.hid (HM.out ((q : Int) + 1) (by omega) _ rfl)
              rw [hb] at HSQ
              clear hb
              generalize mayV s ((q : Int) + 1) = mq at *
              go_wp2_with fail
              refine (HC.out _).mono ?_
              rintro e w4 ⟨rfl, hb⟩
              have HB4 := Lib.hid (HW3.out.trans (hb.mono HW3.out.size))
              clear hb
              go_wp2_with fail
              go_roundw
              case rel => exact ⟨q + 1, by omega, by rw [HSQ.out]; simp, by go_num, HB4⟩
              case measure => simp [intOf]; omega
            · rw [hb] at HSQ
              clear hb
              go_wp2_with fail
              go_roundw
              case rel => exact ⟨q + 1, by omega, by rw [HSQ.out]; simp, by go_num, HW3⟩
              case measure => simp [intOf]; omega
          · obtain rfl : q = 11 := by omega
            have hb11 := HSOME.out.1
            rw [hb11]
            clear hb11 hq hql
            have HC := Lib.hid (HM.out 7 (by omega) _ HSOME.out.2)
            go_wp2_with fail
            refine (HC.out _).mono ?_
            rintro e w4 ⟨rfl, hb⟩
            have HB4 := Lib.hid (HW3.out.trans (hb.mono HW3.out.size))
            clear hb
            by_cases h9 : n = 9
            · have d1 : decide (n = 9) = true := decide_eq_true h9
              have d2 : (s == 10) = true := by have := HS.out; simp; omega
              clear h9
              go_wp2_with fail
              go_roundw
              case rel => exact ⟨n + 1, by omega, by rw [HHAN.out]; first | rfl | simp, by rw [HS.out]; go_num, HB4⟩
              case measure => simp [intOf]; have := HS.out; omega
            · have d1 : decide (n = 9) = false := decide_eq_false h9
              have d2 : (s == 10) = false := beq_false_of_ne (by have := HS.out; omega)
              clear h9
              go_wp2_with fail
              go_roundw
              case rel => exact ⟨n + 1, by omega, by rw [HHAN.out]; first | rfl | simp, by rw [HS.out]; go_num, HB4⟩
              case measure => simp [intOf]; have := HS.out; omega
    · obtain rfl : n = 10 := by omega
      have h1 := han_all j HJ.out
      rw [← HK.out] at h1
      generalize hanV k 10 = h at *
      clear hlt hn
      go_wp2_with fail
      go_ret
      exact ⟨by first | rfl | (simp; done) | (simp; omega), HW.out⟩
end Go.Proofs.YtoacfopekgfbcaaDoor
