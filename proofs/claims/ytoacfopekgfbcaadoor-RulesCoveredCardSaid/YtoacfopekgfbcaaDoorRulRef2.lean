/- The document's own Letter and May, and the law's awake. Conditions: the variable letters lies as its initialiser leaves it. -/
import Derived.Test.YtoacfopekgfbcaaDoorRulRef
namespace Go.Proofs.YtoacfopekgfbcaaDoor
open Go.RowKit Go.Maps
set_option linter.unusedVariables false
set_option linter.unusedSimpArgs false

set_option maxHeartbeats 1000000 in
set_option maxRecDepth 100000 in
theorem ref_letter (k : Int) (hk : rulS k) (w : World) : Calls Tryd.prog 12 #[.int .i64 k] w fun e w' => e = .returned (.int .u8 (letV k)) ∧ Below w.heap.size w w' := by
  obtain ⟨k1, k2⟩ := hk
  have hb0 := (Below.refl w.heap.size w).alloc (Nat.le_refl _) (.cells ruLCells 5)
  have HB := Lib.hid hb0
  by_cases h1 : k < 1
  · have HZ := Lib.hid (show letV k = 0 by
      unfold letV
      by_cases h : 0 ≤ k ∧ k < 16
      · rw [if_pos h, show k = 0 by omega]; rfl
      · rw [if_neg h])
    clear k1 k2 hb0
    go_enter Tryd.func12, Tryd.ntmps12
    go_wp2_with fail
    go_ret
    exact ⟨by rw [HZ.out]; rfl, HB.out⟩
  · by_cases h2 : 15 < k
    · have HZ := Lib.hid (show letV k = 0 by unfold letV; rw [if_neg (by omega)])
      clear k1 k2 hb0
      go_enter Tryd.func12, Tryd.ntmps12
      go_wp2_with fail
      go_ret
      exact ⟨by rw [HZ.out]; rfl, HB.out⟩
    · obtain ⟨m, rfl⟩ : ∃ m : Nat, k = (m : Int) + 1 := ⟨(k - 1).toNat, by omega⟩
      have c0 := ruL_at (w.alloc (.cells ruLCells 5)) w.heap.size (heap_alloc_new _ _) m (by omega)
      have hm0 : (0 : Int) ≤ (m : Int) := by omega
      have hm2 : (m : Int) < 15 := by omega
      have hwm : IntKind.i64.wrap (m : Int) = (m : Int) := IntWalk.i64_in _ (by omega)
      clear k1 k2 h1 h2 hb0
      unfold ruLCells at *
      go_enter Tryd.func12, Tryd.ntmps12
      go_upto_region 2 with fail
      generalize w.alloc (.cells #[.int .u8 66, .int .u8 67, .int .u8 69, .int .u8 70, .int .u8 74, .int .u8 75, .int .u8 68, .int .u8 65, .int .u8 76, .int .u8 71, .int .u8 72, .int .u8 73, .int .u8 0, .int .u8 0, .int .u8 77] 5) = W at *
      go_wp2_with fail
      go_ret
      exact ⟨rfl, HB.out⟩

theorem mayV_none (s q : Int) (h : s < 1 ∨ 10 < s ∨ q < 1 ∨ 11 < q) : mayV s q = false := by
  unfold mayV rulR'
  by_cases hs : 1 ≤ s ∧ s ≤ 10
  · rw [if_pos hs, atB_none _ _ (by have := rulR_11 (s.toNat - 1) (by omega); omega)]
    rfl
  · rw [if_neg hs, atB_empty]
    rfl
theorem mayV_any (m j : Nat) (hm : m < 10) (h7 : 7 ≤ j) (hj : j < 11) : mayV ((m : Int) + 1) ((j : Int) + 1) = true := by
  have hc : ∀ (m : Fin 10) (j : Fin 4), mayV ((m.val : Int) + 1) (((7 + j.val : Nat) : Int) + 1) = true := by decide +kernel
  have := hc ⟨m, hm⟩ ⟨j - 7, by omega⟩
  rwa [show 7 + (j - 7) = j by omega] at this

set_option maxHeartbeats 4000000 in
set_option maxRecDepth 100000 in
theorem ref_may (s q : Int) (hs : rulS s) (hk : rulS q) (w : World) : Calls Tryd.prog 14 #[.int .i64 s, .int .i64 q] w fun e w' => e = .returned (.bool (mayV s q)) ∧ w' = w := by
  obtain ⟨s1, s2⟩ := hs
  obtain ⟨k1, k2⟩ := hk
  by_cases h1 : s < 1
  · have HZ := Lib.hid (mayV_none s q (by omega))
    clear s1 s2 k1 k2
    go_enter Tryd.func14, Tryd.ntmps14
    go_wp2_with fail
    go_ret
    exact ⟨by rw [HZ.out]; rfl, rfl⟩
  · by_cases h2 : 10 < s
    · have HZ := Lib.hid (mayV_none s q (by omega))
      clear s1 s2 k1 k2
      go_enter Tryd.func14, Tryd.ntmps14
      go_wp2_with fail
      go_ret
      exact ⟨by rw [HZ.out]; rfl, rfl⟩
    · have hc : s = 1 ∨ s = 2 ∨ s = 3 ∨ s = 4 ∨ s = 5 ∨ s = 6 ∨ s = 7 ∨ s = 8 ∨ s = 9 ∨ s = 10 := by omega
      by_cases hq : 1 ≤ q ∧ q ≤ 7
      · have hd : q = 1 ∨ q = 2 ∨ q = 3 ∨ q = 4 ∨ q = 5 ∨ q = 6 ∨ q = 7 := by omega
        clear s1 s2 k1 k2 h1 h2 hq
        rcases hd with rfl | rfl | rfl | rfl | rfl | rfl | rfl
        all_goals
          rcases hc with rfl | rfl | rfl | rfl | rfl | rfl | rfl | rfl | rfl | rfl
          all_goals
            as_aux_lemma =>
              go_enter Tryd.func14, Tryd.ntmps14
              go_wp2_with fail
              go_ret
              exact ⟨by first | rfl | decide +kernel, rfl⟩
      · have b1 : (q == 1) = false := beq_false_of_ne (by omega)
        have b2 : (q == 2) = false := beq_false_of_ne (by omega)
        have b3 : (q == 3) = false := beq_false_of_ne (by omega)
        have b4 : (q == 4) = false := beq_false_of_ne (by omega)
        have b5 : (q == 5) = false := beq_false_of_ne (by omega)
        have b6 : (q == 6) = false := beq_false_of_ne (by omega)
        have b7 : (q == 7) = false := beq_false_of_ne (by omega)
        have hs1 : 1 ≤ s := by omega
        have hs2 : s ≤ 10 := by omega
        by_cases h8 : q < 8
        · have HZ := Lib.hid (mayV_none s q (by omega))
          clear s1 s2 k1 k2 hc hq h1 h2
          go_enter Tryd.func14, Tryd.ntmps14
          go_wp2_with fail
          go_ret
          exact ⟨by rw [HZ.out]; first | rfl | simp, rfl⟩
        · by_cases h11 : q ≤ 11
          · have HZ := Lib.hid (show mayV s q = true by
              have := mayV_any (s - 1).toNat (q - 1).toNat (by omega) (by omega) (by omega)
              rwa [show (((s - 1).toNat : Nat) : Int) + 1 = s by omega, show (((q - 1).toNat : Nat) : Int) + 1 = q by omega] at this)
            clear s1 s2 k1 k2 hc hq h1 h2
            go_enter Tryd.func14, Tryd.ntmps14
            go_wp2_with fail
            go_ret
            exact ⟨by rw [HZ.out]; first | rfl | simp, rfl⟩
          · have HZ := Lib.hid (mayV_none s q (by omega))
            clear s1 s2 k1 k2 hc hq h1 h2
            go_enter Tryd.func14, Tryd.ntmps14
            go_wp2_with fail
            go_ret
            exact ⟨by rw [HZ.out]; first | rfl | simp, rfl⟩

theorem rul_ofc (s k r : Int) (hs : rulS s) (hk : rulS k) (e : ofV s k = r) (w : World) : Calls Tryd.prog 9 #[.int .i64 s, .int .i64 k] w fun e w' => e = .returned (.int .i64 r) ∧ Below w.heap.size w w' := e ▸ rul_of s k hs hk w
theorem rul_mayc (s q : Int) (r : Bool) (hs : rulS s) (hk : rulS q) (e : mayV s q = r) (w : World) : Calls Tryd.prog 13 #[.int .i64 s, .int .i64 q] w fun e w' => e = .returned (.bool r) ∧ Below w.heap.size w w' := e ▸ rul_may s q hs hk w

set_option maxHeartbeats 1000000 in
set_option maxRecDepth 100000 in
theorem rul_awake (w : World) (hL : LetIn w) : Calls Tryd.prog 8 #[] w fun e w' => e = .returned (.bool true) ∧ Below w.heap.size w w' := by
  have HL := Lib.hid hL
  have H1 := Lib.hid (rul_ofc 1 8 3 ⟨by decide, by decide⟩ ⟨by decide, by decide⟩ (by decide +kernel))
  have H2 := Lib.hid (rul_ofc 2 8 0 ⟨by decide, by decide⟩ ⟨by decide, by decide⟩ (by decide +kernel))
  have H3 := Lib.hid (fun W h => show Calls Tryd.prog 11 #[.int .i64 8] W fun e w' => e = .returned (.int .u8 65) ∧ w' = W from rul_letter 8 ⟨by decide, by decide⟩ W h)
  have H4 := Lib.hid (rul_mayc 1 1 true ⟨by decide, by decide⟩ ⟨by decide, by decide⟩ (by decide +kernel))
  have H5 := Lib.hid (fun W => show Calls Tryd.prog 15 #[.int .i64 10] W fun e w' => e = .returned (.string ⟨#[114, 101, 97, 100, 121]⟩) ∧ Below W.heap.size W w' from rul_name 10 W ⟨by decide, by decide⟩)
  clear hL
  go_enter Tryd.func8, Tryd.ntmps8
  go_wp2_with fail
  refine (H1.out _).mono ?_
  rintro e w1 ⟨rfl, hb⟩
  have HB1 := Lib.hid hb
  clear hb
  go_wp2_with fail
  refine (H2.out _).mono ?_
  rintro e w2 ⟨rfl, hb⟩
  have HB2 := Lib.hid (HB1.out.trans (hb.mono HB1.out.size))
  clear hb HB1
  go_wp2_with fail
  refine (H3.out _ (HL.out.next HB2.out)).mono ?_
  rintro e w3 ⟨rfl, rfl⟩
  go_wp2_with fail
  refine (H4.out _).mono ?_
  rintro e w4 ⟨rfl, hb⟩
  have HB4 := Lib.hid (HB2.out.trans (hb.mono HB2.out.size))
  clear hb HB2
  go_wp2_with fail
  refine (H5.out _).mono ?_
  rintro e w5 ⟨rfl, hb⟩
  have HB5 := Lib.hid (HB4.out.trans (hb.mono HB4.out.size))
  clear hb HB4
  go_wp2_with fail
  go_ret
  exact ⟨rfl, HB5.out⟩
end Go.Proofs.YtoacfopekgfbcaaDoor
