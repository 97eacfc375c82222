/- The document's own Of, Letter, May, and the law's awake. Conditions: the variable letters lies as its initialiser leaves it. -/
import Derived.Test.YtoacfopekgfbcaaDoorRulFns
namespace Go.Proofs.YtoacfopekgfbcaaDoor
open Go.RowKit Go.Maps
set_option linter.unusedVariables false
set_option linter.unusedSimpArgs false

def ruUCells : Array Value := #[.string ⟨#[72, 82, 72, 46, 82, 82, 87, 82, 82, 82, 82, 82, 72, 72, 82]⟩, .string ⟨#[72, 72, 46, 46, 46, 46, 72, 46, 46, 46, 46, 46, 72, 72, 46]⟩, .string ⟨#[72, 87, 72, 87, 87, 87, 87, 87, 87, 87, 87, 87, 72, 72, 87]⟩, .string ⟨#[72, 46, 72, 72, 46, 46, 72, 46, 46, 46, 46, 46, 72, 72, 46]⟩, .string ⟨#[72, 46, 72, 70, 72, 72, 70, 46, 46, 46, 46, 46, 72, 72, 46]⟩, .string ⟨#[72, 46, 72, 70, 72, 46, 70, 46, 46, 46, 46, 46, 72, 72, 46]⟩, .string ⟨#[72, 46, 72, 70, 72, 46, 70, 46, 72, 46, 46, 46, 72, 72, 72]⟩, .string ⟨#[72, 46, 72, 70, 72, 46, 70, 46, 72, 46, 46, 46, 72, 72, 46]⟩, .string ⟨#[72, 46, 72, 70, 72, 46, 70, 46, 72, 46, 46, 46, 72, 72, 46]⟩, .string ⟨#[72, 46, 72, 70, 72, 46, 70, 72, 72, 72, 72, 72, 72, 72, 46]⟩]
def ruNCells : Array Value := #[.string ⟨#[105, 100, 108, 101]⟩, .string ⟨#[111, 117, 116, 103, 111, 105, 110, 103]⟩, .string ⟨#[105, 110, 99, 111, 109, 105, 110, 103]⟩, .string ⟨#[108, 101, 97, 118, 105, 110, 103]⟩, .string ⟨#[114, 101, 115, 121, 110, 99, 105, 110, 103]⟩, .string ⟨#[114, 101, 115, 121, 110, 99, 101, 100]⟩, .string ⟨#[114, 101, 99, 111, 118, 101, 114, 105, 110, 103]⟩, .string ⟨#[97, 110, 115, 119, 101, 114, 101, 100]⟩, .string ⟨#[114, 101, 99, 111, 118, 101, 114, 101, 100]⟩, .string ⟨#[114, 101, 97, 100, 121]⟩]
def ruLCells : Array Value := #[.int .u8 66, .int .u8 67, .int .u8 69, .int .u8 70, .int .u8 74, .int .u8 75, .int .u8 68, .int .u8 65, .int .u8 76, .int .u8 71, .int .u8 72, .int .u8 73, .int .u8 0, .int .u8 0, .int .u8 77]
theorem ruU_at (w : World) (b : Nat) (h : w.heap[b]? = some (.cells ruUCells 9 (0, 0))) (m : Nat) (hm : m < 10) : w.cell? ⟨b, m, none⟩ = some (.string (rulU m)) := by
  have hc : m = 0 ∨ m = 1 ∨ m = 2 ∨ m = 3 ∨ m = 4 ∨ m = 5 ∨ m = 6 ∨ m = 7 ∨ m = 8 ∨ m = 9 := by omega
  rcases hc with rfl | rfl | rfl | rfl | rfl | rfl | rfl | rfl | rfl | rfl <;> (rw [rul_blk h]; rfl)
theorem ruN_at (w : World) (b : Nat) (h : w.heap[b]? = some (.cells ruNCells 9 (0, 0))) (m : Nat) (hm : m < 10) : w.cell? ⟨b, m, none⟩ = some (.string (rulN m)) := by
  have hc : m = 0 ∨ m = 1 ∨ m = 2 ∨ m = 3 ∨ m = 4 ∨ m = 5 ∨ m = 6 ∨ m = 7 ∨ m = 8 ∨ m = 9 := by omega
  rcases hc with rfl | rfl | rfl | rfl | rfl | rfl | rfl | rfl | rfl | rfl <;> (rw [rul_blk h]; rfl)
theorem ruL_at (w : World) (b : Nat) (h : w.heap[b]? = some (.cells ruLCells 5 (0, 0))) (m : Nat) (hm : m < 15) : w.cell? ⟨b, m, none⟩ = some (.int .u8 (letV ((m : Int) + 1))) := by
  have hc : m = 0 ∨ m = 1 ∨ m = 2 ∨ m = 3 ∨ m = 4 ∨ m = 5 ∨ m = 6 ∨ m = 7 ∨ m = 8 ∨ m = 9 ∨ m = 10 ∨ m = 11 ∨ m = 12 ∨ m = 13 ∨ m = 14 := by omega
  rcases hc with rfl | rfl | rfl | rfl | rfl | rfl | rfl | rfl | rfl | rfl | rfl | rfl | rfl | rfl | rfl <;> (rw [rul_blk h]; rfl)
theorem rulU_15 (m : Nat) (hm : m < 10) : (rulU m).size = 15 := by
  have hc : ∀ j : Fin 10, (rulU j.val).size = 15 := by decide +kernel
  exact hc ⟨m, hm⟩
theorem rulR_11 (m : Nat) (hm : m < 10) : (rulR m).size = 11 := by
  have hc : ∀ j : Fin 10, (rulR j.val).size = 11 := by decide +kernel
  exact hc ⟨m, hm⟩
theorem atB_none (t : ByteArray) (k : Int) (h : k < 1 ∨ (t.size : Int) < k) : atB t k = 0 := by
  unfold atB
  rw [if_neg (by omega)]
theorem atB_empty (k : Int) : atB ⟨#[]⟩ k = 0 := by
  unfold atB
  rw [if_neg (by show ¬ (1 ≤ k ∧ k ≤ ((0 : Nat) : Int)); omega)]
theorem ofV_none (s k : Int) (h : s < 1 ∨ 10 < s ∨ k < 1 ∨ 15 < k) : ofV s k = 0 := by
  unfold ofV rulU'
  by_cases hs : 1 ≤ s ∧ s ≤ 10
  · rw [if_pos hs, atB_none _ _ (by have := rulU_15 (s.toNat - 1) (by omega); omega)]
    decide
  · rw [if_neg hs, atB_empty]
    decide
theorem ofV_in (m j : Nat) (hm : m < 10) (hj : j < 15) : ofV ((m : Int) + 1) ((j : Int) + 1) = deed (atB (rulU m) ((j : Int) + 1)) := by
  unfold ofV rulU'
  rw [if_pos (by omega), show ((m : Int) + 1).toNat - 1 = m by omega]

set_option maxHeartbeats 1000000 in
set_option maxRecDepth 100000 in
theorem ref_rows (w : World) : Calls Tryd.prog 19 #[] w fun e w' => e = .returned (.slice (some ⟨w.heap.size, 0, none⟩) 10 10) ∧ w' = w.alloc (.cells ruUCells 9) := by
  go_enter Tryd.func19, Tryd.ntmps19
  go_wp2_with fail
  go_ret
  exact ⟨rfl, rfl⟩

set_option maxHeartbeats 2000000 in
set_option maxRecDepth 100000 in
theorem ref_of (s k : Int) (hs : rulS s) (hk : rulS k) (w : World) : Calls Tryd.prog 10 #[.int .i64 s, .int .i64 k] w fun e w' => e = .returned (.int .i64 (ofV s k)) ∧ Below w.heap.size w w' := by
  by_cases hin : (1 ≤ s ∧ s ≤ 10) ∧ 1 ≤ k ∧ k ≤ 15
  · obtain ⟨m, rfl⟩ : ∃ m : Nat, s = (m : Int) + 1 := ⟨(s - 1).toNat, by omega⟩
    obtain ⟨j, rfl⟩ : ∃ j : Nat, k = (j : Int) + 1 := ⟨(k - 1).toNat, by omega⟩
    have hm : m < 10 := by omega
    have hj : j < 15 := by omega
    rw [ofV_in m j hm hj]
    have hb0 := (Below.refl w.heap.size w).alloc (Nat.le_refl _) (.cells ruUCells 9)
    have HB := Lib.hid hb0
    have c0 := ruU_at (w.alloc (.cells ruUCells 9)) w.heap.size (heap_alloc_new _ _) m hm
    have HR := Lib.hid (ref_rows w)
    have hsz := rulU_15 m hm
    have hlt : j < (rulU m).size := by omega
    have HA := Lib.hid (atB_in (rulU m) j hlt)
    have hm2 : (m : Int) < 10 := by omega
    have hj2 : (j : Int) < 15 := by omega
    have hm0 : (0 : Int) ≤ (m : Int) := by omega
    have hj0 : (0 : Int) ≤ (j : Int) := by omega
    have hwm : IntKind.i64.wrap (m : Int) = (m : Int) := IntWalk.i64_in _ (by omega)
    have hwj : IntKind.i64.wrap (j : Int) = (j : Int) := IntWalk.i64_in _ (by omega)
    have hltI : (j : Int) < ((rulU m).size : Int) := by omega
    clear hs hk hin hb0 hsz
    go_enter Tryd.func10, Tryd.ntmps10
    go_wp2_with fail
    refine HR.out.mono ?_
    rintro e w1 ⟨rfl, rfl⟩
    generalize w.alloc (.cells ruUCells 9) = W at *
    go_upto_region 4 with fail
    clear HR
    generalize ((rulU m)[j].toNat : Int) = c at *
    by_cases e1 : c = 72
    · subst e1
      go_wp2_with fail
      go_ret
      exact ⟨by rw [HA.out]; rfl, HB.out⟩
    · by_cases e2 : c = 87
      · subst e2
        go_wp2_with fail
        go_ret
        exact ⟨by rw [HA.out]; rfl, HB.out⟩
      · by_cases e3 : c = 82
        · subst e3
          go_wp2_with fail
          go_ret
          exact ⟨by rw [HA.out]; rfl, HB.out⟩
        · by_cases e4 : c = 70
          · subst e4
            go_wp2_with fail
            go_ret
            exact ⟨by rw [HA.out]; rfl, HB.out⟩
          · have b1 : (c == 72) = false := beq_false_of_ne e1
            have b2 : (c == 87) = false := beq_false_of_ne e2
            have b3 : (c == 82) = false := beq_false_of_ne e3
            have b4 : (c == 70) = false := beq_false_of_ne e4
            have HD := Lib.hid (show deed c = 0 by unfold deed; rw [if_neg e1, if_neg e2, if_neg e3, if_neg e4])
            clear e1 e2 e3 e4
            go_wp2_with fail
            go_ret
            exact ⟨by rw [HA.out, HD.out]; rfl, HB.out⟩
  · have HZ := Lib.hid (ofV_none s k (by omega))
    obtain ⟨s1, s2⟩ := hs
    obtain ⟨k1, k2⟩ := hk
    by_cases h1 : s < 1
    · clear hin s1 s2 k1 k2
      go_enter Tryd.func10, Tryd.ntmps10
      go_wp2_with fail
      go_ret
      exact ⟨by rw [HZ.out]; rfl, Below.refl _ _⟩
    · by_cases h2 : 10 < s
      · clear hin s1 s2 k1 k2
        go_enter Tryd.func10, Tryd.ntmps10
        go_wp2_with fail
        go_ret
        exact ⟨by rw [HZ.out]; rfl, Below.refl _ _⟩
      · by_cases h3 : k < 1
        · clear hin s1 s2 k1 k2
          go_enter Tryd.func10, Tryd.ntmps10
          go_wp2_with fail
          go_ret
          exact ⟨by rw [HZ.out]; rfl, Below.refl _ _⟩
        · have h4 : 15 < k := by omega
          clear hin s1 s2 k1 k2
          go_enter Tryd.func10, Tryd.ntmps10
          go_wp2_with fail
          go_ret
          exact ⟨by rw [HZ.out]; rfl, Below.refl _ _⟩
end Go.Proofs.YtoacfopekgfbcaaDoor
