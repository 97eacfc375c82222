/- The contracts of package event's Check and of the document's own. Conditions: event's variables lie as their initialisers leave them. -/
import Derived.Test.YtnocckgbcjienaaDoorEvLaid
import Derived.Test.YtnocckgbcjienaaDoorSeqBase
import Derived.Deep.QuietTactic
import Derived.BigQuiet
import Derived.IntWalk
import Derived.Deep.RegionHeld3
import Derived.RegionTactic
import Derived.Deep.Cut
import Derived.StillTailTactics
namespace Go.Proofs.YtnocckgbcjienaaDoor
open Go.RowKit
set_option linter.unusedVariables false
set_option linter.unusedSimpArgs false

/-- The least N of a kind. -/
def roomL (k : Nat) : Int := if k = 10 then 1 else 0
theorem room_low (k : Nat) : (roomN k = 0 ∧ roomL k = 0) ∨ (roomN k = 64 ∧ roomL k = 1) := by
  unfold roomN roomL
  split <;> simp
def reqV (k : Nat) (d : ByteArray) (n : Int) : Int :=
  if (decide (0 < roomD k) && decide (roomD k < (d.size : Int))) = true then 6 else if (decide (roomD k < (d.size : Int)) || decide (n < roomL k) || decide (roomN k < n)) = true then 1 else 0
def reqA (k : Int) (d : ByteArray) (n : Int) : Int := if 1 ≤ k ∧ k ≤ 11 then reqV k.toNat d n else 10

theorem req_new (w : World) (k n : Int) (d : ByteArray) : (w.alloc (.cells #[.int .i64 k, .string d, .int .i64 n] 23)).cell? ⟨w.heap.size, 0, none⟩ = some (.int .i64 k) ∧ (w.alloc (.cells #[.int .i64 k, .string d, .int .i64 n] 23)).cell? ⟨w.heap.size, 1, none⟩ = some (.string d) ∧ (w.alloc (.cells #[.int .i64 k, .string d, .int .i64 n] 23)).cell? ⟨w.heap.size, 2, none⟩ = some (.int .i64 n) := by
  have hn := heap_alloc_new w (.cells #[.int .i64 k, .string d, .int .i64 n] 23)
  refine ⟨?_, ?_, ?_⟩
  · rw [cell_of_row _ _ 0 _ _ (0, 0) hn]; rfl
  · rw [cell_of_row _ _ 1 _ _ (0, 0) hn]; rfl
  · rw [cell_of_row _ _ 2 _ _ (0, 0) hn]; rfl
set_option maxHeartbeats 4000000 in
set_option maxRecDepth 100000 in
theorem ev_check (k n : Int) (d : ByteArray) (w : World) (hS : VarsIn w) :
    Calls Tryd.prog 11 #[.agg #[.int .i64 k, .string d, .int .i64 n]] w fun e w' => e = .returned (.int .i64 (reqA k d n)) ∧ Below w.heap.size w w' := by
  obtain ⟨x0, x1, x2⟩ := req_new w k n d
  have HB := Lib.hid ((Below.refl _ w).alloc (Nat.le_refl _) (.cells #[.int .i64 k, .string d, .int .i64 n] 23))
  have HS := Lib.hid (hS.next HB.out)
  have hlt : w.heap.size < (w.alloc (.cells #[.int .i64 k, .string d, .int .i64 n] 23)).heap.size := by simp
  by_cases h1 : 1 ≤ k
  · by_cases h2 : k ≤ 11
    · obtain ⟨j, rfl⟩ : ∃ j : Nat, k = (j : Int) := ⟨k.toNat, by omega⟩
      have HV : Hid (reqA (j : Int) d n = if (decide (0 < roomD j) && decide (roomD j < (d.size : Int))) = true then 6 else if (decide (roomD j < (d.size : Int)) || decide (n < roomL j) || decide (roomN j < n)) = true then 1 else 0) := by show _ = _; unfold reqA; rw [if_pos ⟨h1, h2⟩, Int.toNat_natCast]; rfl
      have hj : j < 12 := by omega
      have c0 := HS.out.room0 hj
      have c1 := HS.out.room1 hj
      have d1 : decide ((j : Int) < 1) = false := decide_eq_false (by omega)
      have d2 : decide (11 < (j : Int)) = false := decide_eq_false (by omega)
      have hj0 : (0 : Int) ≤ (j : Int) := by omega
      have hj1 : (j : Int) < 12 := by omega
      generalize reqA (j : Int) d n = V at *
      generalize roomD j = D at *
      have hlow := room_low j
      generalize roomN j = N at *
      generalize roomL j = L at *
      go_enter Tryd.func11, Tryd.ntmps11
      go_upto_region 1 with fail
      generalize w.alloc (.cells #[.int .i64 (j : Int), .string d, .int .i64 n] 23) = w2 at *
      go_upto_region 3 with fail
      go_region_held3 (fun w' => w'.cell? ⟨w.heap.size, 0, none⟩ = some (.int .i64 (j : Int)) ∧ w'.cell? ⟨w.heap.size, 1, none⟩ = some (.string d) ∧ w'.cell? ⟨w.heap.size, 2, none⟩ = some (.int .i64 n) ∧ w'.cell? ⟨0, j * 2, none⟩ = some (.int .i64 D) ∧ w'.cell? ⟨0, j * 2 + 1, none⟩ = some (.int .i64 N))
        (first | go_keep)
        (first | fail)
      have hb3 : Below w2.heap.size w2 ((w2.alloc (.cells #[.int .i64 D, .int .i64 N] 47)).drew) := ((Below.refl _ _).alloc (Nat.le_refl _) _).drew
      have hn := heap_alloc_new w2 (.cells #[.int .i64 D, .int .i64 N] 47)
      have y0 : ((w2.alloc (.cells #[.int .i64 D, .int .i64 N] 47)).drew).cell? ⟨w2.heap.size, 0, none⟩ = some (.int .i64 D) := by
        show (w2.alloc (.cells #[.int .i64 D, .int .i64 N] 47)).cell? _ = _
        rw [cell_of_row _ _ 0 _ _ (0, 0) hn]; rfl
      have y1 : ((w2.alloc (.cells #[.int .i64 D, .int .i64 N] 47)).drew).cell? ⟨w2.heap.size, 1, none⟩ = some (.int .i64 N) := by
        show (w2.alloc (.cells #[.int .i64 D, .int .i64 N] 47)).cell? _ = _
        rw [cell_of_row _ _ 1 _ _ (0, 0) hn]; rfl
      have z2 : ((w2.alloc (.cells #[.int .i64 D, .int .i64 N] 47)).drew).cell? ⟨w.heap.size, 2, none⟩ = some (.int .i64 n) := by rw [hb3.cell (p := ⟨w.heap.size, 2, none⟩) hlt]; exact x2
      have HB3 := Lib.hid (HB.out.trans (hb3.mono HB.out.size))
      clear x0 x1 x2 c0 c1 hn hb3
      generalize (w2.alloc (.cells #[.int .i64 D, .int .i64 N] 47)).drew = w3 at *
      rcases hlow with ⟨rfl, rfl⟩ | ⟨rfl, rfl⟩
      · cases b1 : decide (0 < D) <;> cases b2 : decide (D < (d.size : Int)) <;> cases b3 : decide (n < 0) <;> cases b4 : decide (0 < n)
        all_goals
          go_wp2_with fail
          go_ret
          exact ⟨by rw [HV.out, b1, b2, b3, b4]; rfl, HB3.out⟩
      · cases b1 : decide (0 < D) <;> cases b2 : decide (D < (d.size : Int)) <;> cases b3 : decide (n < 1) <;> cases b4 : decide (64 < n)
        all_goals
          go_wp2_with fail
          go_ret
          exact ⟨by rw [HV.out, b1, b2, b3, b4]; rfl, HB3.out⟩
    · have d1 : decide (k < 1) = false := decide_eq_false (by omega)
      have d2 : decide (11 < k) = true := decide_eq_true (by omega)
      have HV : Hid (reqA k d n = 10) := by show _ = _; unfold reqA; rw [if_neg (by omega)]
      rw [HV.out]
      go_enter Tryd.func11, Tryd.ntmps11
      go_wp2_with fail
      go_ret
      exact ⟨rfl, HB.out⟩
  · have d1 : decide (k < 1) = true := decide_eq_true (by omega)
    have HV : Hid (reqA k d n = 10) := by show _ = _; unfold reqA; rw [if_neg (by omega)]
    rw [HV.out]
    go_enter Tryd.func11, Tryd.ntmps11
    go_wp2_with fail
    go_ret
    exact ⟨rfl, HB.out⟩
end Go.Proofs.YtnocckgbcjienaaDoor
