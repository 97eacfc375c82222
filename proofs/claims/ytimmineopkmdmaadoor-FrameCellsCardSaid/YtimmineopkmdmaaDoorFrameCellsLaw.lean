/- The walk of the law FrameCells. Conditions: the number is one of 64 bits. -/
import Derived.Test.YtimmineopkmdmaaDoorFrameAwake
namespace Go.Proofs.YtimmineopkmdmaaDoor
open Go.RowKit Go.Shelf
set_option linter.unusedVariables false
set_option linter.unusedSimpArgs false

theorem cells_facts (n M : Int) (hM : M = min (max n 0) 1099511627776) : M + 8 ≤ 48 * cellsOf (min n 1099511627776) ∧ 48 * (cellsOf (min n 1099511627776) - 1) < M + 8 ∧ cellsOf (min n 1099511627776) ≤ cellsOf (M + 1) ∧ cellsOf (M + 48) = cellsOf (min n 1099511627776) + 1 ∧ 0 ≤ cellsOf (min n 1099511627776) ∧ cellsOf (min n 1099511627776) ≤ 1099511627776 ∧ 0 ≤ M ∧ M ≤ 1099511627776 := by
  unfold cellsOf
  omega

set_option maxHeartbeats 1000000 in
set_option maxRecDepth 100000 in
theorem walk_FrameCells (n : Int) (w : World) (h1 : -9223372036854775808 ≤ n) (h2 : n ≤ 9223372036854775807) :
    Calls Tryd.prog 8 #[.int .i64 n] w fun e w' => e = .returned (.bool true) ∧ Below w.heap.size w w' := by
  go_enter Tryd.func8, Tryd.ntmps8
  go_wp2_with fail
  refine (frame_awake _).mono ?_
  rintro e w1 ⟨rfl, hb1⟩
  have HB := Lib.hid hb1
  clear hb1
  go_upto_region 4 with fail
  go_cut [3] (fun s3 w' => ∃ M : Int, s3 = .int .i64 M ∧ Hid (M = min (max n 0) 1099511627776) ∧ w1 = w')
  case first =>
    go_wp2_with fail
    all_goals go_meet
    all_goals exact ⟨_, rfl, (by show _ = _; omega), rfl⟩
  case rest =>
    obtain ⟨M, rfl, HM, rfl⟩ := hcut
    obtain ⟨k1, k2, k3, k4, k5, k6, k7, k8⟩ := cells_facts n M HM.out
    have HC1 := Lib.hid (fun W => cells (M + 1) W (by omega) (by omega))
    have HC2 := Lib.hid (fun W => cells (M + 48) W (by omega) (by omega))
    have HC0 := Lib.hid (fun W => cells (min n 1099511627776) W (by omega) (by omega))
    generalize cellsOf (min n 1099511627776) = C at *
    generalize cellsOf (M + 1) = C1 at *
    generalize cellsOf (M + 48) = C2 at *
    subst k4
    have d1 : decide (M + 8 ≤ 48 * C) = true := by simp only [decide_eq_true_eq]; omega
    have d2 : decide (48 * (C - 1) < M + 8) = true := by simp only [decide_eq_true_eq]; omega
    have d3 : decide (C ≤ C1) = true := by simp only [decide_eq_true_eq]; omega
    have d4 : (C + 1 == C + 1) = true := by simp
    have D1 := Lib.hid k1
    have D2 := Lib.hid k2
    have D3 := Lib.hid k3
    clear k1 k2 k3
    go_wp2_with fail
    refine (HC0.out _).mono ?_
    rintro e w2 ⟨rfl, rfl⟩
    go_wp2_with fail
    refine (HC1.out _).mono ?_
    rintro e w2 ⟨rfl, rfl⟩
    go_wp2_with fail
    refine (HC2.out _).mono ?_
    rintro e w2 ⟨rfl, rfl⟩
    go_wp2_with fail
    go_ret
    exact ⟨rfl, HB.out⟩
end Go.Proofs.YtimmineopkmdmaaDoor
