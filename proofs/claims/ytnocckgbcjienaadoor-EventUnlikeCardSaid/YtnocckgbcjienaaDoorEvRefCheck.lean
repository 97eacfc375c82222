/- The contract of the document's own Check of a request. No conditions. -/
import Derived.Test.YtnocckgbcjienaaDoorEvCheck
namespace Go.Proofs.YtnocckgbcjienaaDoor
open Go.RowKit
set_option linter.unusedVariables false
set_option linter.unusedSimpArgs false

theorem empty_size (d : ByteArray) : (d.toList == []) = decide (d.size = 0) := by
  rw [ByteArray.toList_eq, Bool.eq_iff_iff, beq_iff_eq, decide_eq_true_iff]
  constructor
  · intro h
    show d.data.size = 0
    rw [← Array.length_toList, h]; rfl
  · intro h
    apply List.eq_nil_of_length_eq_zero
    rw [Array.length_toList]; exact h
/-- The kinds with data, by their most. -/
theorem req_data (k : Nat) (D : Int) (d : ByteArray) (n : Int) (hk : 1 ≤ k ∧ k ≤ 11) (hD : roomD k = D) (h0 : 0 < D) (hn : roomN k = 0) : reqA (k : Int) d n = if D < (d.size : Int) then 6 else if n = 0 then 0 else 1 := by
  have hl : roomL k = 0 := by have := room_low k; omega
  unfold reqA reqV
  rw [if_pos (by omega), Int.toNat_natCast, hD, hn, hl]
  simp only [Bool.and_eq_true, Bool.or_eq_true, decide_eq_true_eq]
  repeat' split
  all_goals omega
theorem req_none (k : Nat) (d : ByteArray) (n : Int) (hk : 1 ≤ k ∧ k ≤ 11) (hD : roomD k = 0) (hn : roomN k = 0) : reqA (k : Int) d n = if d.size = 0 ∧ n = 0 then 0 else 1 := by
  have hl : roomL k = 0 := by have := room_low k; omega
  unfold reqA reqV
  rw [if_pos (by omega), Int.toNat_natCast, hD, hn, hl]
  simp only [Bool.and_eq_true, Bool.or_eq_true, decide_eq_true_eq]
  repeat' split
  all_goals omega
theorem req_take (d : ByteArray) (n : Int) : reqA 10 d n = if d.size = 0 ∧ 1 ≤ n ∧ n ≤ 64 then 0 else 1 := by
  unfold reqA reqV
  rw [if_pos (by omega)]
  show (if (decide ((0 : Int) < 0) && decide ((0 : Int) < (d.size : Int))) = true then 6 else if (decide ((0 : Int) < (d.size : Int)) || decide (n < 1) || decide (64 < n)) = true then 1 else 0) = _
  simp only [Bool.and_eq_true, Bool.or_eq_true, decide_eq_true_eq]
  repeat' split
  all_goals omega
set_option maxHeartbeats 4000000 in
set_option maxRecDepth 100000 in
theorem ev_ref_check (k n : Int) (d : ByteArray) (w : World) :
    Calls Tryd.prog 12 #[.int .i64 k, .string d, .int .i64 n] w fun e w' => e = .returned (.int .i64 (reqA k d n)) ∧ w' = w := by
  by_cases h1 : 1 ≤ k
  · by_cases h2 : k ≤ 11
    · have hE := empty_size d
      have HE := Lib.hid hE
      clear hE
      have hc : k = 1 ∨ k = 2 ∨ k = 3 ∨ k = 4 ∨ k = 5 ∨ k = 6 ∨ k = 7 ∨ k = 8 ∨ k = 9 ∨ k = 10 ∨ k = 11 := by omega
      have hcc : ((k = 1 ∨ k = 3 ∨ k = 4)) ∨ ((k = 7 ∨ k = 8 ∨ k = 9)) ∨ (k = 2 ∨ k = 5 ∨ k = 6 ∨ k = 11) ∨ k = 10 := by omega
      clear hc h1 h2
      rcases hcc with hc | hc | hc | rfl
      · have HV : Hid (reqA k d n = if (64 : Int) < (d.size : Int) then 6 else if n = 0 then 0 else 1) := by
          rcases hc with rfl | rfl | rfl
          · exact req_data 1 64 d n (by decide) rfl (by decide) rfl
          · exact req_data 3 64 d n (by decide) rfl (by decide) rfl
          · exact req_data 4 64 d n (by decide) rfl (by decide) rfl
        generalize reqA k d n = V at *
        cases b2 : decide ((64 : Int) < (d.size : Int)) <;> cases b3 : (n != 0) <;> rcases hc with rfl | rfl | rfl
        all_goals
          go_enter Tryd.func12, Tryd.ntmps12
          go_wp2_with fail
          go_ret
          refine ⟨congrArg (fun x => Ending.returned (Value.int IntKind.i64 x)) (HV.out.trans ?_).symm, rfl⟩
          simp only [decide_eq_true_eq, decide_eq_false_iff_not, bne_iff_ne, bne_eq_false_iff_eq] at b2 b3
          clear HE HV
          repeat' split
          all_goals first | rfl | (exfalso; omega)
      · have HV : Hid (reqA k d n = if (200 : Int) < (d.size : Int) then 6 else if n = 0 then 0 else 1) := by
          rcases hc with rfl | rfl | rfl
          · exact req_data 7 200 d n (by decide) rfl (by decide) rfl
          · exact req_data 8 200 d n (by decide) rfl (by decide) rfl
          · exact req_data 9 200 d n (by decide) rfl (by decide) rfl
        generalize reqA k d n = V at *
        cases b2 : decide ((200 : Int) < (d.size : Int)) <;> cases b3 : (n != 0) <;> rcases hc with rfl | rfl | rfl
        all_goals
          go_enter Tryd.func12, Tryd.ntmps12
          go_wp2_with fail
          go_ret
          refine ⟨congrArg (fun x => Ending.returned (Value.int IntKind.i64 x)) (HV.out.trans ?_).symm, rfl⟩
          simp only [decide_eq_true_eq, decide_eq_false_iff_not, bne_iff_ne, bne_eq_false_iff_eq] at b2 b3
          clear HE HV
          repeat' split
          all_goals first | rfl | (exfalso; omega)
      · have HV : Hid (reqA k d n = if d.size = 0 ∧ n = 0 then 0 else 1) := by
          rcases hc with rfl | rfl | rfl | rfl
          · exact req_none 2 d n (by decide) rfl rfl
          · exact req_none 5 d n (by decide) rfl rfl
          · exact req_none 6 d n (by decide) rfl rfl
          · exact req_none 11 d n (by decide) rfl rfl
        generalize reqA k d n = V at *
        cases b2 : (d.toList == []) <;> cases b3 : (n != 0) <;> rcases hc with rfl | rfl | rfl | rfl
        all_goals
          go_enter Tryd.func12, Tryd.ntmps12
          go_wp2_with fail
          go_ret
          refine ⟨congrArg (fun x => Ending.returned (Value.int IntKind.i64 x)) (HV.out.trans ?_).symm, rfl⟩
          rw [HE.out] at b2
          simp only [decide_eq_true_eq, decide_eq_false_iff_not, bne_iff_ne, bne_eq_false_iff_eq] at b2 b3
          clear HE HV
          repeat' split
          all_goals first | rfl | (exfalso; omega)
      · have HV : Hid (reqA 10 d n = if d.size = 0 ∧ 1 ≤ n ∧ n ≤ 64 then 0 else 1) := req_take d n
        generalize reqA 10 d n = V at *
        cases b2 : (d.toList == []) <;> cases b3 : decide (n < 1) <;> cases b4 : decide (64 < n)
        all_goals
          go_enter Tryd.func12, Tryd.ntmps12
          go_wp2_with fail
          go_ret
          refine ⟨congrArg (fun x => Ending.returned (Value.int IntKind.i64 x)) (HV.out.trans ?_).symm, rfl⟩
          rw [HE.out] at b2
          simp only [decide_eq_true_eq, decide_eq_false_iff_not] at b2 b3 b4
          clear HE HV
          repeat' split
          all_goals first | rfl | (exfalso; omega)
    · have d1 : decide (k < 1) = false := decide_eq_false (by omega)
      have d2 : decide (11 < k) = true := decide_eq_true (by omega)
      have HV : Hid (reqA k d n = 10) := by show _ = _; unfold reqA; rw [if_neg (by omega)]
      rw [HV.out]
      go_enter Tryd.func12, Tryd.ntmps12
      go_wp2_with fail
      go_ret
      exact ⟨rfl, rfl⟩
  · have d1 : decide (k < 1) = true := decide_eq_true (by omega)
    have HV : Hid (reqA k d n = 10) := by show _ = _; unfold reqA; rw [if_neg (by omega)]
    rw [HV.out]
    go_enter Tryd.func12, Tryd.ntmps12
    go_wp2_with fail
    go_ret
    exact ⟨rfl, rfl⟩
end Go.Proofs.YtnocckgbcjienaaDoor
