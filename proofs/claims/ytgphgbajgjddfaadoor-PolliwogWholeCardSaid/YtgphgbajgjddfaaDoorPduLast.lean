/- The contract of package pdu's last. Conditions: the numbers fit their kinds. -/
import Derived.Test.YtgphgbajgjddfaaDoorPduWords
namespace Go.Proofs.YtgphgbajgjddfaaDoor
open Go.RowKit
set_option linter.unusedVariables false
set_option linter.unusedSimpArgs false

/-- The last word. -/
def lastW (f k : Nat) (n : Int) (se : Bool) : Int := (f : Int) * 1073741824 + (if se = true then 536870912 else 0) + (k : Int) * 16777216 + n
theorem or_add (q r i : Nat) (h : r < 2 ^ i) : (2 ^ i * q) ||| r = 2 ^ i * q + r := (Nat.two_pow_add_eq_or_of_lt h q).symm
theorem last_no (f k m : Nat) (hf : f ≤ 3) (hk : k ≤ 15) (hm : m ≤ 16777215) : bits .or .u32 (bits .or .u32 ((f : Int) * 1073741824) ((k : Int) * 16777216)) (m : Int) = lastW f k m false := by
  have e1 : ((f : Int) * 1073741824) = ((2 ^ 30 * f : Nat) : Int) := by simp [Int.mul_comm]
  have e2 : ((k : Int) * 16777216) = ((2 ^ 24 * k : Nat) : Int) := by simp [Int.mul_comm]
  rw [e1, e2, u32_or_nat _ _ (by omega) (by omega), or_add f (2 ^ 24 * k) 30 (by omega), u32_or_nat _ _ (by omega) (by omega)]
  rw [show 2 ^ 30 * f + 2 ^ 24 * k = 2 ^ 24 * (64 * f + k) by omega, or_add (64 * f + k) m 24 (by omega)]
  unfold lastW
  simp only [Bool.false_eq_true, if_false]
  omega
theorem last_yes (f k m : Nat) (hf : f ≤ 3) (hk : k ≤ 15) (hm : m ≤ 16777215) : bits .or .u32 (bits .or .u32 (bits .or .u32 ((f : Int) * 1073741824) ((k : Int) * 16777216)) (m : Int)) 536870912 = lastW f k m true := by
  rw [last_no f k m hf hk hm]
  have e : lastW f k m false = ((2 ^ 30 * f + (2 ^ 24 * k + m) : Nat) : Int) := by unfold lastW; simp only [Bool.false_eq_true, if_false]; omega
  have e3 : (536870912 : Int) = ((536870912 : Nat) : Int) := rfl
  rw [e, e3, u32_or_nat _ _ (by omega) (by omega), ← or_add f (2 ^ 24 * k + m) 30 (by omega), Nat.or_assoc, Nat.or_comm (2 ^ 24 * k + m) 536870912]
  rw [show (536870912 : Nat) = 2 ^ 29 * 1 by decide, or_add 1 (2 ^ 24 * k + m) 29 (by omega), or_add f _ 30 (by omega)]
  unfold lastW
  simp only [if_true]
  omega
set_option maxHeartbeats 1000000 in
set_option maxRecDepth 100000 in
theorem pdu_last (f k : Nat) (sq n ps mr : Int) (p : Option Addr) (len cap : Nat) (se : Bool) (d : ByteArray) (w : World) (hf : f ≤ 3) (hk : k ≤ 15) (h1 : 0 ≤ n ∧ n ≤ 16777215) :
    Calls Tryd.prog 27 #[.agg #[.int .i64 (k : Int), .int .i64 sq, .int .u32 n, .int .u32 ps, .int .u32 mr, .slice p len cap, .bool se, .string d], .int .i64 (f : Int)] w fun e w' => e = .returned (.int .u32 (lastW f k n se)) ∧ Below w.heap.size w w' := by
  obtain ⟨m, rfl⟩ : ∃ m : Nat, n = (m : Int) := ⟨n.toNat, by omega⟩
  have hno := Lib.hid (last_no f k m hf hk (by omega))
  have hyes := Lib.hid (last_yes f k m hf hk (by omega))
  obtain ⟨x0, x1, x2, x3, x4, x5, x6, x7⟩ := box_new w (k : Int) sq (m : Int) ps mr (.slice p len cap) se d
  have HB := Lib.hid ((Below.refl _ w).alloc (Nat.le_refl _) (.cells #[.int .i64 (k : Int), .int .i64 sq, .int .u32 (m : Int), .int .u32 ps, .int .u32 mr, .slice p len cap, .bool se, .string d] 32))
  go_enter Tryd.func27, Tryd.ntmps27
  go_upto_region 1 with fail
  generalize w.alloc (.cells #[.int .i64 (k : Int), .int .i64 sq, .int .u32 (m : Int), .int .u32 ps, .int .u32 mr, .slice p len cap, .bool se, .string d] 32) = W at *
  cases se
  · go_wp2_with fail
    go_ret
    exact ⟨by rw [← hno.out]; rfl, HB.out⟩
  · go_wp2_with fail
    go_ret
    exact ⟨by rw [← hyes.out]; rfl, HB.out⟩
end Go.Proofs.YtgphgbajgjddfaaDoor
