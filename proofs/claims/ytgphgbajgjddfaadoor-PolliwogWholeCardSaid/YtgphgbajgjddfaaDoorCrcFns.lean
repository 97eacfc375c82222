/- The contracts of package crc's plain functions and of the document's own sums: a register is a word of 32 bits. Conditions: none but that bytes are bytes. -/
import Derived.Test.YtgphgbajgjddfaaDoorRows
import Derived.Test.YtgphgbajgjddfaaDoorCrcMath
import Derived.Test.YtgphgbajgjddfaaDoorSeqBase
import Derived.WalkKit
import Derived.Laws.BitsAll
import Derived.Lib.Hide
namespace Go.Proofs.YtgphgbajgjddfaaDoor
open Go.RowKit Crc
set_option linter.unusedVariables false

theorem bv_lt (x : BitVec 32) : (x.toNat : Int) < 4294967296 := by have := x.isLt; omega
theorem bv_xor (x y : BitVec 32) : Go.bits .xor .u32 (x.toNat : Int) (y.toNat : Int) = ((x ^^^ y).toNat : Int) := by
  rw [u32_xor_nat _ _ x.isLt y.isLt, BitVec.toNat_xor]
theorem bv_poly (x : BitVec 32) : Go.bits .xor .u32 (x.toNat : Int) 79764919 = ((x ^^^ poly).toNat : Int) := bv_xor x poly
theorem bv_shl (x : BitVec 32) (n : Nat) : (x.toNat : Int) * 2 ^ n % 4294967296 = ((x <<< n).toNat : Int) := by
  rw [BitVec.toNat_shiftLeft, Nat.shiftLeft_eq]
  simp only [Int.natCast_emod, Int.natCast_mul, Int.natCast_pow]
  rfl
theorem bv_msb (x : BitVec 32) : x.msb = decide (2147483648 ≤ x.toNat) := by
  rw [BitVec.msb_eq_decide]
theorem bv_top (x : BitVec 32) : (Go.bits .and .u32 (x.toNat : Int) 2147483648 != 0) = x.msb := by
  have h := u32_and_nat x.toNat 2147483648 x.isLt (by decide)
  have h2 : x.toNat &&& 2147483648 = x.toNat / 2 ^ 31 % 2 * 2 ^ 31 := nat_bit 31 x.toNat
  have h3 : Go.bits .and .u32 (x.toNat : Int) 2147483648 = ((x.toNat &&& 2147483648 : Nat) : Int) := h
  have hx := x.isLt
  rw [h3, h2, bv_msb]
  by_cases c : 2147483648 ≤ x.toNat
  · have : x.toNat / 2 ^ 31 = 1 := by omega
    simp [this, c]
  · have : x.toNat / 2 ^ 31 = 0 := by omega
    simp [this, c]

theorem sh1_no (x : BitVec 32) (h : x.msb = false) : (x.toNat : Int) * 2 % 4294967296 = ((sh1 x).toNat : Int) := by
  have e : sh1 x = x <<< 1 := sh1_low x h
  rw [e, ← bv_shl x 1, show (2 : Int) ^ 1 = 2 from rfl]
theorem sh1_yes (x : BitVec 32) (h : x.msb = true) : Go.bits .xor .u32 ((x.toNat : Int) * 2 % 4294967296) 79764919 = ((sh1 x).toNat : Int) := by
  have e : sh1 x = (x <<< 1) ^^^ poly := by unfold sh1; rw [h]; rfl
  have e2 := bv_shl x 1
  rw [show (2 : Int) ^ 1 = 2 from rfl] at e2
  rw [e, e2, bv_poly]

theorem crc_shifted (x : BitVec 32) (w : World) :
    Calls Tryd.prog 17 #[.int .u32 (x.toNat : Int)] w fun e w' => e = .returned (.int .u32 ((shN 8 x).toNat : Int)) ∧ w = w' := by
  go_enter Tryd.func17, Tryd.ntmps17
  go_wp2
  go_loop [0, 4] (fun r i => ∃ k : Nat, k ≤ 8 ∧ i = .int .i64 k ∧ r = .int .u32 ((shN k x).toNat : Int)) (fun _ i => 8 - (intOf i).toNat)
  case atStart => exact ⟨0, by omega, rfl, rfl⟩
  case round =>
    obtain ⟨k, hk, rfl, rfl⟩ := hrel
    by_cases hlt : k < 8
    · have hs := Lib.hid (shN_last k x)
      have ht := bv_top (shN k x)
      have hb := bv_lt (shN k x)
      have hb0 : 0 ≤ ((shN k x).toNat : Int) := by omega
      have hno := Lib.hid (sh1_no (shN k x))
      have hyes := Lib.hid (sh1_yes (shN k x))
      generalize ((shN k x).toNat : Int) = Y at *
      cases hm : (shN k x).msb
      · rw [hm] at ht
        have Hm := Lib.hid hm
        clear hm
        go_wp2
        go_round
        case rel => exact ⟨k + 1, by omega, by go_num, by rw [hs.out]; exact congrArg (Value.int .u32) (hno.out Hm.out)⟩
        case measure => simp [intOf]; omega
      · rw [hm] at ht
        have Hm := Lib.hid hm
        clear hm
        go_wp2
        go_round
        case rel => exact ⟨k + 1, by omega, by go_num, by rw [hs.out]; exact congrArg (Value.int .u32) (hyes.out Hm.out)⟩
        case measure => simp [intOf]; omega
    · go_wp2
      go_ret
      obtain rfl : k = 8 := by omega
      exact ⟨rfl, rfl⟩

theorem bv_geq (x : BitVec 32) : decide (2147483648 ≤ (x.toNat : Int)) = x.msb := by
  rw [bv_msb]
  by_cases c : 2147483648 ≤ x.toNat
  · rw [decide_eq_true c, decide_eq_true (by omega)]
  · rw [decide_eq_false c, decide_eq_false (by omega)]

theorem byteAt_int (b : Nat) (hb : b < 256) : (b : Int) * 16777216 = ((byteAt b).toNat : Int) := by
  unfold byteAt
  rw [BitVec.toNat_shiftLeft, BitVec.toNat_ofNat, Nat.shiftLeft_eq]
  omega

end Go.Proofs.YtgphgbajgjddfaaDoor
