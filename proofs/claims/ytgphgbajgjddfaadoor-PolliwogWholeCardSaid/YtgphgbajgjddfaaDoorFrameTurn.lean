/- The contracts of Turn and of package frame's Flip at any place, and plain facts on bits turned. Conditions: the place is a small number; the text is not long. -/
import Derived.Test.YtgphgbajgjddfaaDoorCrcBurst
import Derived.Test.YtgphgbajgjddfaaDoorFrameBackLaw
namespace Go.Proofs.YtgphgbajgjddfaaDoor
open Go.RowKit Go.Shelf Crc
set_option linter.unusedVariables false
set_option linter.unusedSimpArgs false

def turnZ (l : List Nat) (at_ : Int) (mask : Nat) : Nat → List Nat
  | 0 => l
  | k + 1 => if mask.testBit (31 - k) = true ∧ 0 ≤ at_ + (k : Int) ∧ at_ + (k : Int) < 8 * (l.length : Int) then (turnZ l at_ mask k).set ((at_ + (k : Int)).toNat / 8) ((turnZ l at_ mask k).getD ((at_ + (k : Int)).toNat / 8) 0 ^^^ 2 ^ (7 - (at_ + (k : Int)).toNat % 8)) else turnZ l at_ mask k
theorem turnZ_out (l : List Nat) (at_ : Int) (mask k : Nat) (h : at_ + (k : Int) < 0 ∨ 8 * (l.length : Int) ≤ at_ + (k : Int) ∨ mask.testBit (31 - k) = false) : turnZ l at_ mask (k + 1) = turnZ l at_ mask k := by
  show (if _ then _ else _) = _
  rw [if_neg]
  rintro ⟨h1, h2, h3⟩
  rcases h with h | h | h
  · omega
  · omega
  · rw [h] at h1; cases h1
theorem turnZ_in (l : List Nat) (at_ : Int) (mask k p : Nat) (hb : mask.testBit (31 - k) = true) (hp : at_ + (k : Int) = (p : Int)) (hl : p < 8 * l.length) : turnZ l at_ mask (k + 1) = (turnZ l at_ mask k).set (p / 8) ((turnZ l at_ mask k).getD (p / 8) 0 ^^^ 2 ^ (7 - p % 8)) := by
  show (if _ then _ else _) = _
  rw [if_pos ⟨hb, by omega, by omega⟩, hp, Int.toNat_natCast]
theorem turnZ_nat (l : List Nat) (a mask : Nat) (k : Nat) : turnZ l (a : Int) mask k = turnN l a mask k := by
  induction k with
  | zero => rfl
  | succ k ih =>
    have hlen := turnN_len l a mask k
    show (if _ then _ else _) = turn1 _ _ _ _
    unfold turn1
    rw [ih, hlen, show (a : Int) + (k : Int) = ((a + k : Nat) : Int) by omega, Int.toNat_natCast]
    by_cases hc : mask.testBit (31 - k) = true ∧ a + k < 8 * l.length
    · rw [if_pos hc, if_pos ⟨hc.1, by omega, by omega⟩]
    · rw [if_neg hc, if_neg]
      rintro ⟨h1, h2, h3⟩
      exact hc ⟨h1, by omega⟩
theorem turnN_rest (l : List Nat) (a mask k n : Nat) (h : ∀ i, k ≤ i → i < k + n → mask.testBit (31 - i) = false) : turnN l a mask (k + n) = turnN l a mask k := by
  induction n with
  | zero => rfl
  | succ n ih =>
    show turn1 (turnN l a mask (k + n)) a mask (k + n) = _
    unfold turn1
    rw [if_neg (by rw [h (k + n) (by omega) (by omega)]; rintro ⟨h1, _⟩; cases h1)]
    exact ih (fun i h1 h2 => h i h1 (by omega))
theorem turnZ_neg (l : List Nat) (j mask : Nat) (k : Nat) (hk : k ≤ 32) : turnZ l (-(j : Int)) mask k = turnN l 0 (mask <<< j) (k - j) := by
  induction k with
  | zero => rw [Nat.zero_sub]; rfl
  | succ k ih =>
    by_cases hj : k < j
    · rw [turnZ_out _ _ _ _ (Or.inl (by omega)), ih (by omega), show k + 1 - j = 0 by omega, show k - j = 0 by omega]
    · have hlen := turnN_len l 0 (mask <<< j) (k - j)
      have hbit : (mask <<< j).testBit (31 - (k - j)) = mask.testBit (31 - k) := by
        rw [Nat.testBit_shiftLeft, show 31 - (k - j) - j = 31 - k by omega, decide_eq_true (by omega), Bool.true_and]
      rw [show k + 1 - j = (k - j) + 1 by omega]
      show (if _ then _ else _) = turn1 _ _ _ _
      unfold turn1
      rw [ih (by omega), hlen, hbit, show -(j : Int) + (k : Int) = ((k - j : Nat) : Int) by omega, Int.toNat_natCast, Nat.zero_add]
      by_cases hc : mask.testBit (31 - k) = true ∧ k - j < 8 * l.length
      · rw [if_pos hc, if_pos ⟨hc.1, by omega, by omega⟩]
      · rw [if_neg hc, if_neg]
        rintro ⟨h1, h2, h3⟩
        exact hc ⟨h1, by omega⟩
/-- At any place it is a turn at a place of the text. -/
theorem turnZ_is (at_ : Int) (mask : Nat) : ∃ a m : Nat, ∀ l, turnZ l at_ mask 32 = turnN l a m 32 := by
  by_cases h : 0 ≤ at_
  · obtain ⟨a, rfl⟩ := Int.eq_ofNat_of_zero_le h
    exact ⟨a, mask, fun l => turnZ_nat l a mask 32⟩
  · obtain ⟨j, hj⟩ : ∃ j : Nat, at_ = -(j : Int) := ⟨(-at_).toNat, by omega⟩
    subst hj
    by_cases hj : j ≤ 32
    · refine ⟨0, mask <<< j, fun l => ?_⟩
      rw [turnZ_neg l j mask 32 (Nat.le_refl _)]
      have h2 := turnN_rest l 0 (mask <<< j) (32 - j) j (fun i h1 h2 => by
        rw [Nat.testBit_shiftLeft, decide_eq_false (by omega), Bool.false_and])
      rw [show 32 - j + j = 32 by omega] at h2
      exact h2.symm
    · refine ⟨0, 0, fun l => ?_⟩
      rw [turnZ_neg l j mask 32 (Nat.le_refl _), show 32 - j = 0 by omega]
      have h2 := turnN_rest l 0 0 0 32 (fun i h1 h2 => Nat.zero_testBit _)
      rw [Nat.zero_add] at h2
      exact h2.symm
theorem turnN_mem (l : List Nat) (hl : ∀ b ∈ l, b < 256) (a m k : Nat) : ∀ b ∈ turnN l a m k, b < 256 := fun b hb => by
  obtain ⟨i, hi, rfl⟩ := List.mem_iff_getElem.1 hb
  have := turnN_lt l hl a m k i
  rw [List.getD_eq_getElem?_getD, List.getElem?_eq_getElem hi] at this
  exact this
theorem turnN_twice (l : List Nat) (hl : ∀ b ∈ l, b < 256) (a m : Nat) : turnN (turnN l a m 32) a m 32 = l := by
  apply bits_inj _ _ (turnN_mem _ (turnN_mem l hl a m 32) a m 32) hl
  rw [turn_bits, turn_bits, turnN_len]
  apply List.ext_getElem?
  intro i
  rw [List.getElem?_zipWith, List.getElem?_zipWith]
  by_cases hi : i < 8 * l.length
  · rw [List.getElem?_eq_getElem (show i < (Crc.bits l).length by rw [bits_len]; exact hi), mark_get _ _ _ _ hi]
    simp
  · rw [List.getElem?_eq_none (show (Crc.bits l).length ≤ i by rw [bits_len]; omega)]
theorem turnZ_lt (l : List Nat) (hl : ∀ b ∈ l, b < 256) (at_ : Int) (mask k : Nat) : ∀ j, (turnZ l at_ mask k).getD j 0 < 256 := by
  induction k with
  | zero =>
    intro j
    exact turnN_lt l hl 0 0 0 j
  | succ k ih =>
    intro j
    show (if _ then _ else _ : List Nat).getD j 0 < 256
    split
    · rw [List.getD_eq_getElem?_getD, List.getElem?_set]
      split
      · split
        · exact Nat.xor_lt_two_pow (n := 8) (ih _) (Nat.pow_lt_pow_of_lt (by decide) (by omega))
        · simp
      · rw [← List.getD_eq_getElem?_getD]; exact ih j
    · exact ih j
theorem toList_eq2 (a b : ByteArray) : (a.toList == b.toList) = decide (a = b) := by
  rw [ByteArray.toList_eq, ByteArray.toList_eq, Bool.eq_iff_iff, beq_iff_eq, decide_eq_true_iff]
  constructor
  · intro h
    apply ByteArray.ext
    exact Array.toList_inj.1 h
  · intro h; rw [h]
/-- The text with its bits turned. -/
def turnS (s : ByteArray) (at_ : Int) (mask : Nat) : ByteArray := strOfNums ((turnZ (nums s) at_ mask 32).map Int.ofNat)
theorem turnS_nums (s : ByteArray) (at_ : Int) (mask : Nat) : nums (turnS s at_ mask) = turnZ (nums s) at_ mask 32 := nums_ofRow _ (turnZ_lt _ (nums_lt s) _ _ _)
theorem turnS_twice (s : ByteArray) (at_ : Int) (mask : Nat) : turnS (turnS s at_ mask) at_ mask = s := by
  apply nums_inj
  rw [turnS_nums, turnS_nums]
  obtain ⟨a, m, h⟩ := turnZ_is at_ mask
  rw [h, h]
  exact turnN_twice _ (nums_lt s) a m
theorem turnS_size (s : ByteArray) (at_ : Int) (mask : Nat) : (turnS s at_ mask).size = s.size := by
  rw [← nums_len, turnS_nums]
  obtain ⟨a, m, h⟩ := turnZ_is at_ mask
  rw [h, turnN_len, nums_len]
theorem turnS_told (s : ByteArray) (at_ : Int) (mask : Nat) (h : turnS (s ++ four (sumOf s)) at_ mask ≠ s ++ four (sumOf s)) : fitsB (turnS (s ++ four (sumOf s)) at_ mask) = false := by
  obtain ⟨a, m, h2⟩ := turnZ_is at_ mask
  have h3 := burst_fits s (turnS (s ++ four (sumOf s)) at_ mask) a m (by rw [turnS_nums, h2])
  rw [beq_iff_eq] at h3
  rw [h3, beq_eq_false_iff_ne]
  intro h4
  apply h
  rw [ByteArray.toList_eq, ByteArray.toList_eq] at h4
  apply ByteArray.ext
  exact Array.toList_inj.1 h4

theorem shl_bit (mask k m : Nat) (h : k + m = 31) (hm : mask < 4294967296) : (((mask : Int) * 2 ^ k) % 4294967296 / 2147483648 == 1) = mask.testBit m := by
  have e : (mask : Int) * 2 ^ k % 4294967296 / 2147483648 = ((mask / 2 ^ m % 2 : Nat) : Int) := by
    have h2 : mask * 2 ^ k / 2147483648 = mask / 2 ^ m := by
      rw [show (2147483648 : Nat) = 2 ^ m * 2 ^ k by rw [← Nat.pow_add, show m + k = 31 by omega]]
      exact Nat.mul_div_mul_right _ _ (Nat.two_pow_pos k)
    have h1 : mask * 2 ^ k % 4294967296 / 2147483648 = mask / 2 ^ m % 2 := by omega
    rw [← h1]
    simp
  rw [e, Nat.testBit_eq_decide_div_mod_eq]
  have h5 : mask / 2 ^ m % 2 = 0 ∨ mask / 2 ^ m % 2 = 1 := by omega
  rcases h5 with h5 | h5 <;> rw [h5] <;> rfl

end Go.Proofs.YtgphgbajgjddfaaDoor
