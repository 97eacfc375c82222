/- Bits turned within 32 are told: a sealed text, some of its bits turned, fits just if none was. Conditions: the place lies in the text. -/
import Derived.Test.YtgphgbajgjddfaaDoorCrcTurn
namespace Go.Proofs.YtgphgbajgjddfaaDoor
open Go.RowKit Crc
set_option linter.unusedVariables false

theorem bit_at (l : List Nat) (i : Nat) (hi : i < 8 * l.length) : (Crc.bits l).getD i false = (l.getD (i / 8) 0).testBit (7 - i % 8) := by
  have h := bits_get l (i / 8) (i % 8) (by omega) (by omega)
  rwa [show 8 * (i / 8) + i % 8 = i by omega] at h

theorem turn1_bit (l : List Nat) (at_ mask k i : Nat) (hi : i < 8 * l.length) :
    ((turn1 l at_ mask k).getD (i / 8) 0).testBit (7 - i % 8) = ((l.getD (i / 8) 0).testBit (7 - i % 8) ^^ (decide (i = at_ + k) && mask.testBit (31 - k))) := by
  unfold turn1
  split
  · rename_i h
    obtain ⟨h1, h2⟩ := h
    generalize at_ + k = p at *
    by_cases e : p / 8 = i / 8
    · have hg : (l.set (p / 8) (l.getD (p / 8) 0 ^^^ 2 ^ (7 - p % 8))).getD (i / 8) 0 = l.getD (i / 8) 0 ^^^ 2 ^ (7 - p % 8) := by
        rw [e, List.getD_eq_getElem?_getD, List.getElem?_set]
        rw [if_pos rfl, if_pos (by omega)]
        rfl
      rw [hg, Nat.testBit_xor, Nat.testBit_two_pow, h1, Bool.and_true]
      congr 1
      rw [decide_eq_decide]
      omega
    · have hg : (l.set (p / 8) (l.getD (p / 8) 0 ^^^ 2 ^ (7 - p % 8))).getD (i / 8) 0 = l.getD (i / 8) 0 := by
        rw [List.getD_eq_getElem?_getD, List.getElem?_set, if_neg e, ← List.getD_eq_getElem?_getD]
      rw [hg, decide_eq_false (show ¬ i = p by intro h; subst h; exact e rfl), Bool.false_and, Bool.xor_false]
  · rename_i h
    have hz : (decide (i = at_ + k) && mask.testBit (31 - k)) = false := by
      by_cases e : i = at_ + k
      · cases hb : mask.testBit (31 - k)
        · simp
        · exact absurd ⟨hb, by omega⟩ h
      · simp [e]
    rw [hz, Bool.xor_false]

def turned (at_ mask k i : Nat) : Bool := decide (at_ ≤ i ∧ i < at_ + k) && mask.testBit (31 - (i - at_))
theorem turned_succ (at_ mask k i : Nat) : turned at_ mask (k + 1) i = (turned at_ mask k i ^^ (decide (i = at_ + k) && mask.testBit (31 - k))) := by
  unfold turned
  by_cases e : i = at_ + k
  · subst e
    rw [decide_eq_true (show at_ ≤ at_ + k ∧ at_ + k < at_ + (k + 1) by omega), decide_eq_false (show ¬ (at_ ≤ at_ + k ∧ at_ + k < at_ + k) by omega)]
    simp
  · rw [decide_eq_false e, Bool.false_and, Bool.xor_false]
    congr 1
    rw [decide_eq_decide]
    omega

theorem turnN_bit (l : List Nat) (at_ mask i : Nat) (hi : i < 8 * l.length) (k : Nat) :
    ((turnN l at_ mask k).getD (i / 8) 0).testBit (7 - i % 8) = ((l.getD (i / 8) 0).testBit (7 - i % 8) ^^ turned at_ mask k i) := by
  induction k with
  | zero =>
    have hz : turned at_ mask 0 i = false := by unfold turned; rw [decide_eq_false (by omega)]; rfl
    rw [hz, Bool.xor_false]; rfl
  | succ k ih =>
    show ((turn1 (turnN l at_ mask k) at_ mask k).getD (i / 8) 0).testBit (7 - i % 8) = _
    rw [turn1_bit _ _ _ _ _ (by rw [turnN_len]; exact hi), ih, turned_succ, Bool.xor_assoc]

def mark (at_ mask n : Nat) : List Bool := (List.range n).map (turned at_ mask 32)
theorem mark_get (at_ mask n i : Nat) (hi : i < n) : (mark at_ mask n)[i]? = some (turned at_ mask 32 i) := by
  unfold mark
  rw [List.getElem?_map, List.getElem?_range hi]; rfl

theorem turn_bits (l : List Nat) (at_ mask : Nat) : Crc.bits (turnN l at_ mask 32) = List.zipWith (· ^^ ·) (Crc.bits l) (mark at_ mask (8 * l.length)) := by
  have hb : (Crc.bits l).length = 8 * l.length := bits_len l
  have hb2 : (Crc.bits (turnN l at_ mask 32)).length = 8 * l.length := by rw [bits_len, turnN_len]
  apply List.ext_getElem?
  intro i
  by_cases hi : i < 8 * l.length
  · have h1 := bit_at (turnN l at_ mask 32) i (by rw [turnN_len]; exact hi)
    rw [turnN_bit l at_ mask i hi 32, ← bit_at l i hi] at h1
    rw [List.getElem?_zipWith, mark_get _ _ _ _ hi]
    rw [List.getD_eq_getElem?_getD, List.getD_eq_getElem?_getD, List.getElem?_eq_getElem (by omega), List.getElem?_eq_getElem (by omega)] at h1
    rw [List.getElem?_eq_getElem (by omega), List.getElem?_eq_getElem (by omega)]
    simp only [Option.getD_some] at h1
    rw [h1]
  · rw [List.getElem?_eq_none (by omega), List.getElem?_eq_none (by simp only [List.length_zipWith]; omega)]

/-- BITS TURNED WITHIN 32 ARE TOLD. -/
theorem burst_told (l : List Nat) (hl : ∀ b ∈ l, b < 256) (at_ mask : Nat) : run ones (turnN l at_ mask 32) = run ones l ↔ turnN l at_ mask 32 = l := by
  constructor
  · intro h
    have hl2 : ∀ b ∈ turnN l at_ mask 32, b < 256 := fun b hb => by
      obtain ⟨i, hi, rfl⟩ := List.mem_iff_getElem.1 hb
      have := turnN_lt l hl at_ mask 32 i
      rw [List.getD_eq_getElem?_getD, List.getElem?_eq_getElem hi] at this
      exact this
    rw [run_bits _ hl2, run_bits _ hl, turn_bits] at h
    have hx := runb_xor (Crc.bits l) (mark at_ mask (8 * l.length)) ones 0#32 (by rw [bits_len]; unfold mark; simp)
    rw [BitVec.xor_zero, h] at hx
    have h0 : runb 0#32 (mark at_ mask (8 * l.length)) = 0#32 := by
      have h2 := congrArg (fun z => runb ones (Crc.bits l) ^^^ z) hx
      simp only [← BitVec.xor_assoc, BitVec.xor_self, BitVec.zero_xor] at h2
      exact h2.symm
    have hk := burst_ker (mark at_ mask (8 * l.length)) at_ (fun i hi => by
      by_cases hlt : i < 8 * l.length
      · rw [List.getD_eq_getElem?_getD, mark_get _ _ _ _ hlt] at hi
        simp only [Option.getD_some, turned, Bool.and_eq_true, decide_eq_true_iff] at hi
        exact hi.1
      · rw [List.getD_eq_getElem?_getD, List.getElem?_eq_none (by unfold mark; simp; omega)] at hi
        cases hi) h0
    apply bits_inj _ _ hl2 hl
    rw [turn_bits, hk]
    apply List.ext_getElem?
    intro i
    by_cases hi : i < 8 * l.length
    · rw [List.getElem?_zipWith, List.getElem?_replicate_of_lt (by unfold mark; simp; exact hi), List.getElem?_eq_getElem (by rw [bits_len]; exact hi)]
      simp
    · rw [List.getElem?_eq_none (by simp [bits_len]; omega), List.getElem?_eq_none (by rw [bits_len]; omega)]
  · intro h; rw [h]

theorem burst_fits (s t : ByteArray) (at_ mask : Nat) (ht : nums t = turnN (nums (s ++ four (sumOf s))) at_ mask 32) :
    (fitsB t == (t.toList == (s ++ four (sumOf s)).toList)) = true := by
  have hsz : t.size = (s ++ four (sumOf s)).size := by rw [← nums_len, ht, turnN_len, nums_len]
  have h4 : 4 ≤ t.size := by rw [hsz, ByteArray.size_append, four_size]; omega
  have hb := burst_told (nums (s ++ four (sumOf s))) (nums_lt _) at_ mask
  rw [← ht, seal_end] at hb
  unfold fitsB
  rw [decide_eq_true h4, Bool.true_and, beq_iff_eq, Bool.eq_iff_iff, decide_eq_true_iff, beq_iff_eq, ByteArray.toList_eq, ByteArray.toList_eq]
  rw [hb]
  constructor
  · intro h; rw [nums_inj _ _ h]
  · intro h; unfold nums; rw [h]
end Go.Proofs.YtgphgbajgjddfaaDoor
