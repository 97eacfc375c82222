/- What Fits answers, in plain words: a text fits just if its register ends at one fixed value; so a sealed text fits, and one with bits turned within 32 doesn't. No conditions but those that each says. -/
import Derived.Test.YtgphgbajgjddfaaDoorCrcFits
import Derived.Lib.IndexBytes
import Derived.Lib.SmallJoins
namespace Go.Proofs.YtgphgbajgjddfaaDoor
open Go.RowKit Crc
set_option linter.unusedVariables false

theorem bits_get (l : List Nat) : ∀ (j r : Nat), r < 8 → j < l.length → (Crc.bits l).getD (8 * j + r) false = (l.getD j 0).testBit (7 - r) := by
  induction l with
  | nil => intro j r _ h; simp at h
  | cons b l ih =>
    intro j r hr hj
    show (byteBits b ++ Crc.bits l).getD _ _ = _
    have hlen : (byteBits b).length = 8 := rfl
    cases j with
    | zero =>
      rw [List.getD_eq_getElem?_getD, List.getElem?_append_left (by omega)]
      have : r = 0 ∨ r = 1 ∨ r = 2 ∨ r = 3 ∨ r = 4 ∨ r = 5 ∨ r = 6 ∨ r = 7 := by omega
      rcases this with rfl | rfl | rfl | rfl | rfl | rfl | rfl | rfl <;> rfl
    | succ j =>
      rw [List.getD_eq_getElem?_getD, List.getElem?_append_right (by omega), hlen, show 8 * (j + 1) + r - 8 = 8 * j + r by omega, ← List.getD_eq_getElem?_getD,
        ih j r hr (by simpa using hj)]
      simp

theorem nums_strOfNums (xs : List Int) : nums (strOfNums xs) = xs.map fun n => (UInt8.ofNat n.toNat).toNat := by
  unfold nums
  rw [strOfNums_data, List.map_map]
  rfl

theorem nums_four (x : BitVec 32) : nums (four x) = [x.toNat / 16777216, x.toNat / 65536 % 256, x.toNat / 256 % 256, x.toNat % 256] := by
  have hx := x.isLt
  unfold four fourN
  rw [nums_strOfNums]
  simp only [List.map_cons, List.map_nil, UInt8.toNat_ofNat']
  have e1 : ((x.toNat : Int) / 16777216).toNat = x.toNat / 16777216 := by omega
  have e2 : ((x.toNat : Int) / 65536 % 256).toNat = x.toNat / 65536 % 256 := by omega
  have e3 : ((x.toNat : Int) / 256 % 256).toNat = x.toNat / 256 % 256 := by omega
  have e4 : ((x.toNat : Int) % 256).toNat = x.toNat % 256 := by omega
  rw [e1, e2, e3, e4]
  congr 1
  · exact Nat.mod_eq_of_lt (by omega)
  · congr 1
    · exact Nat.mod_eq_of_lt (by omega)
    · congr 1
      · exact Nat.mod_eq_of_lt (by omega)
      · congr 1
        exact Nat.mod_eq_of_lt (by omega)

theorem testBit_byte (x i k : Nat) (hk : k < 8) : (x / 2 ^ i % 256).testBit k = x.testBit (i + k) := by
  rw [show (256 : Nat) = 2 ^ 8 from rfl, Nat.testBit_mod_two_pow, Nat.testBit_div_two_pow]
  simp [hk, Nat.add_comm]

theorem pack_four (x : BitVec 32) : pack (Crc.bits (nums (four x))) = x := by
  have hx := x.isLt
  apply BitVec.eq_of_getLsbD_eq
  intro i hi
  rw [pack_get _ i hi, nums_four]
  have e1 : x.toNat / 16777216 = x.toNat / 2 ^ 24 % 256 := by omega
  have e4 : x.toNat % 256 = x.toNat / 2 ^ 0 % 256 := by omega
  have h : ∀ j r, r < 8 → j < 4 → i = 31 - (8 * j + r) → (Crc.bits [x.toNat / 16777216, x.toNat / 65536 % 256, x.toNat / 256 % 256, x.toNat % 256]).getD (8 * j + r) false = x.toNat.testBit (31 - (8 * j + r)) := by
    intro j r hr hj _
    rw [bits_get _ j r hr (by simpa using hj)]
    have : j = 0 ∨ j = 1 ∨ j = 2 ∨ j = 3 := by omega
    rcases this with rfl | rfl | rfl | rfl
    · show (x.toNat / 16777216).testBit _ = _
      rw [e1, testBit_byte _ _ _ (by omega)]; congr 1; omega
    · show (x.toNat / 2 ^ 16 % 256).testBit _ = _
      rw [testBit_byte _ _ _ (by omega)]; congr 1; omega
    · show (x.toNat / 2 ^ 8 % 256).testBit _ = _
      rw [testBit_byte _ _ _ (by omega)]; congr 1; omega
    · show (x.toNat % 256).testBit _ = _
      rw [e4, testBit_byte _ _ _ (by omega)]; congr 1; omega
  have h2 := h ((31 - i) / 8) ((31 - i) % 8) (by omega) (by omega) (by omega)
  rw [show 8 * ((31 - i) / 8) + (31 - i) % 8 = 31 - i by omega] at h2
  rw [h2, show 31 - (31 - i) = i by omega]
  rfl

theorem pack_inj (a b : List Bool) (ha : a.length = 32) (hb : b.length = 32) (h : pack a = pack b) : a = b := by
  apply List.ext_getElem?
  intro i
  by_cases hi : i < 32
  · have h1 := pack_get a (31 - i) (by omega)
    have h2 := pack_get b (31 - i) (by omega)
    rw [h, h2, show 31 - (31 - i) = i by omega, List.getD_eq_getElem?_getD, List.getD_eq_getElem?_getD, List.getElem?_eq_getElem (by omega), List.getElem?_eq_getElem (by omega)] at h1
    rw [List.getElem?_eq_getElem (by omega), List.getElem?_eq_getElem (by omega)]
    simp at h1
    rw [h1]
  · rw [List.getElem?_eq_none (by omega), List.getElem?_eq_none (by omega)]

/-- Four bytes behind a register are those of its sum just if the register ends at one value. -/
theorem four_iff (r : BitVec 32) (f : List Nat) (hf : f.length = 4) (hb : ∀ b ∈ f, b < 256) : f = nums (four (~~~r)) ↔ run r f = shN 32 ones := by
  have hlen : (Crc.bits f).length = 32 := by rw [bits_len, hf]
  have hrun : run r f = shN 32 (r ^^^ pack (Crc.bits f)) := by rw [run_bits f hb, runb_pack _ _ (by omega), hlen]
  have hones : r ^^^ ~~~r = ones := by
    apply BitVec.eq_of_getLsbD_eq
    intro i hi
    have hm : ones.getLsbD i = true := by
      have : ∀ j : Fin 32, ones.getLsbD j.val = true := by decide
      exact this ⟨i, hi⟩
    rw [BitVec.getLsbD_xor, BitVec.getLsbD_not, hm]
    simp [hi]
  rw [hrun]
  constructor
  · intro h
    have hp : pack (Crc.bits f) = ~~~r := by rw [h, pack_four]
    rw [hp, hones]
  · intro h
    have h1 := shN_inj 32 _ _ h
    have hp : pack (Crc.bits f) = ~~~r := by
      have h2 := congrArg (fun z => r ^^^ z) h1
      simp only [← BitVec.xor_assoc, BitVec.xor_self, BitVec.zero_xor] at h2
      rw [h2, ← hones, ← BitVec.xor_assoc, BitVec.xor_self, BitVec.zero_xor]
    have hl2 : (nums (four (~~~r))).length = 4 := by rw [nums_four]; rfl
    apply bits_inj f _ hb (nums_lt _)
    apply pack_inj _ _ hlen (by rw [bits_len, hl2])
    rw [hp, pack_four]

theorem nums_take_ (s : ByteArray) (n : Nat) : nums (s.extract 0 n) = (nums s).take n := by
  unfold nums
  rw [Lib.extract_data, ← List.map_take]
  simp
theorem nums_drop_ (s : ByteArray) (n : Nat) : nums (s.extract n s.size) = (nums s).drop n := by
  unfold nums
  rw [Lib.extract_to_end, List.map_drop]
theorem nums_append (a b : ByteArray) : nums (a ++ b) = nums a ++ nums b := by
  unfold nums
  rw [Joins.data_append, List.map_append]
theorem nums_inj (a b : ByteArray) (h : nums a = nums b) : a = b := by
  apply WideShapes.bytes_inj
  unfold nums at h
  exact List.map_inj_right (fun x y h => UInt8.toNat_inj.1 h) |>.1 h

theorem fits_iff (s : ByteArray) (n : Nat) (hn : s.size = n + 4) : ((s.extract n s.size).toList == (four (sumOf (s.extract 0 n))).toList) = decide (run ones (nums s) = shN 32 ones) := by
  have h1 : ((s.extract n s.size).toList == (four (sumOf (s.extract 0 n))).toList) = decide ((nums s).drop n = nums (four (~~~(run ones ((nums s).take n))))) := by
    rw [Bool.eq_iff_iff, beq_iff_eq, decide_eq_true_iff, ByteArray.toList_eq, ByteArray.toList_eq, ← nums_drop_, ← nums_take_]
    constructor
    · intro h; unfold nums at *; rw [h]; rfl
    · intro h; have := nums_inj _ _ h; rw [this]; rfl
  have hl : ((nums s).drop n).length = 4 := by rw [List.length_drop, nums_len]; omega
  have h2 := four_iff (run ones ((nums s).take n)) ((nums s).drop n) hl (fun b hb => nums_lt s b (List.mem_of_mem_drop hb))
  rw [← run_append, List.take_append_drop] at h2
  rw [h1, Bool.eq_iff_iff, decide_eq_true_iff, decide_eq_true_iff]
  exact h2

theorem seal_end (s : ByteArray) : run ones (nums (s ++ four (sumOf s))) = shN 32 ones := by
  rw [nums_append, run_append]
  exact (four_iff (run ones (nums s)) (nums (four (sumOf s))) (by rw [nums_four]; rfl) (nums_lt _)).1 rfl
end Go.Proofs.YtgphgbajgjddfaaDoor
