/- Plain facts on the bytes of a frame: when they are some frame's. Conditions: the sum fits, the told length is one of these bytes. -/
import Derived.Test.YtgphgbajgjddfaaDoorFrameTurn
namespace Go.Proofs.YtgphgbajgjddfaaDoor
open Go.RowKit Go.Shelf Crc
set_option linter.unusedVariables false
set_option linter.unusedSimpArgs false

theorem fits_long (s : ByteArray) (n : Nat) (hn : s.size = n + 4) : ((s.extract n s.size).toList == (four (sumOf (s.extract 0 n))).toList) = fitsB s := by
  rw [fits_iff s n hn]
  unfold fitsB
  rw [decide_eq_true (show 4 ≤ s.size by omega), Bool.true_and]
theorem nums_cut (s : ByteArray) (a b : Nat) : nums (s.extract a b) = ((nums s).drop a).take (b - a) := by
  unfold nums
  rw [extract_bytes, List.map_take, List.map_drop]
theorem four_at (s : ByteArray) (K : Nat) (h : s.size = K + 8) : ((nums s).drop K).take 4 = [at_ s K, at_ s (K + 1), at_ s (K + 2), at_ s (K + 3)] := by
  have hl := nums_len s
  have hj : ∀ j, j < 8 → (nums s)[K + j]? = some (at_ s (K + j)) := fun j hj => by
    unfold at_
    rw [List.getD_eq_getElem?_getD, List.getElem?_eq_getElem (by omega)]; rfl
  apply List.ext_getElem?
  intro i
  by_cases hi : i < 4
  · rw [List.getElem?_take_of_lt hi, List.getElem?_drop, hj i (by omega)]
    have : i = 0 ∨ i = 1 ∨ i = 2 ∨ i = 3 := by omega
    rcases this with rfl | rfl | rfl | rfl <;> rfl
  · rw [List.getElem?_eq_none (by rw [List.length_take]; omega), List.getElem?_eq_none (by simp; omega)]
theorem zeros_cut (t : ByteArray) (h : AllZero t) : nums t = List.replicate t.size 0 := by
  rw [List.eq_replicate_iff]
  refine ⟨nums_len t, fun b hb => ?_⟩
  obtain ⟨c, hc, rfl⟩ := List.mem_map.1 hb
  rw [h c hc]; rfl
theorem told_fill {N K : Nat} (h : cellsOf (N : Int) * 48 = (K : Int) + 8) : N ≤ K ∧ fillN N = K - N := by unfold cellsOf at h; unfold fillN; omega
theorem form_ok (s : ByteArray) (K N : Nat) (hK : s.size = K + 8) (hf : fitsB s = true) (hN : N = toldN s) (hn : N ≤ K) (hfill : fillN N = K - N) (hz : at_ s (K + 1) = 0) (ha : AllZero (s.extract N K)) : frameB (at_ s K : Nat) (s.extract 0 N) = s := by
  have hu := at_lt s K
  have j2 := at_lt s (K + 2)
  have j3 := at_lt s (K + 3)
  have hN2 : N = at_ s (K + 2) * 256 + at_ s (K + 3) := by rw [hN]; unfold toldN; rw [hK]; rfl
  have hl := nums_len s
  have hD : (s.extract 0 N).size = N := by rw [ByteArray.size_extract]; omega
  have hbody : nums (bodyF (at_ s K : Nat) (s.extract 0 N)) = (nums s).take (K + 4) := by
    unfold bodyF
    have z := zeros_cut _ ha
    rw [nums_cut, ByteArray.size_extract, show min K s.size - N = K - N by omega] at z
    have f := four_at s K hK
    rw [nums_append, nums_append, nums_zeros, hD, nums_told _ _ (by omega) (by omega), nums_take_, hfill]
    rw [show K + 4 = N + ((K - N) + 4) by omega, List.take_add, List.take_add, List.drop_drop, show N + (K - N) = K by omega, z, f, hz, show N / 256 = at_ s (K + 2) by omega, show N % 256 = at_ s (K + 3) by omega, Int.toNat_natCast, List.append_assoc]
  have hb2 : bodyF (at_ s K : Nat) (s.extract 0 N) = s.extract 0 (K + 4) := nums_inj _ _ (by rw [hbody, nums_take_])
  have h4 := fits_long s (K + 4) hK
  rw [hf, toList_eq2, decide_eq_true_iff] at h4
  show bodyF (at_ s K : Nat) (s.extract 0 N) ++ four (sumOf (bodyF (at_ s K : Nat) (s.extract 0 N))) = s
  rw [hb2, ← h4]
  apply nums_inj
  have ht : ((nums s).drop (K + 4)).take (s.size - (K + 4)) = (nums s).drop (K + 4) := List.take_of_length_le (by rw [List.length_drop]; omega)
  rw [nums_append, nums_take_, nums_cut, ht, List.take_append_drop]
theorem form_is (s : ByteArray) (K N : Nat) (hK : s.size = K + 8) (hN : N = toldN s) (hn : N ≤ K) (hfill : fillN N = K - N) (h : frameB (at_ s K : Nat) (s.extract 0 N) = s) : at_ s (K + 1) = 0 ∧ AllZero (s.extract N K) := by
  have hu := at_lt s K
  have j2 := at_lt s (K + 2)
  have j3 := at_lt s (K + 3)
  have hN2 : N = at_ s (K + 2) * 256 + at_ s (K + 3) := by rw [hN]; unfold toldN; rw [hK]; rfl
  have hD : (s.extract 0 N).size = N := by rw [ByteArray.size_extract]; omega
  have h1 := at_frame (at_ s K : Nat) (s.extract 0 N) (by omega) (by omega) 1 (by omega)
  have h2 := frame_zero (at_ s K : Nat) (s.extract 0 N)
  rw [h, hD, hfill, show N + (K - N) = K by omega] at h1 h2
  exact ⟨h1, h2⟩
end Go.Proofs.YtgphgbajgjddfaaDoor
