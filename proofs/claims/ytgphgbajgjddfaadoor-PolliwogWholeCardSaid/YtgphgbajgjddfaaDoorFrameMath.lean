/- Plain facts on the bytes of a frame, and what Parse answers of them. Conditions: the data are not longer than a frame's may be. -/
import Derived.Test.YtgphgbajgjddfaaDoorFrameParse
namespace Go.Proofs.YtgphgbajgjddfaaDoor
open Go.RowKit Go.Shelf
set_option linter.unusedVariables false
set_option linter.unusedSimpArgs false

theorem nums_zeros (n : Nat) : nums (zeros n) = List.replicate n 0 := by unfold nums zeros; simp
theorem nums_told (u : Int) (n : Nat) (hu : 0 ≤ u ∧ u < 256) (hn : n ≤ 65535) : nums (told u n) = [u.toNat, 0, n / 256, n % 256] := by
  unfold told
  rw [nums_strOfNums]
  simp only [List.map_cons, List.map_nil, UInt8.toNat_ofNat']
  rw [show u.toNat % 2 ^ 8 = u.toNat by omega, show (0 : Int).toNat % 2 ^ 8 = 0 by decide, show ((n : Int) / 256).toNat % 2 ^ 8 = n / 256 by omega, show ((n : Int) % 256).toNat % 2 ^ 8 = n % 256 by omega]
theorem nums_frame (u : Int) (data : ByteArray) (hu : 0 ≤ u ∧ u < 256) (hs : data.size ≤ 65535) : nums (frameB u data) = (nums data ++ List.replicate (fillN data.size) 0) ++ ([u.toNat, 0, data.size / 256, data.size % 256] ++ nums (four (sumOf (bodyF u data)))) := by
  unfold frameB
  rw [nums_append]
  conv => lhs; rw [show bodyF u data = data ++ zeros (fillN data.size) ++ told u data.size from rfl]
  rw [nums_append, nums_append, nums_zeros, nums_told u _ hu hs]
  simp [bodyF, List.append_assoc]
theorem frame_size (u : Int) (data : ByteArray) : (frameB u data).size = data.size + fillN data.size + 8 := by
  unfold frameB bodyF
  rw [ByteArray.size_append, ByteArray.size_append, ByteArray.size_append, noughts_size, told_size]
  rw [show (four (sumOf (data ++ zeros (fillN data.size) ++ told u data.size))).size = 4 by unfold four; rw [strOfNums_size]; rfl]
theorem at_frame (u : Int) (data : ByteArray) (hu : 0 ≤ u ∧ u < 256) (hs : data.size ≤ 65535) (j : Nat) (hj : j < 4) :
    at_ (frameB u data) (data.size + fillN data.size + j) = [u.toNat, 0, data.size / 256, data.size % 256].getD j 0 := by
  unfold at_
  rw [nums_frame u data hu hs]
  have hl : (nums data ++ List.replicate (fillN data.size) 0).length = data.size + fillN data.size := by rw [List.length_append, List.length_replicate, nums_len]
  rw [List.getD_eq_getElem?_getD, List.getElem?_append_right (by omega), hl, show data.size + fillN data.size + j - (data.size + fillN data.size) = j by omega, List.getElem?_append_left (by simpa using hj), ← List.getD_eq_getElem?_getD]

theorem frame_told (u : Int) (data : ByteArray) (hu : 0 ≤ u ∧ u < 256) (hs : data.size ≤ 65535) : toldN (frameB u data) = data.size := by
  unfold toldN
  rw [frame_size]
  have h2 := at_frame u data hu hs 2 (by omega)
  have h3 := at_frame u data hu hs 3 (by omega)
  rw [show data.size + fillN data.size + 8 - 6 = data.size + fillN data.size + 2 by omega, show data.size + fillN data.size + 8 - 5 = data.size + fillN data.size + 3 by omega, h2, h3]
  simp only [List.getD_cons_succ, List.getD_cons_zero]
  omega
theorem bytes_append (a b : ByteArray) : (a ++ b).data.toList = a.data.toList ++ b.data.toList := by simp [ByteArray.data_append]
theorem extract_bytes (s : ByteArray) (a b : Nat) : (s.extract a b).data.toList = (s.data.toList.drop a).take (b - a) := by
  simp [ByteArray.data_extract, List.extract_eq_take_drop]
theorem frame_zero (u : Int) (data : ByteArray) : AllZero ((frameB u data).extract data.size (data.size + fillN data.size)) := by
  intro b hb
  rw [extract_bytes] at hb
  have e : (frameB u data).data.toList = data.data.toList ++ (List.replicate (fillN data.size) 0 ++ ((told u data.size).data.toList ++ (four (sumOf (bodyF u data))).data.toList)) := by
    unfold frameB
    rw [bytes_append]
    conv => lhs; lhs; rw [show bodyF u data = data ++ zeros (fillN data.size) ++ told u data.size from rfl]
    rw [bytes_append, bytes_append]
    simp [zeros, List.append_assoc]
  rw [e, List.drop_append_of_le_length (by simp), show data.data.toList.drop data.size = [] by apply List.drop_eq_nil_of_le; simp, List.nil_append, show data.size + fillN data.size - data.size = fillN data.size by omega, List.take_append_of_le_length (by simp), List.take_of_length_le (by simp)] at hb
  exact List.eq_of_mem_replicate hb
theorem frame_data (u : Int) (data : ByteArray) (hu : 0 ≤ u ∧ u < 256) (hs : data.size ≤ 65535) : (frameB u data).extract 0 data.size = data := by
  apply nums_inj
  rw [nums_take_, nums_frame u data hu hs, List.append_assoc, List.take_append_of_le_length (by rw [nums_len]; exact Nat.le_refl _), List.take_of_length_le (by rw [nums_len]; exact Nat.le_refl _)]

/-- There and back. -/
theorem parse_frame (u : Int) (data : ByteArray) (g : Nat) (w0 w : World) (hu : 0 ≤ u ∧ u < 256) (hs : data.size ≤ 65535) (hT : Has w0 w g) :
    Calls Tryd.prog 12 #[.pointer (some ⟨g, 0, none⟩), .string (frameB u data)] w (FrameOut w0 g u data 0) := by
  have hsz := frame_size u data
  obtain ⟨hf1, hf2, hf3⟩ := cells_fill data.size
  have h0 := at_frame u data hu hs 0 (by omega)
  have h1 := at_frame u data hu hs 1 (by omega)
  have h := parse_ok (frameB u data) (data.size + fillN data.size) data.size g w0 w (by rw [hsz]; unfold maxLen; omega) hT hsz (by rw [hsz]; omega) (fits_seal _) (frame_told u data hu hs).symm (by omega) (by rw [h1]; rfl) (frame_zero u data)
  rw [frame_data u data hu hs] at h
  rw [Nat.add_zero] at h0
  rw [h0] at h
  have hU : (([u.toNat, 0, data.size / 256, data.size % 256].getD 0 0 : Nat) : Int) = u := by simp only [List.getD_cons_zero]; omega
  rw [hU] at h
  exact h
end Go.Proofs.YtgphgbajgjddfaaDoor
