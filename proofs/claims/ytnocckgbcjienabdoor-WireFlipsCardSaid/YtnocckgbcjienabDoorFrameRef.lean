/- The contract of the document's own bytes of a frame. Conditions: the data are not longer than a frame's may be. -/
import Derived.Test.YtnocckgbcjienabDoorFrameAwake
namespace Go.Proofs.YtnocckgbcjienabDoor
open Go.RowKit Go.Shelf
set_option linter.unusedVariables false
set_option linter.unusedSimpArgs false

theorem conv1 (W : World) (a : Int) :
    Sem.run Tryd.prog (convert 53 9 (.slice (some ⟨W.heap.size, 0, none⟩) 1 1)) (W.alloc (.cells #[.int .u8 a] 5)) = .ok (.string (strOfNums [a])) (W.alloc (.cells #[.int .u8 a] 5)) := by
  refine run_convert_bytes_arg (P := Tryd.prog) _ 53 5 Tryd.underlying53 Tryd.underlying5 W.heap.size 0 1 1 [a] rfl ?_ 9 Tryd.underlying9
  intro i hi
  obtain rfl : i = 0 := by omega
  simp
theorem zeros_succ (n : Nat) : zeros n ++ strOfNums [0] = zeros (n + 1) := by
  apply nums_inj
  rw [nums_append, nums_zeros, nums_zeros, nums_strOfNums]
  rw [List.replicate_succ']
  rfl

set_option maxHeartbeats 1000000 in
set_option maxRecDepth 100000 in
theorem ref_bytes (u : Int) (data : ByteArray) (w : World) (hu : 0 ≤ u ∧ u < 256) (hs : data.size ≤ 65535) :
    Calls Tryd.prog 51 #[.int .u8 u, .string data] w fun e w' => e = .returned (.string (frameB u data)) ∧ Below w.heap.size w w' := by
  obtain ⟨hf1, hf2, hf3⟩ := cells_fill data.size
  have hconv := conv1
  have hconv4 := conv4
  go_enter Tryd.func51, Tryd.ntmps51
  go_wp2_with fail
  go_loopw [5] (fun s wr => ∃ j : Nat, j ≤ fillN data.size ∧ s = .string (data ++ zeros j) ∧ Hid (Below w.heap.size w wr)) (fun s wr => match s with | .string b => data.size + fillN data.size - b.size | _ => 0)
  case atStart => exact ⟨0, by omega, by rw [show zeros 0 = ByteArray.empty from rfl, ByteArray.append_empty], Below.refl _ _⟩
  case round =>
    obtain ⟨j, hj, rfl, HW⟩ := hrel
    have hsz : (data ++ zeros j).size = data.size + j := by rw [ByteArray.size_append, noughts_size]
    by_cases hlt : j < fillN data.size
    · have hd : (((data.size : Int) + (j : Int)) % 48 != 40) = true := by rw [bne_iff_ne]; omega
      have hz : data ++ zeros j ++ strOfNums [0] = data ++ zeros (j + 1) := by rw [ByteArray.append_assoc, zeros_succ]
      have hn : ¬ 9223372036854775807 < data.size + j + 1 := by omega
      have hsz1 : (strOfNums [0]).size = 1 := by rw [strOfNums_size]; rfl
      have hsz2 : (data ++ zeros (j + 1)).size = data.size + (j + 1) := by rw [ByteArray.size_append, noughts_size]
      have HZ := Lib.hid hz
      clear hz
      go_wp2_with fail
      go_roundw
      case rel => exact ⟨j + 1, by omega, by rw [HZ.out], HW.out.alloc HW.out.size _⟩
      case measure => show data.size + fillN data.size - (data ++ zeros j ++ strOfNums [0]).size < data.size + fillN data.size - (data ++ zeros j).size; rw [HZ.out, hsz, hsz2]; omega
    · have hjf : j = fillN data.size := by omega
      subst hjf
      have hd : (((data.size : Int) + (fillN data.size : Int)) % 48 != 40) = false := by rw [bne_eq_false_iff_eq]; omega
      have htl := told_size u data.size
      obtain ⟨tl, htl'⟩ : ∃ tl, tl = told u data.size := ⟨_, rfl⟩
      have htl2 : strOfNums [u, 0, (data.size : Int) / 256, (data.size : Int) % 256] = tl := htl'.symm
      have hbs : (bodyF u data).size = data.size + fillN data.size + 4 := by unfold bodyF; rw [ByteArray.size_append, ByteArray.size_append, noughts_size, told_size]
      have hbd : data ++ zeros (fillN data.size) ++ tl = bodyF u data := by rw [htl']; rfl
      rw [← htl'] at htl
      have HSUM := Lib.hid (fun W => show Calls Tryd.prog 64 #[.string (bodyF u data)] W fun e w' => e = .returned (.int .u32 ((sumOf (bodyF u data)).toNat : Int)) ∧ W = w' from ref_sum (bodyF u data) W (by rw [hbs]; unfold maxLen; omega))
      have hfs : (four (sumOf (bodyF u data))).size = 4 := by unfold four; rw [strOfNums_size]; rfl
      have HFB : Hid (bodyF u data ++ four (sumOf (bodyF u data)) = frameB u data) := rfl
      have hn1 : ¬ 9223372036854775807 < data.size + fillN data.size + 4 := by omega
      have hn2 : ¬ 9223372036854775807 < data.size + fillN data.size + 4 + 4 := by omega
      clear htl' hf1 hconv
      generalize sumOf (bodyF u data) = SM at *
      generalize bodyF u data = BD at *
      go_wp2_with fail
      have HB1 := Lib.hid (HW.out.alloc HW.out.size (.cells #[.int .u8 u, .int .u8 0, .int .u8 ((data.size : Int) / 256), .int .u8 ((data.size : Int) % 256)] 5))
      refine (HSUM.out _).mono ?_
      rintro e w2 ⟨rfl, rfl⟩
      go_wp2_with fail
      refine (ref_four SM _).mono ?_
      rintro e w3 ⟨rfl, hb3⟩
      have HB3 := Lib.hid (HB1.out.trans (hb3.mono HB1.out.size))
      clear hb3
      go_wp2_with fail
      go_ret
      exact ⟨by rw [← HFB.out]; rfl, HB3.out⟩
end Go.Proofs.YtnocckgbcjienabDoor
