/- The contract of package frame's Bytes. Conditions: the table is laid, the data are not longer than a frame's may be. -/
import Derived.Test.YtgphgbajgjddfaaDoorFrameLib
import Derived.Deep.RegionHeld3
import Derived.Deep.QuietTactic
import Derived.BigQuiet
import Derived.RegionTactic
namespace Go.Proofs.YtgphgbajgjddfaaDoor
open Go.RowKit Go.Shelf
set_option linter.unusedVariables false
set_option linter.unusedSimpArgs false

def fillN (n : Nat) : Nat := (n + 55) / 48 * 48 - n - 8
def told (u : Int) (n : Nat) : ByteArray := strOfNums [u, 0, (n : Int) / 256, (n : Int) % 256]
def bodyF (u : Int) (data : ByteArray) : ByteArray := data ++ zeros (fillN data.size) ++ told u data.size
def frameB (u : Int) (data : ByteArray) : ByteArray := bodyF u data ++ four (sumOf (bodyF u data))
theorem noughts_size (n : Nat) : (zeros n).size = n := by unfold zeros; simp [ByteArray.size]
theorem told_size (u : Int) (n : Nat) : (told u n).size = 4 := by unfold told; rw [strOfNums_size]; rfl
theorem cells_fill (n : Nat) : cellsOf n * 48 - n - 8 = (fillN n : Int) ∧ fillN n ≤ 47 ∧ n + fillN n + 8 = (n + 55) / 48 * 48 := by
  unfold cellsOf fillN
  omega

set_option maxHeartbeats 1000000 in
set_option maxRecDepth 100000 in
theorem frame_bytes (u : Int) (data : ByteArray) (g : Nat) (w0 w : World) (hu : 0 ≤ u ∧ u < 256) (hs : data.size ≤ 65535) (hT : Has w0 w g) :
    Calls Tryd.prog 11 #[.agg #[.int .u8 u, .string data], .pointer (some ⟨g, 0, none⟩)] w fun e w' => e = .returned (.tuple #[.string (frameB u data), .int .i64 0]) ∧ Has w0 w' g := by
  have HT := Lib.hid hT
  clear hT
  have hcl := fun W => cells data.size W (by omega) (by omega)
  have HCL := Lib.hid hcl
  clear hcl
  obtain ⟨hf1, hf2, hf3⟩ := cells_fill data.size
  have HBD : Hid (data ++ zeros (fillN data.size) ++ told u data.size = bodyF u data) := rfl
  have hz1 := noughts_size (fillN data.size)
  have hz2 := told_size u data.size
  obtain ⟨b0, b1⟩ : (w.alloc (.cells #[.int .u8 u, .string data] 44)).cell? ⟨w.heap.size, 0, none⟩ = some (.int .u8 u) ∧ (w.alloc (.cells #[.int .u8 u, .string data] 44)).cell? ⟨w.heap.size, 1, none⟩ = some (.string data) := by
    constructor
    · rw [cell_of_row _ _ 0 _ _ (0, 0) (heap_alloc_new w _)]; rfl
    · rw [cell_of_row _ _ 1 _ _ (0, 0) (heap_alloc_new w _)]; rfl
  have HTA := Lib.hid (HT.out.next ((Below.refl _ w).alloc (Nat.le_refl _) (.cells #[.int .u8 u, .string data] 44)))
  have hg : w.heap.size < (w.alloc (.cells #[.int .u8 u, .string data] 44)).heap.size := by simp
  have hd : decide (65535 < (data.size : Int)) = false := by simp only [decide_eq_false_iff_not]; omega
  have hconv := conv4
  go_enter Tryd.func11, Tryd.ntmps11
  go_upto_region 1 with fail
  generalize w.alloc (.cells #[.int .u8 u, .string data] 44) = W at *
  go_wp2_with fail
  refine (HCL.out _).mono ?_
  rintro e w1 ⟨rfl, rfl⟩
  go_wp2_with fail
  obtain ⟨W1, hW1⟩ : ∃ W1, W1 = W.alloc (.cells #[.int .u8 u, .int .u8 0, .int .u8 ((data.size : Int) / 256), .int .u8 ((data.size : Int) % 256)] 5) := ⟨_, rfl⟩
  rw [← hW1]
  have hbW : Below W.heap.size W W1 := by rw [hW1]; exact (Below.refl _ W).alloc (Nat.le_refl _) _
  have c1 : W1.cell? ⟨w.heap.size, 1, none⟩ = some (.string data) := by rw [hbW.cell (p := ⟨w.heap.size, 1, none⟩) hg]; exact b1
  have HT1 := Lib.hid (HTA.out.next hbW)
  have hg1 : w.heap.size < W1.heap.size := Nat.lt_of_lt_of_le hg hbW.size
  obtain ⟨tl, htl⟩ : ∃ tl, tl = told u data.size := ⟨_, rfl⟩
  have htl' : strOfNums [u, 0, (data.size : Int) / 256, (data.size : Int) % 256] = tl := htl.symm
  rw [htl']
  rw [← htl] at HBD hz2
  obtain ⟨fl, hfl⟩ : ∃ fl, fl = fillN data.size := ⟨_, rfl⟩
  rw [← hfl] at hf1 hf2 hz1 HBD ⊢
  obtain ⟨Z, hZ⟩ : ∃ Z, Z = zeros fl := ⟨_, rfl⟩
  rw [← hZ] at hz1 HBD
  have HZ := Lib.hid hZ
  have hn1 : ¬ 9223372036854775807 < data.size + Z.size := by omega
  have hn2 : ¬ 9223372036854775807 < (data ++ Z).size + tl.size := by rw [ByteArray.size_append]; omega
  have hn3 : ¬ 9223372036854775807 < data.size + fl := by omega
  have hn4 : ¬ 9223372036854775807 < data.size + fl + 4 := by omega
  have hsz : (data ++ Z ++ tl).size ≤ 1099511627776 := by rw [ByteArray.size_append, ByteArray.size_append]; omega
  have HSZ := Lib.hid hsz
  have hb0 := Below.refl W1.heap.size W1
  clear hW1 hbW b0 b1 htl htl' hfl hZ hf1 hf3 hconv hd HT HTA hg hsz
  go_region_held3 (fun w' => w'.cell? ⟨w.heap.size, 1, none⟩ = some (.string data)) (first | go_keep | (exact (by rw [HBM.out.cell (p := ⟨w.heap.size, 1, none⟩) hg1]; exact c1)) | (exact (by rw [HBN.out.cell (p := ⟨w.heap.size, 1, none⟩) hg1]; exact c1)))
    (first
      | (go_at_call 30
         refine (repeat0 fl _ (by omega)).mono ?_
         rintro e wr ⟨he, hbr⟩
         rw [← HZ.out] at he
         subst he
         have HBN := Lib.hid (show Below W1.heap.size W1 wr from Below.trans (show Below W1.heap.size W1 _ by repeat (with_reducible first | exact hb0 | refine Below.drew ?_)) (hbr.mono (by first | (simp; done) | (simp; omega) | omega)))
         clear hbr)
      | (go_at_call 29
         refine (crc_seal (data ++ Z ++ tl) g _ HSZ.out (HT1.out.next (show Below W1.heap.size W1 _ by repeat (with_reducible first | exact HBN.out | exact hb0 | refine Below.drew ?_))).tab).mono ?_
         rintro e ws ⟨rfl, hbs⟩
         have HBM := Lib.hid (show Below W1.heap.size W1 ws from Below.trans (show Below W1.heap.size W1 _ by repeat (with_reducible first | exact HBN.out | exact hb0 | refine Below.drew ?_)) (hbs.mono HBN.out.size))
         clear hbs)
      | fail)
  all_goals go_wp2_with fail
  all_goals
    go_ret2
    exact ⟨by rw [HBD.out]; rfl, HT1.out.next HBM.out⟩
end Go.Proofs.YtgphgbajgjddfaaDoor
