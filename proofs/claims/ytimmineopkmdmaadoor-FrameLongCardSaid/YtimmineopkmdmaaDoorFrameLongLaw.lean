/- The walk of the law FrameLong. Conditions: the number is one of 64 bits. -/
import Derived.Test.YtimmineopkmdmaaDoorFrameRef
import Derived.Deep.OwnRows
namespace Go.Proofs.YtimmineopkmdmaaDoor
open Go.RowKit Go.Shelf
set_option linter.unusedVariables false
set_option linter.unusedSimpArgs false

theorem infoByte : (Tryd.prog.info? 5).map (fun i => (i.zero, i.size, i.bytes)) = some (some (.int .u8 0), 1, 1) := by kernel_rfl
theorem strOf_replicate (n : Nat) : strOfNums (List.replicate n 0) = zeros n := by
  apply nums_inj
  rw [nums_zeros, nums_strOfNums, List.map_replicate]
  rfl
theorem made_zeros (W : World) (n : Nat) :
    Sem.run Tryd.prog (convert 49 9 (.slice (some ⟨W.heap.size, 0, none⟩) n n)) (W.alloc (.cells (madeCells #[.int .u8 0] n) 5)) = .ok (.string (zeros n)) (W.alloc (.cells (madeCells #[.int .u8 0] n) 5)) := by
  rw [← strOf_replicate]
  refine run_convert_bytes_arg (P := Tryd.prog) _ 49 5 Tryd.underlying49 Tryd.underlying5 W.heap.size 0 n n (List.replicate n 0) (by simp) ?_ 9 Tryd.underlying9
  intro i hi
  rw [Nat.zero_add, cell_of_row _ _ i _ _ (0, 0) (heap_alloc_new W _), ← Array.getElem?_toList, toList_madeCells_one]
  simp [hi]

set_option maxRecDepth 100000 in
theorem frame_big (u : Int) (data : ByteArray) (t : Value) (w : World) (hs : 65535 < data.size) (hs2 : data.size ≤ maxLen) :
    Calls Tryd.prog 16 #[.agg #[.int .u8 u, .string data], t] w fun e w' => e = .returned (.tuple #[.string ⟨#[]⟩, .int .i64 6]) ∧ Below w.heap.size w w' := by
  obtain ⟨b0, b1⟩ : (w.alloc (.cells #[.int .u8 u, .string data] 31)).cell? ⟨w.heap.size, 0, none⟩ = some (.int .u8 u) ∧ (w.alloc (.cells #[.int .u8 u, .string data] 31)).cell? ⟨w.heap.size, 1, none⟩ = some (.string data) := by
    constructor
    · rw [cell_of_row _ _ 0 _ _ (0, 0) (heap_alloc_new w _)]; rfl
    · rw [cell_of_row _ _ 1 _ _ (0, 0) (heap_alloc_new w _)]; rfl
  have hb := (Below.refl w.heap.size w).alloc (Nat.le_refl _) (.cells #[.int .u8 u, .string data] 31)
  have HB := Lib.hid hb
  clear hb
  have hd : decide (65535 < (data.size : Int)) = true := by simp only [decide_eq_true_eq]; omega
  go_enter Tryd.func16, Tryd.ntmps16
  go_upto_region 1 with fail
  generalize w.alloc (.cells #[.int .u8 u, .string data] 31) = W at *
  go_wp2_with fail
  go_ret2
  exact ⟨rfl, HB.out⟩

set_option maxHeartbeats 2000000 in
set_option maxRecDepth 100000 in
theorem walk_FrameLong (n : Int) (w : World) (h1 : -9223372036854775808 ≤ n) (h2 : n ≤ 9223372036854775807) :
    Calls Tryd.prog 6 #[.int .i64 n] w fun e w' => e = .returned (.bool true) ∧ Below w.heap.size w w' := by
  have hz := (zero_of_info infoTab).1
  have HZ := Lib.hid zeros_tab
  generalize zeros256 = Z at *
  go_enter Tryd.func6, Tryd.ntmps6
  go_wp2_with fail
  refine (frame_awake _).mono ?_
  rintro e w1 ⟨rfl, hb1⟩
  have HB1 := Lib.hid hb1
  clear hb1
  go_upto_region 3 with fail
  go_cut [0] (fun s0 w' => ∃ N : Nat, s0 = .int .i64 (N : Int) ∧ Hid (N ≤ 65540) ∧ w1 = w')
  case first =>
    go_wp2_with fail
    all_goals go_meet
    all_goals exact ⟨(max 0 (min n 65540)).toNat, (by congr 1; omega), (by show _ ≤ _; omega), rfl⟩
  case rest =>
    obtain ⟨N, rfl, HN, rfl⟩ := hcut
    have hN := HN.out
    clear h1 h2 HN
    have hmk := run_make_row' (P := Tryd.prog) 49 5 (.int .u8 0) 1 Tryd.underlying49 infoByte rfl .i64 .i64 N (by omega) (by omega)
    have hcv := fun W => made_zeros W N
    have hzs := noughts_size N
    by_cases hbig : 65535 < N
    · have HFB := Lib.hid (fun t w => frame_big 0 (zeros N) t w (by omega) (by unfold maxLen; omega))
      generalize zeros N = ZN at *
      have hd : decide (65535 < (N : Int)) = true := by simp only [decide_eq_true_eq]; omega
      go_wp2_with fail
      refine (crc_make _).mono ?_
      rintro e w2 ⟨rfl, hb2⟩
      have HB2 := Lib.hid (HB1.out.trans (hb2.mono HB1.out.size))
      clear hb2
      go_upto_region 5 with (refine wpList_store_row rfl 26 (.tmp 3) (.tmp 14) rfl w2.heap.size tabArr rfl rfl 26 Z (heap_alloc_new w2 _) tabInfo HZ.out tabArr_one ?_)
      have hh := Has.made HB2.out Z 26
      have hs3 := (made_size w2 Z 26).symm
      generalize (w2.alloc (.cells Z 26)).setRow w2.heap.size tabArr = w3 at *
      generalize w2.heap.size = g at *
      have HH := Lib.hid hh
      clear hh
      have hcv3 := hcv w3
      clear hcv hs3
      go_wp2_with fail
      have H3 := Lib.hid (HH.out.next ((Below.refl w3.heap.size w3).alloc (Nat.le_refl _) (.cells (madeCells #[.int .u8 0] N) 5)))
      generalize w3.alloc (.cells (madeCells #[.int .u8 0] N) 5) = w4 at *
      refine (HFB.out _ w4).mono ?_
      rintro e w5 ⟨rfl, hb5⟩
      have HB5 := Lib.hid (H3.out.below.trans (hb5.mono H3.out.below.size))
      clear hb5
      go_wp2_with fail
      go_ret
      exact ⟨by first | rfl | simp, HB5.out⟩
    · obtain ⟨hf1, hf2, hf3⟩ := cells_fill N
      have hfs := frame_size 0 (zeros N)
      rw [hzs] at hfs
      have HFB := Lib.hid (fun g w W (h : Has w W g) => frame_bytes 0 (zeros N) g w W (by omega) (by omega) h)
      have HPF := Lib.hid (fun g w W (h : Has w W g) => parse_frame 0 (zeros N) g w W (by omega) (by omega) h)
      have HCE := Lib.hid (fun W => cells (N : Int) W (by omega) (by omega))
      generalize frameB 0 (zeros N) = FB at *
      generalize zeros N = ZN at *
      have hCN : 0 ≤ cellsOf (N : Int) ∧ cellsOf (N : Int) ≤ 2000 := by omega
      have hd : decide (65535 < (N : Int)) = false := by simp only [decide_eq_false_iff_not]; omega
      have d1 : ((ZN.size : Int) == (N : Int)) = true := by rw [beq_iff_eq]; omega
      have d2 : ((FB.size : Int) == 48 * cellsOf (N : Int)) = true := by rw [beq_iff_eq]; omega
      have d3 : decide ((N : Int) ≤ (FB.size : Int) - 8) = true := by simp only [decide_eq_true_eq]; omega
      have d4 : decide ((FB.size : Int) - 8 - (N : Int) < 48) = true := by simp only [decide_eq_true_eq]; omega
      have hfl : FB.size ≤ 70000 := by omega
      have hf8 : 8 ≤ FB.size := by omega
      have HS := Lib.hid hfs
      have HZS := Lib.hid hzs
      clear hf1 hf2 hf3 hfs hzs hbig
      generalize cellsOf (N : Int) = CN at *
      obtain ⟨hc1, hc2⟩ := hCN
      go_wp2_with fail
      refine (crc_make _).mono ?_
      rintro e w2 ⟨rfl, hb2⟩
      have HB2 := Lib.hid (HB1.out.trans (hb2.mono HB1.out.size))
      clear hb2
      go_upto_region 5 with (refine wpList_store_row rfl 26 (.tmp 3) (.tmp 14) rfl w2.heap.size tabArr rfl rfl 26 Z (heap_alloc_new w2 _) tabInfo HZ.out tabArr_one ?_)
      have hh := Has.made HB2.out Z 26
      have hs3 := (made_size w2 Z 26).symm
      generalize (w2.alloc (.cells Z 26)).setRow w2.heap.size tabArr = w3 at *
      generalize w2.heap.size = g at *
      have HH := Lib.hid hh
      clear hh
      have hcv3 := hcv w3
      clear hcv hs3
      go_wp2_with fail
      have H3 := Lib.hid (HH.out.next ((Below.refl w3.heap.size w3).alloc (Nat.le_refl _) (.cells (madeCells #[.int .u8 0] N) 5)))
      generalize w3.alloc (.cells (madeCells #[.int .u8 0] N) 5) = w4 at *
      refine (HFB.out g _ w4 H3.out).mono ?_
      rintro e w5 ⟨rfl, hh5⟩
      have H5 := Lib.hid hh5
      clear hh5
      go_wp2_with fail
      refine (HPF.out g _ w5 H5.out).mono ?_
      rintro e w6 ⟨rfl, hh6⟩
      have HB6 := Lib.hid ((hh6.below).alloc hh6.below.size (.cells #[.int .u8 0, .string ZN] 31))
      obtain ⟨c0, c1⟩ := agg_new w6 0 ZN 31
      clear hh6
      go_wp2_with fail
      refine (HCE.out _).mono ?_
      rintro e w7 ⟨rfl, rfl⟩
      go_wp2_with fail
      go_ret
      exact ⟨by first | rfl | simp, HB6.out⟩
end Go.Proofs.YtimmineopkmdmaaDoor
