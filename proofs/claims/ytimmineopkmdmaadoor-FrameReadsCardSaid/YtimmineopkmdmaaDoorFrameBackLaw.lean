/- The walk of the law FrameBack. Conditions: the user is a byte, the text no longer than one may be. -/
import Derived.Test.YtimmineopkmdmaaDoorFrameRef
namespace Go.Proofs.YtimmineopkmdmaaDoor
open Go.RowKit Go.Shelf
set_option linter.unusedVariables false
set_option linter.unusedSimpArgs false

theorem guardFrame (op : BinOp) (x y : Operand) (a c : Int) (b d : ByteArray) (w : World) : Sem.run Tryd.prog (eqGuard op 31 x y (.agg #[.int .u8 a, .string b]) (.agg #[.int .u8 c, .string d])) w = .ok () w := run_eqGuard_agg w op _ x y _ _ (by kernel_rfl)

set_option maxHeartbeats 1000000 in
set_option maxRecDepth 100000 in
theorem walk_FrameBack (u : Int) (s0 : ByteArray) (hu : 0 ≤ u ∧ u < 256) (hs : s0.size ≤ maxLen) (w : World) :
    Calls Tryd.prog 3 #[.int .u8 u, .string s0] w fun e w' => e = .returned (.bool true) ∧ Below w.heap.size w w' := by
  have hz := (zero_of_info infoTab).1
  have HZ := Lib.hid zeros_tab
  generalize zeros256 = Z at *
  have HCUT := Lib.hid (fun W => show Calls Tryd.prog 14 #[.string s0, .int .i64 400] W fun e w' => e = .returned (.string (cutB s0 400)) ∧ W = w' from crc_cut s0 400 W hs (by decide))
  have hsz := cutB_size s0 400
  generalize cutB s0 400 = s at *
  clear hs
  have HFB := Lib.hid (fun g w W (h : Has w W g) => frame_bytes u s g w W hu (by omega) h)
  have HPF := Lib.hid (fun g w W (h : Has w W g) => parse_frame u s g w W hu (by omega) h)
  have HRB := Lib.hid (fun W => ref_bytes u s W hu (by omega))
  have HCE := Lib.hid (fun W => cells s.size W (by omega) (by omega))
  have hfs := frame_size u s
  obtain ⟨hf1, hf2, hf3⟩ := cells_fill s.size
  have heq := eqFrame u s
  have hgd := guardFrame
  generalize frameB u s = FB at *
  have hbb : (FB.toList == FB.toList) = true := by simp
  have hce : (cellsOf (s.size : Int) == (FB.size : Int) / 48) = true := by rw [beq_iff_eq, hfs]; omega
  have hfb : FB.size ≤ 500 := by rw [hfs]; omega
  have HCF := Lib.hid hfs
  clear hf1 hf2 hf3 hfs
  generalize cellsOf (s.size : Int) = CN at *
  go_enter Tryd.func3, Tryd.ntmps3
  go_wp2_with fail
  refine (frame_awake _).mono ?_
  rintro e w1 ⟨rfl, hb1⟩
  have HB1 := Lib.hid hb1
  clear hb1
  go_wp2_with fail
  refine (HCUT.out _).mono ?_
  rintro e w1' ⟨rfl, rfl⟩
  go_wp2_with fail
  refine (crc_make _).mono ?_
  rintro e w2 ⟨rfl, hb2⟩
  have HB2 := Lib.hid (HB1.out.trans (hb2.mono HB1.out.size))
  clear hb2
  go_wp2_with (refine wpList_store_row rfl 26 (.tmp 5) (.tmp 14) rfl w2.heap.size tabArr rfl rfl 26 Z (heap_alloc_new w2 _) tabInfo HZ.out tabArr_one ?_)
  have hh := Has.made HB2.out Z 26
  generalize (w2.alloc (.cells Z 26)).setRow w2.heap.size tabArr = w3 at *
  generalize w2.heap.size = g at *
  have HH := Lib.hid hh
  clear hh
  go_wp2_with fail
  refine (HFB.out g w w3 HH.out).mono ?_
  rintro e w4 ⟨rfl, hh4⟩
  have H4 := Lib.hid hh4
  clear hh4
  go_wp2_with fail
  refine (HPF.out g w w4 H4.out).mono ?_
  rintro e w5 ⟨rfl, hh5⟩
  have HB5 := Lib.hid ((hh5.below).alloc hh5.below.size (.cells #[.int .u8 u, .string s] 31))
  obtain ⟨c0, c1⟩ := agg_new w5 u s 31
  have hg5 : w5.heap.size < (w5.alloc (.cells #[.int .u8 u, .string s] 31)).heap.size := by simp
  clear hh5
  go_wp2_with fail
  refine (HRB.out _).mono ?_
  rintro e w6 ⟨rfl, hb6⟩
  have HB6 := Lib.hid (HB5.out.trans (hb6.mono HB5.out.size))
  have d0 : w6.cell? ⟨w5.heap.size, 0, none⟩ = some (.int .u8 u) := by rw [hb6.cell (p := ⟨w5.heap.size, 0, none⟩) hg5]; exact c0
  have d1 : w6.cell? ⟨w5.heap.size, 1, none⟩ = some (.string s) := by rw [hb6.cell (p := ⟨w5.heap.size, 1, none⟩) hg5]; exact c1
  clear hb6 c0 c1
  go_wp2_with fail
  refine (HCE.out _).mono ?_
  rintro e w7 ⟨rfl, rfl⟩
  go_wp2_with fail
  go_ret
  exact ⟨rfl, HB6.out⟩
end Go.Proofs.YtimmineopkmdmaaDoor
