/- The walk of the law FrameFlips. Conditions: the numbers fit their kinds, the text is no longer than one may be. -/
import Derived.Test.YtimmineopkmdmaaDoorFrameTurn
namespace Go.Proofs.YtimmineopkmdmaaDoor
open Go.RowKit Go.Shelf
set_option linter.unusedVariables false
set_option linter.unusedSimpArgs false

set_option maxHeartbeats 2000000 in
set_option maxRecDepth 100000 in
theorem walk_FrameFlips (u : Int) (s0 : ByteArray) (at_ : Int) (mask : Nat) (hu : 0 ≤ u ∧ u < 256) (hs : s0.size ≤ maxLen) (a1 : -9223372036854775808 ≤ at_) (a2 : at_ ≤ 9223372036854775807) (hm : mask < 4294967296) (w : World) :
    Calls Tryd.prog 5 #[.agg #[.int .u8 u, .string s0, .int .i64 at_, .int .u32 (mask : Int)]] w fun e w' => e = .returned (.bool true) ∧ Below w.heap.size w w' := by
  have hz := (zero_of_info infoTab).1
  have HZ := Lib.hid zeros_tab
  generalize zeros256 = Z at *
  have HCUT := Lib.hid (fun W => show Calls Tryd.prog 14 #[.string s0, .int .i64 200] W fun e w' => e = .returned (.string (cutB s0 200)) ∧ W = w' from crc_cut s0 200 W hs (by decide))
  have hsz := cutB_size s0 200
  generalize cutB s0 200 = s at *
  clear hs
  have HFB := Lib.hid (fun g w W (h : Has w W g) => frame_bytes u s g w W hu (by omega) h)
  have HPF := Lib.hid (fun g w W (h : Has w W g) => parse_frame u s g w W hu (by omega) h)
  have HTD := Lib.hid (fun A M => show turnS (frameB u s) A M ≠ frameB u s → fitsB (turnS (frameB u s) A M) = false from turnS_told (bodyF u s) A M)
  have hfs := frame_size u s
  obtain ⟨hf1, hf2, hf3⟩ := cells_fill s.size
  have hgd := guardFrame
  have heq := eqFrame 0 ⟨#[]⟩
  generalize frameB u s = FB at *
  have hfb : FB.size ≤ 300 := by rw [hfs]; omega
  have hf0 : 0 < FB.size := by rw [hfs]; omega
  have hf48 : FB.size % 48 = 0 := by rw [hfs]; omega
  have HF48 := Lib.hid hf48
  have HM := Lib.hid hm
  clear hf1 hf2 hf3 hfs hf48 hm
  have hn := heap_alloc_new w (.cells #[.int .u8 u, .string s0, .int .i64 at_, .int .u32 (mask : Int)] 46)
  have x0 : (w.alloc (.cells #[.int .u8 u, .string s0, .int .i64 at_, .int .u32 (mask : Int)] 46)).cell? ⟨w.heap.size, 0, none⟩ = some (.int .u8 u) := by rw [cell_of_row _ _ 0 _ _ (0, 0) hn]; rfl
  have x1 : (w.alloc (.cells #[.int .u8 u, .string s0, .int .i64 at_, .int .u32 (mask : Int)] 46)).cell? ⟨w.heap.size, 1, none⟩ = some (.string s0) := by rw [cell_of_row _ _ 1 _ _ (0, 0) hn]; rfl
  have x2 : (w.alloc (.cells #[.int .u8 u, .string s0, .int .i64 at_, .int .u32 (mask : Int)] 46)).cell? ⟨w.heap.size, 2, none⟩ = some (.int .i64 at_) := by rw [cell_of_row _ _ 2 _ _ (0, 0) hn]; rfl
  have x3 : (w.alloc (.cells #[.int .u8 u, .string s0, .int .i64 at_, .int .u32 (mask : Int)] 46)).cell? ⟨w.heap.size, 3, none⟩ = some (.int .u32 (mask : Int)) := by rw [cell_of_row _ _ 3 _ _ (0, 0) hn]; rfl
  have HB0 := Lib.hid ((Below.refl _ w).alloc (Nat.le_refl _) (.cells #[.int .u8 u, .string s0, .int .i64 at_, .int .u32 (mask : Int)] 46))
  have hg0 : w.heap.size < (w.alloc (.cells #[.int .u8 u, .string s0, .int .i64 at_, .int .u32 (mask : Int)] 46)).heap.size := by simp
  have HX := Lib.hid (And.intro x0 (And.intro x1 (And.intro x2 x3)))
  clear hn x0 x1 x2 x3
  obtain ⟨bx, hbx⟩ : ∃ bx, bx = w.heap.size := ⟨_, rfl⟩
  go_enter Tryd.func5, Tryd.ntmps5
  go_upto_region 1 with fail
  rw [← hbx] at hg0 HX ⊢
  generalize w.alloc (.cells #[.int .u8 u, .string s0, .int .i64 at_, .int .u32 (mask : Int)] 46) = w0 at *
  go_wp2_with fail
  refine (frame_awake _).mono ?_
  rintro e w1 ⟨rfl, hb1⟩
  have HB1' := Lib.hid (HB0.out.trans (hb1.mono HB0.out.size))
  have c0 : w1.cell? ⟨bx, 0, none⟩ = some (.int .u8 u) := by rw [hb1.cell (p := ⟨bx, 0, none⟩) hg0]; exact HX.out.1
  have c1 : w1.cell? ⟨bx, 1, none⟩ = some (.string s0) := by rw [hb1.cell (p := ⟨bx, 1, none⟩) hg0]; exact HX.out.2.1
  have c2 : w1.cell? ⟨bx, 2, none⟩ = some (.int .i64 at_) := by rw [hb1.cell (p := ⟨bx, 2, none⟩) hg0]; exact HX.out.2.2.1
  have c3 : w1.cell? ⟨bx, 3, none⟩ = some (.int .u32 (mask : Int)) := by rw [hb1.cell (p := ⟨bx, 3, none⟩) hg0]; exact HX.out.2.2.2
  clear hb1 HX hbx hg0
  go_wp2_with fail
  go_quiet (fail)
  have HB1 := Lib.hid (below_drewN HB1'.out nq)
  have d1 : (w1.drewN nq).cell? ⟨bx, 1, none⟩ = some (.string s0) := by rw [World.cell?_drewN]; exact c1
  clear c0 c1 c2 c3 HB1'
  generalize w1.drewN nq = w1' at *
  go_wp2_with fail
  refine (HCUT.out _).mono ?_
  rintro e w1'' ⟨rfl, rfl⟩
  clear HCUT
  go_wp2_with fail
  refine (crc_make _).mono ?_
  rintro e w2 ⟨rfl, hb2⟩
  have HB2 := Lib.hid (HB1.out.trans (hb2.mono HB1.out.size))
  clear hb2
  go_upto_region 6 with (refine wpList_store_row rfl 26 (.tmp 7) (.tmp 24) rfl w2.heap.size tabArr rfl rfl 26 Z (heap_alloc_new w2 _) tabInfo HZ.out tabArr_one ?_)
  have hh := Has.made HB2.out Z 26
  generalize (w2.alloc (.cells Z 26)).setRow w2.heap.size tabArr = w3 at *
  generalize w2.heap.size = g at *
  have HH := Lib.hid hh
  clear hh
  clear d1
  go_wp2_with fail
  refine (HFB.out g _ w3 HH.out).mono ?_
  rintro e w4 ⟨rfl, hh4⟩
  have H4 := Lib.hid hh4
  clear hh4 HFB HH hz
  go_upto_region 7 with fail
  go_cut [4] (fun s4 w' => ∃ A : Int, s4 = .int .i64 A ∧ Hid (-40 ≤ A ∧ A ≤ 8 * (FB.size : Int) + 4) ∧ w4 = w')
  case first =>
    go_wp2_with fail
    all_goals go_meet
    all_goals exact ⟨_, rfl, (by show _ ∧ _; omega), rfl⟩
  case rest =>
    obtain ⟨A, rfl, HA, rfl⟩ := hcut
    obtain ⟨hA1, hA2⟩ := HA.out
    have HFL := Lib.hid (fun (x : ByteArray) W (h : x.size = FB.size) => flipAt x A mask W (by omega) (by omega) (by omega) HM.out)
    have HTU := Lib.hid (fun (x : ByteArray) W (h : x.size = FB.size) => turnAt x A mask W (by omega) (by omega) (by omega) HM.out)
    have hBs := turnS_size FB A mask
    have htw := turnS_twice FB A mask
    have htd := HTD.out A mask
    have F1 := Lib.hid (fun W => HFL.out FB W rfl)
    have F2 := Lib.hid (fun W => HFL.out (turnS FB A mask) W hBs)
    have F3 := Lib.hid (fun W => HTU.out FB W rfl)
    rw [htw] at F2
    clear HFL HTU HTD htw
    generalize turnS FB A mask = B at *
    have HTO := Lib.hid htd
    have hb1 : (B.toList == B.toList) = true := by simp
    have hb2 : (B.toList != B.toList) = false := by simp
    have hf1 : (FB.toList == FB.toList) = true := by simp
    have hf2 : (FB.toList != FB.toList) = false := by simp
    clear htd a1 a2
    go_wp2_with fail
    refine (F1.out _).mono ?_
    rintro e w5 ⟨rfl, hb5⟩
    have H5 := Lib.hid (H4.out.next hb5)
    clear hb5
    go_wp2_with fail
    refine (F3.out _).mono ?_
    rintro e w6 ⟨rfl, hb6⟩
    have H6 := Lib.hid (H5.out.next hb6)
    clear hb6
    go_wp2_with fail
    refine (F2.out _).mono ?_
    rintro e w7 ⟨rfl, hb7⟩
    have H7 := Lib.hid (H6.out.next hb7)
    clear hb7 F1 F2 F3 H4 H5 H6
    by_cases hBF : B = FB
    · subst hBF
      have hss : (s.toList == s.toList) = true := by simp
      go_wp2_with fail
      refine (HPF.out g _ w7 H7.out).mono ?_
      rintro e w8 ⟨rfl, hh8⟩
      have HB8 := Lib.hid ((hh8.below).alloc hh8.below.size (.cells #[.int .u8 u, .string s] 31))
      obtain ⟨e0, e1⟩ := agg_new w8 u s 31
      clear hh8
      go_wp2_with fail
      go_ret
      exact ⟨by first | rfl | simp, HB8.out⟩
    · have hfit := HTO.out hBF
      have hne : (B.toList == FB.toList) = false := by rw [toList_eq2, decide_eq_false_iff_not]; exact hBF
      have HBF := Lib.hid hBF
      have HPS := Lib.hid (fun g w W (h : Has w W g) => parse_sum B g w W (by unfold maxLen; omega) h (by omega) (by have := HF48.out; omega) hfit)
      clear hBF hfit
      go_wp2_with fail
      refine (HPS.out g _ w7 H7.out).mono ?_
      rintro e w8 ⟨rfl, hh8⟩
      have HB8 := Lib.hid ((hh8.below).alloc hh8.below.size (.cells #[.int .u8 0, .string ⟨#[]⟩] 31))
      obtain ⟨e0, e1⟩ := agg_new w8 0 ⟨#[]⟩ 31
      clear hh8
      go_wp2_with fail
      go_ret
      exact ⟨by first | rfl | simp, HB8.out⟩
end Go.Proofs.YtimmineopkmdmaaDoor
