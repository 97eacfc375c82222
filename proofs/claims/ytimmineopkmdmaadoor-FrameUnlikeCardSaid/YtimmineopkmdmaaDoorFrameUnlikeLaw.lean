/- The walk of the law FrameUnlike. Conditions: the users are bytes, the texts no longer than they may be. -/
import Derived.Test.YtimmineopkmdmaaDoorFrameRef
namespace Go.Proofs.YtimmineopkmdmaaDoor
open Go.RowKit Go.Shelf
set_option linter.unusedVariables false
set_option linter.unusedSimpArgs false

/-- Unlike frames have unlike bytes. -/
theorem frame_inj (u v : Int) (a b : ByteArray) (hu : 0 ≤ u ∧ u < 256) (hv : 0 ≤ v ∧ v < 256) (ha : a.size ≤ 65535) (hb : b.size ≤ 65535) (h : frameB u a = frameB v b) : u = v ∧ a = b := by
  have h1 := frame_told u a hu ha
  have h2 := frame_told v b hv hb
  rw [h] at h1
  have hs : a.size = b.size := h1.symm.trans h2
  have h3 := frame_data u a hu ha
  have h4 := frame_data v b hv hb
  rw [h, hs] at h3
  have hab : a = b := h3.symm.trans h4
  subst hab
  refine ⟨?_, rfl⟩
  have h5 := at_frame u a hu ha 0 (by omega)
  have h6 := at_frame v a hv hb 0 (by omega)
  rw [h, h6] at h5
  simp only [List.getD_cons_zero] at h5
  omega
theorem toList_eq (a b : ByteArray) : (a.toList == b.toList) = decide (a = b) := by
  rw [ByteArray.toList_eq, ByteArray.toList_eq, Bool.eq_iff_iff, beq_iff_eq, decide_eq_true_iff]
  constructor
  · intro h
    apply ByteArray.ext
    exact Array.toList_inj.1 h
  · intro h; rw [h]

set_option maxHeartbeats 8000000 in
set_option maxRecDepth 100000 in
theorem walk_FrameUnlike (u v : Int) (a0 b0 : ByteArray) (hu : 0 ≤ u ∧ u < 256) (hv : 0 ≤ v ∧ v < 256) (hsa : a0.size ≤ maxLen) (hsb : b0.size ≤ maxLen) (w : World) :
    Calls Tryd.prog 7 #[.agg #[.int .u8 u, .int .u8 v, .string a0, .string b0]] w fun e w' => e = .returned (.bool true) ∧ Below w.heap.size w w' := by
  have hz := (zero_of_info infoTab).1
  have HZ := Lib.hid zeros_tab
  generalize zeros256 = Z at *
  have HC := Lib.hid (fun (x : ByteArray) W (hx : x.size ≤ maxLen) => show Calls Tryd.prog 14 #[.string x, .int .i64 120] W fun e w' => e = .returned (.string (cutB x 120)) ∧ w' = W from (crc_cut x 120 W hx (by decide)).mono fun _ _ h => ⟨h.1, h.2.symm⟩)
  have hn := heap_alloc_new w (.cells #[.int .u8 u, .int .u8 v, .string a0, .string b0] 52)
  have x0 : (w.alloc (.cells #[.int .u8 u, .int .u8 v, .string a0, .string b0] 52)).cell? ⟨w.heap.size, 0, none⟩ = some (.int .u8 u) := by rw [cell_of_row _ _ 0 _ _ (0, 0) hn]; rfl
  have x1 : (w.alloc (.cells #[.int .u8 u, .int .u8 v, .string a0, .string b0] 52)).cell? ⟨w.heap.size, 1, none⟩ = some (.int .u8 v) := by rw [cell_of_row _ _ 1 _ _ (0, 0) hn]; rfl
  have x2 : (w.alloc (.cells #[.int .u8 u, .int .u8 v, .string a0, .string b0] 52)).cell? ⟨w.heap.size, 2, none⟩ = some (.string a0) := by rw [cell_of_row _ _ 2 _ _ (0, 0) hn]; rfl
  have x3 : (w.alloc (.cells #[.int .u8 u, .int .u8 v, .string a0, .string b0] 52)).cell? ⟨w.heap.size, 3, none⟩ = some (.string b0) := by rw [cell_of_row _ _ 3 _ _ (0, 0) hn]; rfl
  have HB0 := Lib.hid ((Below.refl _ w).alloc (Nat.le_refl _) (.cells #[.int .u8 u, .int .u8 v, .string a0, .string b0] 52))
  have hg0 : w.heap.size < (w.alloc (.cells #[.int .u8 u, .int .u8 v, .string a0, .string b0] 52)).heap.size := by simp
  have HX := Lib.hid (And.intro x0 (And.intro x1 (And.intro x2 x3)))
  clear hn x0 x1 x2 x3
  obtain ⟨bx, hbx⟩ : ∃ bx, bx = w.heap.size := ⟨_, rfl⟩
  go_enter Tryd.func7, Tryd.ntmps7
  go_upto_region 1 with fail
  rw [← hbx] at hg0 HX ⊢
  generalize w.alloc (.cells #[.int .u8 u, .int .u8 v, .string a0, .string b0] 52) = w0 at *
  go_wp2_with fail
  refine (frame_awake _).mono ?_
  rintro e w1 ⟨rfl, hb1⟩
  have HB1 := Lib.hid (HB0.out.trans (hb1.mono HB0.out.size))
  have HC0 : Hid (w1.cell? ⟨bx, 0, none⟩ = some (.int .u8 u)) := by show _ = _; rw [hb1.cell (p := ⟨bx, 0, none⟩) hg0]; exact HX.out.1
  have HC1 : Hid (w1.cell? ⟨bx, 1, none⟩ = some (.int .u8 v)) := by show _ = _; rw [hb1.cell (p := ⟨bx, 1, none⟩) hg0]; exact HX.out.2.1
  have HC2 : Hid (w1.cell? ⟨bx, 2, none⟩ = some (.string a0)) := by show _ = _; rw [hb1.cell (p := ⟨bx, 2, none⟩) hg0]; exact HX.out.2.2.1
  have HC3 : Hid (w1.cell? ⟨bx, 3, none⟩ = some (.string b0)) := by show _ = _; rw [hb1.cell (p := ⟨bx, 3, none⟩) hg0]; exact HX.out.2.2.2
  have hg1 : bx < w1.heap.size := Nat.lt_of_lt_of_le hg0 hb1.size
  clear hb1 HX hbx
  go_wp2_with fail
  refine (crc_make _).mono ?_
  rintro e w2 ⟨rfl, hb2⟩
  have HB2 := Lib.hid (HB1.out.trans (hb2.mono HB1.out.size))
  have y0 : w2.cell? ⟨bx, 0, none⟩ = some (.int .u8 u) := by rw [hb2.cell (p := ⟨bx, 0, none⟩) hg1]; exact HC0.out
  have y1 : w2.cell? ⟨bx, 1, none⟩ = some (.int .u8 v) := by rw [hb2.cell (p := ⟨bx, 1, none⟩) hg1]; exact HC1.out
  have y2 : w2.cell? ⟨bx, 2, none⟩ = some (.string a0) := by rw [hb2.cell (p := ⟨bx, 2, none⟩) hg1]; exact HC2.out
  have y3 : w2.cell? ⟨bx, 3, none⟩ = some (.string b0) := by rw [hb2.cell (p := ⟨bx, 3, none⟩) hg1]; exact HC3.out
  have hg2 : bx < w2.heap.size := Nat.lt_of_lt_of_le hg1 hb2.size
  clear hb2 HC0 HC1 HC2 HC3
  go_wp2_with (refine wpList_store_row rfl 26 (.tmp 3) (.tmp 14) rfl w2.heap.size tabArr rfl rfl 26 Z (heap_alloc_new w2 _) tabInfo HZ.out tabArr_one ?_)
  have hh := Has.made HB2.out Z 26
  have hbm := below_made (B := w2.heap.size) (Below.refl w2.heap.size w2) (Nat.le_refl _) Z 26
  have z0 : ((w2.alloc (.cells Z 26)).setRow w2.heap.size tabArr).cell? ⟨bx, 0, none⟩ = some (.int .u8 u) := by rw [hbm.cell (p := ⟨bx, 0, none⟩) hg2]; exact y0
  have z1 : ((w2.alloc (.cells Z 26)).setRow w2.heap.size tabArr).cell? ⟨bx, 1, none⟩ = some (.int .u8 v) := by rw [hbm.cell (p := ⟨bx, 1, none⟩) hg2]; exact y1
  have z2 : ((w2.alloc (.cells Z 26)).setRow w2.heap.size tabArr).cell? ⟨bx, 2, none⟩ = some (.string a0) := by rw [hbm.cell (p := ⟨bx, 2, none⟩) hg2]; exact y2
  have z3 : ((w2.alloc (.cells Z 26)).setRow w2.heap.size tabArr).cell? ⟨bx, 3, none⟩ = some (.string b0) := by rw [hbm.cell (p := ⟨bx, 3, none⟩) hg2]; exact y3
  clear hbm y0 y1 y2 y3
  generalize (w2.alloc (.cells Z 26)).setRow w2.heap.size tabArr = w3 at *
  generalize w2.heap.size = g at *
  have HH := Lib.hid hh
  clear hh
  go_wp2_with fail
  go_quiet ((go_at_call 14; exact Calls.quiet_of_same (HC.out _ _ (by first | exact hsa | exact hsb))))
  have H3 := Lib.hid (HH.out.drewN nq)
  clear z0 z1 z2 z3 HH
  generalize w3.drewN nq = w4 at *
  have hca := cutB_size a0 120
  have hcb := cutB_size b0 120
  clear HC
  generalize cutB a0 120 = a at *
  generalize cutB b0 120 = b at *
  clear hsa hsb
  have HFA := Lib.hid (fun g w W (h : Has w W g) => frame_bytes u a g w W hu (by omega) h)
  have HFB := Lib.hid (fun g w W (h : Has w W g) => frame_bytes v b g w W hv (by omega) h)
  have HINJ : Hid (frameB u a = frameB v b ↔ u = v ∧ a = b) := ⟨frame_inj u v a b hu hv (by omega) (by omega), fun h => by rw [h.1, h.2]⟩
  generalize frameB u a = FA at *
  generalize frameB v b = FB at *
  go_wp2_with fail
  refine (HFA.out g w w4 H3.out).mono ?_
  rintro e w5 ⟨rfl, hh5⟩
  have H5 := Lib.hid hh5
  clear hh5
  go_wp2_with fail
  refine (HFB.out g w w5 H5.out).mono ?_
  rintro e w6 ⟨rfl, hh6⟩
  have H6 := Lib.hid hh6
  clear hh6
  have hs1 := toList_eq FA FB
  have hs2 := toList_eq a b
  by_cases huv : u = v
  · subst huv
    have huu : (u == u) = true := by simp
    by_cases hab : a = b
    · obtain rfl := hab
      obtain rfl : FA = FB := HINJ.out.2 ⟨rfl, rfl⟩
      have hs1 : (FA.toList == FA.toList) = true := by simp
      have hs2 : (a.toList == a.toList) = true := by simp
      go_wp2_with fail
      go_ret
      exact ⟨by first | rfl | simp, H6.out.below⟩
    · have hne : FA ≠ FB := fun h => hab (HINJ.out.1 h).2
      rw [decide_eq_false hne] at hs1
      rw [decide_eq_false hab] at hs2
      have HNE := Lib.hid hne
      have HAB := Lib.hid hab
      clear hne hab
      go_wp2_with fail
      go_ret
      exact ⟨by first | rfl | simp, H6.out.below⟩
  · have hne : FA ≠ FB := fun h => huv (HINJ.out.1 h).1
    have huu : (u == v) = false := by rw [beq_eq_false_iff_ne]; exact huv
    rw [decide_eq_false hne] at hs1
    have HNE := Lib.hid hne
    have HUV := Lib.hid huv
    clear hne huv
    go_wp2_with fail
    go_ret
    exact ⟨by first | rfl | simp, H6.out.below⟩
end Go.Proofs.YtimmineopkmdmaaDoor
