/- The walk of the law FrameReads: of any bytes, the program and the document read the same. Conditions: the text is no longer than one may be. -/
import Derived.Test.YtimmineopkmdmaaDoorFrameRefParse
namespace Go.Proofs.YtimmineopkmdmaaDoor
open Go.RowKit Go.Shelf Crc
set_option linter.unusedVariables false
set_option linter.unusedSimpArgs false

theorem parse_both (s : ByteArray) (hs : s.size ≤ 1000) : ∃ (u : Int) (d : ByteArray) (err : Int),
    (∀ (g : Nat) (w0 w : World), Has w0 w g → Calls Tryd.prog 17 #[.pointer (some ⟨g, 0, none⟩), .string s] w (FrameOut w0 g u d err)) ∧
    (∀ w : World, Calls Tryd.prog 22 #[.string s] w fun e w' => e = .returned (.tuple #[.int .u8 u, .string d, .int .i64 err]) ∧ Below w.heap.size w w') := by
  have hm : s.size ≤ maxLen := by unfold maxLen; omega
  by_cases h0 : s.size = 0 ∨ s.size % 48 ≠ 0
  · exact ⟨0, ⟨#[]⟩, 5, fun g w0 w h => parse_len s g w0 w hm h h0, fun w => refp_len s w hs h0⟩
  · have h48 : s.size % 48 = 0 := by omega
    obtain ⟨K, hK⟩ : ∃ K, s.size = K + 8 := ⟨s.size - 8, by omega⟩
    obtain ⟨n, hn⟩ : ∃ n, s.size = n + 4 := ⟨s.size - 4, by omega⟩
    cases hf : fitsB s with
    | false => exact ⟨0, ⟨#[]⟩, 4, fun g w0 w h => parse_sum s g w0 w hm h (by omega) h48 hf, fun w => refp_sum s n w hs hn h48 hf⟩
    | true =>
      by_cases hc : cellsOf (toldN s : Int) * 48 = (K : Int) + 8
      · obtain ⟨f1, f2⟩ := told_fill hc
        have f3 : (K : Int) - (toldN s : Int) < 48 := by unfold cellsOf at hc; omega
        by_cases hq : frameB (at_ s K : Nat) (s.extract 0 (toldN s)) = s
        · obtain ⟨hz, ha⟩ := form_is s K (toldN s) hK rfl f1 f2 hq
          exact ⟨(at_ s K : Nat), s.extract 0 (toldN s), 0, fun g w0 w h => parse_ok s K (toldN s) g w0 w hm h hK h48 hf rfl hc hz ha, fun w => refp_ok s n K (toldN s) w hs hn hK h48 hf rfl f1 f3 hq⟩
        · have hbad : at_ s (K + 1) ≠ 0 ∨ ¬ AllZero (s.extract (toldN s) K) := by
            by_cases hz : at_ s (K + 1) = 0
            · exact Or.inr fun ha => hq (form_ok s K (toldN s) hK hf rfl f1 f2 hz ha)
            · exact Or.inl hz
          exact ⟨0, ⟨#[]⟩, 3, fun g w0 w h => parse_form s K (toldN s) g w0 w hm h hK h48 hf rfl hc hbad, fun w => refp_form s n K (toldN s) w hs hn hK h48 hf rfl f1 f3 hq⟩
      · exact ⟨0, ⟨#[]⟩, 5, fun g w0 w h => parse_told s K (toldN s) g w0 w hm h hK h48 hf rfl hc, fun w => refp_told s n K (toldN s) w hs hn hK h48 hf rfl hc⟩

set_option maxHeartbeats 2000000 in
set_option maxRecDepth 100000 in
theorem walk_FrameReads (s0 : ByteArray) (hs : s0.size ≤ maxLen) (w : World) :
    Calls Tryd.prog 4 #[.string s0] w fun e w' => e = .returned (.bool true) ∧ Below w.heap.size w w' := by
  have hz := (zero_of_info infoTab).1
  have HZ := Lib.hid zeros_tab
  generalize zeros256 = Z at *
  have HCUT := Lib.hid (fun W => show Calls Tryd.prog 14 #[.string s0, .int .i64 300] W fun e w' => e = .returned (.string (cutB s0 300)) ∧ W = w' from crc_cut s0 300 W hs (by decide))
  have hsz := cutB_size s0 300
  generalize cutB s0 300 = s at *
  clear hs
  have HSM := Lib.hid (fun W => show Calls Tryd.prog 21 #[.string s] W fun e w' => e = .returned (.int .u32 ((sumOf s).toNat : Int)) ∧ W = w' from ref_sum s W (by unfold maxLen; omega))
  have h4 := four_size (sumOf s)
  have hov : ¬ 9223372036854775807 < s.size + 4 := by omega
  go_enter Tryd.func4, Tryd.ntmps4
  go_wp2_with fail
  refine (frame_awake _).mono ?_
  rintro e w1 ⟨rfl, hb1⟩
  have HB1 := Lib.hid hb1
  clear hb1
  go_wp2_with fail
  refine (HCUT.out _).mono ?_
  rintro e w1' ⟨rfl, rfl⟩
  clear HCUT
  go_wp2_with fail
  refine (crc_make _).mono ?_
  rintro e w2 ⟨rfl, hb2⟩
  have HB2 := Lib.hid (HB1.out.trans (hb2.mono HB1.out.size))
  clear hb2
  go_upto_region 5 with (refine wpList_store_row rfl 26 (.tmp 3) (.tmp 15) rfl w2.heap.size tabArr rfl rfl 26 Z (heap_alloc_new w2 _) tabInfo HZ.out tabArr_one ?_)
  have hh := Has.made HB2.out Z 26
  generalize (w2.alloc (.cells Z 26)).setRow w2.heap.size tabArr = w3 at *
  generalize w2.heap.size = g at *
  have HH := Lib.hid hh
  clear hh
  go_wp2_with fail
  refine (HSM.out _).mono ?_
  rintro e w4 ⟨rfl, rfl⟩
  go_wp2_with fail
  refine (ref_four (sumOf s) _).mono ?_
  rintro e w5 ⟨rfl, hb5⟩
  have H5 := Lib.hid (HH.out.next hb5)
  clear hb5 HSM HH hz
  go_wp2_with fail
  have hn := heap_alloc_new w5 (.cells #[.string s, .string (s ++ four (sumOf s))] 9)
  have x0 : (w5.alloc (.cells #[.string s, .string (s ++ four (sumOf s))] 9)).cell? ⟨w5.heap.size, 0, none⟩ = some (.string s) := by rw [cell_of_row _ _ 0 _ _ (0, 0) hn]; rfl
  have x1 : (w5.alloc (.cells #[.string s, .string (s ++ four (sumOf s))] 9)).cell? ⟨w5.heap.size, 1, none⟩ = some (.string (s ++ four (sumOf s))) := by rw [cell_of_row _ _ 1 _ _ (0, 0) hn]; rfl
  have hcells : Hid (∀ k : Nat, k < 2 → ∃ x : ByteArray, (w5.alloc (.cells #[.string s, .string (s ++ four (sumOf s))] 9)).cell? ⟨w5.heap.size, k, none⟩ = some (.string x) ∧ x.size ≤ 1000) := by
    intro k hk
    have : k = 0 ∨ k = 1 := by omega
    rcases this with rfl | rfl
    · exact ⟨s, x0, by omega⟩
    · exact ⟨_, x1, by rw [ByteArray.size_append]; omega⟩
  have HWB := Lib.hid (H5.out.alloc (.cells #[.string s, .string (s ++ four (sumOf s))] 9))
  have hlt : w5.heap.size < (w5.alloc (.cells #[.string s, .string (s ++ four (sumOf s))] 9)).heap.size := by simp
  clear hn x0 x1 H5 h4 hov
  generalize w5.alloc (.cells #[.string s, .string (s ++ four (sumOf s))] 9) = WB at *
  generalize w5.heap.size = b at *
  go_loopw [24] (fun i wr => ∃ k : Nat, k ≤ 2 ∧ i = .int .i64 k ∧ Hid (Has WB wr g)) (fun i _ => 2 - (intOf i).toNat)
  case atStart => exact ⟨0, by omega, rfl, ⟨HWB.out.tab, HWB.out.lt, Below.refl _ _⟩⟩
  case round =>
    obtain ⟨k, hk, rfl, HWR⟩ := hrel
    by_cases hlt2 : k < 2
    · obtain ⟨x, hx, hxs⟩ := hcells.out k hlt2
      obtain ⟨u, d, err, hP, hR⟩ := parse_both x hxs
      have hP2 := Lib.hid hP
      have hR2 := Lib.hid hR
      have hxw : wr.cell? ⟨b, k, none⟩ = some (.string x) := by rw [HWR.out.below.cell (p := ⟨b, k, none⟩) hlt]; exact hx
      have hk0 : (0 : Int) ≤ (k : Int) := by omega
      have hk2 : (k : Int) < 2 := by omega
      clear hP hR hx hxs
      go_wp2_with fail
      refine (hP2.out g WB wr HWR.out).mono ?_
      rintro e w8 ⟨rfl, hh8⟩
      have H8 := Lib.hid (hh8.alloc (.cells #[.int .u8 u, .string d] 31))
      obtain ⟨c0, c1⟩ := agg_new w8 u d 31
      have hg8 : w8.heap.size < (w8.alloc (.cells #[.int .u8 u, .string d] 31)).heap.size := by simp
      clear hh8 hxw
      go_wp2_with fail
      refine (hR2.out _).mono ?_
      rintro e w9 ⟨rfl, hb9⟩
      have H9 := Lib.hid (H8.out.next hb9)
      have d0 : w9.cell? ⟨w8.heap.size, 0, none⟩ = some (.int .u8 u) := by rw [hb9.cell (p := ⟨w8.heap.size, 0, none⟩) hg8]; exact c0
      have d1 : w9.cell? ⟨w8.heap.size, 1, none⟩ = some (.string d) := by rw [hb9.cell (p := ⟨w8.heap.size, 1, none⟩) hg8]; exact c1
      have hd : (d.toList != d.toList) = false := by simp
      clear hb9 c0 c1
      go_wp2_with fail
      go_roundw
      case rel => exact ⟨k + 1, by omega, by go_num, H9.out⟩
      case measure => simp [intOf]; omega
    · have hk2 : k = 2 := by omega
      subst hk2
      go_wp2_with fail
      go_ret
      exact ⟨rfl, HWB.out.below.trans (HWR.out.below.mono HWB.out.below.size)⟩
end Go.Proofs.YtimmineopkmdmaaDoor
