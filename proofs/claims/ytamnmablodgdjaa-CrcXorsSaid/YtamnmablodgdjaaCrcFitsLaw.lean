/- The walk of CrcFits: what fits is just what ends with its sum; what is sealed fits. Condition: the text is no longer than a text may be. -/
import Derived.Test.YtamnmablodgdjaaCrcLaws
namespace Go.Proofs.Ytamnmablodgdjaa
open Go.RowKit Crc
set_option linter.unusedVariables false

theorem refSum2 (s : ByteArray) (w : World) (hs : s.size ≤ maxLen) :
    Calls Try.prog 28 #[.string s] w fun e w' => e = .returned (.int .u32 ((sumOf s).toNat : Int)) ∧ w = w' := ref_sum s w hs
theorem refFour2 (s : ByteArray) (g : Nat) (w0 W : World) (hH : Has w0 W g) :
    Calls Try.prog 30 #[.int .u32 ((sumOf s).toNat : Int)] W fun e w' => e = .returned (.string (four (sumOf s))) ∧ Has w0 w' g :=
  (ref_four (sumOf s) W).mono fun e w' ⟨he, hb⟩ => ⟨he, hH.next hb⟩

/-- What is behind the first step: the wanted answer is known. -/
theorem fitsB_long (s : ByteArray) (n : Nat) (hn : s.size = n + 4) : ((s.extract n s.size).toList == (four (sumOf (s.extract 0 n))).toList) = fitsB s := by
  rw [fits_iff s n hn]
  unfold fitsB
  rw [decide_eq_true (show 4 ≤ s.size by omega), Bool.true_and]
theorem fitsB_short (s : ByteArray) (h : ¬ 4 ≤ s.size) : fitsB s = false := by
  unfold fitsB
  rw [decide_eq_false h, Bool.false_and]

set_option maxHeartbeats 1000000 in
set_option maxRecDepth 100000 in
theorem fits_walk (s0 s : ByteArray) (n : Nat) (hcut : Hid (∀ W : World, Calls Try.prog 25 #[.string s0, .int .i64 100] W fun e w' => e = .returned (.string s) ∧ W = w')) (hs1 : s.size ≤ 100) (hn : s.size = n + 4) (w : World) :
    Calls Try.prog 10 #[.string s0] w fun e w' => e = .returned (.bool true) ∧ Below w.heap.size w w' := by
  have hz := (zero_of_info infoTab).1
  have HZ := Lib.hid zeros_tab
  generalize zeros256 = Z at *
  have Hsm : Hid (s.size ≤ maxLen) := by show _ ≤ _; unfold maxLen; omega
  have Hs1 : Hid (s.size ≤ 1099511627776) := by show _ ≤ _; omega
  have hn2 : (s.size : Int) - 4 = (n : Int) := by omega
  have hn3 : n ≤ s.size := by omega
  have hn4 : (n : Int) ≤ (s.size : Int) := by omega
  have hd2 : decide ((4 : Int) ≤ (s.size : Int)) = true := by simp; omega
  have hsz : (s.extract 0 n).size ≤ maxLen := by rw [ByteArray.size_extract]; unfold maxLen; omega
  have Hsz := Lib.hid hsz
  have Hsl : Hid ((s ++ four (sumOf s)).size ≤ maxLen) := by show _ ≤ _; rw [ByteArray.size_append, four_size]; unfold maxLen; omega
  have Hf := Lib.hid (fitsB_long s n hn)
  have Hfs := Lib.hid (fits_seal s)
  have Hn := Lib.hid hn
  have hwn : IntKind.i64.wrap (n : Int) = (n : Int) := by simp [IntKind.wrap, IntKind.bits, IntKind.signed]; omega
  have hwn2 : IntKind.i64.wrap ((s.size : Int) - 4) = (n : Int) := by rw [hn2]; exact hwn
  clear hn hsz
  go_enter Try.func10, Try.ntmps10
  go_wp2_with fail
  refine (crc_awake _).mono ?_
  rintro e w0 ⟨rfl, hb0⟩
  go_wp2_with fail
  refine (hcut.out _).mono ?_
  rintro e w0' ⟨rfl, rfl⟩
  go_wp2_with fail
  refine (crc_make _).mono ?_
  rintro e w1 ⟨rfl, hb1⟩
  go_wp2_with (refine wpList_store_row rfl 42 (.tmp 3) (.tmp 9) rfl w1.heap.size tabArr rfl rfl 42 Z (heap_alloc_new w1 _) tabInfo HZ.out tabArr_one ?_)
  have hh := Has.made (hb0.trans (hb1.mono hb0.size)) Z 42
  generalize (w1.alloc (.cells Z 42)).setRow w1.heap.size tabArr = w2 at *
  generalize w1.heap.size = g at *
  clear hb0 hb1 hcut hz HZ
  go_region_held3 (fun W => Has w W g) (first | assumption | exact Has.alloc (by assumption) _ | exact Has.drewN (by assumption) _) (first
    | (go_at_call 28; refine (refSum2 (s.extract 0 n) _ Hsz.out).mono ?_; rintro e w3 ⟨rfl, rfl⟩)
    | (go_at_call 30; refine (refFour2 (s.extract 0 n) g w _ ?_).mono ?_; assumption; rintro e w3 ⟨rfl, hh3⟩))
  rw [Hf.out]
  clear Hf
  go_wp2_with fail
  refine (fits1 s g w _ Hsm.out (by assumption)).mono ?_
  rintro e w4 ⟨rfl, hh4⟩
  generalize fitsB s = F at *
  go_wp2_with fail
  refine (seal1 s g w _ Hs1.out (by assumption)).mono ?_
  rintro e w5 ⟨rfl, hh5⟩
  go_wp2_with fail
  refine (fits1 _ g w _ Hsl.out (by assumption)).mono ?_
  rintro e w6 ⟨rfl, hh6⟩
  rw [Hfs.out]
  have H6 := Lib.hid hh6
  go_wp2_with fail
  go_ret
  exact ⟨rfl, H6.out.below⟩

set_option maxHeartbeats 1000000 in
set_option maxRecDepth 100000 in
theorem fits_walk_short (s0 s : ByteArray) (hcut : Hid (∀ W : World, Calls Try.prog 25 #[.string s0, .int .i64 100] W fun e w' => e = .returned (.string s) ∧ W = w')) (hs1 : s.size < 4) (w : World) :
    Calls Try.prog 10 #[.string s0] w fun e w' => e = .returned (.bool true) ∧ Below w.heap.size w w' := by
  have hz := (zero_of_info infoTab).1
  have HZ := Lib.hid zeros_tab
  generalize zeros256 = Z at *
  have Hsm : Hid (s.size ≤ maxLen) := by show _ ≤ _; unfold maxLen; omega
  have Hs1 : Hid (s.size ≤ 1099511627776) := by show _ ≤ _; omega
  have hd2 : decide ((4 : Int) ≤ (s.size : Int)) = false := by simp; omega
  have hd3 : decide (4 ≤ s.size) = false := by simp; omega
  have Hsl : Hid ((s ++ four (sumOf s)).size ≤ maxLen) := by show _ ≤ _; rw [ByteArray.size_append, four_size]; unfold maxLen; omega
  have Hf := Lib.hid (fitsB_short s (by omega))
  have Hfs := Lib.hid (fits_seal s)
  go_enter Try.func10, Try.ntmps10
  go_wp2_with fail
  refine (crc_awake _).mono ?_
  rintro e w0 ⟨rfl, hb0⟩
  go_wp2_with fail
  refine (hcut.out _).mono ?_
  rintro e w0' ⟨rfl, rfl⟩
  go_wp2_with fail
  refine (crc_make _).mono ?_
  rintro e w1 ⟨rfl, hb1⟩
  go_wp2_with (refine wpList_store_row rfl 42 (.tmp 3) (.tmp 9) rfl w1.heap.size tabArr rfl rfl 42 Z (heap_alloc_new w1 _) tabInfo HZ.out tabArr_one ?_)
  have hh := Has.made (hb0.trans (hb1.mono hb0.size)) Z 42
  generalize (w1.alloc (.cells Z 42)).setRow w1.heap.size tabArr = w2 at *
  generalize w1.heap.size = g at *
  clear hb0 hb1 hcut hz HZ
  simp only [Act.put]
  go_quiet (fail)
  have hh := hh.drewN nq
  generalize w2.drewN nq = w2 at *
  go_wp2_with fail
  refine (fits1 s g w _ Hsm.out (by assumption)).mono ?_
  rintro e w4 ⟨rfl, hh4⟩
  rw [Hf.out]
  clear Hf
  go_wp2_with fail
  refine (seal1 s g w _ Hs1.out (by assumption)).mono ?_
  rintro e w5 ⟨rfl, hh5⟩
  go_wp2_with fail
  refine (fits1 _ g w _ Hsl.out (by assumption)).mono ?_
  rintro e w6 ⟨rfl, hh6⟩
  rw [Hfs.out]
  have H6 := Lib.hid hh6
  go_wp2_with fail
  go_ret
  exact ⟨rfl, H6.out.below⟩

theorem walk_CrcFits (s0 : ByteArray) (hs : s0.size ≤ maxLen) (w : World) :
    Calls Try.prog 10 #[.string s0] w fun e w' => e = .returned (.bool true) ∧ Below w.heap.size w w' := by
  have hs1 := cutB_size s0 100
  have hcut := Lib.hid (fun W => crc_cut s0 100 W hs (by omega))
  generalize cutB s0 100 = s at *
  by_cases h : 4 ≤ s.size
  · exact fits_walk s0 s (s.size - 4) hcut hs1 (by omega) w
  · exact fits_walk_short s0 s hcut (by omega) w
end Go.Proofs.Ytamnmablodgdjaa
