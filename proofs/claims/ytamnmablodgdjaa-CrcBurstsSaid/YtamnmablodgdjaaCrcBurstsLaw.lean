/- The walk of CrcBursts: any bits turned within 32 are told, over the seam, too. Conditions: the numbers fit their kinds; the text is no longer than a text may be. -/
import Derived.Test.YtamnmablodgdjaaCrcBurst
import Derived.Test.YtamnmablodgdjaaCrcFitsLaw
namespace Go.Proofs.Ytamnmablodgdjaa
open Go.RowKit Crc
set_option linter.unusedVariables false

theorem turn2 (s : ByteArray) (A M : Int) (g : Nat) (w0 W : World) (hH : Has w0 W g) (hs0 : 0 < s.size) (hs : s.size ≤ 200) (ha0 : 0 ≤ A) (ha : A < 8 * (s.size : Int)) (hm0 : 0 ≤ M) (hm : M < 4294967296) :
    Calls Try.prog 33 #[.string s, .int .i64 A, .int .u32 M] W fun e w' => ∃ (t : ByteArray) (at_ mask : Nat), e = .returned (.string t) ∧ nums t = turnN (nums s) at_ mask 32 ∧ Has w0 w' g := by
  obtain ⟨a, rfl⟩ := Int.eq_ofNat_of_zero_le ha0
  obtain ⟨m, rfl⟩ := Int.eq_ofNat_of_zero_le hm0
  exact (crc_turn s a m W hs0 hs (by omega) (by omega)).mono fun e w' ⟨t, he, ht, hb⟩ => ⟨t, a, m, he, ht, hH.next hb⟩

theorem tmod_bd (x n : Int) (hn : 0 < n) : -n < x.tmod n ∧ x.tmod n < n :=
  ⟨by have := Int.lt_tmod_of_pos x hn; omega, Int.tmod_lt_of_pos x hn⟩

set_option maxHeartbeats 1000000 in
set_option maxRecDepth 100000 in
theorem walk_CrcBursts (s0 : ByteArray) (at_ mask : Int) (hs : s0.size ≤ maxLen) (a1 : -9223372036854775808 ≤ at_) (a2 : at_ ≤ 9223372036854775807) (m1 : 0 ≤ mask) (m2 : mask < 4294967296) (w : World) :
    Calls Try.prog 11 #[.string s0, .int .i64 at_, .int .u32 mask] w fun e w' => e = .returned (.bool true) ∧ Below w.heap.size w w' := by
  have hs1 := cutB_size s0 100
  have hcut := Lib.hid (fun W => crc_cut s0 100 W hs (by omega))
  generalize cutB s0 100 = s at *
  have hz := (zero_of_info infoTab).1
  have HZ := Lib.hid zeros_tab
  generalize zeros256 = Z at *
  have Hs1 : Hid (s.size ≤ 1099511627776) := by show _ ≤ _; omega
  have HM1 := Lib.hid m1
  have HM2 := Lib.hid m2
  clear m1 m2
  have hw4 : 4 ≤ (s ++ four (sumOf s)).size := by rw [ByteArray.size_append, four_size]; omega
  have hw104 : (s ++ four (sumOf s)).size ≤ 104 := by rw [ByteArray.size_append, four_size]; omega
  have Hb := Lib.hid (burst_fits s)
  have Hseal := Lib.hid (fun (g : Nat) (W : World) (h : Has w W g) => seal1 s g w W (by omega) h)
  generalize s ++ four (sumOf s) = u at *
  have hn1 : (4 : Int) ≤ (u.size : Int) := by omega
  have hn2 : (u.size : Int) ≤ 104 := by omega
  obtain ⟨t1, t2⟩ := tmod_bd at_ (8 * (u.size : Int)) (by omega)
  go_enter Try.func11, Try.ntmps11
  go_wp2_with fail
  refine (crc_awake _).mono ?_
  rintro e w0 ⟨rfl, hb0⟩
  go_wp2_with fail
  refine (hcut.out _).mono ?_
  rintro e w0' ⟨rfl, rfl⟩
  go_wp2_with fail
  refine (crc_make _).mono ?_
  rintro e w1 ⟨rfl, hb1⟩
  go_wp2_with (refine wpList_store_row rfl 42 (.tmp 7) (.tmp 14) rfl w1.heap.size tabArr rfl rfl 42 Z (heap_alloc_new w1 _) tabInfo HZ.out tabArr_one ?_)
  have hh := Has.made (hb0.trans (hb1.mono hb0.size)) Z 42
  generalize (w1.alloc (.cells Z 42)).setRow w1.heap.size tabArr = w2 at *
  generalize w1.heap.size = g at *
  clear hb0 hb1 hcut hz HZ
  refine (Hseal.out g _ hh).mono ?_
  rintro e w3 ⟨rfl, hh3⟩
  have H3 := Lib.hid hh3
  clear hh hh3 Hseal
  have he1 : 0 ≤ at_.tmod (8 * (u.size : Int)) % (8 * (u.size : Int)) := Int.emod_nonneg _ (by omega)
  have he2 : at_.tmod (8 * (u.size : Int)) % (8 * (u.size : Int)) < 8 * (u.size : Int) := Int.emod_lt_of_pos _ (by omega)
  have He1 := Lib.hid he1
  have He2 := Lib.hid he2
  clear he1 he2
  go_wp2_with fail
  refine (turn2 u _ mask g w _ H3.out (by omega) (by omega) He1.out He2.out HM1.out HM2.out).mono ?_
  rintro e w4 ⟨t, a, m, rfl, ht, hh4⟩
  have H4 := Lib.hid hh4
  have Ht := Lib.hid (Hb.out t a m ht)
  have hts : Hid (t.size ≤ maxLen) := by
    show _ ≤ _
    rw [← nums_len, ht, turnN_len, nums_len]; unfold maxLen; omega
  clear hh4 ht H3
  go_wp2_with fail
  refine (fits1 t g w _ hts.out H4.out).mono ?_
  rintro e w5 ⟨rfl, hh5⟩
  have H5 := Lib.hid hh5
  clear hh5
  generalize fitsB t = F at *
  have ht2 := Ht.out
  go_wp2_with fail
  go_ret
  exact ⟨rfl, H5.out.below⟩
end Go.Proofs.Ytamnmablodgdjaa
