/- The contract of the document's own reading of a frame's bytes. Conditions: the bytes are no more than some hundreds. -/
import Derived.Test.YtimmineopkmdmaaDoorFrameForm
namespace Go.Proofs.YtimmineopkmdmaaDoor
open Go.RowKit Go.Shelf Crc
set_option linter.unusedVariables false
set_option linter.unusedSimpArgs false

theorem ref_fourB (x : BitVec 32) (w0 W : World) (h : Below w0.heap.size w0 W) :
    Calls Tryd.prog 20 #[.int .u32 (x.toNat : Int)] W fun e w' => e = .returned (.string (four x)) ∧ Below w0.heap.size w0 w' :=
  (ref_four x W).mono fun e w' ⟨he, hb⟩ => ⟨he, h.trans (hb.mono h.size)⟩
theorem ref_bytesB (u : Int) (data : ByteArray) (hu : 0 ≤ u ∧ u < 256) (hs : data.size ≤ 65535) (w0 W : World) (h : Below w0.heap.size w0 W) :
    Calls Tryd.prog 18 #[.int .u8 u, .string data] W fun e w' => e = .returned (.string (frameB u data)) ∧ Below w0.heap.size w0 w' :=
  (ref_bytes u data W hu hs).mono fun e w' ⟨he, hb⟩ => ⟨he, h.trans (hb.mono h.size)⟩

theorem refp_len (s : ByteArray) (w : World) (hs : s.size ≤ 1000) (h : s.size = 0 ∨ s.size % 48 ≠ 0) :
    Calls Tryd.prog 22 #[.string s] w fun e w' => e = .returned (.tuple #[.int .u8 0, .string ⟨#[]⟩, .int .i64 5]) ∧ Below w.heap.size w w' := by
  by_cases h0 : s.size = 0
  · have h1 : (s.toList == []) = true := by rw [toList_nil]; simpa using h0
    clear h0 h
    go_enter Tryd.func22, Tryd.ntmps22
    go_wp2_with fail
    go_ret3
    exact ⟨rfl, Below.refl _ _⟩
  · have h1 : (s.toList == []) = false := by rw [toList_nil]; simpa using h0
    have h2 : ((s.size : Int) % 48 != 0) = true := by rw [bne_iff_ne]; omega
    clear h0 h
    go_enter Tryd.func22, Tryd.ntmps22
    go_wp2_with fail
    go_ret3
    exact ⟨rfl, Below.refl _ _⟩

set_option maxHeartbeats 1000000 in
set_option maxRecDepth 100000 in
theorem refp_sum (s : ByteArray) (n : Nat) (w : World) (hs : s.size ≤ 1000) (hn : s.size = n + 4) (h48 : s.size % 48 = 0) (hf : fitsB s = false) :
    Calls Tryd.prog 22 #[.string s] w fun e w' => e = .returned (.tuple #[.int .u8 0, .string ⟨#[]⟩, .int .i64 4]) ∧ Below w.heap.size w w' := by
  have hsz : (s.extract 0 n).size ≤ maxLen := by rw [ByteArray.size_extract]; unfold maxLen; omega
  have HSM := Lib.hid (fun W => show Calls Tryd.prog 21 #[.string (s.extract 0 n)] W fun e w' => e = .returned (.int .u32 ((sumOf (s.extract 0 n)).toNat : Int)) ∧ W = w' from ref_sum (s.extract 0 n) W hsz)
  have hfl := fits_long s n hn
  have Hfl := Lib.hid hfl
  have h1 : (s.toList == []) = false := by rw [toList_nil, decide_eq_false_iff_not]; omega
  have h2 : ((s.size : Int) % 48 != 0) = false := by rw [bne_eq_false_iff_eq]; omega
  have hn2 : (s.size : Int) - 4 = (n : Int) := by omega
  have hn3 : n ≤ s.size := by omega
  have hn4 : (n : Int) ≤ (s.size : Int) := by omega
  have hwn : IntKind.i64.wrap (n : Int) = (n : Int) := by simp [IntKind.wrap, IntKind.bits, IntKind.signed]; omega
  have hwn2 : IntKind.i64.wrap ((s.size : Int) - 4) = (n : Int) := by rw [hn2]; exact hwn
  have Hn := Lib.hid hn
  have HB := Lib.hid (Below.refl w.heap.size w)
  have HF := Lib.hid hf
  clear hn hfl hsz h48 hf
  go_enter Tryd.func22, Tryd.ntmps22
  go_wp2_with fail
  go_region_held3 (fun W => Below w.heap.size w W) (first | assumption | exact HB.out | exact below_drewN (by assumption) _) (first
    | (go_at_call 21; refine (HSM.out _).mono ?_; rintro e w3 ⟨rfl, rfl⟩)
    | (go_at_call 20; refine (ref_fourB (sumOf (s.extract 0 n)) w _ ?_).mono ?_; assumption; rintro e w3 ⟨rfl, hh3⟩))
  rw [Hfl.out, HF.out]
  go_wp2_with fail
  go_ret3
  exact ⟨rfl, by assumption⟩

set_option maxHeartbeats 1000000 in
set_option maxRecDepth 100000 in
theorem refp_told (s : ByteArray) (n K N : Nat) (w : World) (hs : s.size ≤ 1000) (hn : s.size = n + 4) (hK : s.size = K + 8) (h48 : s.size % 48 = 0) (hf : fitsB s = true) (hN : N = toldN s) (hc : cellsOf N * 48 ≠ (K : Int) + 8) :
    Calls Tryd.prog 22 #[.string s] w fun e w' => e = .returned (.tuple #[.int .u8 0, .string ⟨#[]⟩, .int .i64 5]) ∧ Below w.heap.size w w' := by
  have hor2 : K < N ∨ (N ≤ K ∧ 48 ≤ (K : Int) - N) := by unfold cellsOf at hc; omega
  clear hc
  have hJ1 := at_lt s K
  have hJ2 := at_lt s (K + 2)
  have hJ3 := at_lt s (K + 3)
  have hor : (at_ s (K + 2) : Int) * 256 + (at_ s (K + 3) : Int) = (N : Int) := by rw [hN]; unfold toldN; rw [hK]; simp
  have hN65 : N < 65536 := by omega
  have x0 : ∀ w, (Instr.index 9 (.string s) (.int .i64 (K : Int))).run Tryd.prog w = .ok (.int .u8 (at_ s K : Nat)) w := fun w => index_at w s K (by omega)
  have x2 : ∀ w, (Instr.index 9 (.string s) (.int .i64 ((K : Int) + 2))).run Tryd.prog w = .ok (.int .u8 (at_ s (K + 2) : Nat)) w := fun w => index_at w s (K + 2) (by omega)
  have x3 : ∀ w, (Instr.index 9 (.string s) (.int .i64 ((K : Int) + 3))).run Tryd.prog w = .ok (.int .u8 (at_ s (K + 3) : Nat)) w := fun w => index_at w s (K + 3) (by omega)
  have e2 : (n : Int) - 2 = (K : Int) + 2 := by omega
  have e3 : (n : Int) - 1 = (K : Int) + 3 := by omega
  have e4 : (n : Int) - 4 = (K : Int) := by omega
  have e8 : (s.size : Int) - 8 = (K : Int) := by omega
  have hK1 : (K : Int) ≤ 1000 := by omega
  have HK := Lib.hid hK
  have HN := Lib.hid hN
  clear hK hN
  generalize hU : at_ s K = U at *
  generalize at_ s (K + 2) = H2 at *
  generalize at_ s (K + 3) = H3 at *
  have HU := Lib.hid hU
  clear hU
  have hsz : (s.extract 0 n).size ≤ maxLen := by rw [ByteArray.size_extract]; unfold maxLen; omega
  have HSM := Lib.hid (fun W => show Calls Tryd.prog 21 #[.string (s.extract 0 n)] W fun e w' => e = .returned (.int .u32 ((sumOf (s.extract 0 n)).toNat : Int)) ∧ W = w' from ref_sum (s.extract 0 n) W hsz)
  have hfl := fits_long s n hn
  have Hfl := Lib.hid hfl
  have h1 : (s.toList == []) = false := by rw [toList_nil, decide_eq_false_iff_not]; omega
  have h2 : ((s.size : Int) % 48 != 0) = false := by rw [bne_eq_false_iff_eq]; omega
  have hn2 : (s.size : Int) - 4 = (n : Int) := by omega
  have hn3 : n ≤ s.size := by omega
  have hn4 : (n : Int) ≤ (s.size : Int) := by omega
  have hwn : IntKind.i64.wrap (n : Int) = (n : Int) := by simp [IntKind.wrap, IntKind.bits, IntKind.signed]; omega
  have hwn2 : IntKind.i64.wrap ((s.size : Int) - 4) = (n : Int) := by rw [hn2]; exact hwn
  have Hn := Lib.hid hn
  have HB := Lib.hid (Below.refl w.heap.size w)
  have HF := Lib.hid hf
  clear hn hfl hsz h48 hf
  go_enter Tryd.func22, Tryd.ntmps22
  go_wp2_with fail
  go_region_held3 (fun W => Below w.heap.size w W) (first | assumption | exact HB.out | exact below_drewN (by assumption) _) (first
    | (go_at_call 21; refine (HSM.out _).mono ?_; rintro e w3 ⟨rfl, rfl⟩)
    | (go_at_call 20; refine (ref_fourB (sumOf (s.extract 0 n)) w _ ?_).mono ?_; assumption; rintro e w3 ⟨rfl, hh3⟩))
  rw [Hfl.out, HF.out]
  go_wp2_with fail
  go_quiet (fail)
  have HB2 := Lib.hid (below_drewN (show Below w.heap.size w _ by assumption) nq)
  rcases hor2 with hlt | ⟨hle, hge⟩
  · have d1 : decide ((K : Int) < (N : Int)) = true := by rw [decide_eq_true_iff]; omega
    go_wp2_with fail
    go_ret3
    exact ⟨rfl, HB2.out⟩
  · have d1 : decide ((K : Int) < (N : Int)) = false := by rw [decide_eq_false_iff_not]; omega
    have d2 : decide (48 ≤ (K : Int) - (N : Int)) = true := by rw [decide_eq_true_iff]; exact hge
    go_wp2_with fail
    go_ret3
    exact ⟨rfl, HB2.out⟩

set_option maxHeartbeats 1000000 in
set_option maxRecDepth 100000 in
theorem refp_form (s : ByteArray) (n K N : Nat) (w : World) (hs : s.size ≤ 1000) (hn : s.size = n + 4) (hK : s.size = K + 8) (h48 : s.size % 48 = 0) (hf : fitsB s = true) (hN : N = toldN s) (hNK : N ≤ K) (hNK2 : (K : Int) - N < 48) (hbad : frameB (at_ s K : Nat) (s.extract 0 N) ≠ s) :
    Calls Tryd.prog 22 #[.string s] w fun e w' => e = .returned (.tuple #[.int .u8 0, .string ⟨#[]⟩, .int .i64 3]) ∧ Below w.heap.size w w' := by
  have hEQ : ((frameB (at_ s K : Nat) (s.extract 0 N)).toList == s.toList) = false := by rw [toList_eq2, decide_eq_false_iff_not]; exact hbad
  clear hbad
  have hD : (s.extract 0 N).size ≤ 65535 := by rw [ByteArray.size_extract]; omega
  have i1 : N ≤ s.size := by omega
  have i2 : (N : Int) ≤ (s.size : Int) := by omega
  have hJ1 := at_lt s K
  have hJ2 := at_lt s (K + 2)
  have hJ3 := at_lt s (K + 3)
  have hor : (at_ s (K + 2) : Int) * 256 + (at_ s (K + 3) : Int) = (N : Int) := by rw [hN]; unfold toldN; rw [hK]; simp
  have hN65 : N < 65536 := by omega
  have x0 : ∀ w, (Instr.index 9 (.string s) (.int .i64 (K : Int))).run Tryd.prog w = .ok (.int .u8 (at_ s K : Nat)) w := fun w => index_at w s K (by omega)
  have x2 : ∀ w, (Instr.index 9 (.string s) (.int .i64 ((K : Int) + 2))).run Tryd.prog w = .ok (.int .u8 (at_ s (K + 2) : Nat)) w := fun w => index_at w s (K + 2) (by omega)
  have x3 : ∀ w, (Instr.index 9 (.string s) (.int .i64 ((K : Int) + 3))).run Tryd.prog w = .ok (.int .u8 (at_ s (K + 3) : Nat)) w := fun w => index_at w s (K + 3) (by omega)
  have e2 : (n : Int) - 2 = (K : Int) + 2 := by omega
  have e3 : (n : Int) - 1 = (K : Int) + 3 := by omega
  have e4 : (n : Int) - 4 = (K : Int) := by omega
  have e8 : (s.size : Int) - 8 = (K : Int) := by omega
  have hK1 : (K : Int) ≤ 1000 := by omega
  have HK := Lib.hid hK
  have HN := Lib.hid hN
  clear hK hN
  generalize hU : at_ s K = U at *
  generalize at_ s (K + 2) = H2 at *
  generalize at_ s (K + 3) = H3 at *
  have HU := Lib.hid hU
  clear hU
  have hsz : (s.extract 0 n).size ≤ maxLen := by rw [ByteArray.size_extract]; unfold maxLen; omega
  have HSM := Lib.hid (fun W => show Calls Tryd.prog 21 #[.string (s.extract 0 n)] W fun e w' => e = .returned (.int .u32 ((sumOf (s.extract 0 n)).toNat : Int)) ∧ W = w' from ref_sum (s.extract 0 n) W hsz)
  have hfl := fits_long s n hn
  have Hfl := Lib.hid hfl
  have h1 : (s.toList == []) = false := by rw [toList_nil, decide_eq_false_iff_not]; omega
  have h2 : ((s.size : Int) % 48 != 0) = false := by rw [bne_eq_false_iff_eq]; omega
  have hn2 : (s.size : Int) - 4 = (n : Int) := by omega
  have hn3 : n ≤ s.size := by omega
  have hn4 : (n : Int) ≤ (s.size : Int) := by omega
  have hwn : IntKind.i64.wrap (n : Int) = (n : Int) := by simp [IntKind.wrap, IntKind.bits, IntKind.signed]; omega
  have hwn2 : IntKind.i64.wrap ((s.size : Int) - 4) = (n : Int) := by rw [hn2]; exact hwn
  have Hn := Lib.hid hn
  have HB := Lib.hid (Below.refl w.heap.size w)
  have HF := Lib.hid hf
  clear hn hfl hsz h48 hf
  go_enter Tryd.func22, Tryd.ntmps22
  go_wp2_with fail
  go_region_held3 (fun W => Below w.heap.size w W) (first | assumption | exact HB.out | exact below_drewN (by assumption) _) (first
    | (go_at_call 21; refine (HSM.out _).mono ?_; rintro e w3 ⟨rfl, rfl⟩)
    | (go_at_call 20; refine (ref_fourB (sumOf (s.extract 0 n)) w _ ?_).mono ?_; assumption; rintro e w3 ⟨rfl, hh3⟩))
  rw [Hfl.out, HF.out]
  go_wp2_with fail
  go_quiet (fail)
  have HB2 := Lib.hid (below_drewN (show Below w.heap.size w _ by assumption) nq)
  have HD := Lib.hid hD
  have d1 : decide ((K : Int) < (N : Int)) = false := by rw [decide_eq_false_iff_not]; omega
  have d2 : decide (48 ≤ (K : Int) - (N : Int)) = false := by rw [decide_eq_false_iff_not]; omega
  have hwK : IntKind.i64.wrap (K : Int) = (K : Int) := by simp [IntKind.wrap, IntKind.bits, IntKind.signed]; omega
  have hwn4 : IntKind.i64.wrap ((n : Int) - 4) = (K : Int) := by rw [e4]; exact hwK
  have k0 : (0 : Int) ≤ (K : Int) := by omega
  have k1 : (K : Int) < (s.size : Int) := by omega
  have hwN : IntKind.i64.wrap (N : Int) = (N : Int) := by simp [IntKind.wrap, IntKind.bits, IntKind.signed]; omega
  have hBY := Lib.hid (fun W h => ref_bytesB (U : Int) (s.extract 0 N) (by omega) HD.out w W h)
  clear hor x2 x3 hD
  go_wp2_with fail
  have hb2 := HB2.out
  generalize (World.drewN _ nq) = w4 at *
  clear HB2
  go_region_held3 (fun W => Below w.heap.size w W) (first | assumption | exact below_drewN (by assumption) _) (first
    | (go_at_call 18; refine (hBY.out _ ?_).mono ?_; assumption; rintro e w5 ⟨rfl, hh5⟩))
  all_goals try rw [hEQ]
  all_goals go_wp2_with fail
  all_goals go_ret3
  all_goals exact ⟨rfl, by assumption⟩

set_option maxHeartbeats 1000000 in
set_option maxRecDepth 100000 in
theorem refp_ok (s : ByteArray) (n K N : Nat) (w : World) (hs : s.size ≤ 1000) (hn : s.size = n + 4) (hK : s.size = K + 8) (h48 : s.size % 48 = 0) (hf : fitsB s = true) (hN : N = toldN s) (hNK : N ≤ K) (hNK2 : (K : Int) - N < 48) (hgood : frameB (at_ s K : Nat) (s.extract 0 N) = s) :
    Calls Tryd.prog 22 #[.string s] w fun e w' => e = .returned (.tuple #[.int .u8 (at_ s K : Nat), .string (s.extract 0 N), .int .i64 0]) ∧ Below w.heap.size w w' := by
  have hEQ : ((frameB (at_ s K : Nat) (s.extract 0 N)).toList == s.toList) = true := by rw [toList_eq2, decide_eq_true_iff]; exact hgood
  clear hgood
  have hD : (s.extract 0 N).size ≤ 65535 := by rw [ByteArray.size_extract]; omega
  have i1 : N ≤ s.size := by omega
  have i2 : (N : Int) ≤ (s.size : Int) := by omega
  have hJ1 := at_lt s K
  have hJ2 := at_lt s (K + 2)
  have hJ3 := at_lt s (K + 3)
  have hor : (at_ s (K + 2) : Int) * 256 + (at_ s (K + 3) : Int) = (N : Int) := by rw [hN]; unfold toldN; rw [hK]; simp
  have hN65 : N < 65536 := by omega
  have x0 : ∀ w, (Instr.index 9 (.string s) (.int .i64 (K : Int))).run Tryd.prog w = .ok (.int .u8 (at_ s K : Nat)) w := fun w => index_at w s K (by omega)
  have x2 : ∀ w, (Instr.index 9 (.string s) (.int .i64 ((K : Int) + 2))).run Tryd.prog w = .ok (.int .u8 (at_ s (K + 2) : Nat)) w := fun w => index_at w s (K + 2) (by omega)
  have x3 : ∀ w, (Instr.index 9 (.string s) (.int .i64 ((K : Int) + 3))).run Tryd.prog w = .ok (.int .u8 (at_ s (K + 3) : Nat)) w := fun w => index_at w s (K + 3) (by omega)
  have e2 : (n : Int) - 2 = (K : Int) + 2 := by omega
  have e3 : (n : Int) - 1 = (K : Int) + 3 := by omega
  have e4 : (n : Int) - 4 = (K : Int) := by omega
  have e8 : (s.size : Int) - 8 = (K : Int) := by omega
  have hK1 : (K : Int) ≤ 1000 := by omega
  have HK := Lib.hid hK
  have HN := Lib.hid hN
  clear hK hN
  generalize hU : at_ s K = U at *
  generalize at_ s (K + 2) = H2 at *
  generalize at_ s (K + 3) = H3 at *
  have HU := Lib.hid hU
  clear hU
  have hsz : (s.extract 0 n).size ≤ maxLen := by rw [ByteArray.size_extract]; unfold maxLen; omega
  have HSM := Lib.hid (fun W => show Calls Tryd.prog 21 #[.string (s.extract 0 n)] W fun e w' => e = .returned (.int .u32 ((sumOf (s.extract 0 n)).toNat : Int)) ∧ W = w' from ref_sum (s.extract 0 n) W hsz)
  have hfl := fits_long s n hn
  have Hfl := Lib.hid hfl
  have h1 : (s.toList == []) = false := by rw [toList_nil, decide_eq_false_iff_not]; omega
  have h2 : ((s.size : Int) % 48 != 0) = false := by rw [bne_eq_false_iff_eq]; omega
  have hn2 : (s.size : Int) - 4 = (n : Int) := by omega
  have hn3 : n ≤ s.size := by omega
  have hn4 : (n : Int) ≤ (s.size : Int) := by omega
  have hwn : IntKind.i64.wrap (n : Int) = (n : Int) := by simp [IntKind.wrap, IntKind.bits, IntKind.signed]; omega
  have hwn2 : IntKind.i64.wrap ((s.size : Int) - 4) = (n : Int) := by rw [hn2]; exact hwn
  have Hn := Lib.hid hn
  have HB := Lib.hid (Below.refl w.heap.size w)
  have HF := Lib.hid hf
  clear hn hfl hsz h48 hf
  go_enter Tryd.func22, Tryd.ntmps22
  go_wp2_with fail
  go_region_held3 (fun W => Below w.heap.size w W) (first | assumption | exact HB.out | exact below_drewN (by assumption) _) (first
    | (go_at_call 21; refine (HSM.out _).mono ?_; rintro e w3 ⟨rfl, rfl⟩)
    | (go_at_call 20; refine (ref_fourB (sumOf (s.extract 0 n)) w _ ?_).mono ?_; assumption; rintro e w3 ⟨rfl, hh3⟩))
  rw [Hfl.out, HF.out]
  go_wp2_with fail
  go_quiet (fail)
  have HB2 := Lib.hid (below_drewN (show Below w.heap.size w _ by assumption) nq)
  have HD := Lib.hid hD
  have d1 : decide ((K : Int) < (N : Int)) = false := by rw [decide_eq_false_iff_not]; omega
  have d2 : decide (48 ≤ (K : Int) - (N : Int)) = false := by rw [decide_eq_false_iff_not]; omega
  have hwK : IntKind.i64.wrap (K : Int) = (K : Int) := by simp [IntKind.wrap, IntKind.bits, IntKind.signed]; omega
  have hwn4 : IntKind.i64.wrap ((n : Int) - 4) = (K : Int) := by rw [e4]; exact hwK
  have k0 : (0 : Int) ≤ (K : Int) := by omega
  have k1 : (K : Int) < (s.size : Int) := by omega
  have hwN : IntKind.i64.wrap (N : Int) = (N : Int) := by simp [IntKind.wrap, IntKind.bits, IntKind.signed]; omega
  have hBY := Lib.hid (fun W h => ref_bytesB (U : Int) (s.extract 0 N) (by omega) HD.out w W h)
  clear hor x2 x3 hD
  go_wp2_with fail
  have hb2 := HB2.out
  generalize (World.drewN _ nq) = w4 at *
  clear HB2
  go_region_held3 (fun W => Below w.heap.size w W) (first | assumption | exact below_drewN (by assumption) _) (first
    | (go_at_call 18; refine (hBY.out _ ?_).mono ?_; assumption; rintro e w5 ⟨rfl, hh5⟩))
  all_goals try rw [hEQ]
  all_goals go_wp2_with fail
  all_goals go_quiet (fail)
  all_goals go_wp2_with fail
  all_goals go_ret3
  all_goals exact ⟨rfl, below_drewN (by assumption) _⟩
end Go.Proofs.YtimmineopkmdmaaDoor
