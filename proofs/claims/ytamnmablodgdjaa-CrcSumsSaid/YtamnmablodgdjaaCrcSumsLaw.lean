/- The walk of CrcSums: sums are the document's, in whatever parts the bytes come. Conditions: the number fits its kind; the text is no longer than a text may be. -/
import Derived.Test.YtamnmablodgdjaaCrcLaws
namespace Go.Proofs.Ytamnmablodgdjaa
open Go.RowKit Crc
set_option linter.unusedVariables false

theorem new_cell (w : World) (v : Value) (t : TypeId) : (w.alloc (.cells #[v] t)).cell? ⟨w.heap.size, 0, none⟩ = some v := by
  rw [cell_of_row _ _ 0 _ t (0, 0) (heap_alloc_new w _)]; rfl
theorem new_cell_drew (w : World) (v : Value) (t : TypeId) : (w.alloc (.cells #[v] t)).drew.cell? ⟨w.heap.size, 0, none⟩ = some v := new_cell w v t
theorem new3 (w : World) (a b c : Value) (t : TypeId) (i : Nat) (hi : i < 3) : (w.alloc (.cells #[a, b, c] t)).cell? ⟨w.heap.size, i, none⟩ = (#[a, b, c] : Array Value)[i]? := by
  rw [cell_of_row _ _ i _ t (0, 0) (heap_alloc_new w _)]
theorem new3_drew (w : World) (a b c : Value) (t : TypeId) (i : Nat) (hi : i < 3) : (w.alloc (.cells #[a, b, c] t)).drew.cell? ⟨w.heap.size, i, none⟩ = (#[a, b, c] : Array Value)[i]? := new3 w a b c t i hi
theorem new3_drewN (w : World) (a b c : Value) (t : TypeId) (n : Nat) (i : Nat) (hi : i < 3) : ((w.alloc (.cells #[a, b, c] t)).drewN n).cell? ⟨w.heap.size, i, none⟩ = (#[a, b, c] : Array Value)[i]? := new3 w a b c t i hi
theorem new_cell_drewN (w : World) (v : Value) (t : TypeId) (n : Nat) : ((w.alloc (.cells #[v] t)).drewN n).cell? ⟨w.heap.size, 0, none⟩ = some v := new_cell w v t

/-- Sum of one text, whose row is there. -/
theorem sumAt (s : ByteArray) (g : Nat) (w0 W : World) (n : Nat) (hs : s.size ≤ maxLen) (hc : W.cell? ⟨n, 0, none⟩ = some (.string s)) (hH : Has w0 W g) :
    Calls Try.prog 27 #[.pointer (some ⟨g, 0, none⟩), .slice (some ⟨n, 0, none⟩) 1 1] W fun e w' => e = .returned (.int .u32 ((sumOf s).toNat : Int)) ∧ Has w0 w' g := by
  have h := crc_sum [s] (some ⟨n, 0, none⟩) 1 g W (by simp) hH.tab ⟨fun x hx => by simp at hx; subst hx; exact hs, .inr ⟨n, 0, rfl, fun i hi => by
    simp at hi; subst hi; rw [Nat.zero_add]; exact hc⟩⟩
  rw [numsAll_one] at h
  exact h.mono fun e w' ⟨he, k, hk⟩ => ⟨he, by rw [hk]; exact hH.drewN k⟩

theorem refSum (s : ByteArray) (w : World) (hs : s.size ≤ maxLen) :
    Calls Try.prog 28 #[.string s] w fun e w' => e = .returned (.int .u32 ((sumOf s).toNat : Int)) ∧ w = w' := ref_sum s w hs

theorem refFour (s : ByteArray) (g : Nat) (w0 W : World) (hH : Has w0 W g) :
    Calls Try.prog 30 #[.int .u32 ((sumOf s).toNat : Int)] W fun e w' => e = .returned (.string (four (sumOf s))) ∧ Has w0 w' g :=
  (ref_four (sumOf s) W).mono fun e w' ⟨he, hb⟩ => ⟨he, hH.next hb⟩

/-- Three parts that are a text together. -/
def Parts (a b c s : ByteArray) : Prop := a.size ≤ maxLen ∧ b.size ≤ maxLen ∧ c.size ≤ maxLen ∧ nums a ++ nums b ++ nums c = nums s
theorem parts_cut (s : ByteArray) (hs : s.size ≤ 100) (k : Nat) : Parts (s.extract 0 k) ⟨#[]⟩ (s.extract k s.size) s := by
  refine ⟨by rw [ByteArray.size_extract]; unfold maxLen; omega, by decide, by rw [ByteArray.size_extract]; unfold maxLen; omega, ?_⟩
  rw [nums_take_, nums_drop_, show nums ⟨#[]⟩ = [] from rfl, List.append_nil, List.take_append_drop]

theorem parts_zero (s : ByteArray) (hs : s.size ≤ 100) : Parts ByteArray.empty ⟨#[]⟩ s s :=
  ⟨by decide, by decide, by unfold maxLen; omega, rfl⟩
theorem parts_full (s : ByteArray) (hs : s.size ≤ 100) : Parts s ⟨#[]⟩ ByteArray.empty s :=
  ⟨by unfold maxLen; omega, by decide, by decide, by rw [show nums ⟨#[]⟩ = [] from rfl, show nums ByteArray.empty = [] from rfl, List.append_nil, List.append_nil]⟩

/-- Sum of three texts, whose row is there. -/
theorem sum3At (g : Nat) (w0 W : World) (n : Nat) (s : ByteArray)
    (hp : ∃ a b c, W.cell? ⟨n, 0, none⟩ = some (.string a) ∧ W.cell? ⟨n, 1, none⟩ = some (.string b) ∧ W.cell? ⟨n, 2, none⟩ = some (.string c) ∧ Parts a b c s) (hH : Has w0 W g) :
    Calls Try.prog 27 #[.pointer (some ⟨g, 0, none⟩), .slice (some ⟨n, 0, none⟩) 3 3] W fun e w' => e = .returned (.int .u32 ((sumOf s).toNat : Int)) ∧ Has w0 w' g := by
  obtain ⟨a, b, c, h0, h1, h2, ha, hb, hc, hs⟩ := hp
  have h := crc_sum [a, b, c] (some ⟨n, 0, none⟩) 3 g W (by simp) hH.tab (by
    refine ⟨fun x hx => ?_, .inr ⟨n, 0, rfl, fun i hi => ?_⟩⟩
    · simp at hx; rcases hx with rfl | rfl | rfl <;> assumption
    · rw [Nat.zero_add]
      simp at hi
      have : i = 0 ∨ i = 1 ∨ i = 2 := by omega
      rcases this with rfl | rfl | rfl
      · exact h0
      · exact h1
      · exact h2)
  refine h.mono fun e w' ⟨he, k, hk⟩ => ⟨?_, by rw [hk]; exact hH.drewN k⟩
  rw [he]
  unfold sumOf
  rw [← hs]
  simp [numsAll]

set_option maxHeartbeats 1000000 in
set_option maxRecDepth 100000 in
theorem sums_at (s0 s : ByteArray) (k : Nat) (h1 : (0 : Int) < (k : Int)) (h2 : (k : Int) ≤ (s.size : Int)) (hcut : Hid (∀ W : World, Calls Try.prog 25 #[.string s0, .int .i64 100] W fun e w' => e = .returned (.string s) ∧ W = w')) (hs1 : s.size ≤ 100) (w : World) :
    Calls Try.prog 8 #[.string s0, .int .i64 (k : Int)] w fun e w' => e = .returned (.bool true) ∧ Below w.heap.size w w' := by
  have hz := (zero_of_info infoTab).1
  have HZ := Lib.hid zeros_tab
  generalize zeros256 = Z at *
  have Hsm : Hid (s.size ≤ maxLen) := by show _ ≤ _; unfold maxLen; omega
  have Hp : Hid (Parts (s.extract 0 k) ⟨#[]⟩ (s.extract k s.size) s) := parts_cut s hs1 k
  have hk0 : (0 : Int) ≤ (k : Int) := by omega
  have Hs1 := Lib.hid (show s.size ≤ 1099511627776 by omega)
  go_enter Try.func8, Try.ntmps8
  go_wp2_with fail
  refine (crc_awake _).mono ?_
  rintro e w0 ⟨rfl, hb0⟩
  go_wp2_with fail
  refine (hcut.out _).mono ?_
  rintro e w0' ⟨rfl, rfl⟩
  go_wp2_with fail
  refine (crc_make _).mono ?_
  rintro e w1 ⟨rfl, hb1⟩
  go_wp2_with (refine wpList_store_row rfl 42 (.tmp 6) (.tmp 16) rfl w1.heap.size tabArr rfl rfl 42 Z (heap_alloc_new w1 _) tabInfo HZ.out tabArr_one ?_)
  have hh := Has.made (hb0.trans (hb1.mono hb0.size)) Z 42
  generalize (w1.alloc (.cells Z 42)).setRow w1.heap.size tabArr = w2 at *
  generalize w1.heap.size = g at *
  clear hb0 hb1 hcut hz HZ h1
  have hno : ¬ 9223372036854775807 < s.size + (four (sumOf s)).size := by rw [four_size]; omega
  go_region_held3 (fun W => Has w W g) (first | assumption | exact Has.alloc (by assumption) _ | exact Has.drewN (by assumption) _) (first
    | (go_at_call 27; (with_reducible refine (sumAt s g w _ _ Hsm.out ?_ ?_).mono ?_); (first | exact new_cell_drew _ _ _ | exact new_cell_drewN _ _ _ _ | exact new_cell _ _ _); assumption; rintro e w3 ⟨rfl, hh3⟩)
    | (go_at_call 28; refine (refSum s _ Hsm.out).mono ?_; rintro e w3 ⟨rfl, rfl⟩)
    | (go_at_call 29; (with_reducible refine (seal1 s g w _ Hs1.out ?_).mono ?_); assumption; rintro e w3 ⟨rfl, hh3⟩)
    | (go_at_call 30; refine (refFour s g w _ ?_).mono ?_; assumption; rintro e w3 ⟨rfl, hh3⟩)
    | (go_at_call 27; (with_reducible refine (sum3At g w _ _ s ?_ ?_).mono ?_); (first | exact ⟨_, _, _, new3_drew _ _ _ _ _ 0 (by omega), new3_drew _ _ _ _ _ 1 (by omega), new3_drew _ _ _ _ _ 2 (by omega), Hp.out⟩ | exact ⟨_, _, _, new3_drewN _ _ _ _ _ _ 0 (by omega), new3_drewN _ _ _ _ _ _ 1 (by omega), new3_drewN _ _ _ _ _ _ 2 (by omega), Hp.out⟩ | exact ⟨_, _, _, new3 _ _ _ _ _ 0 (by omega), new3 _ _ _ _ _ 1 (by omega), new3 _ _ _ _ _ 2 (by omega), Hp.out⟩); assumption; rintro e w3 ⟨rfl, hh3⟩))
  go_wp2
  go_ret
  exact ⟨rfl, Has.below (by assumption)⟩

set_option maxHeartbeats 1000000 in
set_option maxRecDepth 100000 in
theorem sums_low (s0 s : ByteArray) (c : Int) (h1 : c ≤ 0) (h2 : c ≤ (s.size : Int)) (hcut : Hid (∀ W : World, Calls Try.prog 25 #[.string s0, .int .i64 100] W fun e w' => e = .returned (.string s) ∧ W = w')) (hs1 : s.size ≤ 100) (w : World) :
    Calls Try.prog 8 #[.string s0, .int .i64 c] w fun e w' => e = .returned (.bool true) ∧ Below w.heap.size w w' := by
  have hz := (zero_of_info infoTab).1
  have HZ := Lib.hid zeros_tab
  generalize zeros256 = Z at *
  have Hsm : Hid (s.size ≤ maxLen) := by show _ ≤ _; unfold maxLen; omega
  have Hp : Hid (Parts ByteArray.empty ⟨#[]⟩ s s) := parts_zero s hs1
  have hk0 : (0 : Int) ≤ (s.size : Int) := by omega
  have Hs1 := Lib.hid (show s.size ≤ 1099511627776 by omega)
  go_enter Try.func8, Try.ntmps8
  go_wp2_with fail
  refine (crc_awake _).mono ?_
  rintro e w0 ⟨rfl, hb0⟩
  go_wp2_with fail
  refine (hcut.out _).mono ?_
  rintro e w0' ⟨rfl, rfl⟩
  go_wp2_with fail
  refine (crc_make _).mono ?_
  rintro e w1 ⟨rfl, hb1⟩
  go_wp2_with (refine wpList_store_row rfl 42 (.tmp 6) (.tmp 16) rfl w1.heap.size tabArr rfl rfl 42 Z (heap_alloc_new w1 _) tabInfo HZ.out tabArr_one ?_)
  have hh := Has.made (hb0.trans (hb1.mono hb0.size)) Z 42
  generalize (w1.alloc (.cells Z 42)).setRow w1.heap.size tabArr = w2 at *
  generalize w1.heap.size = g at *
  clear hb0 hb1 hcut hz HZ h1
  have hno : ¬ 9223372036854775807 < s.size + (four (sumOf s)).size := by rw [four_size]; omega
  go_region_held3 (fun W => Has w W g) (first | assumption | exact Has.alloc (by assumption) _ | exact Has.drewN (by assumption) _) (first
    | (go_at_call 27; (with_reducible refine (sumAt s g w _ _ Hsm.out ?_ ?_).mono ?_); (first | exact new_cell_drew _ _ _ | exact new_cell_drewN _ _ _ _ | exact new_cell _ _ _); assumption; rintro e w3 ⟨rfl, hh3⟩)
    | (go_at_call 28; refine (refSum s _ Hsm.out).mono ?_; rintro e w3 ⟨rfl, rfl⟩)
    | (go_at_call 29; (with_reducible refine (seal1 s g w _ Hs1.out ?_).mono ?_); assumption; rintro e w3 ⟨rfl, hh3⟩)
    | (go_at_call 30; refine (refFour s g w _ ?_).mono ?_; assumption; rintro e w3 ⟨rfl, hh3⟩)
    | (go_at_call 27; (with_reducible refine (sum3At g w _ _ s ?_ ?_).mono ?_); (first | exact ⟨_, _, _, new3_drew _ _ _ _ _ 0 (by omega), new3_drew _ _ _ _ _ 1 (by omega), new3_drew _ _ _ _ _ 2 (by omega), Hp.out⟩ | exact ⟨_, _, _, new3_drewN _ _ _ _ _ _ 0 (by omega), new3_drewN _ _ _ _ _ _ 1 (by omega), new3_drewN _ _ _ _ _ _ 2 (by omega), Hp.out⟩ | exact ⟨_, _, _, new3 _ _ _ _ _ 0 (by omega), new3 _ _ _ _ _ 1 (by omega), new3 _ _ _ _ _ 2 (by omega), Hp.out⟩); assumption; rintro e w3 ⟨rfl, hh3⟩))
  go_wp2
  go_ret
  exact ⟨rfl, Has.below (by assumption)⟩

set_option maxHeartbeats 1000000 in
set_option maxRecDepth 100000 in
theorem sums_none (s0 s : ByteArray) (c : Int) (h1 : (s.size : Int) < c) (h2 : ¬ (0 : Int) < (s.size : Int)) (hcut : Hid (∀ W : World, Calls Try.prog 25 #[.string s0, .int .i64 100] W fun e w' => e = .returned (.string s) ∧ W = w')) (hs1 : s.size ≤ 100) (w : World) :
    Calls Try.prog 8 #[.string s0, .int .i64 c] w fun e w' => e = .returned (.bool true) ∧ Below w.heap.size w w' := by
  have hz := (zero_of_info infoTab).1
  have HZ := Lib.hid zeros_tab
  generalize zeros256 = Z at *
  have Hsm : Hid (s.size ≤ maxLen) := by show _ ≤ _; unfold maxLen; omega
  have Hp : Hid (Parts ByteArray.empty ⟨#[]⟩ s s) := parts_zero s hs1
  have hk0 : (0 : Int) ≤ (s.size : Int) := by omega
  have Hs1 := Lib.hid (show s.size ≤ 1099511627776 by omega)
  go_enter Try.func8, Try.ntmps8
  go_wp2_with fail
  refine (crc_awake _).mono ?_
  rintro e w0 ⟨rfl, hb0⟩
  go_wp2_with fail
  refine (hcut.out _).mono ?_
  rintro e w0' ⟨rfl, rfl⟩
  go_wp2_with fail
  refine (crc_make _).mono ?_
  rintro e w1 ⟨rfl, hb1⟩
  go_wp2_with (refine wpList_store_row rfl 42 (.tmp 6) (.tmp 16) rfl w1.heap.size tabArr rfl rfl 42 Z (heap_alloc_new w1 _) tabInfo HZ.out tabArr_one ?_)
  have hh := Has.made (hb0.trans (hb1.mono hb0.size)) Z 42
  generalize (w1.alloc (.cells Z 42)).setRow w1.heap.size tabArr = w2 at *
  generalize w1.heap.size = g at *
  clear hb0 hb1 hcut hz HZ h1
  have hno : ¬ 9223372036854775807 < s.size + (four (sumOf s)).size := by rw [four_size]; omega
  go_region_held3 (fun W => Has w W g) (first | assumption | exact Has.alloc (by assumption) _ | exact Has.drewN (by assumption) _) (first
    | (go_at_call 27; (with_reducible refine (sumAt s g w _ _ Hsm.out ?_ ?_).mono ?_); (first | exact new_cell_drew _ _ _ | exact new_cell_drewN _ _ _ _ | exact new_cell _ _ _); assumption; rintro e w3 ⟨rfl, hh3⟩)
    | (go_at_call 28; refine (refSum s _ Hsm.out).mono ?_; rintro e w3 ⟨rfl, rfl⟩)
    | (go_at_call 29; (with_reducible refine (seal1 s g w _ Hs1.out ?_).mono ?_); assumption; rintro e w3 ⟨rfl, hh3⟩)
    | (go_at_call 30; refine (refFour s g w _ ?_).mono ?_; assumption; rintro e w3 ⟨rfl, hh3⟩)
    | (go_at_call 27; (with_reducible refine (sum3At g w _ _ s ?_ ?_).mono ?_); (first | exact ⟨_, _, _, new3_drew _ _ _ _ _ 0 (by omega), new3_drew _ _ _ _ _ 1 (by omega), new3_drew _ _ _ _ _ 2 (by omega), Hp.out⟩ | exact ⟨_, _, _, new3_drewN _ _ _ _ _ _ 0 (by omega), new3_drewN _ _ _ _ _ _ 1 (by omega), new3_drewN _ _ _ _ _ _ 2 (by omega), Hp.out⟩ | exact ⟨_, _, _, new3 _ _ _ _ _ 0 (by omega), new3 _ _ _ _ _ 1 (by omega), new3 _ _ _ _ _ 2 (by omega), Hp.out⟩); assumption; rintro e w3 ⟨rfl, hh3⟩))
  go_wp2
  go_ret
  exact ⟨rfl, Has.below (by assumption)⟩

set_option maxHeartbeats 1000000 in
set_option maxRecDepth 100000 in
theorem sums_high (s0 s : ByteArray) (c : Int) (h1 : (s.size : Int) < c) (h2 : (0 : Int) < (s.size : Int)) (hcut : Hid (∀ W : World, Calls Try.prog 25 #[.string s0, .int .i64 100] W fun e w' => e = .returned (.string s) ∧ W = w')) (hs1 : s.size ≤ 100) (w : World) :
    Calls Try.prog 8 #[.string s0, .int .i64 c] w fun e w' => e = .returned (.bool true) ∧ Below w.heap.size w w' := by
  have hz := (zero_of_info infoTab).1
  have HZ := Lib.hid zeros_tab
  generalize zeros256 = Z at *
  have Hsm : Hid (s.size ≤ maxLen) := by show _ ≤ _; unfold maxLen; omega
  have Hp : Hid (Parts s ⟨#[]⟩ ByteArray.empty s) := parts_full s hs1
  have hk0 : (0 : Int) ≤ (s.size : Int) := by omega
  have Hs1 := Lib.hid (show s.size ≤ 1099511627776 by omega)
  go_enter Try.func8, Try.ntmps8
  go_wp2_with fail
  refine (crc_awake _).mono ?_
  rintro e w0 ⟨rfl, hb0⟩
  go_wp2_with fail
  refine (hcut.out _).mono ?_
  rintro e w0' ⟨rfl, rfl⟩
  go_wp2_with fail
  refine (crc_make _).mono ?_
  rintro e w1 ⟨rfl, hb1⟩
  go_wp2_with (refine wpList_store_row rfl 42 (.tmp 6) (.tmp 16) rfl w1.heap.size tabArr rfl rfl 42 Z (heap_alloc_new w1 _) tabInfo HZ.out tabArr_one ?_)
  have hh := Has.made (hb0.trans (hb1.mono hb0.size)) Z 42
  generalize (w1.alloc (.cells Z 42)).setRow w1.heap.size tabArr = w2 at *
  generalize w1.heap.size = g at *
  clear hb0 hb1 hcut hz HZ h1
  have hno : ¬ 9223372036854775807 < s.size + (four (sumOf s)).size := by rw [four_size]; omega
  go_region_held3 (fun W => Has w W g) (first | assumption | exact Has.alloc (by assumption) _ | exact Has.drewN (by assumption) _) (first
    | (go_at_call 27; (with_reducible refine (sumAt s g w _ _ Hsm.out ?_ ?_).mono ?_); (first | exact new_cell_drew _ _ _ | exact new_cell_drewN _ _ _ _ | exact new_cell _ _ _); assumption; rintro e w3 ⟨rfl, hh3⟩)
    | (go_at_call 28; refine (refSum s _ Hsm.out).mono ?_; rintro e w3 ⟨rfl, rfl⟩)
    | (go_at_call 29; (with_reducible refine (seal1 s g w _ Hs1.out ?_).mono ?_); assumption; rintro e w3 ⟨rfl, hh3⟩)
    | (go_at_call 30; refine (refFour s g w _ ?_).mono ?_; assumption; rintro e w3 ⟨rfl, hh3⟩)
    | (go_at_call 27; (with_reducible refine (sum3At g w _ _ s ?_ ?_).mono ?_); (first | exact ⟨_, _, _, new3_drew _ _ _ _ _ 0 (by omega), new3_drew _ _ _ _ _ 1 (by omega), new3_drew _ _ _ _ _ 2 (by omega), Hp.out⟩ | exact ⟨_, _, _, new3_drewN _ _ _ _ _ _ 0 (by omega), new3_drewN _ _ _ _ _ _ 1 (by omega), new3_drewN _ _ _ _ _ _ 2 (by omega), Hp.out⟩ | exact ⟨_, _, _, new3 _ _ _ _ _ 0 (by omega), new3 _ _ _ _ _ 1 (by omega), new3 _ _ _ _ _ 2 (by omega), Hp.out⟩); assumption; rintro e w3 ⟨rfl, hh3⟩))
  go_wp2
  go_ret
  exact ⟨rfl, Has.below (by assumption)⟩

theorem walk_CrcSums (s0 : ByteArray) (c : Int) (hs : s0.size ≤ maxLen) (w : World) :
    Calls Try.prog 8 #[.string s0, .int .i64 c] w fun e w' => e = .returned (.bool true) ∧ Below w.heap.size w w' := by
  have hs1 := cutB_size s0 100
  have hcut := Lib.hid (fun W => crc_cut s0 100 W hs (by omega))
  generalize cutB s0 100 = s at *
  by_cases h1 : c ≤ 0
  · exact sums_low s0 s c h1 (by omega) hcut hs1 w
  · by_cases h2 : c ≤ (s.size : Int)
    · obtain ⟨k, rfl⟩ := Int.eq_ofNat_of_zero_le (show 0 ≤ c by omega)
      exact sums_at s0 s k (by omega) h2 hcut hs1 w
    · by_cases h3 : (0 : Int) < (s.size : Int)
      · exact sums_high s0 s c (by omega) h3 hcut hs1 w
      · exact sums_none s0 s c (by omega) h3 hcut hs1 w
end Go.Proofs.Ytamnmablodgdjaa
