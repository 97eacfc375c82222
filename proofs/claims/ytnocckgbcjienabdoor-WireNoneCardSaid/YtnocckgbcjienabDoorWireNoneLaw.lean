/- The walk of the law WireNone. Conditions: pdu's variables lie as their initialisers leave them; the text is no longer than one may be. -/
import Derived.Test.YtnocckgbcjienabDoorWireAll
import Derived.Deep.OwnRows
namespace Go.Proofs.YtnocckgbcjienabDoor
open Go.RowKit Go.Shelf
set_option linter.unusedVariables false
set_option linter.unusedSimpArgs false

theorem strOf_replicateW (n : Nat) : strOfNums (List.replicate n 0) = zeros n := by
  apply nums_inj
  rw [nums_zeros, nums_strOfNums, List.map_replicate]
  rfl
theorem made_zerosW (W : World) (n : Nat) :
    Sem.run Tryd.prog (convert 53 9 (.slice (some ⟨W.heap.size, 0, none⟩) n n)) (W.alloc (.cells (madeCells #[.int .u8 0] n) 5)) = .ok (.string (zeros n)) (W.alloc (.cells (madeCells #[.int .u8 0] n) 5)) := by
  rw [← strOf_replicateW]
  refine run_convert_bytes_arg (P := Tryd.prog) _ 53 5 Tryd.underlying53 Tryd.underlying5 W.heap.size 0 n n (List.replicate n 0) (by simp) ?_ 9 Tryd.underlying9
  intro i hi
  rw [Nat.zero_add, cell_of_row _ _ i _ _ (0, 0) (heap_alloc_new W _), ← Array.getElem?_toList, toList_madeCells_one]
  simp [hi]
theorem and3W (t : Int) : Go.bits .and .i64 t 3 = t % 4 := by
  have e3 : (BitVec.ofInt 64 3).toNat = 2 ^ 2 - 1 := by decide
  have e4 : (BitVec.ofInt 64 t &&& BitVec.ofInt 64 3).toNat = (t % 4).toNat := by
    rw [BitVec.toNat_and, BitVec.toNat_ofInt, e3, Nat.and_two_pow_sub_one_eq_mod]
    omega
  show IntKind.i64.wrap ((BitVec.ofInt 64 t &&& BitVec.ofInt 64 3).toNat : Nat) = _
  rw [e4, IntKind.wrap_i64]
  omega
theorem noughts_bad (N : Nat) (h : N = 48 ∨ N = 96 ∨ N = 144 ∨ N = 192) : fitsB (zeros N) = false := by
  rcases h with rfl | rfl | rfl | rfl <;> decide +kernel
set_option maxHeartbeats 8000000 in
set_option maxRecDepth 100000 in
theorem walk_WireNone (s : ByteArray) (n : Int) (w : World) (hS : ShapesIn w) (hs : s.size ≤ maxLen) :
    Calls Tryd.prog 8 #[.string s, .int .i64 n] w fun e w' => e = .returned (.bool true) ∧ Below w.heap.size w w' := by
  have HS := Lib.hid hS
  have HC := Lib.hid (fun W => show Calls Tryd.prog 28 #[.string s, .int .i64 300] W fun e w' => e = .returned (.string (cutB s 300)) ∧ w' = W from (crc_cut s 300 W hs (by decide)).mono fun _ _ h => ⟨h.1, h.2.symm⟩)
  have hcs := cutB_size s 300
  clear hS hs
  generalize cutB s 300 = d at *
  go_enter Tryd.func8, Tryd.ntmps8
  go_wp2_with fail
  refine (wire_awake _ HS.out).mono ?_
  rintro e w1 ⟨rfl, hb1⟩
  have HW1 := Lib.hid hb1
  clear hb1
  go_wp2_with fail
  refine (HC.out _).mono ?_
  rintro e w2 ⟨rfl, rfl⟩
  go_wp2_with fail
  refine (wire_new _).mono ?_
  rintro e w3 ⟨v, rfl, hh⟩
  have HT3 := Lib.hid (has_here hh)
  have HW3 := Lib.hid (HW1.out.trans (hh.below.mono HW1.out.size))
  clear hh HW1 HC
  have hsz : (d ++ strOfNums [120]).size = d.size + 1 := by rw [ByteArray.size_append]; rfl
  have HSZ := Lib.hid hsz
  have hlen : ¬ 9223372036854775807 < d.size + 1 := by omega
  clear hsz
  obtain ⟨b0, hb0⟩ : ∃ b0, ((d.size : Int) % 48 == 0) = b0 := ⟨_, rfl⟩
  go_upto_if 21 with fail
  go_cut [0] (fun s0 w' => ∃ S : ByteArray, s0 = .string S ∧ Hid (S.size % 48 ≠ 0 ∧ S.size ≤ 301) ∧ w3 = w')
  case first =>
    by_cases h : d.size % 48 = 0
    · obtain rfl : b0 = true := by rw [← hb0, beq_iff_eq]; omega
      go_wp2_with fail
      go_meet
      exact ⟨d ++ ⟨#[120]⟩, rfl, by show _ ∧ _; rw [show (d ++ (⟨#[120]⟩ : ByteArray)).size = d.size + 1 by rw [ByteArray.size_append]; rfl]; omega, rfl⟩
    · obtain rfl : b0 = false := by rw [← hb0, beq_eq_false_iff_ne]; omega
      go_wp2_with fail
      go_meet
      exact ⟨d, rfl, ⟨h, by omega⟩, rfl⟩
  case rest =>
    obtain ⟨S, rfl, HSS, rfl⟩ := hcut
    obtain ⟨N, hN⟩ : ∃ N : Nat, 48 * (1 + n % 4) = (N : Int) := ⟨(48 * (1 + n % 4)).toNat, by omega⟩
    have hN4 : N = 48 ∨ N = 96 ∨ N = 144 ∨ N = 192 := by omega
    have hN0 : N % 48 = 0 ∧ N ≠ 0 ∧ N ≤ 192 := by omega
    have ha := and3W n
    have hzs := noughts_size N
    have hzb := noughts_bad N hN4
    have HO1 := Lib.hid (fun W (hT : Has w3 W v) => wire_open_bad v S 5 w3 W hT hT.below.size (by decide) (fun g w h => parse_len S g w w (by have := HSS.out.2; unfold maxLen; omega) h (.inr HSS.out.1)))
    have HO2 := Lib.hid (fun W (hT : Has w3 W v) => wire_open_bad v (zeros N) 4 w3 W hT hT.below.size (by decide) (fun g w h => parse_sum (zeros N) g w w (by rw [hzs]; unfold maxLen; omega) h (by omega) (by omega) hzb))
    have HO3 := Lib.hid (fun W (hT : Has W W v) => wire_open_bad v ⟨#[]⟩ 5 W W hT (Nat.le_refl _) (by decide) (fun g w h => parse_len ⟨#[]⟩ g w w (by unfold maxLen; decide) h (.inl rfl)))
    have HSO1 : Hid (∀ W (hT : Has W W v), Calls Tryd.prog 25 #[.pointer (some ⟨v, 0, none⟩), .string S] W fun e w' => e = .returned (.bool false) ∧ Has W w' v) := fun W hT => by
      have h := wire_sound v S W W hT (by have := HSS.out.2; unfold maxLen; omega)
      rw [decide_eq_false HSS.out.1, Bool.false_and] at h
      exact h
    have HSO2 : Hid (∀ W (hT : Has w3 W v), Calls Tryd.prog 25 #[.pointer (some ⟨v, 0, none⟩), .string (zeros N)] W fun e w' => e = .returned (.bool false) ∧ Has w3 w' v) := fun W hT => by
      have h := wire_sound v (zeros N) w3 W hT (by rw [hzs]; unfold maxLen; omega)
      rw [hzb, Bool.and_false] at h
      exact h
    have hmk := run_make_row' (P := Tryd.prog) 53 5 (.int .u8 0) 1 Tryd.underlying53 infoByte0 rfl .i64 .i64 N (by omega) (by omega)
    have hcv := fun W => made_zerosW W N
    clear hN4 hN0 hzb hzs hcs HSS
    generalize zeros N = ZN at *
    go_wp2_with fail
    refine (HO1.out _ HT3.out).mono ?_
    rintro e w4 ⟨rfl, hh4⟩
    have HT4 := Lib.hid hh4
    clear hh4
    go_upto_region 8 with (refine wpList_store_row rfl 31 (.tmp 6) (.tmp 28) rfl w4.heap.size #[.int .i64 0, .int .i64 0, .int .u32 0, .int .u32 0, .int .u32 0, .slice none 0 0, .bool false, .string ⟨#[]⟩] rfl rfl 31 _ (heap_alloc_new w4 _) infoPduW rfl (unit_one _ _ _ _ _ _ _ _) ?_)
    have hbw5 : Below w4.heap.size w4 ((w4.alloc (.cells #[.int .i64 0, .int .i64 0, .int .u32 0, .int .u32 0, .int .u32 0, .slice none 0 0, .bool false, .string ⟨#[]⟩] 31)).setRow w4.heap.size #[.int .i64 0, .int .i64 0, .int .u32 0, .int .u32 0, .int .u32 0, .slice none 0 0, .bool false, .string ⟨#[]⟩]) := below_setRow ((Below.refl _ w4).alloc (Nat.le_refl _) _) (Nat.le_refl _) _
    have HQw5 := Lib.hid (row_box (w4.alloc (.cells #[.int .i64 0, .int .i64 0, .int .u32 0, .int .u32 0, .int .u32 0, .slice none 0 0, .bool false, .string ⟨#[]⟩] 31)) w4.heap.size 0 0 0 0 0 (.slice none 0 0) false ⟨#[]⟩ (heap_alloc_new w4 _))
    have HT5 := Lib.hid (HT4.out.next hbw5)
    obtain ⟨q5, hq5⟩ : ∃ q5, q5 = w4.heap.size := ⟨_, rfl⟩
    rw [← hq5] at HQw5 hbw5 HT5 ⊢
    clear hq5 HT4 hbw5 HQw5
    generalize (w4.alloc (.cells #[.int .i64 0, .int .i64 0, .int .u32 0, .int .u32 0, .int .u32 0, .slice none 0 0, .bool false, .string ⟨#[]⟩] 31)).setRow q5 #[.int .i64 0, .int .i64 0, .int .u32 0, .int .u32 0, .int .u32 0, .slice none 0 0, .bool false, .string ⟨#[]⟩] = w5 at *
    go_wp2_with fail
    have hb6 := (Below.refl w5.heap.size w5).alloc (Nat.le_refl _) (.cells (madeCells #[.int .u8 0] N) 5)
    have HT6 := Lib.hid (HT5.out.next hb6)
    clear hb6 HT5 hmk hcv
    generalize w5.alloc (.cells (madeCells #[.int .u8 0] N) 5) = w6 at *
    refine (HO2.out _ HT6.out).mono ?_
    rintro e w7 ⟨rfl, hh7⟩
    have HT7 := Lib.hid hh7
    clear hh7
    go_upto_region 10 with (refine wpList_store_row rfl 31 (.tmp 9) (.tmp 40) rfl w7.heap.size #[.int .i64 0, .int .i64 0, .int .u32 0, .int .u32 0, .int .u32 0, .slice none 0 0, .bool false, .string ⟨#[]⟩] rfl rfl 31 _ (heap_alloc_new w7 _) infoPduW rfl (unit_one _ _ _ _ _ _ _ _) ?_)
    have hbw8 : Below w7.heap.size w7 ((w7.alloc (.cells #[.int .i64 0, .int .i64 0, .int .u32 0, .int .u32 0, .int .u32 0, .slice none 0 0, .bool false, .string ⟨#[]⟩] 31)).setRow w7.heap.size #[.int .i64 0, .int .i64 0, .int .u32 0, .int .u32 0, .int .u32 0, .slice none 0 0, .bool false, .string ⟨#[]⟩]) := below_setRow ((Below.refl _ w7).alloc (Nat.le_refl _) _) (Nat.le_refl _) _
    have HQw8 := Lib.hid (row_box (w7.alloc (.cells #[.int .i64 0, .int .i64 0, .int .u32 0, .int .u32 0, .int .u32 0, .slice none 0 0, .bool false, .string ⟨#[]⟩] 31)) w7.heap.size 0 0 0 0 0 (.slice none 0 0) false ⟨#[]⟩ (heap_alloc_new w7 _))
    have HT8 := Lib.hid (HT7.out.next hbw8)
    obtain ⟨q8, hq8⟩ : ∃ q8, q8 = w7.heap.size := ⟨_, rfl⟩
    rw [← hq8] at HQw8 hbw8 HT8 ⊢
    clear hq8 HT7 hbw8
    generalize (w7.alloc (.cells #[.int .i64 0, .int .i64 0, .int .u32 0, .int .u32 0, .int .u32 0, .slice none 0 0, .bool false, .string ⟨#[]⟩] 31)).setRow q8 #[.int .i64 0, .int .i64 0, .int .u32 0, .int .u32 0, .int .u32 0, .slice none 0 0, .bool false, .string ⟨#[]⟩] = w8 at *
    go_wp2_with fail
    refine (HO3.out _ (has_here HT8.out)).mono ?_
    rintro e w9 ⟨rfl, hh9⟩
    have HT9 := Lib.hid (HT8.out.next hh9.below)
    have HQw9 := Lib.hid (HQw8.out.next hh9.below)
    clear hh9 HQw8
    go_upto_region 11 with (refine wpList_store_row rfl 31 (.tmp 11) (.tmp 45) rfl w9.heap.size #[.int .i64 0, .int .i64 0, .int .u32 0, .int .u32 0, .int .u32 0, .slice none 0 0, .bool false, .string ⟨#[]⟩] rfl rfl 31 _ (heap_alloc_new w9 _) infoPduW rfl (unit_one _ _ _ _ _ _ _ _) ?_)
    have hbwa : Below w9.heap.size w9 ((w9.alloc (.cells #[.int .i64 0, .int .i64 0, .int .u32 0, .int .u32 0, .int .u32 0, .slice none 0 0, .bool false, .string ⟨#[]⟩] 31)).setRow w9.heap.size #[.int .i64 0, .int .i64 0, .int .u32 0, .int .u32 0, .int .u32 0, .slice none 0 0, .bool false, .string ⟨#[]⟩]) := below_setRow ((Below.refl _ w9).alloc (Nat.le_refl _) _) (Nat.le_refl _) _
    have HQwa := Lib.hid (row_box (w9.alloc (.cells #[.int .i64 0, .int .i64 0, .int .u32 0, .int .u32 0, .int .u32 0, .slice none 0 0, .bool false, .string ⟨#[]⟩] 31)) w9.heap.size 0 0 0 0 0 (.slice none 0 0) false ⟨#[]⟩ (heap_alloc_new w9 _))
    have HTA := Lib.hid (HT9.out.next hbwa)
    have HQwA := Lib.hid (HQw9.out.next hbwa)
    obtain ⟨qa, hqa⟩ : ∃ qa, qa = w9.heap.size := ⟨_, rfl⟩
    rw [← hqa] at HQwa hbwa HTA HQwA ⊢
    clear hqa HT9 hbwa HQwa HQw9
    generalize (w9.alloc (.cells #[.int .i64 0, .int .i64 0, .int .u32 0, .int .u32 0, .int .u32 0, .slice none 0 0, .bool false, .string ⟨#[]⟩] 31)).setRow qa #[.int .i64 0, .int .i64 0, .int .u32 0, .int .u32 0, .int .u32 0, .slice none 0 0, .bool false, .string ⟨#[]⟩] = wa at *
    go_wp2_with fail
    refine (HSO1.out _ (has_here HTA.out)).mono ?_
    rintro e wb ⟨rfl, hhb⟩
    have HTB := Lib.hid (HTA.out.next hhb.below)
    have HQB := Lib.hid (HQwA.out.next hhb.below)
    clear hhb
    obtain ⟨x0, x1, x2, x3, x4, x5, x6, x7⟩ := HQB.out
    go_wp2_with fail
    refine (HSO2.out _ HTB.out).mono ?_
    rintro e wd ⟨rfl, hhd⟩
    have HTD := Lib.hid hhd
    clear hhd
    go_wp2_with fail
    go_ret
    exact ⟨by first | rfl | simp, HW3.out.trans (HTD.out.below.mono HW3.out.size)⟩
end Go.Proofs.YtnocckgbcjienabDoor
