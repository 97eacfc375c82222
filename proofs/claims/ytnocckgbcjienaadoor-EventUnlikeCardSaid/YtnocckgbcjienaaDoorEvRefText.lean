/- The contract of the document's own Text. Conditions: the data's length, the number of 64 bits. -/
import Derived.Test.YtnocckgbcjienaaDoorEvRefHex
import Derived.Test.YtnocckgbcjienaaDoorEvDigits
namespace Go.Proofs.YtnocckgbcjienaaDoor
open Go.RowKit
set_option linter.unusedVariables false
set_option linter.unusedSimpArgs false

theorem join_one (a : ByteArray) : joinB [a] = a := by
  apply ByteArray.ext
  apply Array.ext'
  simp [joinB, Lib.join]
theorem join_two (a b : ByteArray) : joinB [a, b] = a ++ (⟨#[32]⟩ ++ b) := by
  apply ByteArray.ext
  apply Array.ext'
  simp [joinB, Lib.join]
theorem join_three (a b c : ByteArray) : joinB [a, b, c] = a ++ (⟨#[32]⟩ ++ b) ++ (⟨#[32]⟩ ++ c) := by
  apply ByteArray.ext
  apply Array.ext'
  simp [joinB, Lib.join]
theorem conv_next (w : World) (o : Obj) (code : Int) :
    Sem.run Tryd.prog (convert 43 9 (.slice (some ⟨w.heap.size + 1, 0, none⟩) 1 1)) ((w.alloc o).alloc (.cells #[.int .u8 code] 5)) = .ok (.string (strOfNums [code])) ((w.alloc o).alloc (.cells #[.int .u8 code] 5)) := by
  have h := convE (w.alloc o) code
  have e : (w.alloc o).heap.size = w.heap.size + 1 := by simp
  rw [e] at h
  exact h
set_option maxHeartbeats 4000000 in
set_option maxRecDepth 100000 in
theorem ref_text_none (k n : Int) (d : ByteArray) (se : Bool) (code : Int) (w : World) (hk : ¬ (1 ≤ k ∧ k ≤ 12)) :
    Calls Tryd.prog 14 #[.int .i64 k, .string d, .bool se, .int .u8 code, .int .i64 n] w fun e w' => e = .returned (.string (textB k n d se code)) ∧ Below w.heap.size w w' := by
  have HV : Hid (textB k n d se code = ⟨#[]⟩) := if_neg hk
  generalize textB k n d se code = V at *
  by_cases h1 : k < 1
  · have d1 : decide (k < 1) = true := decide_eq_true h1
    clear hk h1
    go_enter Tryd.func14, Tryd.ntmps14
    go_wp2_with fail
    go_ret
    exact ⟨by rw [HV.out]; rfl, Below.refl _ _⟩
  · have d1 : decide (k < 1) = false := decide_eq_false h1
    have d2 : decide (12 < k) = true := decide_eq_true (by omega)
    clear hk h1
    go_enter Tryd.func14, Tryd.ntmps14
    go_wp2_with fail
    go_ret
    exact ⟨by rw [HV.out]; rfl, Below.refl _ _⟩
set_option maxHeartbeats 4000000 in
set_option maxRecDepth 100000 in
theorem ref_text_hex (k n : Int) (d : ByteArray) (se : Bool) (code : Int) (w : World) (hd : d.size ≤ 1000) (hk : k = 1 ∨ k = 5 ∨ k = 8 ∨ k = 9 ∨ k = 10 ∨ k = 11) :
    Calls Tryd.prog 14 #[.int .i64 k, .string d, .bool se, .int .u8 code, .int .i64 n] w fun e w' => e = .returned (.string (textB k n d se code)) ∧ Below w.heap.size w w' := by
  have HV : Hid (textB k n d se code = wordS k.toNat ++ (⟨#[32]⟩ ++ hexB d)) := by
    show _ = _
    unfold textB partsL
    rw [if_pos (by omega), if_pos (by omega), join_two]
  generalize textB k n d se code = V at *
  have HH := Lib.hid (fun W => ev_ref_hex d W hd)
  have hhs := hexB_size d
  generalize hexB d = F at *
  have hf1 : (⟨#[32]⟩ ++ F : ByteArray).size = 1 + F.size := ByteArray.size_append
  rcases hk with rfl | rfl | rfl | rfl | rfl | rfl
  all_goals
    go_enter Tryd.func14, Tryd.ntmps14
    go_wp2_with fail
    refine (HH.out _).mono ?_
    rintro e w2 ⟨rfl, hb2⟩
    have HB2 := Lib.hid ((Below.alloc (Below.refl w.heap.size w) (Nat.le_refl _) _).trans (hb2.mono (by simp)))
    clear hb2
    go_wp2_with fail
    go_ret
    exact ⟨by rw [HV.out]; rfl, HB2.out⟩
set_option maxHeartbeats 4000000 in
set_option maxRecDepth 100000 in
theorem ref_text_bare (k n : Int) (d : ByteArray) (se : Bool) (code : Int) (w : World) (hk : k = 2 ∨ k = 4 ∨ k = 6 ∨ k = 7) :
    Calls Tryd.prog 14 #[.int .i64 k, .string d, .bool se, .int .u8 code, .int .i64 n] w fun e w' => e = .returned (.string (textB k n d se code)) ∧ Below w.heap.size w w' := by
  have HV : Hid (textB k n d se code = wordS k.toNat) := by
    show _ = _
    unfold textB partsL
    rw [if_pos (by omega), if_neg (by omega), if_neg (by omega), if_neg (by omega), join_one]
  generalize textB k n d se code = V at *
  rcases hk with rfl | rfl | rfl | rfl
  all_goals
    go_enter Tryd.func14, Tryd.ntmps14
    go_wp2_with fail
    go_ret
    exact ⟨by rw [HV.out]; rfl, (Below.refl _ _).alloc (Nat.le_refl _) _⟩
set_option maxHeartbeats 4000000 in
set_option maxRecDepth 100000 in
theorem ref_text_release (n : Int) (d : ByteArray) (se : Bool) (code : Int) (w : World) (hd : d.size ≤ 1000) :
    Calls Tryd.prog 14 #[.int .i64 3, .string d, .bool se, .int .u8 code, .int .i64 n] w fun e w' => e = .returned (.string (textB 3 n d se code)) ∧ Below w.heap.size w w' := by
  have HV : Hid (textB 3 n d se code = wordS 3 ++ (⟨#[32]⟩ ++ doerS se) ++ (⟨#[32]⟩ ++ hexB d)) := by
    show _ = _
    unfold textB partsL
    rw [if_pos (by omega), if_neg (by omega), if_pos rfl, join_three]; rfl
  generalize textB 3 n d se code = V at *
  have HH := Lib.hid (fun W => ev_ref_hex d W hd)
  have hhs := hexB_size d
  generalize hexB d = F at *
  have hf1 : (⟨#[32]⟩ ++ F : ByteArray).size = 1 + F.size := ByteArray.size_append
  cases se
  all_goals
    go_enter Tryd.func14, Tryd.ntmps14
    go_wp2_with fail
    refine (HH.out _).mono ?_
    rintro e w2 ⟨rfl, hb2⟩
    have HB2 := Lib.hid ((Below.alloc (Below.refl w.heap.size w) (Nat.le_refl _) _).trans (hb2.mono (by simp)))
    clear hb2
    go_wp2_with fail
    go_ret
    exact ⟨by rw [HV.out]; rfl, HB2.out⟩
set_option maxHeartbeats 4000000 in
set_option maxRecDepth 100000 in
theorem ref_text_error (n : Int) (d : ByteArray) (se : Bool) (code : Int) (w : World) (h0 : -9223372036854775808 ≤ n) (h1 : n ≤ 9223372036854775807) :
    Calls Tryd.prog 14 #[.int .i64 12, .string d, .bool se, .int .u8 code, .int .i64 n] w fun e w' => e = .returned (.string (textB 12 n d se code)) ∧ Below w.heap.size w w' := by
  have hconv := fun o => conv_next w o code
  have HD := Lib.hid (fun W => ref_digits n W h0 h1)
  have his : (itoaB n).size ≤ 21 := by
    have := Lib.itoa_length_le n h0 h1
    unfold itoaB; simpa [ByteArray.size] using this
  have hss1 : (strOfNums [code]).size = 1 := strOfNums_size [code]
  by_cases hc : code = 86
  · have HV : Hid (textB 12 n d se code = wordS 12 ++ (⟨#[32]⟩ ++ strOfNums [code]) ++ (⟨#[32]⟩ ++ itoaB n)) := by
      show _ = _
      unfold textB partsL reportL
      rw [if_pos (by omega), if_neg (by omega), if_neg (by omega), if_pos rfl, if_pos hc, join_three]; rfl
    generalize textB 12 n d se code = V at *
    generalize itoaB n = I at *
    have d1 : (code == 86) = true := by rw [beq_iff_eq]; exact hc
    generalize strOfNums [code] = L at *
    clear hc
    have hf1 : (⟨#[32]⟩ ++ L : ByteArray).size = 2 := by rw [ByteArray.size_append, hss1]; rfl
    have hf2 : (⟨#[32]⟩ ++ I : ByteArray).size = 1 + I.size := ByteArray.size_append
    go_enter Tryd.func14, Tryd.ntmps14
    go_wp2_with fail
    refine (HD.out _).mono ?_
    rintro e w2 ⟨rfl, hb2⟩
    have HB2 := Lib.hid ((Below.alloc (Below.alloc (Below.refl w.heap.size w) (Nat.le_refl _) _) (by simp) _).trans (hb2.mono (by simp; omega)))
    clear hb2
    go_wp2_with fail
    go_ret
    exact ⟨by rw [HV.out]; rfl, HB2.out⟩
  · have HV : Hid (textB 12 n d se code = wordS 12 ++ (⟨#[32]⟩ ++ strOfNums [code])) := by
      show _ = _
      unfold textB partsL reportL
      rw [if_pos (by omega), if_neg (by omega), if_neg (by omega), if_pos rfl, if_neg hc, join_two]; rfl
    generalize textB 12 n d se code = V at *
    have d1 : (code == 86) = false := by rw [beq_eq_false_iff_ne]; exact hc
    generalize strOfNums [code] = L at *
    clear hc
    have hf1 : (⟨#[32]⟩ ++ L : ByteArray).size = 2 := by rw [ByteArray.size_append, hss1]; rfl
    go_enter Tryd.func14, Tryd.ntmps14
    go_wp2_with fail
    go_ret
    exact ⟨by rw [HV.out]; rfl, Below.alloc (Below.alloc (Below.refl w.heap.size w) (Nat.le_refl _) _) (by simp) _⟩
theorem ref_text (k n : Int) (d : ByteArray) (se : Bool) (code : Int) (w : World) (hd : d.size ≤ 1000) (h0 : -9223372036854775808 ≤ n) (h1 : n ≤ 9223372036854775807) :
    Calls Tryd.prog 14 #[.int .i64 k, .string d, .bool se, .int .u8 code, .int .i64 n] w fun e w' => e = .returned (.string (textB k n d se code)) ∧ Below w.heap.size w w' := by
  have hc : (k = 1 ∨ k = 5 ∨ k = 8 ∨ k = 9 ∨ k = 10 ∨ k = 11) ∨ (k = 2 ∨ k = 4 ∨ k = 6 ∨ k = 7) ∨ k = 3 ∨ k = 12 ∨ ¬ (1 ≤ k ∧ k ≤ 12) := by omega
  rcases hc with h | h | rfl | rfl | h
  · exact ref_text_hex k n d se code w hd h
  · exact ref_text_bare k n d se code w h
  · exact ref_text_release n d se code w hd
  · exact ref_text_error n d se code w h0 h1
  · exact ref_text_none k n d se code w h
end Go.Proofs.YtnocckgbcjienaaDoor
