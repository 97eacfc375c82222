/- The contract of the document's own Digits. Conditions: the number is of 64 bits. -/
import Derived.Test.YtnocckgbcjienaaDoorEvText2
import Derived.Lib.ItoaNum
namespace Go.Proofs.YtnocckgbcjienaaDoor
open Go.RowKit
set_option linter.unusedVariables false
set_option linter.unusedSimpArgs false

/-- The digits of a number, the last first taken: of n the digits from the k-th on stand ahead. -/
def decB (n : Nat) : ByteArray := ⟨(Lib.decDigits n).toArray⟩
theorem one_digit (x : Nat) (h : x < 10) : strOfNums [48 + (x : Int)] = ⟨#[UInt8.ofNat (48 + x)]⟩ := by
  have hc : ∀ k : Fin 10, strOfNums [48 + (k.val : Int)] = ⟨#[UInt8.ofNat (48 + k.val)]⟩ := by decide +kernel
  exact hc ⟨x, h⟩
theorem dec_small (n : Nat) (h : n < 10) : decB n = strOfNums [48 + (n : Int)] := by
  rw [one_digit n h]
  unfold decB
  rw [Lib.decDigits, dif_pos h]
theorem dec_big (n : Nat) (h : ¬ n < 10) : decB n = decB (n / 10) ++ strOfNums [48 + ((n % 10 : Nat) : Int)] := by
  rw [one_digit (n % 10) (by omega)]
  unfold decB
  rw [Lib.decDigits, dif_neg h]
  apply ByteArray.ext
  rw [ByteArray.data_append]
  apply Array.ext'
  simp
theorem itoa_pos (n : Nat) : itoaB (n : Int) = decB n := by
  unfold itoaB decB Lib.itoa
  rw [if_neg (by omega), Int.toNat_natCast]
theorem itoa_neg (n : Nat) (h : 0 < n) : itoaB (-(n : Int)) = ⟨#[45]⟩ ++ decB n := by
  unfold itoaB decB Lib.itoa
  rw [if_pos (by omega), Int.natAbs_neg, Int.natAbs_natCast]
  apply ByteArray.ext
  rw [ByteArray.data_append]
  apply Array.ext'
  simp
/-- What stands ahead when n is left and t is told: all of them, together. -/
def AllDigits (n : Nat) (t D : ByteArray) (first : Bool) : Prop := (if first = true ∨ 0 < n then decB n else ⟨#[]⟩) ++ t = D
theorem digits_next (n : Nat) (t D : ByteArray) (b : Bool) (hb : b = true ∨ 0 < n) (h : AllDigits n t D b) : AllDigits (n / 10) (strOfNums [48 + ((n % 10 : Nat) : Int)] ++ t) D false := by
  unfold AllDigits at *
  rw [if_pos hb] at h
  rw [← h]
  by_cases h10 : n < 10
  · rw [dec_small n h10, if_neg (by simp; omega), show n % 10 = n by omega]
    rw [show (⟨#[]⟩ : ByteArray) = ByteArray.empty from rfl, ByteArray.empty_append]
  · rw [dec_big n h10, if_pos (.inr (by omega)), ByteArray.append_assoc]
theorem all_size (m : Nat) (T D : ByteArray) (b : Bool) (h : AllDigits m T D b) : T.size ≤ D.size := by
  unfold AllDigits at h
  rw [← h, ByteArray.size_append]; omega
set_option maxHeartbeats 4000000 in
set_option maxRecDepth 100000 in
theorem ref_digits_pos (n : Nat) (w : World) (h2 : n ≤ 9223372036854775807) :
    Calls Tryd.prog 22 #[.int .i64 n] w fun e w' => e = .returned (.string (itoaB n)) ∧ Below w.heap.size w w' := by
  have hD : (itoaB (n : Int)).size ≤ 21 := by
    have := Lib.itoa_length_le (n : Int) (by omega) (by omega)
    unfold itoaB; simpa [ByteArray.size] using this
  have hA : AllDigits n ⟨#[]⟩ (itoaB (n : Int)) true := by
    unfold AllDigits
    rw [if_pos (.inl rfl), itoa_pos]
    exact ByteArray.append_empty
  generalize itoaB (n : Int) = D at *
  have hneg : decide ((n : Int) < 0) = false := decide_eq_false (by omega)
  have hconv := fun W a => convE W a
  go_enter Tryd.func22, Tryd.ntmps22
  go_wp2_with fail
  go_loopw [0, 4, 5] (fun x t i wr => ∃ (m k : Nat) (T : ByteArray), m ≤ 9223372036854775807 ∧ T.size = k ∧ x = .int .i64 m ∧ t = .string T ∧ i = .int .i64 k ∧ Hid (AllDigits m T D (decide (k = 0))) ∧ Hid (Below w.heap.size w wr)) (fun x _ i _ => 2 * (intOf x).toNat + (1 - (intOf i).toNat))
  case atStart => exact ⟨n, 0, ⟨#[]⟩, h2, rfl, rfl, rfl, rfl, hA, Below.refl _ _⟩
  case round =>
    obtain ⟨m, k, T, hm, hTk, rfl, rfl, rfl, HA, HB⟩ := hrel
    have hTs := all_size _ _ _ _ HA.out
    have hk0 : (0 : Int) ≤ (k : Int) := by omega
    have hk1 : (k : Int) ≤ 21 := by omega
    have hm0 : (0 : Int) ≤ (m : Int) := by omega
    have hm1 : (m : Int) ≤ 9223372036854775807 := by omega
    have go : (k = 0 ∨ 0 < m) ∨ (k ≠ 0 ∧ m = 0) := by omega
    rcases go with go | ⟨hk, rfl⟩
    · have hd10 : m % 10 < 10 := by omega
      have hqm : m / 10 ≤ m := by omega
      have hq2 : 0 < m → m / 10 < m := by omega
      have HN := Lib.hid (digits_next m T D (decide (k = 0)) (by rcases go with h | h; exact .inl (decide_eq_true h); exact .inr h) HA.out)
      have e1 : ((m : Nat) : Int).tmod 10 = ((m % 10 : Nat) : Int) := by rw [Int.tmod_eq_emod_of_nonneg hm0]; omega
      have e2 : ((m : Nat) : Int).tdiv 10 = ((m / 10 : Nat) : Int) := by rw [Int.tdiv_eq_ediv_of_nonneg hm0]; omega
      generalize m % 10 = d at *
      generalize m / 10 = q at *
      have hss := strOfNums_size [48 + (d : Int)]
      have hss1 : (strOfNums [48 + (d : Int)]).size = 1 := hss
      clear hss
      have hn : ¬ 9223372036854775807 < 1 + T.size := by omega
      have hz1 : (strOfNums [48 + (d : Int)] ++ T).size = k + 1 := by rw [ByteArray.size_append]; omega
      have HZ := Lib.hid hz1
      clear hz1
      go_wp2_with fail
      all_goals
        refine ⟨⟨q, k + 1, strOfNums [48 + (d : Int)] ++ T, by omega, HZ.out, rfl, rfl, congrArg (Value.int .i64) (by omega), HN.out, HB.out.alloc HB.out.size _⟩, ?_⟩
        simp only [intOf]
        omega
    · have hz : decide ((k : Int) = 0) = false := decide_eq_false (by omega)
      have HT : Hid (T = D) := by
        have h := HA.out
        unfold AllDigits at h
        rw [if_neg (by simp [hk])] at h
        rw [show (⟨#[]⟩ : ByteArray) = ByteArray.empty from rfl, ByteArray.empty_append] at h
        exact h
      go_wp2_with fail
      go_ret
      exact ⟨by rw [HT.out]; rfl, HB.out⟩
set_option maxHeartbeats 4000000 in
set_option maxRecDepth 100000 in
theorem ref_digits_neg (n : Nat) (w : World) (h0 : 0 < n) (h2 : n ≤ 9223372036854775808) :
    Calls Tryd.prog 22 #[.int .i64 (-(n : Int))] w fun e w' => e = .returned (.string (itoaB (-(n : Int)))) ∧ Below w.heap.size w w' := by
  have hD : (decB n).size ≤ 21 := by
    have := Lib.itoa_length_le (-(n : Int)) (by omega) (by omega)
    have h3 : (itoaB (-(n : Int))).size ≤ 21 := by unfold itoaB; simpa [ByteArray.size] using this
    rw [itoa_neg n h0, ByteArray.size_append] at h3
    omega
  have hA : AllDigits n ⟨#[]⟩ (decB n) false := by
    unfold AllDigits
    rw [if_pos (.inr h0)]
    exact ByteArray.append_empty
  rw [itoa_neg n h0]
  generalize decB n = D at *
  have hneg : decide (-(n : Int) < 0) = true := decide_eq_true (by omega)
  have hconv := fun W a => convE W a
  have hn : ¬ 9223372036854775807 < 1 + D.size := by omega
  go_enter Tryd.func22, Tryd.ntmps22
  go_wp2_with fail
  go_loopw [0, 3] (fun x t wr => ∃ (m : Nat) (T : ByteArray), m ≤ 9223372036854775808 ∧ x = .int .i64 (-(m : Int)) ∧ t = .string T ∧ Hid (AllDigits m T D false) ∧ Hid (Below w.heap.size w wr)) (fun x _ _ => (-(intOf x)).toNat)
  case atStart => exact ⟨n, ⟨#[]⟩, h2, rfl, rfl, hA, Below.refl _ _⟩
  case round =>
    obtain ⟨m, T, hm, rfl, rfl, HA, HB⟩ := hrel
    have hTs := all_size _ _ _ _ HA.out
    have go : m = 0 ∨ 0 < m := by omega
    rcases go with rfl | hm0
    · have HT : Hid (T = D) := by
        have h := HA.out
        unfold AllDigits at h
        rw [if_neg (by simp)] at h
        rw [show (⟨#[]⟩ : ByteArray) = ByteArray.empty from rfl, ByteArray.empty_append] at h
        exact h
      have hn2 : ¬ 9223372036854775807 < 1 + T.size := by omega
      go_wp2_with fail
      go_ret
      exact ⟨by rw [HT.out]; rfl, HB.out⟩
    · have hlt : decide (-(m : Int) < 0) = true := decide_eq_true (by omega)
      have hlo : (-9223372036854775808 : Int) ≤ -(m : Int) := by omega
      have HN := Lib.hid (digits_next m T D false (.inr hm0) HA.out)
      have e1 : (-(m : Int)).tmod 10 = -((m % 10 : Nat) : Int) := by rw [Int.neg_tmod, Int.tmod_eq_emod_of_nonneg (by omega)]; omega
      have e2 : (-(m : Int)).tdiv 10 = -((m / 10 : Nat) : Int) := by rw [Int.neg_tdiv, Int.tdiv_eq_ediv_of_nonneg (by omega)]; omega
      have hd10 : m % 10 < 10 := by omega
      have hqm : m / 10 < m := by omega
      generalize m % 10 = d at *
      generalize m / 10 = q at *
      have hss1 : (strOfNums [48 + (d : Int)]).size = 1 := strOfNums_size [48 + (d : Int)]
      have hn2 : ¬ 9223372036854775807 < 1 + T.size := by omega
      go_wp2_with fail
      all_goals
        refine ⟨⟨q, strOfNums [48 + (d : Int)] ++ T, by omega, rfl, rfl, HN.out, HB.out.alloc HB.out.size _⟩, ?_⟩
        simp only [intOf]
        omega
theorem ref_digits (n : Int) (w : World) (h0 : -9223372036854775808 ≤ n) (h1 : n ≤ 9223372036854775807) :
    Calls Tryd.prog 22 #[.int .i64 n] w fun e w' => e = .returned (.string (itoaB n)) ∧ Below w.heap.size w w' := by
  by_cases h : 0 ≤ n
  · obtain ⟨m, rfl⟩ := Int.eq_ofNat_of_zero_le h
    exact ref_digits_pos m w (by omega)
  · obtain ⟨m, hm⟩ := Int.eq_ofNat_of_zero_le (show 0 ≤ -n by omega)
    have e : n = -(m : Int) := by omega
    rw [e]
    exact ref_digits_neg m w (by omega) (by omega)
end Go.Proofs.YtnocckgbcjienaaDoor
