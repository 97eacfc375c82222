/- Signals that are unlike in what is named have unlike texts: the mathematics. -/
import Derived.Test.YtnocckgbcjienaaDoorEventHexLaw
import Derived.Test.YtnocckgbcjienaaDoorEvRefText
namespace Go.Proofs.YtnocckgbcjienaaDoor
open Go.RowKit
set_option linter.unusedVariables false
set_option linter.unusedSimpArgs false

theorem dec_all48 : ∀ (n : Nat), ∀ c ∈ Lib.decDigits n, 48 ≤ c.toNat := by
  intro n
  induction n using Nat.strongRecOn with
  | ind n ih =>
    intro c hc
    rw [Lib.decDigits] at hc
    split at hc
    · rename_i h
      simp only [List.mem_singleton] at hc
      subst hc
      rw [UInt8.toNat_ofNat']; omega
    · rename_i h
      rcases List.mem_append.1 hc with h1 | h1
      · exact ih (n / 10) (by omega) c h1
      · simp only [List.mem_singleton] at h1
        subst h1
        rw [UInt8.toNat_ofNat']; omega
theorem dec_val : ∀ (n : Nat), (Lib.decDigits n).foldl (fun a b => 10 * a + (b.toNat - 48)) 0 = n := by
  intro n
  induction n using Nat.strongRecOn with
  | ind n ih =>
    rw [Lib.decDigits]
    split
    · rename_i h
      simp only [List.foldl_cons, List.foldl_nil]
      rw [UInt8.toNat_ofNat']; omega
    · rename_i h
      rw [List.foldl_append, ih (n / 10) (by omega)]
      simp only [List.foldl_cons, List.foldl_nil]
      rw [UInt8.toNat_ofNat']; omega
theorem dec_inj (n m : Nat) (h : Lib.decDigits n = Lib.decDigits m) : n = m := by
  rw [← dec_val n, h, dec_val]
theorem itoa_inj (n m : Int) (h : Lib.itoa n = Lib.itoa m) : n = m := by
  have hno : ∀ (u v : Nat), 45 :: Lib.decDigits u = Lib.decDigits v → False := fun u v e => by
    have := dec_all48 v 45 (by rw [← e]; simp)
    have e45 : (45 : UInt8).toNat = 45 := rfl
    omega
  unfold Lib.itoa at h
  by_cases hn : n < 0
  · by_cases hm : m < 0
    · rw [if_pos hn, if_pos hm] at h
      have := dec_inj _ _ (by simpa using h)
      omega
    · rw [if_pos hn, if_neg hm] at h
      exact (hno _ _ (by simpa using h)).elim
  · by_cases hm : m < 0
    · rw [if_neg hn, if_pos hm] at h
      exact (hno _ _ (by simpa using h.symm)).elim
    · rw [if_neg hn, if_neg hm] at h
      have := dec_inj _ _ h
      omega
theorem itoaB_inj (n m : Int) (h : itoaB n = itoaB m) : n = m := by
  apply itoa_inj
  unfold itoaB at h
  have := congrArg (fun b : ByteArray => b.data.toList) h
  simpa using this
theorem hexB_inj (s t : ByteArray) (h : hexB s = hexB t) : s = t := by
  have hone : ∀ u : ByteArray, u.size = 0 → (hexB u).size % 2 = 1 := fun u hu => by
    unfold hexB; rw [if_pos hu]; rfl
  by_cases hs : s.size = 0
  · by_cases ht : t.size = 0
    · apply nums_inj
      rw [List.eq_nil_of_length_eq_zero (show (nums s).length = 0 by rw [nums_len]; exact hs), List.eq_nil_of_length_eq_zero (show (nums t).length = 0 by rw [nums_len]; exact ht)]
    · have h1 := (unhex_hex t ht).2.2
      rw [← h] at h1
      have := hone s hs
      omega
  · by_cases ht : t.size = 0
    · have h1 := (unhex_hex s hs).2.2
      rw [h] at h1
      have := hone t ht
      omega
    · have h1 := (unhex_hex s hs).1
      rw [h, (unhex_hex t ht).1] at h1
      injection h1 with h1
      simpa using h1.symm
/-- Two texts whose first words have no blank: alike, they have alike words and alike rests. -/
def Rest (r : List Nat) : Prop := r = [] ∨ ∃ t, r = 32 :: t
theorem first_word : ∀ (a b r s : List Nat) (ha : 32 ∉ a) (hb : 32 ∉ b) (hr : Rest r) (hs : Rest s) (h : a ++ r = b ++ s), a = b ∧ r = s
  | [], [], r, s, _, _, _, _, h => ⟨rfl, h⟩
  | [], x :: b, r, s, _, hb, hr, _, h => by
    rcases hr with rfl | ⟨t, rfl⟩
    · simp at h
    · simp only [List.nil_append, List.cons_append, List.cons.injEq] at h
      exact (hb (by rw [h.1]; simp)).elim
  | x :: a, [], r, s, ha, _, _, hs, h => by
    rcases hs with rfl | ⟨t, rfl⟩
    · simp at h
    · simp only [List.nil_append, List.cons_append, List.cons.injEq] at h
      exact (ha (by rw [h.1]; simp)).elim
  | x :: a, y :: b, r, s, ha, hb, hr, hs, h => by
    simp only [List.cons_append, List.cons.injEq] at h
    obtain ⟨e1, e2⟩ := first_word a b r s (fun h => ha (by simp [h])) (fun h => hb (by simp [h])) hr hs h.2
    exact ⟨by rw [h.1, e1], e2⟩
theorem word_plain (k : Nat) (hk : k < 13) : 32 ∉ nums (wordS k) := by
  have hc : ∀ j : Fin 13, 32 ∉ nums (wordS j.val) := by decide +kernel
  exact hc ⟨k, hk⟩
theorem word_inj (i j : Nat) (hi : i < 13) (hj : j < 13) (h : nums (wordS i) = nums (wordS j)) : i = j := by
  have hc : ∀ i j : Fin 13, nums (wordS i.val) = nums (wordS j.val) → i.val = j.val := by decide +kernel
  exact hc ⟨i, hi⟩ ⟨j, hj⟩ h
def restB (k n : Int) (d : ByteArray) (se : Bool) (code : Int) : ByteArray :=
  if k = 1 ∨ k = 5 ∨ k = 8 ∨ k = 9 ∨ k = 10 ∨ k = 11 then ⟨#[32]⟩ ++ hexB d else if k = 3 then (⟨#[32]⟩ ++ doerS se) ++ (⟨#[32]⟩ ++ hexB d)
  else if k = 12 then (if code = 86 then (⟨#[32]⟩ ++ strOfNums [code]) ++ (⟨#[32]⟩ ++ itoaB n) else ⟨#[32]⟩ ++ strOfNums [code]) else ByteArray.empty
theorem rest_hex (k n : Int) (d : ByteArray) (se : Bool) (code : Int) (h : k = 1 ∨ k = 5 ∨ k = 8 ∨ k = 9 ∨ k = 10 ∨ k = 11) : restB k n d se code = ⟨#[32]⟩ ++ hexB d := by
  unfold restB; exact if_pos h
theorem rest_rel (k n : Int) (d : ByteArray) (se : Bool) (code : Int) (h : k = 3) : restB k n d se code = (⟨#[32]⟩ ++ doerS se) ++ (⟨#[32]⟩ ++ hexB d) := by
  unfold restB; exact (if_neg (by omega)).trans (if_pos h)
theorem rest_err (k n : Int) (d : ByteArray) (se : Bool) (code : Int) (h : k = 12) : restB k n d se code = if code = 86 then (⟨#[32]⟩ ++ strOfNums [code]) ++ (⟨#[32]⟩ ++ itoaB n) else ⟨#[32]⟩ ++ strOfNums [code] := by
  unfold restB; exact (if_neg (by omega)).trans ((if_neg (by omega)).trans (if_pos h))
theorem text_rest (k n : Int) (d : ByteArray) (se : Bool) (code : Int) (hk : 1 ≤ k ∧ k ≤ 12) : textB k n d se code = wordS k.toNat ++ restB k n d se code := by
  unfold textB partsL restB
  rw [if_pos hk]
  split
  · exact join_two _ _
  · split
    · rw [join_three, ByteArray.append_assoc]
    · split
      · unfold reportL
        split
        · rw [join_three, ByteArray.append_assoc]
        · exact join_two _ _
      · rw [join_one, ByteArray.append_empty]
theorem rest_rest (k n : Int) (d : ByteArray) (se : Bool) (code : Int) : Rest (nums (restB k n d se code)) := by
  have e : nums (⟨#[32]⟩ : ByteArray) = [32] := rfl
  unfold restB
  split
  · rw [nums_append, e]; exact .inr ⟨_, rfl⟩
  · split
    · rw [nums_append, nums_append, e]; exact .inr ⟨_, rfl⟩
    · split
      · split
        · rw [nums_append, nums_append, e]; exact .inr ⟨_, rfl⟩
        · rw [nums_append, e]; exact .inr ⟨_, rfl⟩
      · exact .inl rfl
/-- What isn't named is zero. -/
def Bare (k n : Int) (d : ByteArray) (se : Bool) (code : Int) : Prop :=
  (1 ≤ k ∧ k ≤ 12) ∧ (k ≠ 3 → se = false) ∧ (k ≠ 12 → code = 0 ∧ n = 0) ∧ (code ≠ 86 → n = 0) ∧ (k = 2 ∨ k = 4 ∨ k = 6 ∨ k = 7 ∨ k = 12 → d = ⟨#[]⟩) ∧ 0 ≤ code ∧ code ≤ 255
theorem nums_cancel (a b c : ByteArray) (h : nums (a ++ b) = nums (a ++ c)) : b = c := by
  rw [nums_append, nums_append] at h
  exact nums_inj _ _ (List.append_cancel_left h)
theorem code_inj (x y : Int) (hx : 0 ≤ x ∧ x ≤ 255) (hy : 0 ≤ y ∧ y ≤ 255) (h : nums (strOfNums [x]) = nums (strOfNums [y])) : x = y := by
  rw [nums_strOfNums, nums_strOfNums] at h
  simp only [List.map_cons, List.map_nil, List.cons.injEq, and_true, UInt8.toNat_ofNat'] at h
  omega
theorem text_inj (k n : Int) (d : ByteArray) (se : Bool) (code : Int) (k' n' : Int) (d' : ByteArray) (se' : Bool) (code' : Int) (hb : Bare k n d se code) (hb' : Bare k' n' d' se' code')
    (h : textB k n d se code = textB k' n' d' se' code') : k = k' ∧ n = n' ∧ d = d' ∧ se = se' ∧ code = code' := by
  obtain ⟨hk, hse, hco, hn, hd, hc⟩ := hb
  obtain ⟨hk', hse', hco', hn', hd', hc'⟩ := hb'
  rw [text_rest _ _ _ _ _ hk, text_rest _ _ _ _ _ hk'] at h
  have h2 := congrArg nums h
  rw [nums_append, nums_append] at h2
  obtain ⟨e1, e2⟩ := first_word _ _ _ _ (word_plain _ (by omega)) (word_plain _ (by omega)) (rest_rest _ _ _ _ _) (rest_rest _ _ _ _ _) h2
  have e3 := word_inj _ _ (by omega) (by omega) e1
  obtain rfl : k = k' := by omega
  refine ⟨rfl, ?_⟩
  clear h h2 e1 e3
  have hcase : (k = 1 ∨ k = 5 ∨ k = 8 ∨ k = 9 ∨ k = 10 ∨ k = 11) ∨ k = 3 ∨ k = 12 ∨ (k = 2 ∨ k = 4 ∨ k = 6 ∨ k = 7) := by omega
  rcases hcase with g | g | g | g
  · rw [rest_hex _ _ _ _ _ g, rest_hex _ _ _ _ _ g] at e2
    have ed := hexB_inj _ _ (nums_cancel _ _ _ e2)
    obtain ⟨c0, n0⟩ := hco (by omega)
    obtain ⟨c1, n1⟩ := hco' (by omega)
    exact ⟨by omega, ed, by rw [hse (by omega), hse' (by omega)], by omega⟩
  · rw [rest_rel _ _ _ _ _ g, rest_rel _ _ _ _ _ g] at e2
    obtain ⟨c0, n0⟩ := hco (by omega)
    obtain ⟨c1, n1⟩ := hco' (by omega)
    rw [nums_append, nums_append (⟨#[32]⟩ ++ doerS se')] at e2
    have hl : ∀ b : Bool, (nums (⟨#[32]⟩ ++ doerS b)).length = 5 := by intro b; cases b <;> rfl
    obtain ⟨ea, eb⟩ := List.append_inj e2 (by rw [hl, hl])
    have hdo : ∀ b c : Bool, nums (⟨#[32]⟩ ++ doerS b) = nums (⟨#[32]⟩ ++ doerS c) → b = c := by decide +kernel
    exact ⟨by omega, hexB_inj _ _ (nums_cancel _ _ _ eb), hdo _ _ ea, by omega⟩
  · rw [rest_err _ _ _ _ _ g, rest_err _ _ _ _ _ g] at e2
    have ed : d = d' := by rw [hd (by omega), hd' (by omega)]
    have es : se = se' := by rw [hse (by omega), hse' (by omega)]
    have hl : ∀ x : Int, (nums (⟨#[32]⟩ ++ strOfNums [x])).length = 2 := fun x => by rw [nums_append, nums_strOfNums]; rfl
    have hcc : ∀ x y, nums (⟨#[32]⟩ ++ strOfNums [x]) = nums (⟨#[32]⟩ ++ strOfNums [y]) → nums (strOfNums [x]) = nums (strOfNums [y]) := fun x y h => by rw [nums_cancel _ _ _ h]
    have hp : ∀ x : Int, 1 ≤ (nums (⟨#[32]⟩ ++ itoaB x)).length := fun x => by
      rw [nums_append, List.length_append]
      show 1 ≤ 1 + _
      omega
    by_cases h1 : code = 86
    · by_cases h2 : code' = 86
      · rw [if_pos h1, if_pos h2, nums_append, nums_append (⟨#[32]⟩ ++ strOfNums [code'])] at e2
        obtain ⟨ea, eb⟩ := List.append_inj e2 (by rw [hl, hl])
        exact ⟨itoaB_inj _ _ (nums_cancel _ _ _ eb), ed, es, by omega⟩
      · rw [if_pos h1, if_neg h2, nums_append] at e2
        have := congrArg List.length e2
        rw [List.length_append, hl, hl] at this
        have := hp n
        omega
    · by_cases h2 : code' = 86
      · rw [if_neg h1, if_pos h2, nums_append (⟨#[32]⟩ ++ strOfNums [code'])] at e2
        have := congrArg List.length e2
        rw [List.length_append, hl, hl] at this
        have := hp n'
        omega
      · rw [if_neg h1, if_neg h2] at e2
        have n0 := hn h1
        have n1 := hn' h2
        exact ⟨by omega, ed, es, code_inj _ _ hc hc' (hcc _ _ e2)⟩
  · obtain ⟨c0, n0⟩ := hco (by omega)
    obtain ⟨c1, n1⟩ := hco' (by omega)
    exact ⟨by omega, by rw [hd (by omega), hd' (by omega)], by rw [hse (by omega), hse' (by omega)], by omega⟩
end Go.Proofs.YtnocckgbcjienaaDoor
