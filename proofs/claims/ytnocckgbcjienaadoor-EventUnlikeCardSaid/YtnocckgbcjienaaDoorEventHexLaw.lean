/- The walk of EventHex. Conditions: event's variables and the library's table lie as their initialisers leave them; the texts are no longer than texts may be. -/
import Derived.Test.YtnocckgbcjienaaDoorEvRefHex
import Derived.Test.YtnocckgbcjienaaDoorEvAwake
namespace Go.Proofs.YtnocckgbcjienaaDoor
open Go.RowKit
set_option linter.unusedVariables false
set_option linter.unusedSimpArgs false

theorem dig_back (c : Nat) (h : 0 ≤ digI c) : 0 ≤ digI c ∧ digI c < 16 ∧ hexDigit (digI c).toNat = (c : Int) := by
  refine ⟨h, dig_lt c, ?_⟩
  unfold digI at *
  unfold hexDigit
  repeat' split
  all_goals first | omega | (exfalso; simp_all; done) | skip
  all_goals
    repeat' split at h
    all_goals omega
theorem dig_there (x : Nat) (h : x < 16) : digI (hexDigit x).toNat = (x : Int) ∧ 0 ≤ hexDigit x ∧ hexDigit x < 256 := by
  have hc : ∀ k : Fin 16, digI (hexDigit k.val).toNat = (k.val : Int) ∧ 0 ≤ hexDigit k.val ∧ hexDigit k.val < 256 := by decide +kernel
  exact hc ⟨x, h⟩
def hexN (l : List Nat) : List Int := l.flatMap fun b => [hexDigit (b / 16), hexDigit (b % 16)]
theorem hexN_in (l : List Nat) (hl : ∀ b, b ∈ l → b < 256) : ∀ x, x ∈ hexN l → 0 ≤ x ∧ x < 256 := by
  intro x hx
  obtain ⟨b, hb, hx⟩ := List.mem_flatMap.1 hx
  have h1 := dig_there (b / 16) (by have := hl b hb; omega)
  have h2 := dig_there (b % 16) (by omega)
  simp only [List.mem_cons, List.not_mem_nil, or_false] at hx
  rcases hx with rfl | rfl
  · exact ⟨h1.2.1, h1.2.2⟩
  · exact ⟨h2.2.1, h2.2.2⟩
theorem nums_hex (s : ByteArray) : nums (strOfNums (hexL s)) = (hexN (nums s)).map Int.toNat := nums_strI _ (hexN_in _ (nums_lt s))
/-- The pairs of a text, one by one. -/
theorem pairs_cons (a b : Nat) (l : List Nat) : pairsL (a :: b :: l) = (16 * digI a + digI b) :: pairsL l := by
  unfold pairsL
  have e : (a :: b :: l).length / 2 = l.length / 2 + 1 := by simp only [List.length_cons]; omega
  rw [e, List.range_succ_eq_map, List.map_cons, List.map_map]
  congr 1
theorem pairs_hex : ∀ (l : List Nat) (hl : ∀ b, b ∈ l → b < 256), pairsL ((hexN l).map Int.toNat) = l.map Int.ofNat
  | [], _ => rfl
  | b :: l, hl => by
    have hb := hl b (by simp)
    have h1 := (dig_there (b / 16) (by omega)).1
    have h2 := (dig_there (b % 16) (by omega)).1
    have ih := pairs_hex l (fun x hx => hl x (by simp [hx]))
    have e : (hexN (b :: l)).map Int.toNat = (hexDigit (b / 16)).toNat :: (hexDigit (b % 16)).toNat :: (hexN l).map Int.toNat := by
      unfold hexN; rw [List.flatMap_cons]; rfl
    rw [e, pairs_cons, ih, h1, h2, List.map_cons]
    congr 1
    simp only [Int.ofNat_eq_natCast]
    omega
theorem hex_pairs : ∀ (n : Nat) (l : List Nat) (hn : l.length = 2 * n) (hl : allDig l), hexN ((pairsL l).map Int.toNat) = l.map Int.ofNat ∧ ∀ x, x ∈ pairsL l → 0 ≤ x ∧ x < 256
  | 0, l, hn, _ => by
    obtain rfl : l = [] := List.eq_nil_of_length_eq_zero (by omega)
    exact ⟨rfl, fun x h => by simp [pairsL] at h⟩
  | n + 1, l, hn, hl => by
    match l, hn, hl with
    | [], hn, _ => simp at hn; 
    | [_], hn, _ => simp at hn; omega
    | a :: b :: l, hn, hl =>
      have ha := dig_back a (hl a (by simp))
      have hb := dig_back b (hl b (by simp))
      obtain ⟨ih1, ih2⟩ := hex_pairs n l (by simp at hn; omega) (fun c hc => hl c (by simp [hc]))
      rw [pairs_cons]
      refine ⟨?_, fun x hx => ?_⟩
      · have e1 : (16 * digI a + digI b).toNat / 16 = (digI a).toNat := by omega
        have e2 : (16 * digI a + digI b).toNat % 16 = (digI b).toNat := by omega
        unfold hexN at *
        rw [List.map_cons, List.flatMap_cons, ih1, e1, e2, ha.2.2, hb.2.2]
        rfl
      · rcases List.mem_cons.1 hx with rfl | h
        · omega
        · exact ih2 x h
theorem unhex_hex (s : ByteArray) (h0 : s.size ≠ 0) : unhexV (hexB s) = .tuple #[.string s, .bool true] ∧ (hexB s).size ≠ 0 ∧ (hexB s).size % 2 = 0 := by
  have e : hexB s = strOfNums (hexL s) := if_neg h0
  rw [e]
  have hsz : (strOfNums (hexL s)).size = 2 * s.size := by rw [strOfNums_size]; exact (by have h := hexS_size (nums s); unfold hexS at h; rw [strOfNums_size, nums_len] at h; exact h)
  refine ⟨?_, by omega, by omega⟩
  have hall : allDig (nums (strOfNums (hexL s))) := by
    rw [nums_hex]
    intro c hc
    obtain ⟨x, hx, rfl⟩ := List.mem_map.1 hc
    obtain ⟨b, hb, hx⟩ := List.mem_flatMap.1 hx
    have hl := nums_lt s b hb
    simp only [List.mem_cons, List.not_mem_nil, or_false] at hx
    rcases hx with rfl | rfl
    · rw [(dig_there (b / 16) (by omega)).1]; omega
    · rw [(dig_there (b % 16) (by omega)).1]; omega
  unfold unhexV
  rw [if_pos hall]
  have hu : unB (strOfNums (hexL s)) = s := by
    unfold unB
    rw [nums_hex, pairs_hex _ (nums_lt s)]
    apply nums_inj
    rw [nums_strI _ (fun x hx => by obtain ⟨b, hb, rfl⟩ := List.mem_map.1 hx; have := nums_lt s b hb; simp only [Int.ofNat_eq_natCast]; omega), List.map_map]
    have : (Int.toNat ∘ Int.ofNat) = id := by funext x; rfl
    rw [this, List.map_id]
  rw [hu]
theorem hex_unhex (s : ByteArray) (h0 : s.size ≠ 0) (h2 : s.size % 2 = 0) (ha : allDig (nums s)) : hexB (unB s) = s ∧ (unB s).size ≤ s.size := by
  obtain ⟨h1, h3⟩ := hex_pairs (s.size / 2) (nums s) (by rw [nums_len]; omega) ha
  have hl : (pairsL (nums s)).length = s.size / 2 := by unfold pairsL; rw [List.length_map, List.length_range, nums_len]
  have hz : (unB s).size = s.size / 2 := by unfold unB; rw [strOfNums_size, hl]
  refine ⟨?_, by omega⟩
  have e : hexB (unB s) = strOfNums (hexL (unB s)) := if_neg (by omega)
  have en : nums (unB s) = (pairsL (nums s)).map Int.toNat := nums_strI _ h3
  rw [e]
  apply nums_inj
  rw [nums_hex, en, h1, List.map_map]
  have : (Int.toNat ∘ Int.ofNat) = id := by funext x; rfl
  rw [this, List.map_id]
theorem unhex_own (s : ByteArray) (hs : s.size ≤ 1000) (W : World) : Calls Tryd.prog 16 #[.string (hexB s)] W fun e w' => e = .returned (.tuple #[.string s, .bool true]) ∧ Below W.heap.size W w' := by
  by_cases h0 : s.size = 0
  · have e : hexB s = ⟨#[45]⟩ := if_pos h0
    have e2 : s = ⟨#[]⟩ := by
      apply ByteArray.ext
      exact Array.eq_empty_of_size_eq_zero h0
    rw [e]
    exact (ev_unhex_none W).mono fun e w' ⟨he, hw⟩ => ⟨by rw [he, e2], by rw [hw]; exact Below.refl _ _⟩
  · obtain ⟨h1, h2, h3⟩ := unhex_hex s h0
    have hz := hexB_size s
    refine (ev_unhex (hexB s) W h2 h3 (by omega)).mono fun e w' ⟨he, hw⟩ => ⟨by rw [he, h1], hw⟩
theorem unhex_any (s : ByteArray) (hs : s.size ≤ 1000) : (∃ t : ByteArray, t.size ≤ 1000 ∧ hexB t = s ∧ ∀ W, Calls Tryd.prog 16 #[.string s] W fun e w' => e = .returned (.tuple #[.string t, .bool true]) ∧ Below W.heap.size W w') ∨
    (writtenV s = false ∧ ∀ W, Calls Tryd.prog 16 #[.string s] W fun e w' => e = .returned (.tuple #[.string ⟨#[]⟩, .bool false]) ∧ Below W.heap.size W w') := by
  by_cases h1 : s = ⟨#[45]⟩
  · subst h1
    exact .inl ⟨⟨#[]⟩, by decide, by decide +kernel, fun W => (ev_unhex_none W).mono fun e w' ⟨he, hw⟩ => ⟨he, by rw [hw]; exact Below.refl _ _⟩⟩
  · by_cases h2 : s.size = 0 ∨ s.size % 2 ≠ 0
    · refine .inr ⟨?_, fun W => (ev_unhex_no s W h2 h1).mono fun e w' ⟨he, hw⟩ => ⟨he, by rw [hw]; exact Below.refl _ _⟩⟩
      unfold writtenV
      rw [decide_eq_false_iff_not]
      rintro (h | ⟨h3, h4, _⟩)
      · exact h1 h
      · exact h2.elim h3 (fun h5 => h5 h4)
    · have h3 : s.size ≠ 0 := fun h => h2 (.inl h)
      have h4 : s.size % 2 = 0 := by omega
      by_cases ha : allDig (nums s)
      · obtain ⟨e1, e2⟩ := hex_unhex s h3 h4 ha
        have hv : unhexV s = .tuple #[.string (unB s), .bool true] := by unfold unhexV; rw [if_pos ha]
        exact .inl ⟨unB s, by omega, e1, fun W => (ev_unhex s W h3 h4 (by omega)).mono fun e w' ⟨he, hw⟩ => ⟨by rw [he, hv], hw⟩⟩
      · have hv : unhexV s = .tuple #[.string ⟨#[]⟩, .bool false] := by unfold unhexV; rw [if_neg ha]
        refine .inr ⟨?_, fun W => (ev_unhex s W h3 h4 (by omega)).mono fun e w' ⟨he, hw⟩ => ⟨by rw [he, hv], hw⟩⟩
        unfold writtenV
        rw [decide_eq_false_iff_not]
        rintro (h | ⟨_, _, h5⟩)
        · exact h1 h
        · exact ha h5
set_option maxHeartbeats 4000000 in
set_option maxRecDepth 100000 in
theorem walk_EventHex (s0 d0 : ByteArray) (w : World) (hS : VarsIn w) (htab : TabIn w) (hs : s0.size ≤ maxLen) (hd : d0.size ≤ maxLen) :
    Calls Tryd.prog 6 #[.string s0, .string d0] w fun e w' => e = .returned (.bool true) ∧ Below w.heap.size w w' := by
  have HS := Lib.hid hS
  have HT := Lib.hid htab
  have HC1 := Lib.hid (fun W => show Calls Tryd.prog 10 #[.string s0, .int .i64 100] W fun e w' => e = .returned (.string (cutB s0 100)) ∧ w' = W from (crc_cut s0 100 W hs (by decide)).mono fun _ _ h => ⟨h.1, h.2.symm⟩)
  have HC2 := Lib.hid (fun W => show Calls Tryd.prog 10 #[.string d0, .int .i64 100] W fun e w' => e = .returned (.string (cutB d0 100)) ∧ w' = W from (crc_cut d0 100 W hd (by decide)).mono fun _ _ h => ⟨h.1, h.2.symm⟩)
  have hz1 := cutB_size s0 100
  have hz2 := cutB_size d0 100
  clear hS htab hs hd
  generalize cutB s0 100 = s at *
  generalize cutB d0 100 = d at *
  have HX1 := Lib.hid (fun W => ev_hex s W (by omega))
  have HR1 := Lib.hid (fun W => ev_ref_hex s W (by omega))
  have HU1 := Lib.hid (fun W => unhex_own s (by omega) W)
  have hU2 := unhex_any d (by omega)
  have HW2 := Lib.hid (fun W => ev_written d W (by omega))
  generalize hexB s = X at *
  have hXX : (X.toList == X.toList) = true := by simp
  have hss : (s.toList == s.toList) = true := by simp
  go_enter Tryd.func6, Tryd.ntmps6
  go_wp2_with fail
  refine (ev_awake _ HS.out HT.out).mono ?_
  rintro e w1 ⟨rfl, hb1⟩
  have HB1 := Lib.hid hb1
  clear hb1
  go_wp2_with fail
  refine (HC1.out _).mono ?_
  rintro e w2 ⟨rfl, rfl⟩
  go_wp2_with fail
  refine (HC2.out _).mono ?_
  rintro e w3 ⟨rfl, rfl⟩
  go_wp2_with fail
  refine (HX1.out _).mono ?_
  rintro e w4 ⟨rfl, hb4⟩
  have HB4 := Lib.hid (HB1.out.trans (hb4.mono HB1.out.size))
  clear hb4
  go_wp2_with fail
  refine (HU1.out _).mono ?_
  rintro e w5 ⟨rfl, hb5⟩
  have HB5 := Lib.hid (HB4.out.trans (hb5.mono HB4.out.size))
  clear hb5
  rcases hU2 with ⟨t, ht, htd, hu⟩ | ⟨hwv, hu⟩
  · have HU := Lib.hid hu
    have HXT := Lib.hid (fun W => ev_hex t W ht)
    rw [htd] at HXT
    have hdd : (d.toList == d.toList) = true := by simp
    clear hu ht htd
    go_wp2_with fail
    refine (HU.out _).mono ?_
    rintro e w6 ⟨rfl, hb6⟩
    have HB6 := Lib.hid (HB5.out.trans (hb6.mono HB5.out.size))
    clear hb6
    go_wp2_with fail
    refine (HX1.out _).mono ?_
    rintro e w7 ⟨rfl, hb7⟩
    have HB7 := Lib.hid (HB6.out.trans (hb7.mono HB6.out.size))
    clear hb7
    go_wp2_with fail
    refine (HR1.out _).mono ?_
    rintro e w8 ⟨rfl, hb8⟩
    have HB8 := Lib.hid (HB7.out.trans (hb8.mono HB7.out.size))
    clear hb8
    go_wp2_with fail
    refine (HXT.out _).mono ?_
    rintro e w9 ⟨rfl, hb9⟩
    have HB9 := Lib.hid (HB8.out.trans (hb9.mono HB8.out.size))
    clear hb9
    go_wp2_with fail
    go_ret
    exact ⟨by first | rfl | simp, HB9.out⟩
  · have HU := Lib.hid hu
    rw [hwv] at HW2
    clear hu hwv
    go_wp2_with fail
    refine (HU.out _).mono ?_
    rintro e w6 ⟨rfl, hb6⟩
    have HB6 := Lib.hid (HB5.out.trans (hb6.mono HB5.out.size))
    clear hb6
    go_wp2_with fail
    refine (HX1.out _).mono ?_
    rintro e w7 ⟨rfl, hb7⟩
    have HB7 := Lib.hid (HB6.out.trans (hb7.mono HB6.out.size))
    clear hb7
    go_wp2_with fail
    refine (HR1.out _).mono ?_
    rintro e w8 ⟨rfl, hb8⟩
    have HB8 := Lib.hid (HB7.out.trans (hb8.mono HB7.out.size))
    clear hb8
    go_wp2_with fail
    refine (HW2.out _).mono ?_
    rintro e w9 ⟨rfl, hb9⟩
    have HB9 := Lib.hid (HB8.out.trans (hb9.mono HB8.out.size))
    clear hb9
    go_wp2_with fail
    go_ret
    exact ⟨by first | rfl | simp, HB9.out⟩
end Go.Proofs.YtnocckgbcjienaaDoor
