/- The walks of RulesOf, RulesMay, RulesEnds, RulesRequests. Conditions: the variable letters lies as its initialiser leaves it. -/
import Derived.Test.YtoacfopekgfbcaaDoorRulDoor
namespace Go.Proofs.YtoacfopekgfbcaaDoor
open Go.RowKit Go.Maps
set_option linter.unusedVariables false
set_option linter.unusedSimpArgs false

theorem and255 (x : Int) : bits .and .i64 x 255 = x % 256 := by
  have e3 : (BitVec.ofInt 64 255).toNat = 2 ^ 8 - 1 := by decide
  have e4 : (BitVec.ofInt 64 x &&& BitVec.ofInt 64 255).toNat = (x % 256).toNat := by
    rw [BitVec.toNat_and, BitVec.toNat_ofInt, e3, Nat.and_two_pow_sub_one_eq_mod]
    omega
  show IntKind.i64.wrap ((BitVec.ofInt 64 x &&& BitVec.ofInt 64 255).toNat : Nat) = _
  rw [e4, IntKind.wrap_i64]
  omega

set_option maxHeartbeats 2000000 in
set_option maxRecDepth 100000 in
theorem walk_RulesOf (s k : Int) (w : World) (hs : rulS s) (hk : rulS k) (hL : LetIn w) : Calls Tryd.prog 3 #[.int .i64 s, .int .i64 k] w fun e w' => e = .returned (.bool true) ∧ Below w.heap.size w w' := by
  have HL := Lib.hid hL
  have HA := Lib.hid (rul_awake w hL)
  have H1 := Lib.hid (rul_of s k hs hk)
  have H2 := Lib.hid (ref_of s k hs hk)
  have H3 := Lib.hid (rul_letter k hk)
  have H4 := Lib.hid (ref_letter k hk)
  generalize ofV s k = a at *
  generalize letV k = b at *
  clear hL hs hk
  go_enter Tryd.func3, Tryd.ntmps3
  go_wp2_with fail
  refine (HA.out).mono ?_
  rintro e w1 ⟨rfl, hb⟩
  have HB1 := Lib.hid hb
  clear hb
  go_wp2_with fail
  refine (H1.out _).mono ?_
  rintro e w2 ⟨rfl, hb⟩
  have HB2 := Lib.hid (HB1.out.trans (hb.mono HB1.out.size))
  clear hb HB1
  go_wp2_with fail
  refine (H2.out _).mono ?_
  rintro e w3 ⟨rfl, hb⟩
  have HB3 := Lib.hid (HB2.out.trans (hb.mono HB2.out.size))
  clear hb HB2
  go_wp2_with fail
  refine (H3.out _ (HL.out.next HB3.out)).mono ?_
  rintro e w9 ⟨rfl, rfl⟩
  go_wp2_with fail
  refine (H4.out _).mono ?_
  rintro e w4 ⟨rfl, hb⟩
  have HB4 := Lib.hid (HB3.out.trans (hb.mono HB3.out.size))
  clear hb HB3
  go_wp2_with fail
  go_ret
  exact ⟨by first | rfl | simp, HB4.out⟩

set_option maxHeartbeats 2000000 in
set_option maxRecDepth 100000 in
theorem walk_RulesMay (s q : Int) (w : World) (hs : rulS s) (hk : rulS q) (hL : LetIn w) : Calls Tryd.prog 4 #[.int .i64 s, .int .i64 q] w fun e w' => e = .returned (.bool true) ∧ Below w.heap.size w w' := by
  have HA := Lib.hid (rul_awake w hL)
  have H1 := Lib.hid (rul_may s q hs hk)
  have H2 := Lib.hid (fun W => ref_may s q hs hk W)
  have H3 := Lib.hid (fun W => rul_name s W hs)
  generalize mayV s q = a at *
  clear hL hk
  obtain ⟨s1, s2⟩ := hs
  by_cases hin : 1 ≤ s ∧ s ≤ 10
  · obtain ⟨m, rfl⟩ : ∃ m : Nat, s = (m : Int) + 1 := ⟨(s - 1).toNat, by omega⟩
    have hm : m < 10 := by omega
    have hN : rulN' ((m : Int) + 1) = rulN m := by
      unfold rulN'
      rw [if_pos hin, show ((m : Int) + 1).toNat - 1 = m by omega]
    rw [hN] at H3
    have hm0 : (0 : Int) ≤ (m : Int) := by omega
    have hm2 : (m : Int) < 10 := by omega
    have hwm : IntKind.i64.wrap (m : Int) = (m : Int) := IntWalk.i64_in _ (by omega)
    clear s1 s2 hN hin
    go_enter Tryd.func4, Tryd.ntmps4
    go_wp2_with fail
    refine (HA.out).mono ?_
    rintro e w1 ⟨rfl, hb⟩
    have HB1 := Lib.hid hb
    clear hb
    go_upto_region 4 with fail
    have hb := (Below.refl w1.heap.size w1).alloc (Nat.le_refl _) (.cells #[.string ⟨#[105, 100, 108, 101]⟩, .string ⟨#[111, 117, 116, 103, 111, 105, 110, 103]⟩, .string ⟨#[105, 110, 99, 111, 109, 105, 110, 103]⟩, .string ⟨#[108, 101, 97, 118, 105, 110, 103]⟩, .string ⟨#[114, 101, 115, 121, 110, 99, 105, 110, 103]⟩, .string ⟨#[114, 101, 115, 121, 110, 99, 101, 100]⟩, .string ⟨#[114, 101, 99, 111, 118, 101, 114, 105, 110, 103]⟩, .string ⟨#[97, 110, 115, 119, 101, 114, 101, 100]⟩, .string ⟨#[114, 101, 99, 111, 118, 101, 114, 101, 100]⟩, .string ⟨#[114, 101, 97, 100, 121]⟩] 9)
    have c0 : (w1.alloc (.cells #[.string ⟨#[105, 100, 108, 101]⟩, .string ⟨#[111, 117, 116, 103, 111, 105, 110, 103]⟩, .string ⟨#[105, 110, 99, 111, 109, 105, 110, 103]⟩, .string ⟨#[108, 101, 97, 118, 105, 110, 103]⟩, .string ⟨#[114, 101, 115, 121, 110, 99, 105, 110, 103]⟩, .string ⟨#[114, 101, 115, 121, 110, 99, 101, 100]⟩, .string ⟨#[114, 101, 99, 111, 118, 101, 114, 105, 110, 103]⟩, .string ⟨#[97, 110, 115, 119, 101, 114, 101, 100]⟩, .string ⟨#[114, 101, 99, 111, 118, 101, 114, 101, 100]⟩, .string ⟨#[114, 101, 97, 100, 121]⟩] 9)).cell? ⟨w1.heap.size, m, none⟩ = some (.string (rulN m)) := ruN_at _ w1.heap.size (heap_alloc_new _ _) m hm
    have HB2 := Lib.hid (HB1.out.trans (hb.mono HB1.out.size))
    clear hb HB1 hm
    generalize w1.alloc (.cells #[.string ⟨#[105, 100, 108, 101]⟩, .string ⟨#[111, 117, 116, 103, 111, 105, 110, 103]⟩, .string ⟨#[105, 110, 99, 111, 109, 105, 110, 103]⟩, .string ⟨#[108, 101, 97, 118, 105, 110, 103]⟩, .string ⟨#[114, 101, 115, 121, 110, 99, 105, 110, 103]⟩, .string ⟨#[114, 101, 115, 121, 110, 99, 101, 100]⟩, .string ⟨#[114, 101, 99, 111, 118, 101, 114, 105, 110, 103]⟩, .string ⟨#[97, 110, 115, 119, 101, 114, 101, 100]⟩, .string ⟨#[114, 101, 99, 111, 118, 101, 114, 101, 100]⟩, .string ⟨#[114, 101, 97, 100, 121]⟩] 9) = w2 at *
    go_wp2_with fail
    refine (H1.out _).mono ?_
    rintro e w3 ⟨rfl, hb⟩
    have HB3 := Lib.hid (HB2.out.trans (hb.mono HB2.out.size))
    clear hb HB2
    go_wp2_with fail
    refine (H2.out _).mono ?_
    rintro e w9 ⟨rfl, rfl⟩
    go_wp2_with fail
    refine (H3.out _).mono ?_
    rintro e w4 ⟨rfl, hb⟩
    have HB4 := Lib.hid (HB3.out.trans (hb.mono HB3.out.size))
    clear hb HB3
    go_wp2_with fail
    go_ret
    exact ⟨by first | rfl | simp, HB4.out⟩
  · have hN : rulN' s = ⟨#[]⟩ := by
      unfold rulN'
      rw [if_neg hin]
    rw [hN] at H3
    clear hN
    by_cases h1 : s < 1
    · have h2 : ¬ 1 ≤ s := by omega
      clear s1 s2 hin
      go_enter Tryd.func4, Tryd.ntmps4
      go_wp2_with fail
      refine (HA.out).mono ?_
      rintro e w1 ⟨rfl, hb⟩
      have HB1 := Lib.hid hb
      clear hb
      go_upto_region 4 with fail
      have hb := (Below.refl w1.heap.size w1).alloc (Nat.le_refl _) (.cells #[.string ⟨#[105, 100, 108, 101]⟩, .string ⟨#[111, 117, 116, 103, 111, 105, 110, 103]⟩, .string ⟨#[105, 110, 99, 111, 109, 105, 110, 103]⟩, .string ⟨#[108, 101, 97, 118, 105, 110, 103]⟩, .string ⟨#[114, 101, 115, 121, 110, 99, 105, 110, 103]⟩, .string ⟨#[114, 101, 115, 121, 110, 99, 101, 100]⟩, .string ⟨#[114, 101, 99, 111, 118, 101, 114, 105, 110, 103]⟩, .string ⟨#[97, 110, 115, 119, 101, 114, 101, 100]⟩, .string ⟨#[114, 101, 99, 111, 118, 101, 114, 101, 100]⟩, .string ⟨#[114, 101, 97, 100, 121]⟩] 9)
      have HB2 := Lib.hid (HB1.out.trans (hb.mono HB1.out.size))
      clear hb HB1
      generalize w1.alloc (.cells #[.string ⟨#[105, 100, 108, 101]⟩, .string ⟨#[111, 117, 116, 103, 111, 105, 110, 103]⟩, .string ⟨#[105, 110, 99, 111, 109, 105, 110, 103]⟩, .string ⟨#[108, 101, 97, 118, 105, 110, 103]⟩, .string ⟨#[114, 101, 115, 121, 110, 99, 105, 110, 103]⟩, .string ⟨#[114, 101, 115, 121, 110, 99, 101, 100]⟩, .string ⟨#[114, 101, 99, 111, 118, 101, 114, 105, 110, 103]⟩, .string ⟨#[97, 110, 115, 119, 101, 114, 101, 100]⟩, .string ⟨#[114, 101, 99, 111, 118, 101, 114, 101, 100]⟩, .string ⟨#[114, 101, 97, 100, 121]⟩] 9) = w2 at *
      go_wp2_with fail
      refine (H1.out _).mono ?_
      rintro e w3 ⟨rfl, hb⟩
      have HB3 := Lib.hid (HB2.out.trans (hb.mono HB2.out.size))
      clear hb HB2
      go_wp2_with fail
      refine (H2.out _).mono ?_
      rintro e w9 ⟨rfl, rfl⟩
      go_wp2_with fail
      refine (H3.out _).mono ?_
      rintro e w4 ⟨rfl, hb⟩
      have HB4 := Lib.hid (HB3.out.trans (hb.mono HB3.out.size))
      clear hb HB3
      go_wp2_with fail
      go_ret
      exact ⟨by first | rfl | simp, HB4.out⟩
    · have h2 : 1 ≤ s := by omega
      have h3 : 10 < s := by omega
      clear s1 s2 hin h1
      go_enter Tryd.func4, Tryd.ntmps4
      go_wp2_with fail
      refine (HA.out).mono ?_
      rintro e w1 ⟨rfl, hb⟩
      have HB1 := Lib.hid hb
      clear hb
      go_upto_region 4 with fail
      have hb := (Below.refl w1.heap.size w1).alloc (Nat.le_refl _) (.cells #[.string ⟨#[105, 100, 108, 101]⟩, .string ⟨#[111, 117, 116, 103, 111, 105, 110, 103]⟩, .string ⟨#[105, 110, 99, 111, 109, 105, 110, 103]⟩, .string ⟨#[108, 101, 97, 118, 105, 110, 103]⟩, .string ⟨#[114, 101, 115, 121, 110, 99, 105, 110, 103]⟩, .string ⟨#[114, 101, 115, 121, 110, 99, 101, 100]⟩, .string ⟨#[114, 101, 99, 111, 118, 101, 114, 105, 110, 103]⟩, .string ⟨#[97, 110, 115, 119, 101, 114, 101, 100]⟩, .string ⟨#[114, 101, 99, 111, 118, 101, 114, 101, 100]⟩, .string ⟨#[114, 101, 97, 100, 121]⟩] 9)
      have HB2 := Lib.hid (HB1.out.trans (hb.mono HB1.out.size))
      clear hb HB1
      generalize w1.alloc (.cells #[.string ⟨#[105, 100, 108, 101]⟩, .string ⟨#[111, 117, 116, 103, 111, 105, 110, 103]⟩, .string ⟨#[105, 110, 99, 111, 109, 105, 110, 103]⟩, .string ⟨#[108, 101, 97, 118, 105, 110, 103]⟩, .string ⟨#[114, 101, 115, 121, 110, 99, 105, 110, 103]⟩, .string ⟨#[114, 101, 115, 121, 110, 99, 101, 100]⟩, .string ⟨#[114, 101, 99, 111, 118, 101, 114, 105, 110, 103]⟩, .string ⟨#[97, 110, 115, 119, 101, 114, 101, 100]⟩, .string ⟨#[114, 101, 99, 111, 118, 101, 114, 101, 100]⟩, .string ⟨#[114, 101, 97, 100, 121]⟩] 9) = w2 at *
      go_wp2_with fail
      refine (H1.out _).mono ?_
      rintro e w3 ⟨rfl, hb⟩
      have HB3 := Lib.hid (HB2.out.trans (hb.mono HB2.out.size))
      clear hb HB2
      go_wp2_with fail
      refine (H2.out _).mono ?_
      rintro e w9 ⟨rfl, rfl⟩
      go_wp2_with fail
      refine (H3.out _).mono ?_
      rintro e w4 ⟨rfl, hb⟩
      have HB4 := Lib.hid (HB3.out.trans (hb.mono HB3.out.size))
      clear hb HB3
      go_wp2_with fail
      go_ret
      exact ⟨by first | rfl | simp, HB4.out⟩

theorem endsV (s : Int) (h : 1 ≤ s ∧ s ≤ 10) : ofV s 3 = (if s = 2 then 0 else 1) ∧ ofV s 1 = 1 ∧ ofV s 13 = 1 ∧ ofV s 14 = 1 ∧ (s < 5 → (ofV s 4 == 4) = false) ∧ (5 ≤ s → ofV s 4 = 4 ∧ ofV s 7 = 4) := by
  have hc : ∀ m : Fin 10, ofV ((m.val : Int) + 1) 3 = (if (m.val : Int) + 1 = 2 then 0 else 1) ∧ ofV ((m.val : Int) + 1) 1 = 1 ∧ ofV ((m.val : Int) + 1) 13 = 1 ∧ ofV ((m.val : Int) + 1) 14 = 1 ∧ ((m.val : Int) + 1 < 5 → (ofV ((m.val : Int) + 1) 4 == 4) = false) ∧ (5 ≤ (m.val : Int) + 1 → ofV ((m.val : Int) + 1) 4 = 4 ∧ ofV ((m.val : Int) + 1) 7 = 4) := by decide +kernel
  have := hc ⟨(s - 1).toNat, by omega⟩
  simp only [] at this
  rwa [show (((s - 1).toNat : Nat) : Int) + 1 = s by omega] at this
set_option maxHeartbeats 4000000 in
set_option maxRecDepth 100000 in
theorem walk_RulesEnds (x : Int) (w : World) (hL : LetIn w) : Calls Tryd.prog 6 #[.int .i64 x] w fun e w' => e = .returned (.bool true) ∧ Below w.heap.size w w' := by
  have HA := Lib.hid (rul_awake w hL)
  obtain ⟨y, hy⟩ : ∃ y, y = x % 256 := ⟨_, rfl⟩
  have hand := and255 x
  rw [← hy] at hand
  have hy0 : 0 ≤ y := by omega
  have hy1 : y < 256 := by omega
  clear hL hy
  have HV := Lib.hid endsV
  have HO := Lib.hid (fun (s k r : Int) (h : 1 ≤ s ∧ s ≤ 10) (hk : rulS k) (e : ofV s k = r) W => rul_ofc s k r ⟨by omega, by omega⟩ hk e W)
  go_enter Tryd.func6, Tryd.ntmps6
  go_wp2_with fail
  refine (HA.out).mono ?_
  rintro e w1 ⟨rfl, hb⟩
  have HB1 := Lib.hid hb
  clear hb
  go_upto_region 4 with fail
  obtain ⟨s, hs⟩ : ∃ s, s = 1 + y % 10 := ⟨_, rfl⟩
  have hs1 : 1 ≤ s := by omega
  have hs2 : s ≤ 10 := by omega
  first | rw [← hs] | (simp only [Int.tmod_eq_emod_of_nonneg hy0]; rw [← hs])
  clear hs hand hy0 hy1
  obtain ⟨v3, v1, v13, v14, v4, v5⟩ := HV.out s ⟨hs1, hs2⟩
  have H1 := Lib.hid (HO.out s 1 1 ⟨hs1, hs2⟩ ⟨by decide, by decide⟩ v1)
  have H13 := Lib.hid (HO.out s 13 1 ⟨hs1, hs2⟩ ⟨by decide, by decide⟩ v13)
  have H14 := Lib.hid (HO.out s 14 1 ⟨hs1, hs2⟩ ⟨by decide, by decide⟩ v14)
  by_cases h5 : 5 ≤ s
  · have H3 := Lib.hid (HO.out s 3 1 ⟨hs1, hs2⟩ ⟨by decide, by decide⟩ (by rw [v3, if_neg (by omega)]))
    have H4 := Lib.hid (HO.out s 4 4 ⟨hs1, hs2⟩ ⟨by decide, by decide⟩ (v5 h5).1)
    have H7 := Lib.hid (HO.out s 7 4 ⟨hs1, hs2⟩ ⟨by decide, by decide⟩ (v5 h5).2)
    have b2 : (s == 2) = false := beq_false_of_ne (by omega)
    have b2' : (s != 2) = true := by simp [bne, b2]
    clear v3 v1 v13 v14 v4 v5 HO HV
    go_wp2_with fail
    refine (H3.out _).mono ?_
    rintro e w2 ⟨rfl, hb⟩
    have HB2 := Lib.hid (HB1.out.trans (hb.mono HB1.out.size))
    clear hb HB1
    go_wp2_with fail
    refine (H4.out _).mono ?_
    rintro e w3 ⟨rfl, hb⟩
    have HB3 := Lib.hid (HB2.out.trans (hb.mono HB2.out.size))
    clear hb HB2
    go_wp2_with fail
    refine (H7.out _).mono ?_
    rintro e w4 ⟨rfl, hb⟩
    have HB4 := Lib.hid (HB3.out.trans (hb.mono HB3.out.size))
    clear hb HB3
    go_wp2_with fail
    refine (H1.out _).mono ?_
    rintro e w5 ⟨rfl, hb⟩
    have HB5 := Lib.hid (HB4.out.trans (hb.mono HB4.out.size))
    clear hb HB4
    go_wp2_with fail
    refine (H13.out _).mono ?_
    rintro e w6 ⟨rfl, hb⟩
    have HB6 := Lib.hid (HB5.out.trans (hb.mono HB5.out.size))
    clear hb HB5
    go_wp2_with fail
    refine (H14.out _).mono ?_
    rintro e w7 ⟨rfl, hb⟩
    have HB7 := Lib.hid (HB6.out.trans (hb.mono HB6.out.size))
    clear hb HB6
    go_wp2_with fail
    go_ret
    exact ⟨by first | rfl | (simp; done) | (simp; omega), HB7.out⟩
  · have H4 := Lib.hid (HO.out s 4 _ ⟨hs1, hs2⟩ ⟨by decide, by decide⟩ rfl)
    have v4' := v4 (by omega)
    generalize ofV s 4 = z at *
    by_cases h2 : s = 2
    · subst h2
      have H3 := Lib.hid (HO.out 2 3 0 ⟨by decide, by decide⟩ ⟨by decide, by decide⟩ (by rw [v3, if_pos rfl]))
      clear v3 v1 v13 v14 v4 v5 HO HV
      go_wp2_with fail
      refine (H3.out _).mono ?_
      rintro e w2 ⟨rfl, hb⟩
      have HB2 := Lib.hid (HB1.out.trans (hb.mono HB1.out.size))
      clear hb HB1
      go_wp2_with fail
      refine (H4.out _).mono ?_
      rintro e w3 ⟨rfl, hb⟩
      have HB3 := Lib.hid (HB2.out.trans (hb.mono HB2.out.size))
      clear hb HB2
      go_wp2_with fail
      refine (H1.out _).mono ?_
      rintro e w5 ⟨rfl, hb⟩
      have HB5 := Lib.hid (HB3.out.trans (hb.mono HB3.out.size))
      clear hb HB3
      go_wp2_with fail
      refine (H13.out _).mono ?_
      rintro e w6 ⟨rfl, hb⟩
      have HB6 := Lib.hid (HB5.out.trans (hb.mono HB5.out.size))
      clear hb HB5
      go_wp2_with fail
      refine (H14.out _).mono ?_
      rintro e w7 ⟨rfl, hb⟩
      have HB7 := Lib.hid (HB6.out.trans (hb.mono HB6.out.size))
      clear hb HB6
      go_wp2_with fail
      go_ret
      exact ⟨by first | rfl | (simp; done) | (simp; omega), HB7.out⟩
    · have H3 := Lib.hid (HO.out s 3 1 ⟨hs1, hs2⟩ ⟨by decide, by decide⟩ (by rw [v3, if_neg h2]))
      have b2 : (s == 2) = false := beq_false_of_ne h2
      have b2' : (s != 2) = true := by simp [bne, b2]
      clear v3 v1 v13 v14 v4 v5 HO HV h2
      go_wp2_with fail
      refine (H3.out _).mono ?_
      rintro e w2 ⟨rfl, hb⟩
      have HB2 := Lib.hid (HB1.out.trans (hb.mono HB1.out.size))
      clear hb HB1
      go_wp2_with fail
      refine (H4.out _).mono ?_
      rintro e w3 ⟨rfl, hb⟩
      have HB3 := Lib.hid (HB2.out.trans (hb.mono HB2.out.size))
      clear hb HB2
      go_wp2_with fail
      refine (H1.out _).mono ?_
      rintro e w5 ⟨rfl, hb⟩
      have HB5 := Lib.hid (HB3.out.trans (hb.mono HB3.out.size))
      clear hb HB3
      go_wp2_with fail
      refine (H13.out _).mono ?_
      rintro e w6 ⟨rfl, hb⟩
      have HB6 := Lib.hid (HB5.out.trans (hb.mono HB5.out.size))
      clear hb HB5
      go_wp2_with fail
      refine (H14.out _).mono ?_
      rintro e w7 ⟨rfl, hb⟩
      have HB7 := Lib.hid (HB6.out.trans (hb.mono HB6.out.size))
      clear hb HB6
      go_wp2_with fail
      go_ret
      exact ⟨by first | rfl | (simp; done) | (simp; omega), HB7.out⟩

theorem reqsV (s : Int) (h : 1 ≤ s ∧ s ≤ 10) : mayV s 1 = decide (s = 1 ∨ s = 4) ∧ mayV s 3 = decide (¬ (s = 1 ∨ s = 4)) ∧ mayV s 2 = decide (s = 3) ∧ mayV s 8 = true ∧ mayV s 11 = true ∧ mayV s 0 = false ∧ mayV s 12 = false := by
  have hc : ∀ m : Fin 10, mayV ((m.val : Int) + 1) 1 = decide ((m.val : Int) + 1 = 1 ∨ (m.val : Int) + 1 = 4) ∧ mayV ((m.val : Int) + 1) 3 = decide (¬ ((m.val : Int) + 1 = 1 ∨ (m.val : Int) + 1 = 4)) ∧ mayV ((m.val : Int) + 1) 2 = decide ((m.val : Int) + 1 = 3) ∧ mayV ((m.val : Int) + 1) 8 = true ∧ mayV ((m.val : Int) + 1) 11 = true ∧ mayV ((m.val : Int) + 1) 0 = false ∧ mayV ((m.val : Int) + 1) 12 = false := by decide +kernel
  have := hc ⟨(s - 1).toNat, by omega⟩
  simp only [] at this
  rwa [show (((s - 1).toNat : Nat) : Int) + 1 = s by omega] at this
set_option maxHeartbeats 4000000 in
set_option maxRecDepth 100000 in
theorem walk_RulesRequests (x : Int) (w : World) (hL : LetIn w) : Calls Tryd.prog 7 #[.int .i64 x] w fun e w' => e = .returned (.bool true) ∧ Below w.heap.size w w' := by
  have HA := Lib.hid (rul_awake w hL)
  obtain ⟨y, hy⟩ : ∃ y, y = x % 256 := ⟨_, rfl⟩
  have hand := and255 x
  rw [← hy] at hand
  have hy0 : 0 ≤ y := by omega
  have hy1 : y < 256 := by omega
  clear hL hy
  have HV := Lib.hid reqsV
  have HO := Lib.hid (fun (s k : Int) (r : Bool) (h : 1 ≤ s ∧ s ≤ 10) (hk : rulS k) (e : mayV s k = r) W => rul_mayc s k r ⟨by omega, by omega⟩ hk e W)
  go_enter Tryd.func7, Tryd.ntmps7
  go_wp2_with fail
  refine (HA.out).mono ?_
  rintro e w1 ⟨rfl, hb⟩
  have HB1 := Lib.hid hb
  clear hb
  go_upto_region 4 with fail
  obtain ⟨s, hs⟩ : ∃ s, s = 1 + y % 10 := ⟨_, rfl⟩
  have hs1 : 1 ≤ s := by omega
  have hs2 : s ≤ 10 := by omega
  first | rw [← hs] | (simp only [Int.tmod_eq_emod_of_nonneg hy0]; rw [← hs])
  clear hs hand hy0 hy1
  obtain ⟨v1, v3, v2, v8, v11, v0, v12⟩ := HV.out s ⟨hs1, hs2⟩
  have H8 := Lib.hid (HO.out s 8 true ⟨hs1, hs2⟩ ⟨by decide, by decide⟩ v8)
  have H11 := Lib.hid (HO.out s 11 true ⟨hs1, hs2⟩ ⟨by decide, by decide⟩ v11)
  have H0 := Lib.hid (HO.out s 0 false ⟨hs1, hs2⟩ ⟨by decide, by decide⟩ v0)
  have H12 := Lib.hid (HO.out s 12 false ⟨hs1, hs2⟩ ⟨by decide, by decide⟩ v12)
  by_cases h1 : s = 1
  · subst h1
    have H1 := Lib.hid (HO.out 1 1 true ⟨by omega, by omega⟩ ⟨by decide, by decide⟩ (by rw [v1]; simp; try omega))
    have H3 := Lib.hid (HO.out 1 3 false ⟨by omega, by omega⟩ ⟨by decide, by decide⟩ (by rw [v3]; simp; try omega))
    have H2 := Lib.hid (HO.out 1 2 false ⟨by omega, by omega⟩ ⟨by decide, by decide⟩ (by rw [v2]; simp; try omega))
    clear v1 v3 v2 v8 v11 v0 v12 HO HV
    go_wp2_with fail
    refine (H1.out _).mono ?_
    rintro e w2 ⟨rfl, hb⟩
    have HB2 := Lib.hid (HB1.out.trans (hb.mono HB1.out.size))
    clear hb HB1
    go_wp2_with fail
    refine (H3.out _).mono ?_
    rintro e w3 ⟨rfl, hb⟩
    have HB3 := Lib.hid (HB2.out.trans (hb.mono HB2.out.size))
    clear hb HB2
    go_wp2_with fail
    refine (H2.out _).mono ?_
    rintro e w4 ⟨rfl, hb⟩
    have HB4 := Lib.hid (HB3.out.trans (hb.mono HB3.out.size))
    clear hb HB3
    go_wp2_with fail
    refine (H8.out _).mono ?_
    rintro e w5 ⟨rfl, hb⟩
    have HB5 := Lib.hid (HB4.out.trans (hb.mono HB4.out.size))
    clear hb HB4
    go_wp2_with fail
    refine (H11.out _).mono ?_
    rintro e w6 ⟨rfl, hb⟩
    have HB6 := Lib.hid (HB5.out.trans (hb.mono HB5.out.size))
    clear hb HB5
    go_wp2_with fail
    refine (H0.out _).mono ?_
    rintro e w7 ⟨rfl, hb⟩
    have HB7 := Lib.hid (HB6.out.trans (hb.mono HB6.out.size))
    clear hb HB6
    go_wp2_with fail
    refine (H12.out _).mono ?_
    rintro e w8 ⟨rfl, hb⟩
    have HB8 := Lib.hid (HB7.out.trans (hb.mono HB7.out.size))
    clear hb HB7
    go_wp2_with fail
    go_ret
    exact ⟨by first | rfl | simp, HB8.out⟩
  · by_cases h4 : s = 4
    · subst h4
      have H1 := Lib.hid (HO.out 4 1 true ⟨by omega, by omega⟩ ⟨by decide, by decide⟩ (by rw [v1]; simp; try omega))
      have H3 := Lib.hid (HO.out 4 3 false ⟨by omega, by omega⟩ ⟨by decide, by decide⟩ (by rw [v3]; simp; try omega))
      have H2 := Lib.hid (HO.out 4 2 false ⟨by omega, by omega⟩ ⟨by decide, by decide⟩ (by rw [v2]; simp; try omega))
      clear v1 v3 v2 v8 v11 v0 v12 HO HV
      go_wp2_with fail
      refine (H1.out _).mono ?_
      rintro e w2 ⟨rfl, hb⟩
      have HB2 := Lib.hid (HB1.out.trans (hb.mono HB1.out.size))
      clear hb HB1
      go_wp2_with fail
      refine (H3.out _).mono ?_
      rintro e w3 ⟨rfl, hb⟩
      have HB3 := Lib.hid (HB2.out.trans (hb.mono HB2.out.size))
      clear hb HB2
      go_wp2_with fail
      refine (H2.out _).mono ?_
      rintro e w4 ⟨rfl, hb⟩
      have HB4 := Lib.hid (HB3.out.trans (hb.mono HB3.out.size))
      clear hb HB3
      go_wp2_with fail
      refine (H8.out _).mono ?_
      rintro e w5 ⟨rfl, hb⟩
      have HB5 := Lib.hid (HB4.out.trans (hb.mono HB4.out.size))
      clear hb HB4
      go_wp2_with fail
      refine (H11.out _).mono ?_
      rintro e w6 ⟨rfl, hb⟩
      have HB6 := Lib.hid (HB5.out.trans (hb.mono HB5.out.size))
      clear hb HB5
      go_wp2_with fail
      refine (H0.out _).mono ?_
      rintro e w7 ⟨rfl, hb⟩
      have HB7 := Lib.hid (HB6.out.trans (hb.mono HB6.out.size))
      clear hb HB6
      go_wp2_with fail
      refine (H12.out _).mono ?_
      rintro e w8 ⟨rfl, hb⟩
      have HB8 := Lib.hid (HB7.out.trans (hb.mono HB7.out.size))
      clear hb HB7
      go_wp2_with fail
      go_ret
      exact ⟨by first | rfl | simp, HB8.out⟩
    · by_cases h3 : s = 3
      · subst h3
        have H1 := Lib.hid (HO.out 3 1 false ⟨by omega, by omega⟩ ⟨by decide, by decide⟩ (by rw [v1]; simp; try omega))
        have H3 := Lib.hid (HO.out 3 3 true ⟨by omega, by omega⟩ ⟨by decide, by decide⟩ (by rw [v3]; simp; try omega))
        have H2 := Lib.hid (HO.out 3 2 true ⟨by omega, by omega⟩ ⟨by decide, by decide⟩ (by rw [v2]; simp; try omega))
        clear v1 v3 v2 v8 v11 v0 v12 HO HV
        go_wp2_with fail
        refine (H1.out _).mono ?_
        rintro e w2 ⟨rfl, hb⟩
        have HB2 := Lib.hid (HB1.out.trans (hb.mono HB1.out.size))
        clear hb HB1
        go_wp2_with fail
        refine (H3.out _).mono ?_
        rintro e w3 ⟨rfl, hb⟩
        have HB3 := Lib.hid (HB2.out.trans (hb.mono HB2.out.size))
        clear hb HB2
        go_wp2_with fail
        refine (H2.out _).mono ?_
        rintro e w4 ⟨rfl, hb⟩
        have HB4 := Lib.hid (HB3.out.trans (hb.mono HB3.out.size))
        clear hb HB3
        go_wp2_with fail
        refine (H8.out _).mono ?_
        rintro e w5 ⟨rfl, hb⟩
        have HB5 := Lib.hid (HB4.out.trans (hb.mono HB4.out.size))
        clear hb HB4
        go_wp2_with fail
        refine (H11.out _).mono ?_
        rintro e w6 ⟨rfl, hb⟩
        have HB6 := Lib.hid (HB5.out.trans (hb.mono HB5.out.size))
        clear hb HB5
        go_wp2_with fail
        refine (H0.out _).mono ?_
        rintro e w7 ⟨rfl, hb⟩
        have HB7 := Lib.hid (HB6.out.trans (hb.mono HB6.out.size))
        clear hb HB6
        go_wp2_with fail
        refine (H12.out _).mono ?_
        rintro e w8 ⟨rfl, hb⟩
        have HB8 := Lib.hid (HB7.out.trans (hb.mono HB7.out.size))
        clear hb HB7
        go_wp2_with fail
        go_ret
        exact ⟨by first | rfl | simp, HB8.out⟩
      · have b1 : (s == 1) = false := beq_false_of_ne h1
        have b4 : (s == 4) = false := beq_false_of_ne h4
        have b3 : (s == 3) = false := beq_false_of_ne h3
        have H1 := Lib.hid (HO.out s 1 false ⟨by omega, by omega⟩ ⟨by decide, by decide⟩ (by rw [v1]; simp; try omega))
        have H3 := Lib.hid (HO.out s 3 true ⟨by omega, by omega⟩ ⟨by decide, by decide⟩ (by rw [v3]; simp; try omega))
        have H2 := Lib.hid (HO.out s 2 false ⟨by omega, by omega⟩ ⟨by decide, by decide⟩ (by rw [v2]; simp; try omega))
        clear v1 v3 v2 v8 v11 v0 v12 HO HV
        clear h1 h3 h4
        go_wp2_with fail
        refine (H1.out _).mono ?_
        rintro e w2 ⟨rfl, hb⟩
        have HB2 := Lib.hid (HB1.out.trans (hb.mono HB1.out.size))
        clear hb HB1
        go_wp2_with fail
        refine (H3.out _).mono ?_
        rintro e w3 ⟨rfl, hb⟩
        have HB3 := Lib.hid (HB2.out.trans (hb.mono HB2.out.size))
        clear hb HB2
        go_wp2_with fail
        refine (H2.out _).mono ?_
        rintro e w4 ⟨rfl, hb⟩
        have HB4 := Lib.hid (HB3.out.trans (hb.mono HB3.out.size))
        clear hb HB3
        go_wp2_with fail
        refine (H8.out _).mono ?_
        rintro e w5 ⟨rfl, hb⟩
        have HB5 := Lib.hid (HB4.out.trans (hb.mono HB4.out.size))
        clear hb HB4
        go_wp2_with fail
        refine (H11.out _).mono ?_
        rintro e w6 ⟨rfl, hb⟩
        have HB6 := Lib.hid (HB5.out.trans (hb.mono HB5.out.size))
        clear hb HB5
        go_wp2_with fail
        refine (H0.out _).mono ?_
        rintro e w7 ⟨rfl, hb⟩
        have HB7 := Lib.hid (HB6.out.trans (hb.mono HB6.out.size))
        clear hb HB6
        go_wp2_with fail
        refine (H12.out _).mono ?_
        rintro e w8 ⟨rfl, hb⟩
        have HB8 := Lib.hid (HB7.out.trans (hb.mono HB7.out.size))
        clear hb HB7
        go_wp2_with fail
        go_ret
        exact ⟨by first | rfl | simp, HB8.out⟩
end Go.Proofs.YtoacfopekgfbcaaDoor
