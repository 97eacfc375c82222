/- The contracts of package rules' Of, May, Name, Letter and of the document's own. Conditions: the variable letters lies as its initialiser leaves it. -/
import Derived.Test.YtoacfopekgfbcaaDoorRulTab
import Derived.Test.YtoacfopekgfbcaaDoorShelfI
namespace Go.Proofs.YtoacfopekgfbcaaDoor
open Go.RowKit Go.Maps
set_option linter.unusedVariables false
set_option linter.unusedSimpArgs false

/-- The letter of a kind in a text. -/
def atB (t : ByteArray) (k : Int) : Int := if 1 ≤ k ∧ k ≤ t.size then ((t.data.toList.getD (k.toNat - 1) 0).toNat : Int) else 0
def deed (c : Int) : Int := if c = 72 then 1 else if c = 87 then 2 else if c = 82 then 3 else if c = 70 then 4 else 0
def ofV (s k : Int) : Int := deed (atB (rulU' s) k)
def mayV (s q : Int) : Bool := atB (rulR' s) q == 120
def rulS (s : Int) : Prop := -9223372036854775808 ≤ s ∧ s ≤ 9223372036854775807
theorem atB_bounds (t : ByteArray) (k : Int) : 0 ≤ atB t k ∧ atB t k < 256 := by
  unfold atB
  split
  · have := (t.data.toList.getD (k.toNat - 1) 0).toNat_lt
    omega
  · omega
theorem atB_in (t : ByteArray) (m : Nat) (h : m < t.size) : atB t ((m : Int) + 1) = (t[m].toNat : Int) := by
  unfold atB
  rw [if_pos (by omega), show ((m : Int) + 1).toNat - 1 = m by omega]
  have h2 : m < t.data.toList.length := by simpa using h
  rw [List.getD_eq_getElem?_getD, List.getElem?_eq_getElem h2]
  rfl

set_option maxHeartbeats 1000000 in
theorem rul_at (t : ByteArray) (ht : t.size ≤ 100) (k : Int) (hk : rulS k) (w : World) : Calls Tryd.prog 16 #[.string t, .int .i64 1, .int .i64 k] w fun e w' => e = .returned (.int .u8 (atB t k)) ∧ w' = w := by
  obtain ⟨k1, k2⟩ := hk
  by_cases h1 : k < 1
  · have hz : atB t k = 0 := by unfold atB; rw [if_neg (by omega)]
    have HZ := Lib.hid hz
    clear hz
    go_enter Tryd.func16, Tryd.ntmps16
    go_wp2_with fail
    go_ret
    exact ⟨by rw [HZ.out]; rfl, rfl⟩
  · by_cases h2 : (t.size : Int) ≤ k - 1
    · have hz : atB t k = 0 := by unfold atB; rw [if_neg (by omega)]
      have HZ := Lib.hid hz
      clear hz
      go_enter Tryd.func16, Tryd.ntmps16
      go_wp2_with fail
      go_ret
      exact ⟨by rw [HZ.out]; rfl, rfl⟩
    · obtain ⟨m, rfl⟩ : ∃ m : Nat, k = (m : Int) + 1 := ⟨(k - 1).toNat, by omega⟩
      have hm : m < t.size := by omega
      have HZ := Lib.hid (atB_in t m hm)
      have hs1 : (m : Int) + 1 - 1 = (m : Int) := by omega
      have hw0 : IntKind.i64.wrap (m : Int) = (m : Int) := IntWalk.i64_in _ (by omega)
      have hmi : (m : Int) < (t.size : Int) := by omega
      have hm100 : (m : Int) < 100 := by omega
      have hm0 : (0 : Int) ≤ (m : Int) := by omega
      clear k1 k2 h1 h2
      go_enter Tryd.func16, Tryd.ntmps16
      go_wp2_with fail
      go_ret
      exact ⟨by rw [HZ.out]; rfl, rfl⟩

theorem rulU_size (s : Int) : (rulU' s).size ≤ 100 := by
  unfold rulU'
  split
  · rename_i h
    have hc : ∀ j : Fin 10, (rulU j.val).size ≤ 100 := by decide +kernel
    exact hc ⟨s.toNat - 1, by omega⟩
  · decide
theorem rulR_size (s : Int) : (rulR' s).size ≤ 100 := by
  unfold rulR'
  split
  · rename_i h
    have hc : ∀ j : Fin 10, (rulR j.val).size ≤ 100 := by decide +kernel
    exact hc ⟨s.toNat - 1, by omega⟩
  · decide

def idxV (c : Int) : Int := if c = 46 then 0 else if c = 72 then 1 else if c = 87 then 2 else if c = 82 then 3 else if c = 70 then 4 else -1
set_option maxRecDepth 100000 in
theorem idx_index (c : Nat) (hc : c < 256) : Lib.indexByte ([46, 72, 87, 82, 70] : List UInt8) (c : Int).toNat.toUInt8 = idxV c := by
  have h : ∀ x : Fin 256, Lib.indexByte ([46, 72, 87, 82, 70] : List UInt8) ((x.val : Nat) : Int).toNat.toUInt8 = idxV x.val := by decide +kernel
  exact h ⟨c, hc⟩
theorem rul_index (c : Int) (h0 : 0 ≤ c ∧ c < 256) (w : World) :
    Calls Tryd.prog 18 #[.string ⟨#[46, 72, 87, 82, 70]⟩, .int .u8 c] w fun e w' => e = .returned (.int .i64 (idxV c)) ∧ w' = w := by
  obtain ⟨n, rfl⟩ : ∃ n : Nat, c = (n : Int) := ⟨c.toNat, by omega⟩
  exact (Go.Proofs.Any.strings_IndexByte Tryd.layIndex ⟨#[46, 72, 87, 82, 70]⟩ (n : Int) w).mono fun e w' ⟨he, hw⟩ => ⟨by rw [he, ← idx_index n (by omega)], hw⟩
theorem deed_max (c : Int) : max (idxV c) 0 = deed c := by
  unfold idxV deed
  by_cases h1 : c = 46
  · subst h1; decide
  · rw [if_neg h1]
    by_cases h2 : c = 72
    · rw [if_pos h2, if_pos h2]; decide
    · rw [if_neg h2, if_neg h2]
      by_cases h3 : c = 87
      · rw [if_pos h3, if_pos h3]; decide
      · rw [if_neg h3, if_neg h3]
        by_cases h4 : c = 82
        · rw [if_pos h4, if_pos h4]; decide
        · rw [if_neg h4, if_neg h4]
          by_cases h5 : c = 70
          · rw [if_pos h5, if_pos h5]; decide
          · rw [if_neg h5, if_neg h5]; decide

set_option maxHeartbeats 1000000 in
theorem rul_of (s k : Int) (hs : rulS s) (hk : rulS k) (w : World) : Calls Tryd.prog 9 #[.int .i64 s, .int .i64 k] w fun e w' => e = .returned (.int .i64 (ofV s k)) ∧ Below w.heap.size w w' := by
  have HT := Lib.hid (rul_table w)
  have HA := Lib.hid (fun W => rul_at (rulU' s) (rulU_size s) k hk W)
  have HI := Lib.hid (fun W => rul_index (atB (rulU' s) k) (atB_bounds _ _) W)
  have HD := Lib.hid (deed_max (atB (rulU' s) k))
  have HS := Lib.hid hs
  clear hs hk
  go_enter Tryd.func9, Tryd.ntmps9
  go_wp2_with fail
  refine HT.out.mono ?_
  rintro e w1 ⟨mb, rfl, hm, hb⟩
  have hr := run_rulLook w1 mb hm s HS.out
  have hf := rul_f2 (rulS' s) (rulN' s) (rulU' s) (rulR' s) w1
  have HB := Lib.hid hb
  clear hm hb
  go_wp2_with fail
  refine (HA.out _).mono ?_
  rintro e w2 ⟨rfl, rfl⟩
  clear hr hf
  go_wp2_with fail
  refine (HI.out _).mono ?_
  rintro e w3 ⟨rfl, rfl⟩
  generalize idxV (atB (rulU' s) k) = x at *
  go_wp2_with fail
  all_goals go_ret
  all_goals exact ⟨retInt (by show _ = deed _; rw [← HD.out]; try omega), HB.out⟩

set_option maxHeartbeats 1000000 in
theorem rul_may (s q : Int) (hs : rulS s) (hk : rulS q) (w : World) : Calls Tryd.prog 13 #[.int .i64 s, .int .i64 q] w fun e w' => e = .returned (.bool (mayV s q)) ∧ Below w.heap.size w w' := by
  have HT := Lib.hid (rul_table w)
  have HA := Lib.hid (fun W => rul_at (rulR' s) (rulR_size s) q hk W)
  have HS := Lib.hid hs
  clear hs hk
  go_enter Tryd.func13, Tryd.ntmps13
  go_wp2_with fail
  refine HT.out.mono ?_
  rintro e w1 ⟨mb, rfl, hm, hb⟩
  have hr := run_rulLook w1 mb hm s HS.out
  have hf := rul_f3 (rulS' s) (rulN' s) (rulU' s) (rulR' s) w1
  have HB := Lib.hid hb
  clear hm hb
  go_wp2_with fail
  refine (HA.out _).mono ?_
  rintro e w2 ⟨rfl, rfl⟩
  clear hr hf
  go_wp2_with fail
  go_ret
  exact ⟨rfl, HB.out⟩

/-- What is told of a wrong unit. -/
def letL : List Int := [0, 66, 67, 69, 70, 74, 75, 68, 65, 76, 71, 72, 73, 0, 0, 77]
def letV (k : Int) : Int := if 0 ≤ k ∧ k < 16 then letL.getD k.toNat 0 else 0
def LetIn (W : World) : Prop := ∀ r : Nat, r < 16 → W.cell? ⟨0, r, none⟩ = some (.int .u8 (letV r))
theorem LetIn.pos {W : World} (h : LetIn W) : 0 < W.heap.size := by
  have h0 := h 0 (by decide)
  rcases Nat.eq_zero_or_pos W.heap.size with e | e
  · exfalso
    unfold World.cell? at h0
    have : W.heap[0]? = none := by rw [Array.getElem?_eq_none_iff]; omega
    simp [this] at h0
  · exact e
theorem LetIn.next {W W' : World} (h : LetIn W) (hb : Below W.heap.size W W') : LetIn W' := fun r hr => by
  rw [hb.cell (p := ⟨0, r, none⟩) h.pos]; exact h r hr

set_option maxHeartbeats 1000000 in
theorem rul_letter (k : Int) (hk : rulS k) (w : World) (hL : LetIn w) : Calls Tryd.prog 11 #[.int .i64 k] w fun e w' => e = .returned (.int .u8 (letV k)) ∧ w' = w := by
  obtain ⟨k1, k2⟩ := hk
  by_cases h1 : k < 0
  · have hz : letV k = 0 := by unfold letV; rw [if_neg (by omega)]
    have HZ := Lib.hid hz
    clear hz hL
    go_enter Tryd.func11, Tryd.ntmps11
    go_wp2_with fail
    go_ret
    exact ⟨by rw [HZ.out]; rfl, rfl⟩
  · by_cases h2 : 16 ≤ k
    · have hz : letV k = 0 := by unfold letV; rw [if_neg (by omega)]
      have HZ := Lib.hid hz
      clear hz hL
      go_enter Tryd.func11, Tryd.ntmps11
      go_wp2_with fail
      go_ret
      exact ⟨by rw [HZ.out]; rfl, rfl⟩
    · obtain ⟨m, rfl⟩ : ∃ m : Nat, k = (m : Int) := ⟨k.toNat, by omega⟩
      have s0 := hL m (by omega)
      clear k1 k2
      have hm0 : (0 : Int) ≤ (m : Int) := by omega
      have hm1 : (m : Int) < 16 := by omega
      clear hL h1 h2
      go_enter Tryd.func11, Tryd.ntmps11
      go_wp2_with fail
      go_ret
      exact ⟨rfl, rfl⟩
end Go.Proofs.YtoacfopekgfbcaaDoor
