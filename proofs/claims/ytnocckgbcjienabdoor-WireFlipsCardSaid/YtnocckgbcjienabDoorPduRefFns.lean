/- The contracts of the document's plain functions on units: in, HasSQ, HasN, Most, low. No conditions. -/
import Derived.Test.YtnocckgbcjienabDoorPduAwake
import Derived.Deep.DeepCutAuto
namespace Go.Proofs.YtnocckgbcjienabDoor
open Go.RowKit
set_option linter.unusedVariables false
set_option linter.unusedSimpArgs false

/-- v is a row of whole numbers. -/
def IRow (w : World) (v : Value) (xs : List Int) : Prop :=
  ∃ (A : Option Addr) (cap : Nat), v = .slice A xs.length cap ∧ xs.length ≤ 1048576 ∧ (xs = [] ∨ ∃ b off, A = some ⟨b, off, none⟩ ∧ b < w.heap.size ∧ ∀ i x, xs[i]? = some x → w.cell? ⟨b, off + i, none⟩ = some (.int .i64 x))
theorem iRow_nil (w : World) : IRow w (.slice none 0 0) [] := ⟨none, 0, rfl, by decide, .inl rfl⟩
theorem IRow.below {w w' : World} {v : Value} {xs : List Int} (h : IRow w v xs) (hb : Below w.heap.size w w') : IRow w' v xs := by
  obtain ⟨A, cap, rfl, hl, hc⟩ := h
  refine ⟨A, cap, rfl, hl, hc.imp id fun ⟨b, off, e, hbl, hc⟩ => ⟨b, off, e, Nat.lt_of_lt_of_le hbl hb.size, fun i x hx => ?_⟩⟩
  rw [hb.cell (p := ⟨b, off + i, none⟩) hbl]
  exact hc i x hx
theorem iRow_own {w : World} {base : Nat} {e : TypeId} {v : Value} {xs : List Int} (h : w.ownsRow base e 1 v xs.length (xs.map (Value.int .i64))) (hl : xs.length ≤ 1048576) : IRow w v xs := by
  rcases h.2 with ⟨rfl, h0⟩ | ⟨g, cap, cur, rfl, _, hg, _⟩
  · rw [List.eq_nil_of_length_eq_zero h0]; exact iRow_nil w
  · refine ⟨_, cap, rfl, hl, .inr ⟨g, 0, rfl, (Array.getElem?_eq_some_iff.1 hg).1, fun i x hx => ?_⟩⟩
    have hc := h.cells (g := g) rfl i (.int .i64 x) (by rw [List.getElem?_map, hx]; rfl)
    rw [Addr.add_lit, Nat.zero_add] at hc
    rw [Nat.zero_add]; exact hc
theorem iRow_new (w : World) (xs : List Int) (t : TypeId) (hl : xs.length ≤ 1048576) : IRow (w.alloc (.cells (xs.map (Value.int .i64)).toArray t)) (.slice (some ⟨w.heap.size, 0, none⟩) xs.length xs.length) xs := by
  refine ⟨_, _, rfl, hl, .inr ⟨w.heap.size, 0, rfl, by simp, fun i x hx => ?_⟩⟩
  rw [cell_of_row _ _ (0 + i) _ _ (0, 0) (heap_alloc_new w _), Nat.zero_add]
  simp [hx]

def memB (k : Int) (xs : List Int) : Bool := decide (k ∈ xs)
theorem memTake {xs : List Int} {k : Nat} (hk : k < xs.length) (y : Int) : y ∈ xs.take (k + 1) ↔ y ∈ xs.take k ∨ y = xs[k] := by
  rw [List.take_succ_eq_append_getElem hk, List.mem_append, List.mem_singleton]
set_option maxRecDepth 100000 in
theorem ref_in (k : Int) (v : Value) (xs : List Int) (w : World) (h : IRow w v xs) :
    Calls Tryd.prog 43 #[.int .i64 k, v] w fun e w' => e = .returned (.bool (memB k xs)) ∧ w = w' := by
  obtain ⟨A, cap, rfl, hl, hc⟩ := h
  have HC := Lib.hid hc
  clear hc
  go_enter Tryd.func43, Tryd.ntmps43
  go_wp2_with fail
  go_loop [9] (fun i => ∃ j : Nat, j ≤ xs.length ∧ i = .int .i64 j ∧ Hid (¬ k ∈ xs.take j)) (fun i => xs.length - (intOf i).toNat)
  case atStart => exact ⟨0, by omega, rfl, by show ¬ _; simp⟩
  case round =>
    obtain ⟨j, hj, rfl, HN⟩ := hrel
    by_cases hlt : j < xs.length
    · have hx := List.getElem?_eq_getElem hlt
      have hne : xs ≠ [] := by rintro rfl; simp at hlt
      obtain ⟨b, off, rfl, hb, hcell⟩ := HC.out.resolve_left hne
      have hcx := hcell j _ hx
      have hj0 : (0 : Int) ≤ (j : Int) := by omega
      have hj1 : (j : Int) < (xs.length : Int) := by omega
      have HM := Lib.hid (memTake hlt k)
      have HX := Lib.hid (List.getElem_mem hlt)
      clear hcell hx hne
      generalize xs[j] = x at *
      by_cases hxk : x = k
      · have hd : (x == k) = true := by rw [beq_iff_eq]; exact hxk
        have HD := Lib.hid hxk
        clear hxk
        go_wp2_with fail
        go_ret
        exact ⟨by unfold memB; rw [decide_eq_true (show k ∈ xs by have := HX.out; rw [HD.out] at this; exact this)]; rfl, rfl⟩
      · have hd : (x == k) = false := by rw [beq_eq_false_iff_ne]; exact hxk
        have HD := Lib.hid hxk
        clear hxk
        go_wp2_with fail
        go_round
        case rel => exact ⟨j + 1, by omega, by go_num, fun h => (HM.out.1 h).elim HN.out (fun e => HD.out e.symm)⟩
        case measure => simp [intOf]; omega
    · have hjl : j = xs.length := by omega
      subst hjl
      have hn := HN.out
      rw [List.take_of_length_le (Nat.le_refl _)] at hn
      have HN2 := Lib.hid hn
      clear hn
      go_wp2_with fail
      go_ret
      exact ⟨by unfold memB; rw [decide_eq_false HN2.out]; rfl, rfl⟩

def hasSQi (k : Int) : Bool := memB k [1, 2, 3, 4, 5, 6, 7, 9, 15]
def hasNi (k : Int) : Bool := memB k [1, 2, 5, 6, 8, 9, 10, 11, 12, 15]
def mostI (k : Int) : Int := if memB k [1, 3, 5, 7] = true then 64 else if memB k [8, 13, 14] = true then 200 else 0
theorem ref_hasSQ (k : Int) (w : World) : Calls Tryd.prog 41 #[.int .i64 k] w fun e w' => e = .returned (.bool (hasSQi k)) ∧ Below w.heap.size w w' := by
  have HI := Lib.hid (ref_in k _ _ _ (iRow_new w [1, 2, 3, 4, 5, 6, 7, 9, 15] 3 (by decide)))
  have HB := Lib.hid ((Below.refl _ w).alloc (Nat.le_refl _) (.cells (([1, 2, 3, 4, 5, 6, 7, 9, 15] : List Int).map (Value.int .i64)).toArray 3))
  go_enter Tryd.func41, Tryd.ntmps41
  go_wp2_with fail
  refine HI.out.mono ?_
  rintro e w1 ⟨rfl, rfl⟩
  go_wp2_with fail
  go_ret
  exact ⟨rfl, HB.out⟩
theorem ref_hasN (k : Int) (w : World) : Calls Tryd.prog 42 #[.int .i64 k] w fun e w' => e = .returned (.bool (hasNi k)) ∧ Below w.heap.size w w' := by
  have HI := Lib.hid (ref_in k _ _ _ (iRow_new w [1, 2, 5, 6, 8, 9, 10, 11, 12, 15] 3 (by decide)))
  have HB := Lib.hid ((Below.refl _ w).alloc (Nat.le_refl _) (.cells (([1, 2, 5, 6, 8, 9, 10, 11, 12, 15] : List Int).map (Value.int .i64)).toArray 3))
  go_enter Tryd.func42, Tryd.ntmps42
  go_wp2_with fail
  refine HI.out.mono ?_
  rintro e w1 ⟨rfl, rfl⟩
  go_wp2_with fail
  go_ret
  exact ⟨rfl, HB.out⟩
set_option maxRecDepth 100000 in
theorem ref_most (k : Int) (w : World) : Calls Tryd.prog 39 #[.int .i64 k] w fun e w' => e = .returned (.int .i64 (mostI k)) ∧ Below w.heap.size w w' := by
  have HI := Lib.hid (ref_in k _ _ _ (iRow_new w [1, 3, 5, 7] 3 (by decide)))
  have HI2 := Lib.hid (fun W => ref_in k _ _ _ (iRow_new W [8, 13, 14] 3 (by decide)))
  have HB : Hid (Below w.heap.size w (w.alloc (.cells #[.int .i64 1, .int .i64 3, .int .i64 5, .int .i64 7] 3))) := (Below.refl _ w).alloc (Nat.le_refl _) _
  have HM : Hid (mostI k = if memB k [1, 3, 5, 7] = true then 64 else if memB k [8, 13, 14] = true then 200 else 0) := rfl
  generalize memB k [1, 3, 5, 7] = b1 at *
  generalize memB k [8, 13, 14] = b2 at *
  cases b1
  · go_enter Tryd.func39, Tryd.ntmps39
    go_wp2_with fail
    refine HI.out.mono ?_
    rintro e w1 ⟨rfl, rfl⟩
    go_upto_region 3 with fail
    generalize w.alloc (.cells #[.int .i64 1, .int .i64 3, .int .i64 5, .int .i64 7] 3) = W at *
    have HB2 : Hid (Below w.heap.size w (W.alloc (.cells #[.int .i64 8, .int .i64 13, .int .i64 14] 3))) := HB.out.alloc HB.out.size _
    go_wp2_with fail
    refine (HI2.out W).mono ?_
    rintro e w1 ⟨rfl, rfl⟩
    cases b2
    all_goals
      go_wp2_with fail
      go_ret
      exact ⟨by rw [HM.out]; rfl, HB2.out⟩
  · go_enter Tryd.func39, Tryd.ntmps39
    go_wp2_with fail
    refine HI.out.mono ?_
    rintro e w1 ⟨rfl, rfl⟩
    go_wp2_with fail
    go_ret
    exact ⟨by rw [HM.out]; rfl, HB.out⟩
def lowB (x : Int) : Bool := decide (0 ≤ x ∧ x < 16777216)
theorem ref_low (x : Int) (w : World) : Calls Tryd.prog 40 #[.int .i64 x] w fun e w' => e = .returned (.bool (lowB x)) ∧ w = w' := by
  unfold lowB
  by_cases h1 : 0 ≤ x
  · have d1 : decide (0 ≤ x) = true := decide_eq_true h1
    by_cases h2 : x < 16777216
    · have d2 : decide (x < 16777216) = true := decide_eq_true h2
      rw [decide_eq_true (show 0 ≤ x ∧ x < 16777216 from ⟨h1, h2⟩)]
      clear h1 h2
      go_enter Tryd.func40, Tryd.ntmps40
      go_wp2_with fail
      go_ret
      exact ⟨rfl, rfl⟩
    · have d2 : decide (x < 16777216) = false := decide_eq_false h2
      rw [decide_eq_false (show ¬ (0 ≤ x ∧ x < 16777216) from fun h => h2 h.2)]
      clear h1 h2
      go_enter Tryd.func40, Tryd.ntmps40
      go_wp2_with fail
      go_ret
      exact ⟨rfl, rfl⟩
  · have d1 : decide (0 ≤ x) = false := decide_eq_false h1
    rw [decide_eq_false (show ¬ (0 ≤ x ∧ x < 16777216) from fun h => h1 h.1)]
    clear h1
    go_enter Tryd.func40, Tryd.ntmps40
    go_wp2_with fail
    go_ret
    exact ⟨rfl, rfl⟩
end Go.Proofs.YtnocckgbcjienabDoor
