/- The law's own fixed fact of layer 8. No conditions. -/
import Derived.Test.YtammcohjddjaeaaTimNext
namespace Go.Proofs.Ytammcohjddjaeaa
open Go.RowKit
set_option linter.unusedVariables false
set_option linter.unusedSimpArgs false

theorem bank_new (w : World) : BankAt (w.alloc (.cells #[.int .i64 0, .int .i64 0, .int .i64 0, .int .i64 0, .int .i64 0] 26)) w.heap.size (fun _ => 0) := heap_alloc_new w _
theorem grown_below {w w1 w' : World} {g : Nat} (h : Below w.heap.size w w1) (hg : w.heap.size ≤ g) (k : w1.grownBy w' (some g)) : Below w.heap.size w w' := h.grown k h.size (fun j hj => by injection hj with hj; omega)
theorem start_in {L : Nat → Int} {t n : Int} (h : ∀ t, t < 5 → 0 ≤ L t ∧ L t ≤ 1048576) : ∀ i, i < 5 → 0 ≤ startL L t n i ∧ startL L t n i ≤ 1048576 := by
  intro i hi
  have := h i hi
  unfold startL
  split
  · unfold upd
    split
    · omega
    · exact this
  · exact this
theorem tick_in {L : Nat → Int} (h : ∀ t, t < 5 → 0 ≤ L t ∧ L t ≤ 1048576) : ∀ i, i < 5 → 0 ≤ tickL L i ∧ tickL L i ≤ 1048576 := by
  intro i hi
  have := h i hi
  unfold tickL tickF
  split <;> omega
theorem zero_in : ∀ t, t < 5 → 0 ≤ (fun _ : Nat => (0 : Int)) t ∧ (fun _ : Nat => (0 : Int)) t ≤ 1048576 := fun _ _ => ⟨Int.le_refl 0, (by decide : (0 : Int) ≤ 1048576)⟩

set_option maxHeartbeats 1000000 in
set_option maxRecDepth 100000 in
theorem tim_awake (w : World) : Calls Try.prog 6 #[] w fun e w' => e = .returned (.bool true) ∧ Below w.heap.size w w' := by
  have HB0 := Lib.hid (bank_new w)
  have HW0 := Lib.hid ((Below.refl _ w).alloc (Nat.le_refl _) (.cells #[.int .i64 0, .int .i64 0, .int .i64 0, .int .i64 0, .int .i64 0] 26))
  go_enter Try.func6, Try.ntmps6
  go_upto_region 2 with fail
  generalize w.alloc (.cells #[.int .i64 0, .int .i64 0, .int .i64 0, .int .i64 0, .int .i64 0] 26) = w0 at *
  obtain ⟨g, hg⟩ : ∃ g, g = w.heap.size := ⟨_, rfl⟩
  rw [← hg] at HB0 ⊢
  have HGG := Lib.hid hg
  clear hg
  go_wp2_with fail
  refine (tim_start g 1 2 _ w0 HB0.out).mono ?_
  rintro e w1 ⟨rfl, hb1, hk1⟩
  have HB1 := Lib.hid hb1
  have HW1 := Lib.hid (grown_below HW0.out (by have := HGG.out; omega) hk1)
  clear hb1 hk1
  go_wp2_with fail
  refine (tim_start g 0 2 _ w1 HB1.out).mono ?_
  rintro e w2 ⟨rfl, hb2, hk2⟩
  have HB2 := Lib.hid hb2
  have HW2 := Lib.hid (grown_below HW1.out (by have := HGG.out; omega) hk2)
  clear hb2 hk2
  go_wp2_with fail
  refine (tim_tick g _ w2 HB2.out (start_in (start_in zero_in))).mono ?_
  rintro e w3 ⟨v, rfl, hr3, hb3, hk3⟩
  rw [show overTo (startL (startL (fun _ => 0) 1 2) 0 2) 5 = [] by rfl] at hr3
  obtain ⟨A, c, rfl, _, _⟩ := hr3
  have HB3 := Lib.hid hb3
  have HW3 := Lib.hid (grown_below HW2.out (by have := HGG.out; omega) hk3)
  clear hb3 hk3
  go_wp2_with fail
  refine (tim_tick g _ w3 HB3.out (tick_in (start_in (start_in zero_in)))).mono ?_
  rintro e w4 ⟨v, rfl, hr4, hb4, hk4⟩
  rw [show overTo (tickL (startL (startL (fun _ => 0) 1 2) 0 2)) 5 = [0, 1] by rfl] at hr4
  obtain ⟨A4, c4, rfl, _, hc4⟩ := hr4
  obtain ⟨b, off, rfl, _, hc⟩ := hc4.resolve_left (by simp)
  have k0 : w4.cell? ⟨b, off, none⟩ = some (.int .i64 0) := hc 0 0 rfl
  have k1 : w4.cell? ⟨b, off + 1, none⟩ = some (.int .i64 1) := hc 1 1 rfl
  have HW4 := Lib.hid (grown_below HW3.out (by have := HGG.out; omega) hk4)
  clear hb4 hk4 hc hc4
  go_wp2_with fail
  go_ret
  exact ⟨rfl, HW4.out⟩
end Go.Proofs.Ytammcohjddjaeaa
