/- The law's own fixed fact of layer 3. No conditions. -/
import Derived.Test.YtimmineopkmdmaaSpanLen
import Derived.Laws.StructEq
namespace Go.Proofs.Ytimmineopkmdmaa
open Go.RowKit Sp Go.Sort
set_option linter.unusedVariables false

theorem of3 (s : List Span) (h : IsSet s [(5, 7), (1, 3), (6, 9)]) : s = [(1, 3), (5, 9)] := by
  refine canon_unique _ _ h.1 ?_ fun n => ?_
  · exact canon_cons.2 ⟨by decide, by simp, canon_one (by decide)⟩
  · rw [h.2.1 n]
    simp only [mem_cons]
    have := mem_nil n
    constructor
    · rintro (h | h | h | h)
      · exact .inr (.inl (by omega))
      · exact .inl (by omega)
      · exact .inr (.inl (by omega))
      · exact absurd h this
    · rintro (h | h | h)
      · exact .inr (.inl (by omega))
      · by_cases h7 : n < 7
        · exact .inl (by omega)
        · exact .inr (.inr (.inl (by omega)))
      · exact absurd h this

set_option maxHeartbeats 1000000 in
set_option maxRecDepth 100000 in
theorem span_awake (w : World) : Calls Try.prog 9 #[] w fun e w' => e = .returned (.bool true) ∧ Below w.heap.size w w' := by
  have hr : SpRow (w.alloc (.cells #[.int .i64 5, .int .i64 7, .int .i64 1, .int .i64 3, .int .i64 6, .int .i64 9] 35)) (.slice (some ⟨w.heap.size, 0, none⟩) 3 3) [(5, 7), (1, 3), (6, 9)] := by
    refine ⟨_, 3, rfl, Nat.le_refl _, by decide, by decide, .inr ⟨w.heap.size, 0, rfl, by simp, fun i x hx => ?_⟩⟩
    have hn := heap_alloc_new w (.cells #[.int .i64 5, .int .i64 7, .int .i64 1, .int .i64 3, .int .i64 6, .int .i64 9] 35)
    match i with
    | 0 => simp at hx; subst hx; exact ⟨by rw [cell_of_row _ _ _ _ _ (0, 0) hn]; rfl, by rw [cell_of_row _ _ _ _ _ (0, 0) hn]; rfl⟩
    | 1 => simp at hx; subst hx; exact ⟨by rw [cell_of_row _ _ _ _ _ (0, 0) hn]; rfl, by rw [cell_of_row _ _ _ _ _ (0, 0) hn]; rfl⟩
    | 2 => simp at hx; subst hx; exact ⟨by rw [cell_of_row _ _ _ _ _ (0, 0) hn]; rfl, by rw [cell_of_row _ _ _ _ _ (0, 0) hn]; rfl⟩
    | i + 3 => simp at hx
  have HO := Lib.hid (of_ _ _ _ hr (by decide) (by intro x hx; simp at hx; rcases hx with rfl | rfl | rfl <;> exact ⟨by decide, by decide, by decide, by decide⟩))
  have hb0 : Below w.heap.size w (w.alloc (.cells #[.int .i64 5, .int .i64 7, .int .i64 1, .int .i64 3, .int .i64 6, .int .i64 9] 35)) := (Below.refl _ w).alloc (Nat.le_refl _) _
  have HB0 := Lib.hid hb0
  clear hr hb0
  go_enter Try.func9, Try.ntmps9
  go_wp2_with fail
  refine HO.out.mono ?_
  rintro e w1 ⟨u, s, rfl, hu, hs, hb⟩
  have HB := Lib.hid (HB0.out.trans (hb.mono HB0.out.size))
  have hs2 := of3 s hs
  subst hs2
  have hw : WideAt w1 u [(1, 3), (5, 9)] := ⟨hu, hs.1, by intro x hx; simp at hx; rcases hx with rfl | rfl <;> exact ⟨by decide, by decide⟩, by decide⟩
  have HLE := Lib.hid (fun W (h : WideAt W u [(1, 3), (5, 9)]) => len _ _ W h)
  obtain ⟨A, cap, rfl, _, _, _, hc⟩ := hu
  obtain ⟨b, off, rfl, hbl, hcc⟩ := hc.resolve_left (by simp)
  obtain ⟨c00, c01⟩ := hcc 0 (1, 3) rfl
  obtain ⟨c10, c11⟩ := hcc 1 (5, 9) rfl
  have HW := Lib.hid hw
  rw [Nat.zero_mul, Nat.add_zero] at c00 c01
  rw [Nat.one_mul] at c10 c11
  have hS : Try.prog.underlying 35 = some (.struct (Try.prog.fieldsOf 35)) := by kernel_rfl
  have hp : Try.prog.stoodInHeld 35 = false := by kernel_rfl
  have he : ∀ (a b : Int) (w : World), Sem.run Try.prog (binOp .eql 35 (.agg #[.int .i64 a, .int .i64 b]) (.agg #[.int .i64 a, .int .i64 b])) w = .ok (.bool true) w := by
    intro a b w
    rw [run_eql_struct, show (10000 : Nat) = 9999 + 1 from rfl, run_equalIn_agg w 9999 35 _ _ hS hp]
    simp only [Program.fieldsOf, Try.underlying35]
    have u3 := Try.underlying3
    have a3 := Try.isAgg3
    have z3 := Try.sizeOf3
    go_simp
  have hg : ∀ (op : BinOp) (x y : Operand) (a b c d : Int) (w : World), Sem.run Try.prog (eqGuard op 35 x y (.agg #[.int .i64 a, .int .i64 b]) (.agg #[.int .i64 c, .int .i64 d])) w = .ok () w := fun op x y a b c d w => run_eqGuard_agg w op _ x y _ _ (by kernel_rfl)
  clear hcc hc hs hw hb hS hp
  go_wp2_with fail
  refine (HLE.out _ HW.out).mono ?_
  rintro e w' ⟨rfl, hb2⟩
  rw [show lenOf [(1, 3), (5, 9)] = 6 by decide]
  go_wp2_with fail
  go_ret
  exact ⟨rfl, HB.out.trans (hb2.mono HB.out.size)⟩
end Go.Proofs.Ytimmineopkmdmaa
