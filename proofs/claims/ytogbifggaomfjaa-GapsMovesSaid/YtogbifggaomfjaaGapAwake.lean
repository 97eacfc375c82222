/- The law's own fixed fact of layer 9. No conditions. -/
import Derived.Test.YtogbifggaomfjaaGapLib
import Derived.Test.YtogbifggaomfjaaGapCount
import Derived.Test.YtogbifggaomfjaaGapSet
namespace Go.Proofs.Ytogbifggaomfjaa
open Go.RowKit Sp
set_option linter.unusedVariables false

theorem spRow_two (w : World) (a b c d : Int) (t : TypeId) : SpRow (w.alloc (.cells #[.int .i64 a, .int .i64 b, .int .i64 c, .int .i64 d] t)) (.slice (some ⟨w.heap.size, 0, none⟩) 2 2) [(a, b), (c, d)] := by
  refine ⟨_, 2, rfl, Nat.le_refl _, by decide, by simp, .inr ⟨w.heap.size, 0, rfl, by simp, fun i x hx => ?_⟩⟩
  have hn := heap_alloc_new w (.cells #[.int .i64 a, .int .i64 b, .int .i64 c, .int .i64 d] t)
  match i with
  | 0 => simp at hx; subst hx; exact ⟨by rw [cell_of_row _ _ _ _ _ (0, 0) hn]; rfl, by rw [cell_of_row _ _ _ _ _ (0, 0) hn]; rfl⟩
  | 1 => simp at hx; subst hx; exact ⟨by rw [cell_of_row _ _ _ _ _ (0, 0) hn]; rfl, by rw [cell_of_row _ _ _ _ _ (0, 0) hn]; rfl⟩
  | i + 2 => simp at hx

/-- A canonical set within the numbers that List takes is what List takes. -/
theorem list_all {s q : List Span} (hs : Canon s) (hq : Canon q) (hm : ∀ n, Mem q n ↔ Mem s n ∧ (0 ≤ n ∧ n < 8388609)) (hb : ∀ n, Mem s n → 0 ≤ n ∧ n < 8388609) : q = s :=
  canon_unique _ _ hq hs fun n => by rw [hm n]; exact ⟨fun h => h.1, fun h => ⟨h, hb n h⟩⟩

theorem two_set (s : List Span) (h : IsSet s [(0, 2), (5, 6)]) : s = [(0, 2), (5, 6)] := canon_unique s _ h.1 (canon_cons.2 ⟨by decide, by simp, canon_one (by decide)⟩) h.2.1

set_option maxHeartbeats 2000000 in
set_option maxRecDepth 100000 in
theorem gap_awake (w : World) : Calls Try.prog 15 #[] w fun e w' => e = .returned (.bool true) ∧ Below w.heap.size w w' := by
  have hr := spRow_two w 0 2 5 6 32
  have HO := Lib.hid (of_ _ _ _ hr (by decide) (by intro x hx; simp at hx; rcases hx with rfl | rfl <;> exact ⟨by decide, by decide, by decide, by decide⟩))
  have HB0 := Lib.hid ((Below.refl _ w).alloc (Nat.le_refl _) (.cells #[.int .i64 0, .int .i64 2, .int .i64 5, .int .i64 6] 32))
  clear hr
  go_enter Try.func15, Try.ntmps15
  go_wp2_with fail
  refine HO.out.mono ?_
  rintro e w1 ⟨u, s, rfl, hu, hs, hb⟩
  have HB := Lib.hid (HB0.out.trans (hb.mono HB0.out.size))
  obtain rfl := two_set s hs
  have HW : Hid (WideAt w1 u [(0, 2), (5, 6)]) := ⟨hu, hs.1, by intro x hx; simp at hx; rcases hx with rfl | rfl <;> exact ⟨by decide, by decide⟩, by decide⟩
  have HC := Lib.hid hs.1
  clear hu hs hb HO HB0
  go_wp2_with fail
  refine (g_list 16777215 [(0, 2), (5, 6)] u w1 HW.out (by decide) (by decide) (by decide)).mono ?_
  rintro e w2 ⟨u2, q, rfl, hq, hm, hr, hb⟩
  obtain rfl := list_all HC.out hq hm (fun n hn => by rw [mem_cons, mem_one] at hn; omega)
  have he : prs 16777215 [(0, 2), (5, 6)] = [16777215, 1, 4, 5] := by decide
  rw [he] at hr
  have HB2 := Lib.hid (HB.out.trans (hb.mono HB.out.size))
  have HR := Lib.hid hr
  have HCN := Lib.hid (g_count [16777215, 1, 4, 5] u2 w2 hr (by intro x hx; simp at hx; omega))
  obtain ⟨A, cap, rfl, _, hc⟩ := hr
  obtain ⟨g, off, rfl, hbl, hcc⟩ := hc.resolve_left (by simp)
  have c0 := hcc 0 16777215 rfl
  have c1 := hcc 1 1 rfl
  have c2 := hcc 2 4 rfl
  have c3 := hcc 3 5 rfl
  rw [Nat.add_zero] at c0
  clear hcc hc hq hm hb
  go_wp2_with fail
  refine HCN.out.mono ?_
  rintro e w3 ⟨rfl, hb3⟩
  rw [show cnt [16777215, 1, 4, 5] = 3 by decide]
  go_wp2_with fail
  go_ret
  exact ⟨rfl, HB2.out.trans (hb3.mono HB2.out.size)⟩
end Go.Proofs.Ytogbifggaomfjaa
