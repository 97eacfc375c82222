/- The contract of span's Drop. Conditions: the sets are small, written in one way, the rows are not long. -/
import Derived.Test.YtimmineopkmdmaaSpanTwoSets
namespace Go.Proofs.Ytimmineopkmdmaa
open Go.RowKit Sp
set_option linter.unusedVariables false

theorem canon_len : ∀ (s : List Span) (lo : Int), Canon s → (∀ x, x ∈ s → lo ≤ x.1 ∧ x.2 ≤ 4096) → lo ≤ 4096 → (s.length : Int) ≤ 4096 - lo
  | [], lo, _, _, h => by simp; omega
  | x :: s, lo, hc, hb, h => by
    obtain ⟨h1, h2, h3⟩ := canon_cons.1 hc
    have hx := hb x List.mem_cons_self
    have := canon_len s x.2 h3 (fun y hy => ⟨by have := h2 y hy; omega, (hb y (List.mem_cons_of_mem _ hy)).2⟩) (by omega)
    rw [List.length_cons]
    omega
theorem small_of_mem {o s : List Span} (hc : Canon o) (hm : ∀ n, Mem o n → Mem s n) (hs : ∀ x, x ∈ s → Small x) : ∀ y, y ∈ o → Small y := by
  intro y hy
  have h1 := hc.1 y hy
  obtain ⟨z, hz, z1, z2⟩ := hm y.1 ⟨y, hy, by omega, h1⟩
  obtain ⟨z', hz', z3, z4⟩ := hm (y.2 - 1) ⟨y, hy, by omega, by omega⟩
  have := hs z hz
  have := hs z' hz'
  unfold Small at *
  omega
/-- A set of small numbers is of few spans. -/
theorem setAt_of {w : World} {v : Value} {o : List Span} (h : SpRow w v o) (hc : Canon o) (hs : ∀ y, y ∈ o → Small y) : SetAt w v o :=
  ⟨h, hc, hs, by have := canon_len o (-4096) hc (fun x hx => by have := hs x hx; unfold Small at this; omega) (by omega); omega⟩

set_option maxHeartbeats 1000000 in
set_option maxRecDepth 100000 in
theorem drop (s : List Span) (x : Span) (v : Value) (w : World) (h : SetAt w v s) (hx : Small x) :
    Calls Try.prog 18 #[v, .agg #[.int .i64 x.1, .int .i64 x.2]] w fun e w' => ∃ u o, e = .returned u ∧ SetAt w' u o ∧ (∀ n, Mem o n ↔ Mem s n ∧ ¬ Mem [x] n) ∧ Below w.heap.size w w' := by
  obtain ⟨A, cap, rfl⟩ := h.form
  have HS := Lib.hid h
  have HX := Lib.hid hx
  clear h hx
  obtain ⟨a, ha⟩ : ∃ a, a = x.1 := ⟨_, rfl⟩
  obtain ⟨d, hd⟩ : ∃ d, d = x.2 := ⟨_, rfl⟩
  rw [← ha, ← hd]
  have HXE : Hid (x = (a, d)) := by rw [ha, hd]; rfl
  clear ha hd
  go_enter Try.func18, Try.ntmps18
  go_wp2_with fail
  have e1 : (w.alloc (.cells #[.int .i64 a, .int .i64 d] 35)).heap.size = w.heap.size + 1 := by simp
  have hw1 : Below w.heap.size w ((w.alloc (.cells #[.int .i64 a, .int .i64 d] 35)).alloc (.cells #[.int .i64 a, .int .i64 d] 35)) := ((Below.refl _ w).alloc (Nat.le_refl _) _).alloc (by simp) _
  have hone := spRow_one (w.alloc (.cells #[.int .i64 a, .int .i64 d] 35)) a d 35
  rw [e1] at hone
  have HW1 := Lib.hid hw1
  have HONE := Lib.hid hone
  clear e1 hw1 hone
  generalize (w.alloc (.cells #[.int .i64 a, .int .i64 d] 35)).alloc (.cells #[.int .i64 a, .int .i64 d] 35) = W1 at *
  have hxs : Small (a, d) := by rw [← HXE.out]; exact HX.out
  refine (of_ [(a, d)] _ W1 HONE.out (by simp) (fun y hy => by simp at hy; subst hy; exact hxs)).mono ?_
  rintro e w3 ⟨u, s', rfl, hu, hs', hb3⟩
  have HU := Lib.hid hu
  have HS' := Lib.hid hs'
  have HB3 := Lib.hid (HW1.out.trans (hb3.mono HW1.out.size))
  clear hu hs' hb3 hxs
  go_wp2_with fail
  refine (others s' u w3 ⟨HU.out, HS'.out.1, HS'.out.2.2.2, by have := HS'.out.2.2.1; simp at this; omega⟩).mono ?_
  rintro e w4 ⟨u2, o, rfl, hwo, hmo, hb4⟩
  have HWO := Lib.hid hwo
  have HMO := Lib.hid hmo
  have HB4 := Lib.hid (HB3.out.trans (hb4.mono HB3.out.size))
  clear hwo hmo hb4
  go_wp2_with fail
  refine (both s o _ u2 w4 (HS.out.below HB4.out).wide HWO.out).mono ?_
  rintro e w5 ⟨r, q, rfl, hr, hq1, hq2, _, hb5⟩
  have HR := Lib.hid hr
  have HQ1 := Lib.hid hq1
  have HQ2 := Lib.hid hq2
  have HB5 := Lib.hid (HB4.out.trans (hb5.mono HB4.out.size))
  clear hr hq1 hq2 hb5
  go_wp2_with fail
  go_ret
  refine ⟨_, q, rfl, setAt_of HR.out HQ1.out (small_of_mem HQ1.out (fun n h => ((HQ2.out n).1 h).1) HS.out.small), fun n => ?_, HB5.out⟩
  rw [HQ2.out n, HMO.out n, HS'.out.2.1 n, HXE.out]
  refine ⟨fun h => ⟨h.1, h.2.2.2⟩, fun h => ⟨h.1, ?_, ?_, h.2⟩⟩
  all_goals
    obtain ⟨z, hz, z1, z2⟩ := h.1
    have := HS.out.small z hz
    unfold Small at this
    first | (unfold least; omega) | (unfold behind; omega)
end Go.Proofs.Ytimmineopkmdmaa
