/- Law 12's fixed fact. No condition. -/
import Derived.Test.YtgfdgcpbmjhmmaaRecvGap
namespace Go.Proofs.Ytgfdgcpbmjhmmaa
open Go.RowKit Go.Maps Sp
set_option linter.unusedVariables false
theorem DlvTo.inv {bs bs' : List (Int × ByteArray)} {nx nx' : Int} {out : List ByteArray} (h : DlvTo bs nx bs' nx' out) : (out = [] ∧ bs' = bs ∧ nx' = nx) ∨ (nx ∈ bs.map (·.1) ∧ ∃ o2, out = pick bs nx :: o2 ∧ DlvTo (bs.filter fun p => !decide (p.1 = nx)) (nx + 1) bs' nx' o2) := by
  induction h with
  | refl => exact .inl ⟨rfl, rfl, rfl⟩
  | step h hin ih =>
    rcases ih with ⟨rfl, rfl, rfl⟩ | ⟨h1, o2, rfl, h2⟩
    · exact .inr ⟨hin, [], rfl, .refl⟩
    · exact .inr ⟨h1, o2 ++ [_], rfl, .step h2 hin⟩
theorem DlvTo.none {bs bs' : List (Int × ByteArray)} {nx nx' : Int} {out : List ByteArray} (h : DlvTo bs nx bs' nx' out) (hn : ¬ nx ∈ bs.map (·.1)) : out = [] ∧ bs' = bs ∧ nx' = nx := h.inv.elim id fun g => absurd g.1 hn
theorem DlvTo.two {b a : ByteArray} {bs' : List (Int × ByteArray)} {nx' : Int} {out : List ByteArray} (h : DlvTo [(1, b), (0, a)] 0 bs' nx' out) (hn : ¬ nx' ∈ bs'.map (·.1)) : out = [a, b] := by
  rcases h.inv with ⟨rfl, rfl, rfl⟩ | ⟨_, o2, rfl, h2⟩
  · simp at hn
  rcases h2.inv with ⟨rfl, rfl, rfl⟩ | ⟨_, o3, rfl, h3⟩
  · simp at hn
  obtain ⟨rfl, _, _⟩ := h3.none (by simp)
  simp [pick]
theorem rvars_f (a1 a2 a3 a4 a5 a6 : Int) (w : World) : (Instr.field 34 (.agg #[.int .u32 a1, .int .u32 a2, .int .u32 a3, .int .i64 a4, .int .i64 a5, .int .i64 a6]) 1).run Try.prog w = .ok (.int .u32 a2) w ∧ (Instr.field 34 (.agg #[.int .u32 a1, .int .u32 a2, .int .u32 a3, .int .i64 a4, .int .i64 a5, .int .i64 a6]) 5).run Try.prog w = .ok (.int .i64 a6) w ∧ (Instr.field 34 (.agg #[.int .u32 a1, .int .u32 a2, .int .u32 a3, .int .i64 a4, .int .i64 a5, .int .i64 a6]) 4).run Try.prog w = .ok (.int .i64 a5) w ∧ (Instr.field 34 (.agg #[.int .u32 a1, .int .u32 a2, .int .u32 a3, .int .i64 a4, .int .i64 a5, .int .i64 a6]) 3).run Try.prog w = .ok (.int .i64 a4) w ∧ (Instr.field 34 (.agg #[.int .u32 a1, .int .u32 a2, .int .u32 a3, .int .i64 a4, .int .i64 a5, .int .i64 a6]) 0).run Try.prog w = .ok (.int .u32 a1) w := ⟨by kernel_rfl, by kernel_rfl, by kernel_rfl, by kernel_rfl, by kernel_rfl⟩
set_option maxHeartbeats 8000000 in
set_option maxRecDepth 100000 in
theorem recv_awake (w : World) : Calls Try.prog 7 #[] w fun e w' => e = .returned (.bool true) ∧ Below w.heap.size w w' := by
  go_enter Try.func7, Try.ntmps7
  go_wp2_with fail
  refine (rcv_new 0 8 w (by decide) (by decide)).mono ?_
  rintro e w1 ⟨gr, mb, rfl, h1⟩
  have HD1 : Hid (Calls Try.prog 11 #[.pointer (some ⟨gr, 0, none⟩), .int .u32 1, .string ⟨#[98]⟩] w1 fun e w' => ∃ A c inV unV, e = .returned (.slice A 0 c) ∧ RcvAt w w' gr mb 0 8 0 2 8 [(1, ⟨#[98]⟩)] 1 inV [] unV [(0, 1)]) := by
    refine (rcv_dataYes h1 (by decide) (by decide) 1 (by decide) ⟨#[98]⟩ (by simp) (by simp) (by simp) (by decide) (by decide) (by simp) (by decide)).mono ?_
    rintro e w' ⟨v, bs', next', out, inV', unV', rfl, hov, hdl, hni, hr, hc⟩
    obtain ⟨rfl, rfl, rfl⟩ := hdl.none (by decide)
    obtain ⟨A, c, rfl⟩ := ownForm hov
    exact ⟨A, c, inV', unV', rfl, hr⟩
  clear h1
  go_wp2_with fail
  refine HD1.out.mono ?_
  rintro e w2 ⟨A, c, inV, unV, rfl, h2⟩
  have H2 := Lib.hid h2
  have HV : Hid (∀ W, RcvAt w W gr mb 0 8 0 2 8 [(1, ⟨#[98]⟩)] 1 inV [] unV [(0, 1)] → Calls Try.prog 14 #[.pointer (some ⟨gr, 0, none⟩)] W fun e w' => e = .returned (.agg #[.int .u32 0, .int .u32 2, .int .u32 8, .int .i64 1, .int .i64 0, .int .i64 1]) ∧ RcvAt w w' gr mb 0 8 0 2 8 [(1, ⟨#[98]⟩)] 1 inV [] unV [(0, 1)]) := fun W hW =>
    (rcv_vars hW (by decide) (by decide) (by decide) (by decide)).mono fun e w' ⟨he, hb⟩ => ⟨he, hW.below hb⟩
  have hf := rvars_f 0 2 8 1 0 1
  have hf2 := fun W => (hf W).1
  have hf6 := fun W => (hf W).2.1
  clear h2 HD1 hf
  go_wp2_with fail
  refine (HV.out _ H2.out).mono ?_
  rintro e w3 ⟨rfl, h3⟩
  have H3 := Lib.hid h3
  clear h3 H2
  go_wp2_with fail
  refine (HV.out _ H3.out).mono ?_
  rintro e w4 ⟨rfl, h4⟩
  have H4 := Lib.hid h4
  clear h4 H3 HV
  go_wp2_with fail
  refine (rcv_gap H4.out (by decide) (by decide) (by decide) (by decide) (by decide) (by decide) (by intro x hx; simp at hx; subst hx; decide) (by decide) (by intro x hx; simp at hx; subst hx; decide)).mono ?_
  rintro e w5 ho
  obtain ⟨A5, c5, unV5, rfl, hl5, hm5, h5, hc5⟩ : ∃ A5 c5 unV5, e = .returned (.tuple #[.slice A5 2 c5, .int .u32 0, .int .u32 8, .bool true]) ∧ NumRow w5 (.slice A5 2 c5) [0, 1] ∧ (∀ j, (Value.slice A5 2 c5).ownBlock = some j → ¬ Mine gr mb inV unV5 j) ∧ RcvAt w w5 gr mb 0 8 0 2 8 [(1, ⟨#[98]⟩)] 1 inV [] unV5 [] ∧ RCh w4 w5 (Mine gr mb inV unV) (Mine gr mb inV unV5) := by
    rcases ho with ⟨_, _, hfu, _⟩ | ⟨pre, x, r, a, b, u, unV5, hun, hpf, hfo, rfl, hn, hfr, hr, hc⟩
    · have := hfu (0, 1) (by simp) 0 (by decide) (by decide)
      simp at this
    · obtain ⟨rfl, rfl, rfl⟩ : pre = [] ∧ x = (0, 1) ∧ r = [] := by
        cases pre with
        | nil => simp at hun; exact ⟨rfl, hun.1.symm, hun.2⟩
        | cons y p => simp at hun
      obtain ⟨f1, f2, f3, _, _, _⟩ := hfo
      simp only at f1 f3
      obtain ⟨rfl, rfl⟩ : a = 0 ∧ b = 1 := by omega
      obtain ⟨A5, c5, rfl, _⟩ := id hn
      exact ⟨A5, c5, unV5, rfl, hn, hfr, hr, hc⟩
  have HD2 : Hid (Calls Try.prog 11 #[.pointer (some ⟨gr, 0, none⟩), .int .u32 0, .string ⟨#[97]⟩] w5 fun e w' => ∃ A c, e = .returned (.slice A 2 c) ∧ w'.ownsRow w.heap.size 9 1 (.slice A 2 c) 2 [.string ⟨#[97]⟩, .string ⟨#[98]⟩] ∧ NumRow w' (.slice A5 2 c5) [0, 1] ∧ Below w.heap.size w w') := by
    refine (rcv_dataYes h5 (by decide) (by decide) 0 (by decide) ⟨#[97]⟩ (by simp) (by simp) (by simp) (by decide) (by decide) (by simp [placeOf]) (by decide)).mono ?_
    rintro e w' ⟨v, bs', next', out, inV', unV', rfl, hov, hdl, hni, hr, hc⟩
    have ho : out = [⟨#[97]⟩, ⟨#[98]⟩] := hdl.two hni
    subst ho
    obtain ⟨A, c, rfl⟩ := ownForm hov
    refine ⟨A, c, rfl, hov, ?_, hr.bel⟩
    obtain ⟨A', c', e1, e2, e3⟩ := hl5
    rw [Value.slice.injEq] at e1
    obtain ⟨rfl, _, rfl⟩ := e1
    refine ⟨A5, c5, rfl, e2, .inr ?_⟩
    obtain ⟨b, off, rfl, hb, hx⟩ := e3.resolve_left (by simp)
    refine ⟨b, off, rfl, Nat.lt_of_lt_of_le hb hc.size, fun i x hi => ?_⟩
    rw [World.cell?_of_block (w := w5) (hc.keep b hb (hm5 b rfl))]
    exact hx i x hi
  clear hl5 hm5 h5 hc5 ho H4 hf2 hf6
  go_wp2_with fail
  refine HD2.out.mono ?_
  rintro e w6 ⟨A6, c6, rfl, hown, hnr, hb6⟩
  obtain ⟨_, _, e1, _, e3⟩ := hnr
  rw [Value.slice.injEq] at e1
  obtain ⟨rfl, _, rfl⟩ := e1
  obtain ⟨b, off, rfl, hb, hx⟩ := e3.resolve_left (by simp)
  have x0 := hx 0 _ rfl
  have x1 := hx 1 _ rfl
  obtain ⟨g6, rfl⟩ : ∃ g, A6 = some ⟨g, 0, none⟩ := by
    rcases hown.2 with ⟨e, _⟩ | ⟨g, cap, cur, e, _⟩
    · cases e
    · rw [Value.slice.injEq] at e
      exact ⟨g, e.1⟩
  have y1 := hown.cells (g := g6) rfl 1 _ rfl
  rw [Addr.add_lit] at y1
  simp only [Nat.add_zero, Nat.zero_add] at x0 x1 y1
  clear hown hx e3 hb HD2
  go_wp2_with fail
  go_ret
  exact ⟨rfl, hb6⟩
end Go.Proofs.Ytgfdgcpbmjhmmaa
