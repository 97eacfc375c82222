/- The contract of span's Same. Conditions: the rows lie as rows do. -/
import Derived.Test.YtimmineopkmdmaaSpanFns
import Derived.Laws.StructEq
namespace Go.Proofs.Ytimmineopkmdmaa
open Go.RowKit Sp Go.Shelf
set_option linter.unusedVariables false

def eqSpan (x y : Span) : Bool := x.1 == y.1 && x.2 == y.2
theorem eqSpan_iff (x y : Span) : eqSpan x y = true ↔ x = y := by
  unfold eqSpan
  cases x; cases y; simp
theorem allEq_span : ∀ (s t : List Span), Lib.allEq eqSpan s t = decide (s = t)
  | [], [] => rfl
  | [], _ :: _ => rfl
  | _ :: _, [] => rfl
  | x :: s, y :: t => by
    simp only [Lib.allEq]
    rw [allEq_span s t]
    by_cases h : x = y
    · rw [(eqSpan_iff x y).2 h]; subst h; simp
    · rw [show eqSpan x y = false from by rw [← Bool.not_eq_true, eqSpan_iff]; exact h]; simp [h]
theorem neqSpan : NeqAt Try.prog 35 (fun x => .agg (encS x).toArray) eqSpan := by
  refine ⟨fun x y w => ?_, GuardAt.agg _ (by kernel_rfl)⟩
  have u3 := Try.underlying3
  have a3 := Try.isAgg3
  have z3 := Try.sizeOf3
  have hS : Try.prog.underlying 35 = some (.struct (Try.prog.fieldsOf 35)) := by kernel_rfl
  have hp : Try.prog.stoodInHeld 35 = false := by kernel_rfl
  simp only [encS, eqSpan]
  rw [run_neq_struct, show (10000 : Nat) = 9999 + 1 from rfl, run_equalIn_agg w 9999 35 _ _ hS hp]
  simp only [Program.fieldsOf, Try.underlying35]
  go_simp
  by_cases h1 : x.fst = y.fst <;> by_cases h2 : x.snd = y.snd <;> simp [h1, h2]

def EqOut (s t : List Span) (w : World) (e : Ending) (w' : World) : Prop := e = .returned (.bool (decide (s = t))) ∧ ∃ q, w' = w.drewN q

set_option maxHeartbeats 1000000 in
set_option maxRecDepth 100000 in
theorem equalS (s t : List Span) (u v : Value) (w : World) (hu : SpRow w u s) (hv : SpRow w v t) : Calls Try.prog 36 #[u, v] w (EqOut s t w) := by
  obtain ⟨A, ca, rfl, h1, h2, h3, hc⟩ := hu
  obtain ⟨B, cb, rfl, k1, k2, k3, kc⟩ := hv
  by_cases hne : s = [] ∨ t = []
  · by_cases hl : s.length = t.length
    · have hs : s = [] := by rcases hne with h | h; exact h; subst h; simpa using hl
      have ht : t = [] := by rcases hne with h | h; subst h; simpa using hl.symm; exact h
      subst hs ht
      clear hc kc
      go_enter Try.func36, Try.ntmps36
      go_wp2_with fail
      go_loopw [13] (fun i wr => i = .int .i64 0 ∧ wr = w) (fun i _ => 0)
      case atStart => exact ⟨rfl, rfl⟩
      case round =>
        obtain ⟨rfl, rfl⟩ := hrel
        go_wp2_with fail
        go_ret
        exact ⟨rfl, 0, rfl⟩
    · have hlb : ((s.length : Int) != (t.length : Int)) = true := by rw [bne_iff_ne]; omega
      have HD : Hid (decide (s = t) = false) := by show _ = _; rw [decide_eq_false_iff_not]; intro e; exact hl (by rw [e])
      clear hc kc hne hl
      go_enter Try.func36, Try.ntmps36
      go_wp2_with fail
      go_ret
      exact ⟨by rw [HD.out]; rfl, 0, rfl⟩
  · obtain ⟨b, off, rfl, hbl, hcc⟩ := hc.resolve_left (fun e => hne (.inl e))
    obtain ⟨b', off', rfl, hbl', kcc⟩ := kc.resolve_left (fun e => hne (.inr e))
    have hcon := AnyQ.slices_Equal Try.layEqual 2 Try.isAgg35 Try.sizeOf35 encS (fun _ => rfl) eqSpan neqSpan b off s.length ca b' off' t.length cb s t w (Nat.le_refl _) (Nat.le_refl _) (by omega) (by omega)
      (fun j hj i v hi => by
        rw [getElem!_pos s j hj] at hi
        obtain ⟨c0, c1⟩ := hcc j _ (List.getElem?_eq_getElem hj)
        match i with
        | 0 => simp [encS] at hi; subst hi; exact c0
        | 1 => simp [encS] at hi; subst hi; exact c1
        | i + 2 => simp [encS] at hi)
      (fun j hj i v hi => by
        rw [getElem!_pos t j hj] at hi
        obtain ⟨c0, c1⟩ := kcc j _ (List.getElem?_eq_getElem hj)
        match i with
        | 0 => simp [encS] at hi; subst hi; exact c0
        | 1 => simp [encS] at hi; subst hi; exact c1
        | i + 2 => simp [encS] at hi)
    rw [List.take_of_length_le (Nat.le_refl _), List.take_of_length_le (Nat.le_refl _), allEq_span] at hcon
    exact hcon

theorem same (s t : List Span) (u v : Value) (w : World) (hu : SpRow w u s) (hv : SpRow w v t) : Calls Try.prog 15 #[u, v] w (EqOut s t w) := by
  have hcon := Lib.hid (equalS s t u v w hu hv)
  clear hu hv
  go_enter Try.func15, Try.ntmps15
  go_wp2_with (go_at_call 36; refine hcon.out.mono ?_; rintro e w' ⟨rfl, q, rfl⟩)
  go_ret
  exact ⟨rfl, q, rfl⟩
end Go.Proofs.Ytimmineopkmdmaa
