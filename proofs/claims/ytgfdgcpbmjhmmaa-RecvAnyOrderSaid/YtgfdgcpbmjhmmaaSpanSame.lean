/- The contract of span's Same. Conditions: the rows lie as rows do. -/
import Derived.Test.YtgfdgcpbmjhmmaaSpanFns
import Derived.Laws.StructEq
namespace Go.Proofs.Ytgfdgcpbmjhmmaa
open Go.RowKit Sp Go.Shelf
set_option linter.unusedVariables false

def eqSpan (x y : Span) : Bool := x.1 == y.1 && x.2 == y.2
theorem eqSpan_iff (x y : Span) : eqSpan x y = true ↔ x = y := by
  unfold eqSpan
  cases x; cases y; simp
theorem allEq_span : ∀ (s t : List Span), Lib.allEq eqSpan s t = decide (s = t)
  | [], [] => rfl
  | [], _ :: _ => rfl
  | _ :: _, [] => rfl
  | x :: s, y :: t => by
    simp only [Lib.allEq]
    rw [allEq_span s t]
    by_cases h : x = y
    · rw [(eqSpan_iff x y).2 h]; subst h; simp
    · rw [show eqSpan x y = false from by rw [← Bool.not_eq_true, eqSpan_iff]; exact h]; simp [h]
theorem neqSpan : NeqAt Try.prog 59 (fun x => .agg (encS x).toArray) eqSpan := by
  refine ⟨fun x y w => ?_, GuardAt.agg _ (by kernel_rfl)⟩
  have u3 := Try.underlying3
  have a3 := Try.isAgg3
  have z3 := Try.sizeOf3
  have hS : Try.prog.underlying 59 = some (.struct (Try.prog.fieldsOf 59)) := by kernel_rfl
  have hp : Try.prog.stoodInHeld 59 = false := by kernel_rfl
  simp only [encS, eqSpan]
  rw [run_neq_struct, show (10000 : Nat) = 9999 + 1 from rfl, run_equalIn_agg w 9999 59 _ _ hS hp]
  simp only [Program.fieldsOf, Try.underlying59]
  go_simp
  by_cases h1 : x.fst = y.fst <;> by_cases h2 : x.snd = y.snd <;> simp [h1, h2]

def EqOut (s t : List Span) (w : World) (e : Ending) (w' : World) : Prop := e = .returned (.bool (decide (s = t))) ∧ ∃ q, w' = w.drewN q

end Go.Proofs.Ytgfdgcpbmjhmmaa
