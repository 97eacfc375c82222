/- gaps.Set. Conditions: the row lies as a row does, its numbers fit their kind. -/
import Derived.Test.YtgfdgcpbmjhmmaaGapEach
import Derived.Test.YtgfdgcpbmjhmmaaSpanEnds
import Derived.Deep.RegionLaw
namespace Go.Proofs.Ytgfdgcpbmjhmmaa
open Go.RowKit Sp
set_option linter.unusedVariables false

theorem box_other {w : World} {b : Nat} {o : Obj} (h : w.heap[b]? = some o) {a : Addr} (ha : a.block ≠ b) (u : Value) : (w.setCell a u).heap[b]? = some o := by
  show (w.heap.modify a.block _)[b]? = _
  rw [Array.getElem?_modify, if_neg ha, h]

/-- What the closure of Set leaves. -/
def SetPost (w : World) (Bs B gs gb : Nat) (b : Int) (acc : List Span) (e : Ending) (w' : World) : Prop :=
  e = .returned (.tuple #[]) ∧ ∃ u', w'.heap[gs]? = some (.cells #[u'] 52 (0, 0)) ∧ w'.heap[gb]? = some (.cells #[.int .u32 b] 28 (0, 0)) ∧ w'.ownsRow B 59 2 u' acc.length (encs acc) ∧ Below Bs w w'

theorem set_end {w w4 : World} {Bs B gs gb g4 k4 : Nat} {b p q : Int} {acc NA : List Span} {u : Value} (hgs : Bs ≤ gs ∧ gs < B) (hgb : Bs ≤ gb ∧ gb < B) (hne : gs ≠ gb)
    (hh : w.heap[gs]? = some (.cells #[u] 52 (0, 0))) (hb : w.heap[gb]? = some (.cells #[.int .u32 b] 28 (0, 0))) (hn : acc ++ [(p, q)] = NA) (hB : Below B w w4)
    (ho : w4.ownsRow B 59 2 (.slice (some ⟨g4, 0, none⟩) (acc.length + 1) k4) (acc.length + 1) (encs acc ++ [.int .i64 p, .int .i64 q])) (hg : B ≤ g4) :
    SetPost w Bs B gs gb b NA (.returned (.tuple #[])) (w4.setCell ⟨gs, 0, none⟩ (.slice (some ⟨g4, 0, none⟩) (acc.length + 1) k4)) := by
  refine ⟨rfl, _, one_setCell ((hB.block gs hgs.2).trans hh), box_other ((hB.block gb hgb.2).trans hb) hne _, ?_, (hB.mono (by omega)).setCell (p := ⟨gs, 0, none⟩) hgs.1 _⟩
  rw [← hn, encs_append, List.length_append]
  exact ownsRow_setCell_other ho (a := ⟨gs, 0, none⟩) (by simp [Value.ownBlock]; omega) _

end Go.Proofs.Ytgfdgcpbmjhmmaa
