/- The law's own fixed fact of layer 5. No conditions. -/
import Derived.Test.YtnocckgbcjienabDoorFrameMath
import Derived.Laws.StructEq
namespace Go.Proofs.YtnocckgbcjienabDoor
open Go.RowKit Go.Shelf
set_option linter.unusedVariables false
set_option linter.unusedSimpArgs false

theorem eqFrame (u : Int) (d : ByteArray) (w : World) : Sem.run Tryd.prog (binOp .eql 60 (.agg #[.int .u8 u, .string d]) (.agg #[.int .u8 u, .string d])) w = .ok (.bool true) w := by
  have hS : Tryd.prog.underlying 60 = some (.struct (Tryd.prog.fieldsOf 60)) := by kernel_rfl
  have hp : Tryd.prog.stoodInHeld 60 = false := by kernel_rfl
  rw [run_eql_struct, show (10000 : Nat) = 9999 + 1 from rfl, run_equalIn_agg w 9999 60 _ _ hS hp]
  simp only [Program.fieldsOf, Tryd.underlying60]
  have u3 := Tryd.underlying5
  have a3 := Tryd.isAgg5
  have z3 := Tryd.sizeOf5
  have u9 := Tryd.underlying9
  have a9 := Tryd.isAgg9
  have z9 := Tryd.sizeOf9
  go_simp

end Go.Proofs.YtnocckgbcjienabDoor
