/- The law's own fixed fact of layer 5. No conditions. -/
import Derived.Test.YtgphgbajgjddfaaDoorFrameMath
import Derived.Laws.StructEq
namespace Go.Proofs.YtgphgbajgjddfaaDoor
open Go.RowKit Go.Shelf
set_option linter.unusedVariables false
set_option linter.unusedSimpArgs false

theorem eqFrame (u : Int) (d : ByteArray) (w : World) : Sem.run Tryd.prog (binOp .eql 44 (.agg #[.int .u8 u, .string d]) (.agg #[.int .u8 u, .string d])) w = .ok (.bool true) w := by
  have hS : Tryd.prog.underlying 44 = some (.struct (Tryd.prog.fieldsOf 44)) := by kernel_rfl
  have hp : Tryd.prog.stoodInHeld 44 = false := by kernel_rfl
  rw [run_eql_struct, show (10000 : Nat) = 9999 + 1 from rfl, run_equalIn_agg w 9999 44 _ _ hS hp]
  simp only [Program.fieldsOf, Tryd.underlying44]
  have u3 := Tryd.underlying5
  have a3 := Tryd.isAgg5
  have z3 := Tryd.sizeOf5
  have u9 := Tryd.underlying9
  have a9 := Tryd.isAgg9
  have z9 := Tryd.sizeOf9
  go_simp

end Go.Proofs.YtgphgbajgjddfaaDoor
