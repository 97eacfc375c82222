/- The walk of the law FrameBack. Conditions: the user is a byte, the text no longer than one may be. -/
import Derived.Test.YtgphgbajgjddfaaDoorFrameRef
namespace Go.Proofs.YtgphgbajgjddfaaDoor
open Go.RowKit Go.Shelf
set_option linter.unusedVariables false
set_option linter.unusedSimpArgs false

theorem guardFrame (op : BinOp) (x y : Operand) (a c : Int) (b d : ByteArray) (w : World) : Sem.run Tryd.prog (eqGuard op 44 x y (.agg #[.int .u8 a, .string b]) (.agg #[.int .u8 c, .string d])) w = .ok () w := run_eqGuard_agg w op _ x y _ _ (by kernel_rfl)

end Go.Proofs.YtgphgbajgjddfaaDoor
