/- The contract of the document's own bytes of a frame. Conditions: the data are not longer than a frame's may be. -/
import Derived.Test.YtgphgbajgjddfaaDoorFrameAwake
namespace Go.Proofs.YtgphgbajgjddfaaDoor
open Go.RowKit Go.Shelf
set_option linter.unusedVariables false
set_option linter.unusedSimpArgs false

theorem conv1 (W : World) (a : Int) :
    Sem.run Tryd.prog (convert 63 9 (.slice (some ⟨W.heap.size, 0, none⟩) 1 1)) (W.alloc (.cells #[.int .u8 a] 5)) = .ok (.string (strOfNums [a])) (W.alloc (.cells #[.int .u8 a] 5)) := by
  refine run_convert_bytes_arg (P := Tryd.prog) _ 63 5 Tryd.underlying63 Tryd.underlying5 W.heap.size 0 1 1 [a] rfl ?_ 9 Tryd.underlying9
  intro i hi
  obtain rfl : i = 0 := by omega
  simp
theorem zeros_succ (n : Nat) : zeros n ++ strOfNums [0] = zeros (n + 1) := by
  apply nums_inj
  rw [nums_append, nums_zeros, nums_zeros, nums_strOfNums]
  rw [List.replicate_succ']
  rfl

end Go.Proofs.YtgphgbajgjddfaaDoor
