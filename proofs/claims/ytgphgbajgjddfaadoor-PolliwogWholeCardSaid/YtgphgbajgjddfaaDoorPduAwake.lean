/- The law's own fixed fact of layer 6. Conditions: the variables lie as their initialisers leave them. -/
import Derived.Test.YtgphgbajgjddfaaDoorPduParse
namespace Go.Proofs.YtgphgbajgjddfaaDoor
open Go.RowKit
set_option linter.unusedVariables false
set_option linter.unusedSimpArgs false

def abB : ByteArray := ⟨#[97, 98]⟩
theorem awake_check : checkV 8 0 5 0 0 [] false abB = 0 := by
  have h1 : tooBigV 8 0 abB = false := by decide
  have h2 : numbersV 8 0 5 0 0 = true := by decide
  have h3 : listFitsV 8 [] = true := by decide
  have h4 : dataV 8 false abB = true := by unfold dataV; rw [show decide (0 < most 8) = true from rfl, Bool.or_true]; rfl
  unfold checkV
  rw [show ([] : List Int).length = 0 from rfl, h1, h2, h3, h4]
  rfl
theorem awake_bytes : pduB 8 0 5 0 0 [] false abB = ⟨#[97, 98, 0, 0, 136, 0, 0, 5]⟩ := by rfl

end Go.Proofs.YtgphgbajgjddfaaDoor
