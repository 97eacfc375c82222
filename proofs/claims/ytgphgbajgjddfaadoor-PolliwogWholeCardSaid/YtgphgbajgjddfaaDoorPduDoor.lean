/- Off what a card's row lists: pdu's variables lie as their initialisers leave them. No conditions. -/
import Derived.Test.YtgphgbajgjddfaaDoorPduFns
namespace Go.Proofs.YtgphgbajgjddfaaDoor
open Go.ChangeShapes Go.WideShapes Go.ChangeAt Go.RowKit
set_option linter.unusedVariables false

theorem shapes_in {l : List (String × DataW Unit)} {W : World} (h : laidMetH Tryd.prog l W) (hf : l.filter (fun x => x.1 == "polliwog/pdu.shapes") = [("polliwog/pdu.shapes", Rows.laid_polliwog_pdu_shapes)]) : ShapesIn W := fun r j hr hj => by
  have h2 := h.filter (fun x => x.1 == "polliwog/pdu.shapes")
  rw [hf] at h2
  exact shape_cell h2 r j hr hj
end Go.Proofs.YtgphgbajgjddfaaDoor
