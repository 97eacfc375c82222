/- The contract of the document's own Check of a unit. Conditions: its row lies as a row does. -/
import Derived.Test.YtgphgbajgjddfaaDoorPduRefBox
namespace Go.Proofs.YtgphgbajgjddfaaDoor
open Go.RowKit
set_option linter.unusedVariables false
set_option linter.unusedSimpArgs false
end Go.Proofs.YtgphgbajgjddfaaDoor
