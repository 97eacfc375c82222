/- Off what a card's row lists: the variable letters lies as its initialiser leaves it. No conditions. -/
import Derived.Test.YtoacfopekgfbcaaDoorRulRef2
import Derived.ProofKit
import Derived.OpenShut
import Derived.ChangeArms
import Derived.LaidMore
import Derived.LaidSub
import Derived.Lay
import Derived.ChangeBears2
import Derived.MakeChecks
namespace Go.Proofs.YtoacfopekgfbcaaDoor
open Go.ChangeShapes Go.WideShapes Go.ChangeAt Go.RowKit
set_option linter.unusedVariables false

def ruLit : DataW Unit → Value
  | .lit (.int k n) => .int k n
  | _ => undef
def ruParts : DataW Unit → List (DataW Unit)
  | .agg l => l
  | _ => []
theorem let_vals (r : Nat) (hr : r < 16) : ruLit ((ruParts Rows.laid_polliwog_rules_letters).getD r .nil) = .int .u8 (letV r) := by
  have hc : r = 0 ∨ r = 1 ∨ r = 2 ∨ r = 3 ∨ r = 4 ∨ r = 5 ∨ r = 6 ∨ r = 7 ∨ r = 8 ∨ r = 9 ∨ r = 10 ∨ r = 11 ∨ r = 12 ∨ r = 13 ∨ r = 14 ∨ r = 15 := by omega
  rcases hc with rfl | rfl | rfl | rfl | rfl | rfl | rfl | rfl | rfl | rfl | rfl | rfl | rfl | rfl | rfl | rfl <;> rfl
theorem let_cell {W : World} (h : laidMetH Tryd.prog [("polliwog/rules.letters", Rows.laid_polliwog_rules_letters)] W) (r : Nat) (hr : r < 16) : W.cell? ⟨0, r, none⟩ = some (.int .u8 (letV r)) := by
  rw [MakeChecks.laidMetH_plain _ _ _ (by kernel_rfl)] at h
  obtain ⟨ps, ⟨g, t, cs, fuel, p, q, hg, ht, hv, hd, _, _⟩, _, _⟩ := h
  obtain rfl := Option.some.inj ((show Tryd.prog.globalNamed "polliwog/rules.letters" = some 0 by kernel_rfl).symm.trans hg)
  obtain rfl := Option.some.inj ((show (Tryd.prog.globals[0]?).map (·.type) = some 36 by kernel_rfl).symm.trans ht)
  obtain ⟨xs, m, _, ex, _, hl, hel⟩ := DataW.trod_array Tryd.underlying36 hd
  have hE := hel r hr
  rw [show Tryd.prog.cellsOf 5 = 1 by kernel_rfl, Nat.mul_one, List.getElem?_eq_getElem (by omega)] at hE
  obtain ⟨z, e1, ez, _⟩ := DataW.trod_int Tryd.underlying5 hE
  have e3 : xs.map (·.1) = ruParts Rows.laid_polliwog_rules_letters := congrArg ruParts (Prod.mk.inj ex).1.symm
  have e4 : (xs[r]).1 = (ruParts Rows.laid_polliwog_rules_letters).getD r .nil := by
    rw [← e3, List.getD_eq_getElem?_getD, List.getElem?_map, List.getElem?_eq_getElem (by omega)]; rfl
  have e5 : Value.int .u8 z = .int .u8 (letV r) := by
    rw [← let_vals r hr, ← e4, ez]; rfl
  rw [e5] at e1
  rw [World.var?_cell hg hv r]
  have h0 : ((cs.toList.drop r).take 1)[0]? = some (.int .u8 (letV r)) := by rw [e1]; rfl
  simpa using h0
theorem let_in {l : List (String × DataW Unit)} {W : World} (h : laidMetH Tryd.prog l W) (hf : l.filter (fun x => x.1 == "polliwog/rules.letters") = [("polliwog/rules.letters", Rows.laid_polliwog_rules_letters)]) : LetIn W := fun r hr => by
  have h2 := h.filter (fun x => x.1 == "polliwog/rules.letters")
  rw [hf] at h2
  exact let_cell h2 r hr
end Go.Proofs.YtoacfopekgfbcaaDoor
