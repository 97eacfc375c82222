/- What package pdu's two variables hold: their cells, off the laid data. Conditions: the variables lie as their initialisers leave them. -/
import Derived.Test.YtgphgbajgjddfaaDoorRows
import Derived.Test.YtgphgbajgjddfaaDoorStrRow
import Derived.ProofKit
import Derived.OpenShut
import Derived.ChangeArms
import Derived.LaidMore
import Derived.LaidSub
import Derived.Lay
import Derived.ChangeBears2
import Derived.MakeChecks
namespace Go.Proofs.YtgphgbajgjddfaaDoor
open Go.ChangeShapes Go.WideShapes Go.ChangeAt Go.RowKit
set_option linter.unusedVariables false

def litV : DataW Unit → Value
  | .lit (.int k n) => .int k n
  | .lit (.bool b) => .bool b
  | .lit (.string s) => .string ⟨s.toArray⟩
  | _ => undef
def partsOf : DataW Unit → List (DataW Unit)
  | .agg l => l
  | _ => []
def shapeV (r j : Nat) : Value := litV ((partsOf ((partsOf Rows.laid_polliwog_pdu_shapes).getD r .nil)).getD j .nil)

theorem scalar_lit {enc : TypeId × Value → Unit} {w : World} {base : Nat} {spare : Nat → Bool} {held : Bool} {fuel : Nat} {t : TypeId} {cs : List Value} {x : DataW Unit × List MemPlace}
    (hs : Tryd.prog.underlying t = some .bool ∨ (∃ k, Tryd.prog.underlying t = some (.int k)) ∨ Tryd.prog.underlying t = some .string) (h : DataW.trod enc Tryd.prog w base spare held fuel t cs = some x) : cs = [litV x.1] := by
  rcases hs with hs | ⟨k, hs⟩ | hs
  · obtain ⟨b, rfl, rfl⟩ := DataW.trod_bool hs h; rfl
  · obtain ⟨n, rfl, rfl, _⟩ := DataW.trod_int hs h; rfl
  · obtain ⟨s, rfl, rfl, _⟩ := DataW.trod_string hs h; rfl

theorem shape_cell {W : World} (h : laidMetH Tryd.prog [("polliwog/pdu.shapes", Rows.laid_polliwog_pdu_shapes)] W) (r j : Nat) (hr : r < 16) (hj : j < 7) : W.cell? ⟨0, r * 7 + j, none⟩ = some (shapeV r j) := by
  rw [MakeChecks.laidMetH_plain _ _ _ (by kernel_rfl)] at h
  obtain ⟨ps, ⟨g, t, cs, fuel, p, q, hg, ht, hv, hd, _, _⟩, _, _⟩ := h
  obtain rfl := Option.some.inj ((show Tryd.prog.globalNamed "polliwog/pdu.shapes" = some 0 by kernel_rfl).symm.trans hg)
  obtain rfl := Option.some.inj ((show (Tryd.prog.globals[0]?).map (·.type) = some 70 by kernel_rfl).symm.trans ht)
  obtain ⟨xs, m, _, ex, _, hl, hel⟩ := DataW.trod_array Tryd.underlying70 hd
  have hE := hel r hr
  rw [show Tryd.prog.cellsOf 69 = 7 by kernel_rfl, List.getElem?_eq_getElem (by omega)] at hE
  obtain ⟨ys, m2, _, ey, _, hl2, hf⟩ := DataW.trod_struct Tryd.underlying69 hE
  have e3 : xs.map (·.1) = partsOf Rows.laid_polliwog_pdu_shapes := congrArg partsOf (Prod.mk.inj ex).1.symm
  have e4 : (xs[r]).1 = (partsOf Rows.laid_polliwog_pdu_shapes).getD r .nil := by
    rw [← e3, List.getD_eq_getElem?_getD, List.getElem?_map, List.getElem?_eq_getElem (by omega)]; rfl
  have e5 : ys.map (·.1) = partsOf (xs[r]).1 := by rw [ey]; rfl
  have hsz : ys.length = 7 := hl2
  have e6 : (ys[j]).1 = (partsOf ((partsOf Rows.laid_polliwog_pdu_shapes).getD r .nil)).getD j .nil := by
    rw [← e4, ← e5, List.getD_eq_getElem?_getD, List.getElem?_map, List.getElem?_eq_getElem (by omega)]; rfl
  have e7 : ((((cs.toList.drop (r * 7)).take 7).drop j).take 1) = [litV (ys[j]).1] := by
    have hy : ys[j]? = some ys[j] := List.getElem?_eq_getElem (by omega)
    have hc : j = 0 ∨ j = 1 ∨ j = 2 ∨ j = 3 ∨ j = 4 ∨ j = 5 ∨ j = 6 := by omega
    rcases hc with rfl | rfl | rfl | rfl | rfl | rfl | rfl
    · have hG : DataW.trod (fun _ => ()) Tryd.prog W 0 (fun _ => true) false m2 4 ((((cs.toList.drop (r * 7)).take 7).drop 0).take (Tryd.prog.cellsOf 4)) = ys[0]? := hf 0 _ rfl
      have hF := hG.trans hy
      rw [show Tryd.prog.cellsOf 4 = 1 by kernel_rfl] at hF
      exact scalar_lit (.inl Tryd.underlying4) hF
    · have hG : DataW.trod (fun _ => ()) Tryd.prog W 0 (fun _ => true) false m2 4 ((((cs.toList.drop (r * 7)).take 7).drop 1).take (Tryd.prog.cellsOf 4)) = ys[1]? := hf 1 _ rfl
      have hF := hG.trans hy
      rw [show Tryd.prog.cellsOf 4 = 1 by kernel_rfl] at hF
      exact scalar_lit (.inl Tryd.underlying4) hF
    · have hG : DataW.trod (fun _ => ()) Tryd.prog W 0 (fun _ => true) false m2 4 ((((cs.toList.drop (r * 7)).take 7).drop 2).take (Tryd.prog.cellsOf 4)) = ys[2]? := hf 2 _ rfl
      have hF := hG.trans hy
      rw [show Tryd.prog.cellsOf 4 = 1 by kernel_rfl] at hF
      exact scalar_lit (.inl Tryd.underlying4) hF
    · have hG : DataW.trod (fun _ => ()) Tryd.prog W 0 (fun _ => true) false m2 4 ((((cs.toList.drop (r * 7)).take 7).drop 3).take (Tryd.prog.cellsOf 4)) = ys[3]? := hf 3 _ rfl
      have hF := hG.trans hy
      rw [show Tryd.prog.cellsOf 4 = 1 by kernel_rfl] at hF
      exact scalar_lit (.inl Tryd.underlying4) hF
    · have hG : DataW.trod (fun _ => ()) Tryd.prog W 0 (fun _ => true) false m2 4 ((((cs.toList.drop (r * 7)).take 7).drop 4).take (Tryd.prog.cellsOf 4)) = ys[4]? := hf 4 _ rfl
      have hF := hG.trans hy
      rw [show Tryd.prog.cellsOf 4 = 1 by kernel_rfl] at hF
      exact scalar_lit (.inl Tryd.underlying4) hF
    · have hG : DataW.trod (fun _ => ()) Tryd.prog W 0 (fun _ => true) false m2 3 ((((cs.toList.drop (r * 7)).take 7).drop 5).take (Tryd.prog.cellsOf 3)) = ys[5]? := hf 5 _ rfl
      have hF := hG.trans hy
      rw [show Tryd.prog.cellsOf 3 = 1 by kernel_rfl] at hF
      exact scalar_lit (.inr (.inl ⟨_, Tryd.underlying3⟩)) hF
    · have hG : DataW.trod (fun _ => ()) Tryd.prog W 0 (fun _ => true) false m2 3 ((((cs.toList.drop (r * 7)).take 7).drop 6).take (Tryd.prog.cellsOf 3)) = ys[6]? := hf 6 _ rfl
      have hF := hG.trans hy
      rw [show Tryd.prog.cellsOf 3 = 1 by kernel_rfl] at hF
      exact scalar_lit (.inr (.inl ⟨_, Tryd.underlying3⟩)) hF
  rw [e6] at e7
  rw [World.var?_cell hg hv (r * 7 + j)]
  have h0 : ((((cs.toList.drop (r * 7)).take 7).drop j).take 1)[0]? = some (shapeV r j) := by rw [e7]; rfl
  rw [List.getElem?_take_of_lt (by omega), List.getElem?_drop, Nat.add_zero, List.getElem?_take_of_lt hj, List.getElem?_drop] at h0
  simpa using h0
end Go.Proofs.YtgphgbajgjddfaaDoor
