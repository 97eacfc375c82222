/- A signal among the arguments, read. No text of the program. -/
import Derived.Test.YtnocckgbcjienaaDoorEvTexts
import Derived.ChangeSlices
import Derived.OpenShut
import Derived.Lib.SmallJoins
import Derived.ChangeBears2
namespace Go.Proofs.YtnocckgbcjienaaDoor
open Go.ChangeShapes Go.WideShapes Go.Deep Go.RowKit Go.Joins
set_option linter.unusedVariables false

variable {H : Type} {enc : TypeId × Value → H} {w : World} {base : Nat} {spare : Nat → Bool} {held : Bool}
set_option maxRecDepth 100000 in
theorem sig_in {r : Reach} {b0 : Nat} {v : Value} {d : DataW H} {p : List MemPlace} (hv : Value.okWide Tryd.prog w r b0 31 v) (h : DataW.Trod enc Tryd.prog w base spare held 31 v d p) :
    ∃ (k n code : Int) (se : Bool) (s : ByteArray), v = .agg #[.int .i64 k, .string s, .bool se, .int .u8 code, .int .i64 n] ∧ s.size ≤ maxLen ∧ -9223372036854775808 ≤ n ∧ n ≤ 9223372036854775807 ∧ -9223372036854775808 ≤ k ∧ k ≤ 9223372036854775807 ∧ 0 ≤ code ∧ code ≤ 255 := by
  obtain ⟨cs, rfl, hsz⟩ := okWide_struct Tryd.underlying31 hv
  obtain ⟨l⟩ := cs
  have hC : Tryd.prog.cellsOf 31 = 5 := by kernel_rfl
  match l, hsz.trans hC with
  | [c0, c1, c2, c3, c4], _ =>
    obtain ⟨fuel, hf⟩ := h
    obtain ⟨xs, m, _, hx, _, hlen, hg⟩ := DataW.trod_struct Tryd.underlying31 hf
    have hsz : xs.length = 5 := hlen
    have e1 : Tryd.prog.cellsOf 3 = 1 := by kernel_rfl
    have e2 : Tryd.prog.cellsOf 4 = 1 := by kernel_rfl
    have e3 : Tryd.prog.cellsOf 9 = 1 := by kernel_rfl
    have e4 : Tryd.prog.cellsOf 5 = 1 := by kernel_rfl
    have g0 : DataW.trod enc Tryd.prog w base spare held m 3 (([c0, c1, c2, c3, c4].drop 0).take (Tryd.prog.cellsOf 3)) = xs[0]? := hg 0 _ rfl
    have g1 : DataW.trod enc Tryd.prog w base spare held m 9 (([c0, c1, c2, c3, c4].drop 1).take (Tryd.prog.cellsOf 9)) = xs[1]? := hg 1 _ rfl
    have g2 : DataW.trod enc Tryd.prog w base spare held m 4 (([c0, c1, c2, c3, c4].drop 2).take (Tryd.prog.cellsOf 4)) = xs[2]? := hg 2 _ rfl
    have g3 : DataW.trod enc Tryd.prog w base spare held m 5 (([c0, c1, c2, c3, c4].drop 3).take (Tryd.prog.cellsOf 5)) = xs[3]? := hg 3 _ rfl
    have g4 : DataW.trod enc Tryd.prog w base spare held m 3 (([c0, c1, c2, c3, c4].drop 4).take (Tryd.prog.cellsOf 3)) = xs[4]? := hg 4 _ rfl
    rw [e1, List.getElem?_eq_getElem (by omega)] at g0 g4
    rw [e3, List.getElem?_eq_getElem (by omega)] at g1
    rw [e2, List.getElem?_eq_getElem (by omega)] at g2
    rw [e4, List.getElem?_eq_getElem (by omega)] at g3
    obtain ⟨k0, q0, _, w0⟩ := DataW.trod_int Tryd.underlying3 g0
    obtain ⟨k3, q3, _, w3⟩ := DataW.trod_int Tryd.underlying5 g3
    obtain ⟨k4, q4, _, w4⟩ := DataW.trod_int Tryd.underlying3 g4
    obtain ⟨b2, q2, _⟩ := DataW.trod_bool Tryd.underlying4 g2
    obtain ⟨s1, q1, _, hs1⟩ := DataW.trod_string Tryd.underlying9 g1
    simp at q0 q1 q2 q3 q4
    subst q0 q1 q2 q3 q4
    have hu := Go.bounds_u8 w3
    exact ⟨k0, k4, k3, b2, s1, rfl, hs1, (Go.bounds_i64 w4).1, (Go.bounds_i64 w4).2, (Go.bounds_i64 w0).1, (Go.bounds_i64 w0).2, by omega, by omega⟩
end Go.Proofs.YtnocckgbcjienaaDoor
