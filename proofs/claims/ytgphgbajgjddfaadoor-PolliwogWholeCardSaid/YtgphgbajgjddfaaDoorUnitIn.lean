/- A unit of the document's among the arguments, read: what the walks ask for. No text of the program. -/
import Derived.Test.YtgphgbajgjddfaaDoorPduFew
import Derived.ChangeSlices
import Derived.OpenShut
import Derived.Lib.SmallJoins
import Derived.ChangeBears2
namespace Go.Proofs.YtgphgbajgjddfaaDoor
open Go.ChangeShapes Go.WideShapes Go.Deep Go.RowKit Go.Joins
set_option linter.unusedVariables false

variable {H : Type} {enc : TypeId × Value → H} {w : World} {base : Nat} {spare : Nat → Bool} {held : Bool}
theorem ints_in {fuel : Nat} {c : Value} {x : DataW H × List MemPlace} (h : DataW.trod enc Tryd.prog w base spare held fuel 34 [c] = some x) : ∃ A len cap xs, c = .slice A len cap ∧ len = xs.length ∧ IRowB w (.slice A len cap) xs := by
  rcases open_ints Tryd.underlying34 Tryd.underlying3 (by kernel_rfl) h with ⟨hcs, _⟩ | ⟨a, l, c', zs, hcs, _, hl, hm, hz, _, hcell, hwf⟩
  · simp at hcs
    subst hcs
    exact ⟨none, 0, 0, [], rfl, rfl, none, 0, rfl, by decide, .inl rfl⟩
  · simp at hcs
    subst hcs
    have hlz : l ≤ zs.length := by rw [hz]; split <;> omega
    refine ⟨some a, l, c', zs.take l, rfl, by rw [List.length_take]; omega, ?_⟩
    have hlen : (zs.take l).length = l := by rw [List.length_take]; omega
    refine ⟨some a, c', by rw [hlen], by rw [hlen]; omega, ?_⟩
    by_cases h0 : l = 0
    · left; subst h0; simp
    · right
      obtain ⟨b, off, spot⟩ := a
      have hc0 := hcell 0 (by omega)
      have hspot : spot = none := by simpa [Addr.add] using World.cell?_spot hc0
      subst hspot
      refine ⟨b, off, rfl, ?_, fun i y hy => ?_⟩
      · have := World.block_lt_of_cell? w _ hc0
        simpa [Addr.add] using this
      · have hi : i < l := by have := (List.getElem?_eq_some_iff.1 hy).1; omega
        have h1 := hcell i (by omega)
        rw [Addr.add_lit] at h1
        rw [h1]
        rw [List.getElem?_take_of_lt hi] at hy
        rw [List.getD_eq_getElem?_getD, hy]
        rfl
set_option maxRecDepth 100000 in
theorem unit_in {r : Reach} {b0 : Nat} {v : Value} {d : DataW H} {p : List MemPlace} (hv : Value.okWide Tryd.prog w r b0 36 v) (h : DataW.Trod enc Tryd.prog w base spare held 36 v d p) :
    ∃ (k sq n ps mr : Int) (A : Option Addr) (len cap : Nat) (se : Bool) (s : ByteArray) (xs : List Int), v = .agg #[.int .i64 k, .int .i64 sq, .int .i64 n, .int .i64 ps, .int .i64 mr, .slice A len cap, .bool se, .string s] ∧ len = xs.length ∧ IRowB w (.slice A len cap) xs ∧ s.size ≤ maxLen := by
  obtain ⟨cs, rfl, hsz⟩ := okWide_struct Tryd.underlying36 hv
  obtain ⟨l⟩ := cs
  have hC : Tryd.prog.cellsOf 36 = 8 := by kernel_rfl
  match l, hsz.trans hC with
  | [c0, c1, c2, c3, c4, c5, c6, c7], _ =>
    obtain ⟨fuel, hf⟩ := h
    obtain ⟨xs, m, _, hx, _, hlen, hg⟩ := DataW.trod_struct Tryd.underlying36 hf
    have hsz : xs.length = 8 := hlen
    have e1 : Tryd.prog.cellsOf 3 = 1 := by kernel_rfl
    have e2 : Tryd.prog.cellsOf 4 = 1 := by kernel_rfl
    have e3 : Tryd.prog.cellsOf 9 = 1 := by kernel_rfl
    have e4 : Tryd.prog.cellsOf 34 = 1 := by kernel_rfl
    have g0 : DataW.trod enc Tryd.prog w base spare held m 3 (([c0, c1, c2, c3, c4, c5, c6, c7].drop 0).take (Tryd.prog.cellsOf 3)) = xs[0]? := hg 0 _ rfl
    have g1 : DataW.trod enc Tryd.prog w base spare held m 3 (([c0, c1, c2, c3, c4, c5, c6, c7].drop 1).take (Tryd.prog.cellsOf 3)) = xs[1]? := hg 1 _ rfl
    have g2 : DataW.trod enc Tryd.prog w base spare held m 3 (([c0, c1, c2, c3, c4, c5, c6, c7].drop 2).take (Tryd.prog.cellsOf 3)) = xs[2]? := hg 2 _ rfl
    have g3 : DataW.trod enc Tryd.prog w base spare held m 3 (([c0, c1, c2, c3, c4, c5, c6, c7].drop 3).take (Tryd.prog.cellsOf 3)) = xs[3]? := hg 3 _ rfl
    have g4 : DataW.trod enc Tryd.prog w base spare held m 3 (([c0, c1, c2, c3, c4, c5, c6, c7].drop 4).take (Tryd.prog.cellsOf 3)) = xs[4]? := hg 4 _ rfl
    have g5 : DataW.trod enc Tryd.prog w base spare held m 34 (([c0, c1, c2, c3, c4, c5, c6, c7].drop 5).take (Tryd.prog.cellsOf 34)) = xs[5]? := hg 5 _ rfl
    have g6 : DataW.trod enc Tryd.prog w base spare held m 4 (([c0, c1, c2, c3, c4, c5, c6, c7].drop 6).take (Tryd.prog.cellsOf 4)) = xs[6]? := hg 6 _ rfl
    have g7 : DataW.trod enc Tryd.prog w base spare held m 9 (([c0, c1, c2, c3, c4, c5, c6, c7].drop 7).take (Tryd.prog.cellsOf 9)) = xs[7]? := hg 7 _ rfl
    rw [e1, List.getElem?_eq_getElem (by omega)] at g0 g1 g2 g3 g4
    rw [e4, List.getElem?_eq_getElem (by omega)] at g5
    rw [e2, List.getElem?_eq_getElem (by omega)] at g6
    rw [e3, List.getElem?_eq_getElem (by omega)] at g7
    obtain ⟨k0, q0, _, _⟩ := DataW.trod_int Tryd.underlying3 g0
    obtain ⟨k1, q1, _, _⟩ := DataW.trod_int Tryd.underlying3 g1
    obtain ⟨k2, q2, _, _⟩ := DataW.trod_int Tryd.underlying3 g2
    obtain ⟨k3, q3, _, _⟩ := DataW.trod_int Tryd.underlying3 g3
    obtain ⟨k4, q4, _, _⟩ := DataW.trod_int Tryd.underlying3 g4
    obtain ⟨b6, q6, _⟩ := DataW.trod_bool Tryd.underlying4 g6
    obtain ⟨s7, q7, _, hs7⟩ := DataW.trod_string Tryd.underlying9 g7
    obtain ⟨A, len, cap, ys, q5, hl, hr⟩ := ints_in (c := c5) g5
    simp at q0 q1 q2 q3 q4 q6 q7
    subst q0 q1 q2 q3 q4 q5 q6 q7
    exact ⟨k0, k1, k2, k3, k4, A, len, cap, b6, s7, ys, rfl, hl, hr, hs7⟩
end Go.Proofs.YtgphgbajgjddfaaDoor
