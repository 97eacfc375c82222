/- A slice of arrays of three bytes among the arguments, read: the row of triples the walk asks for. No text of the program. -/
import Derived.Test.YtamnmablodgdjaaCrcXorsLaw
import Derived.Deep.Slices
import Derived.Laws.IdiomArrays
import Derived.OpenShut
namespace Go.Proofs.Ytamnmablodgdjaa
open Go.ChangeShapes Go.WideShapes Go.Deep
variable {H : Type} {enc : TypeId × Value → H} {P : Program} {w : World} {base : Nat} {spare : Nat → Bool} {held : Bool}

theorem triRow_of {t e u : TypeId} {fuel : Nat} {A : Option Addr} {len cap : Nat} {x : DataW H × List MemPlace} (ht : P.underlying t = some (.slice e)) (he : P.underlying e = some (.array 3 u)) (hu : P.underlying u = some (.int .u8))
    (ce : P.cellsOf e = 3) (cu : P.cellsOf u = 1) (h : DataW.trod enc P w base spare held fuel t [.slice A len cap] = some x) : TriRow w A len cap := by
  rcases open_slice ht h with ⟨hcs, _⟩ | ⟨a, l, c, m, n, D, Pl, hcs, _, hl, hm, hmm, _, hx⟩
  · simp at hcs
    obtain ⟨rfl, rfl, rfl⟩ := hcs
    exact ⟨by decide, by decide, .inl rfl⟩
  · simp at hcs
    obtain ⟨rfl, rfl, rfl⟩ := hcs
    refine ⟨hl, hm, ?_⟩
    by_cases h0 : len = 0
    · exact .inl h0
    · have hlm : len ≤ m := by rw [hmm]; split <;> omega
      have each : ∀ i, i < len → ∃ x y z : Nat, x < 256 ∧ y < 256 ∧ z < 256 ∧ w.cell? (a.add (i * 3)) = some (.int .u8 (x : Int)) ∧ w.cell? (a.add (i * 3 + 1)) = some (.int .u8 (y : Int)) ∧ w.cell? (a.add (i * 3 + 2)) = some (.int .u8 (z : Int)) := by
        intro i hi
        obtain ⟨cs', h1, h2⟩ := hx i (by omega)
        rw [ce] at h1
        obtain ⟨_, hlen, hcell⟩ := World.cells?_some h1
        match cs', hlen with
        | [v0, v1, v2], _ =>
          obtain ⟨y0, y1, y2, n', _, g0, g1, g2⟩ := trod_array3 he cu h2
          obtain ⟨k0, e0, _, w0⟩ := DataW.trod_int hu g0
          obtain ⟨k1, e1, _, w1⟩ := DataW.trod_int hu g1
          obtain ⟨k2, e2, _, w2⟩ := DataW.trod_int hu g2
          simp at e0 e1 e2
          subst e0 e1 e2
          have b0 := bounds_u8 w0
          have b1 := bounds_u8 w1
          have b2 := bounds_u8 w2
          have c0 := hcell 0 (by omega)
          have c1 := hcell 1 (by omega)
          have c2 := hcell 2 (by omega)
          rw [add_add] at c0 c1 c2
          refine ⟨k0.toNat, k1.toNat, k2.toNat, by omega, by omega, by omega, ?_, ?_, ?_⟩
          · rw [Int.toNat_of_nonneg b0.1]; simpa using c0
          · rw [Int.toNat_of_nonneg b1.1]; simpa using c1
          · rw [Int.toNat_of_nonneg b2.1]; simpa using c2
      obtain ⟨b, off, spot⟩ := a
      obtain ⟨x0, _, _, _, _, _, q0, _, _⟩ := each 0 (by omega)
      have hspot : spot = none := by simpa [Addr.add] using World.cell?_spot q0
      subst hspot
      have pl : ∀ j, (⟨b, off, none⟩ : Addr).add j = ⟨b, off + j, none⟩ := fun j => by unfold Addr.add; split <;> simp_all
      refine .inr ⟨b, off, rfl, fun i hi => ?_⟩
      obtain ⟨x, y, z, hx, hy, hz, q0, q1, q2⟩ := each i hi
      rw [pl] at q0 q1 q2
      exact ⟨x, y, z, hx, hy, hz, q0, q1, q2⟩
end Go.Proofs.Ytamnmablodgdjaa
