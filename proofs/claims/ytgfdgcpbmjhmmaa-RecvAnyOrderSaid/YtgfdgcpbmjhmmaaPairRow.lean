/- A slice of structs of two whole numbers among the arguments, read: what the walks ask for. No text of the program. -/
import Derived.WalkKit
import Derived.Below
import Derived.Deep.Slices
import Derived.Lib.SmallJoins
import Derived.OpenShut
namespace Go.Proofs.Ytgfdgcpbmjhmmaa
open Go.ChangeShapes Go.WideShapes Go.Deep Go.RowKit Go.Joins
set_option linter.unusedVariables false

/-- A slice of pairs that came in: the i-th one is ps i. -/
def PairRow (w : World) (A : Option Addr) (len : Nat) (ps : Nat → Int × Int) : Prop :=
  len ≤ maxLen ∧ (len = 0 ∨ ∃ b off, A = some ⟨b, off, none⟩ ∧ b < w.heap.size ∧ ∀ i, i < len → w.cell? ⟨b, off + i * 2, none⟩ = some (.int .i64 (ps i).1) ∧ w.cell? ⟨b, off + i * 2 + 1, none⟩ = some (.int .i64 (ps i).2) ∧
    -9223372036854775808 ≤ (ps i).1 ∧ (ps i).1 ≤ 9223372036854775807 ∧ -9223372036854775808 ≤ (ps i).2 ∧ (ps i).2 ≤ 9223372036854775807)
theorem PairRow.of_block {w w' : World} {A : Option Addr} {len : Nat} {ps : Nat → Int × Int} (h : PairRow w A len ps) (hs : w.heap.size ≤ w'.heap.size) (hb : ∀ b off, A = some ⟨b, off, none⟩ → b < w.heap.size → w'.heap[b]? = w.heap[b]?) : PairRow w' A len ps := by
  refine ⟨h.1, h.2.imp id fun ⟨b, off, e, hl, hc⟩ => ⟨b, off, e, Nat.lt_of_lt_of_le hl hs, fun i hi => ?_⟩⟩
  obtain ⟨h1, h2, h3⟩ := hc i hi
  have hbb := hb b off e hl
  exact ⟨by rw [World.cell?_of_block (w := w) hbb]; exact h1, by rw [World.cell?_of_block (w := w) hbb]; exact h2, h3⟩
theorem PairRow.below {w w' : World} {A : Option Addr} {len : Nat} {ps : Nat → Int × Int} (h : PairRow w A len ps) (hb : Below w.heap.size w w') : PairRow w' A len ps :=
  h.of_block hb.size fun b _ _ hl => hb.block b hl
theorem PairRow.get {w : World} {A : Option Addr} {len k : Nat} {ps : Nat → Int × Int} (h : PairRow w A len ps) (hk : k < len) :
    ∃ b off, A = some ⟨b, off, none⟩ ∧ b < w.heap.size ∧ w.cell? ⟨b, off + k * 2, none⟩ = some (.int .i64 (ps k).1) ∧ w.cell? ⟨b, off + k * 2 + 1, none⟩ = some (.int .i64 (ps k).2) ∧
      -9223372036854775808 ≤ (ps k).1 ∧ (ps k).1 ≤ 9223372036854775807 ∧ -9223372036854775808 ≤ (ps k).2 ∧ (ps k).2 ≤ 9223372036854775807 := by
  rcases h.2 with h | ⟨b, off, e, hl, hc⟩
  · omega
  · exact ⟨b, off, e, hl, hc k hk⟩

variable {H : Type} {enc : TypeId × Value → H} {P : Program} {w : World} {base : Nat} {spare : Nat → Bool} {held : Bool}
theorem pairRow_of {t e : TypeId} {f0 f1 : Field} {fuel : Nat} {A : Option Addr} {len cap : Nat} {x : DataW H × List MemPlace} (ht : P.underlying t = some (.slice e)) (he : P.underlying e = some (.struct #[f0, f1])) (h0 : P.underlying f0.type = some (.int .i64)) (h1 : P.underlying f1.type = some (.int .i64))
    (hone : oneCellFields P #[f0, f1] = true) (ce : P.cellsOf e = 2) (h : DataW.trod enc P w base spare held fuel t [.slice A len cap] = some x) : ∃ ps, PairRow w A len ps := by
  rcases open_slice ht h with ⟨hcs, _⟩ | ⟨a, l, c, m, n, D, Pl, hcs, _, hl, hm, hmm, _, hx⟩
  · simp at hcs
    obtain ⟨rfl, rfl, rfl⟩ := hcs
    exact ⟨fun _ => (0, 0), by decide, .inl rfl⟩
  · simp at hcs
    obtain ⟨rfl, rfl, rfl⟩ := hcs
    by_cases h0' : len = 0
    · exact ⟨fun _ => (0, 0), by omega, .inl h0'⟩
    · have hlm : len ≤ m := by rw [hmm]; split <;> omega
      have each : ∀ i, ∃ p : Int × Int, i < len → w.cell? (a.add (i * 2)) = some (.int .i64 p.1) ∧ w.cell? (a.add (i * 2 + 1)) = some (.int .i64 p.2) ∧ (-9223372036854775808 ≤ p.1 ∧ p.1 ≤ 9223372036854775807) ∧ -9223372036854775808 ≤ p.2 ∧ p.2 ≤ 9223372036854775807 := by
        intro i
        by_cases hi : i < len
        · obtain ⟨cs', g1, g2⟩ := hx i (by omega)
          rw [ce] at g1
          obtain ⟨_, hlen, hcell⟩ := World.cells?_some g1
          match cs', hlen with
          | [v0, v1], _ =>
            obtain ⟨y0, y1, n', hx', _, q0, q1⟩ := trod_struct2 he g2
            obtain ⟨o0, k0⟩ := hone_of hone 0 f0 rfl
            obtain ⟨o1, k1⟩ := hone_of hone 1 f1 rfl
            obtain ⟨z0, e0, _, w0⟩ := DataW.trod_int h0 (by simpa [Value.cells, o0, k0] using q0)
            obtain ⟨z1, e1, _, w1⟩ := DataW.trod_int h1 (by simpa [Value.cells, o1, k1] using q1)
            simp at e0 e1
            subst e0 e1
            have c0 := hcell 0 (by omega)
            have c1 := hcell 1 (by omega)
            rw [add_add] at c0 c1
            exact ⟨(z0, z1), fun _ => ⟨by simpa using c0, by simpa using c1, bounds_i64 w0, bounds_i64 w1⟩⟩
        · exact ⟨(0, 0), fun h => absurd h hi⟩
      obtain ⟨f, hsp⟩ : ∃ f : Nat → Int × Int, ∀ i, i < len → w.cell? (a.add (i * 2)) = some (.int .i64 (f i).1) ∧ w.cell? (a.add (i * 2 + 1)) = some (.int .i64 (f i).2) ∧ (-9223372036854775808 ≤ (f i).1 ∧ (f i).1 ≤ 9223372036854775807) ∧ -9223372036854775808 ≤ (f i).2 ∧ (f i).2 ≤ 9223372036854775807 :=
        ⟨fun i => (each i).choose, fun i => (each i).choose_spec⟩
      refine ⟨f, by omega, .inr ?_⟩
      obtain ⟨b, off, spot⟩ := a
      have q0 := (hsp 0 (by omega)).1
      have hspot : spot = none := by simpa [Addr.add] using World.cell?_spot q0
      subst hspot
      have pl : ∀ j, (⟨b, off, none⟩ : Addr).add j = ⟨b, off + j, none⟩ := fun j => by unfold Addr.add; split <;> simp_all
      refine ⟨b, off, rfl, block_lt_of_cell (by rw [pl] at q0; exact q0), fun i hi => ?_⟩
      obtain ⟨g0, g1, g2, g3, g4⟩ := hsp i hi
      rw [pl] at g0 g1
      exact ⟨g0, g1, g2.1, g2.2, g3, g4⟩

theorem pairRow_val {t e : TypeId} {f0 f1 : Field} {fuel : Nat} {v : Value} {x : DataW H × List MemPlace} (ht : P.underlying t = some (.slice e)) (he : P.underlying e = some (.struct #[f0, f1])) (h0 : P.underlying f0.type = some (.int .i64)) (h1 : P.underlying f1.type = some (.int .i64))
    (hone : oneCellFields P #[f0, f1] = true) (ce : P.cellsOf e = 2) (h : DataW.trod enc P w base spare held fuel t [v] = some x) : ∃ A len cap, v = .slice A len cap ∧ ∃ ps, PairRow w A len ps := by
  rcases open_slice ht h with ⟨hcs, _⟩ | ⟨a, l, c, m, n, D, Pl, hcs, _⟩
  · simp at hcs
    subst hcs
    exact ⟨_, _, _, rfl, pairRow_of ht he h0 h1 hone ce h⟩
  · simp at hcs
    subst hcs
    exact ⟨_, _, _, rfl, pairRow_of ht he h0 h1 hone ce h⟩
end Go.Proofs.Ytgfdgcpbmjhmmaa
