/- A slice of bools that came in. Plain facts. -/
import Derived.WalkKit
import Derived.Below
import Derived.Deep.Grids
namespace Go.Proofs.Ytcdfjhbciknfkaa
open Go.RowKit

/-- A slice of bools that came in. -/
def BoolRow (w : World) (A : Option Addr) (len : Nat) : Prop :=
  len ≤ maxLen ∧ (len = 0 ∨ ∃ b off, A = some ⟨b, off, none⟩ ∧ ∀ i, i < len → ∃ p : Bool, w.cell? ⟨b, off + i, none⟩ = some (.bool p))

theorem boolRow_mk {w : World} {x : Addr} {len cap : Nat} {B : Nat → Bool} (hl : len ≤ cap) (hm : cap ≤ maxLen) (hcell : ∀ i, i < cap → w.cell? (x.add i) = some (.bool (B i))) : BoolRow w (some x) len := by
  refine ⟨Nat.le_trans hl hm, ?_⟩
  by_cases h0 : len = 0
  · exact .inl h0
  · obtain ⟨b, off, spot⟩ := x
    have hc := hcell 0 (by omega)
    have hspot : spot = none := by simpa [Addr.add] using World.cell?_spot hc
    subst hspot
    refine .inr ⟨b, off, rfl, fun k hk => ⟨B k, ?_⟩⟩
    have h1 := hcell k (by omega)
    by_cases hk0 : k = 0
    · subst hk0; simpa [Addr.add] using h1
    · simpa [Addr.add, hk0] using h1
end Go.Proofs.Ytcdfjhbciknfkaa
