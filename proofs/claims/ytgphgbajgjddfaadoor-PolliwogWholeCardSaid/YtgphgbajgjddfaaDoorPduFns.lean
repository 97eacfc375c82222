/- The contracts of package pdu's plain functions: known, fits, tooBig. Conditions: the variables lie as their initialisers leave them; the kind is one of the fifteen. -/
import Derived.Test.YtgphgbajgjddfaaDoorPduLaid
import Derived.Test.YtgphgbajgjddfaaDoorCrcAwake
import Derived.Deep.QuietTactic
import Derived.BigQuiet
import Derived.IntWalk
import Derived.Deep.RegionHeld3
import Derived.RegionTactic
import Derived.Deep.Cut
namespace Go.Proofs.YtgphgbajgjddfaaDoor
open Go.RowKit
set_option linter.unusedVariables false
set_option linter.unusedSimpArgs false

def ShapesIn (W : World) : Prop := ∀ r j, r < 16 → j < 7 → W.cell? ⟨0, r * 7 + j, none⟩ = some (shapeV r j)
theorem ShapesIn.pos {W : World} (h : ShapesIn W) : 0 < W.heap.size := by
  have h0 := h 0 0 (by decide) (by decide)
  rcases Nat.eq_zero_or_pos W.heap.size with e | e
  · exfalso
    unfold World.cell? at h0
    have : W.heap[0]? = none := by rw [Array.getElem?_eq_none_iff]; omega
    simp [this] at h0
  · exact e
theorem ShapesIn.next {W W' : World} (h : ShapesIn W) (hb : Below W.heap.size W W') : ShapesIn W' := fun r j hr hj => by
  rw [hb.cell (p := ⟨0, r * 7 + j, none⟩) h.pos]; exact h r j hr hj

def hasSQ (k : Nat) : Bool := decide (k = 1 ∨ k = 2 ∨ k = 3 ∨ k = 4 ∨ k = 5 ∨ k = 6 ∨ k = 7 ∨ k = 9 ∨ k = 15)
def hasPS (k : Nat) : Bool := decide (k = 10 ∨ k = 11)
def hasMR (k : Nat) : Bool := decide (k = 11 ∨ k = 12)
def hasN (k : Nat) : Bool := decide (k = 1 ∨ k = 2 ∨ k = 5 ∨ k = 6 ∨ k = 8 ∨ k = 9 ∨ k = 10 ∨ k = 11 ∨ k = 12 ∨ k = 15)
def hasSelf (k : Nat) : Bool := decide (k = 3)
def listOf (k : Nat) : Int := if k = 11 then 2 else if k = 12 then 1 else 0
def most (k : Nat) : Int := if k = 1 ∨ k = 3 ∨ k = 5 ∨ k = 7 then 64 else if k = 8 ∨ k = 13 ∨ k = 14 then 200 else 0
theorem shape_all : ∀ k, k < 16 → shapeV k 0 = .bool (hasSQ k) ∧ shapeV k 1 = .bool (hasPS k) ∧ shapeV k 2 = .bool (hasMR k) ∧ shapeV k 3 = .bool (hasN k) ∧ shapeV k 4 = .bool (hasSelf k) ∧ shapeV k 5 = .int .i64 (listOf k) ∧ shapeV k 6 = .int .i64 (most k) := by
  intro k hk
  have hc : k = 0 ∨ k = 1 ∨ k = 2 ∨ k = 3 ∨ k = 4 ∨ k = 5 ∨ k = 6 ∨ k = 7 ∨ k = 8 ∨ k = 9 ∨ k = 10 ∨ k = 11 ∨ k = 12 ∨ k = 13 ∨ k = 14 ∨ k = 15 := by omega
  rcases hc with rfl | rfl | rfl | rfl | rfl | rfl | rfl | rfl | rfl | rfl | rfl | rfl | rfl | rfl | rfl | rfl <;> exact ⟨rfl, rfl, rfl, rfl, rfl, rfl, rfl⟩

theorem pdu_known (k : Int) (w : World) : Calls Tryd.prog 21 #[.int .i64 k] w fun e w' => e = .returned (.bool (decide (1 ≤ k ∧ k ≤ 15))) ∧ w = w' := by
  by_cases h1 : 1 ≤ k
  · have d1 : decide (1 ≤ k) = true := decide_eq_true h1
    by_cases h2 : k ≤ 15
    · have d2 : decide (k ≤ 15) = true := decide_eq_true h2
      rw [decide_eq_true (show 1 ≤ k ∧ k ≤ 15 from ⟨h1, h2⟩)]
      clear h1 h2
      go_enter Tryd.func21, Tryd.ntmps21
      go_wp2_with fail
      go_ret
      exact ⟨rfl, rfl⟩
    · have d2 : decide (k ≤ 15) = false := decide_eq_false h2
      rw [decide_eq_false (show ¬ (1 ≤ k ∧ k ≤ 15) from fun h => h2 h.2)]
      clear h1 h2
      go_enter Tryd.func21, Tryd.ntmps21
      go_wp2_with fail
      go_ret
      exact ⟨rfl, rfl⟩
  · have d1 : decide (1 ≤ k) = false := decide_eq_false h1
    rw [decide_eq_false (show ¬ (1 ≤ k ∧ k ≤ 15) from fun h => h1 h.1)]
    clear h1
    go_enter Tryd.func21, Tryd.ntmps21
    go_wp2_with fail
    go_ret
    exact ⟨rfl, rfl⟩

def fitsV (x : Int) (there : Bool) (m : Int) : Bool := x == 0 || (there && decide (0 < x) && decide (x ≤ m))
set_option maxRecDepth 100000 in
theorem pdu_fits (x : Int) (there : Bool) (m : Int) (w : World) : Calls Tryd.prog 37 #[.int .i64 x, .bool there, .int .i64 m] w fun e w' => e = .returned (.bool (fitsV x there m)) ∧ w = w' := by
  unfold fitsV
  cases h1 : (x == 0) <;> cases there <;> cases h2 : decide (0 < x) <;> cases h3 : decide (x ≤ m)
  all_goals
    go_enter Tryd.func37, Tryd.ntmps37
    go_wp2_with fail
    go_ret
    exact ⟨rfl, rfl⟩

/-- A unit's value. -/
def pduA (k sq n ps mr : Int) (l : Value) (se : Bool) (d : ByteArray) : Array Value := #[.int .i64 k, .int .i64 sq, .int .u32 n, .int .u32 ps, .int .u32 mr, l, .bool se, .string d]
set_option maxRecDepth 100000 in
theorem pdu_tooBig (k : Nat) (sq n ps mr : Int) (p : Option Addr) (len cap : Nat) (se : Bool) (d : ByteArray) (w : World) (hk : k < 16) (hS : ShapesIn w) :
    Calls Tryd.prog 22 #[.agg #[.int .i64 (k : Int), .int .i64 sq, .int .u32 n, .int .u32 ps, .int .u32 mr, .slice p len cap, .bool se, .string d]] w fun e w' => e = .returned (.bool (decide (128 < (len : Int)) || (decide (0 < most k) && decide (most k < (d.size : Int))))) ∧ Below w.heap.size w w' := by
  have hn := heap_alloc_new w (.cells #[.int .i64 (k : Int), .int .i64 sq, .int .u32 n, .int .u32 ps, .int .u32 mr, .slice p len cap, .bool se, .string d] 32)
  have x0 : (w.alloc (.cells #[.int .i64 (k : Int), .int .i64 sq, .int .u32 n, .int .u32 ps, .int .u32 mr, .slice p len cap, .bool se, .string d] 32)).cell? ⟨w.heap.size, 0, none⟩ = some (.int .i64 (k : Int)) := by rw [cell_of_row _ _ 0 _ _ (0, 0) hn]; rfl
  have x5 : (w.alloc (.cells #[.int .i64 (k : Int), .int .i64 sq, .int .u32 n, .int .u32 ps, .int .u32 mr, .slice p len cap, .bool se, .string d] 32)).cell? ⟨w.heap.size, 5, none⟩ = some (.slice p len cap) := by rw [cell_of_row _ _ 5 _ _ (0, 0) hn]; rfl
  have x7 : (w.alloc (.cells #[.int .i64 (k : Int), .int .i64 sq, .int .u32 n, .int .u32 ps, .int .u32 mr, .slice p len cap, .bool se, .string d] 32)).cell? ⟨w.heap.size, 7, none⟩ = some (.string d) := by rw [cell_of_row _ _ 7 _ _ (0, 0) hn]; rfl
  have hb := (Below.refl _ w).alloc (Nat.le_refl _) (.cells #[.int .i64 (k : Int), .int .i64 sq, .int .u32 n, .int .u32 ps, .int .u32 mr, .slice p len cap, .bool se, .string d] 32)
  have s6 := (hS.next hb) k 6 hk (by decide)
  rw [(shape_all k hk).2.2.2.2.2.2] at s6
  have HB := Lib.hid hb
  have hk0 : (0 : Int) ≤ (k : Int) := by omega
  have hk1 : (k : Int) < 16 := by omega
  clear hn hb hS
  generalize most k = M at *
  cases h1 : decide (128 < (len : Int)) <;> cases h2 : decide (0 < M) <;> cases h3 : decide (M < (d.size : Int))
  all_goals
    go_enter Tryd.func22, Tryd.ntmps22
    go_upto_region 1 with fail
    generalize w.alloc (.cells #[.int .i64 (k : Int), .int .i64 sq, .int .u32 n, .int .u32 ps, .int .u32 mr, .slice p len cap, .bool se, .string d] 32) = W at *
    go_wp2_with fail
    go_ret
    exact ⟨rfl, HB.out⟩
end Go.Proofs.YtgphgbajgjddfaaDoor
