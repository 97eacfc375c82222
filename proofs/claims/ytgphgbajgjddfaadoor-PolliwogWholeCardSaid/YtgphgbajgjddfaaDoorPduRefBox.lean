/- The document's unit in a block, and what its Check answers. No conditions. -/
import Derived.Test.YtgphgbajgjddfaaDoorPduRefFns
namespace Go.Proofs.YtgphgbajgjddfaaDoor
open Go.RowKit
set_option linter.unusedVariables false
set_option linter.unusedSimpArgs false

/-- The document's unit lies in block b. -/
def RBox (w : World) (b : Nat) (k sq n ps mr : Int) (l : Value) (se : Bool) (d : ByteArray) : Prop :=
  w.cell? ⟨b, 0, none⟩ = some (.int .i64 k) ∧ w.cell? ⟨b, 1, none⟩ = some (.int .i64 sq) ∧ w.cell? ⟨b, 2, none⟩ = some (.int .i64 n) ∧ w.cell? ⟨b, 3, none⟩ = some (.int .i64 ps) ∧ w.cell? ⟨b, 4, none⟩ = some (.int .i64 mr) ∧ w.cell? ⟨b, 5, none⟩ = some l ∧ w.cell? ⟨b, 6, none⟩ = some (.bool se) ∧ w.cell? ⟨b, 7, none⟩ = some (.string d)
theorem rbox_new (w : World) (k sq n ps mr : Int) (l : Value) (se : Bool) (d : ByteArray) : RBox (w.alloc (.cells #[.int .i64 k, .int .i64 sq, .int .i64 n, .int .i64 ps, .int .i64 mr, l, .bool se, .string d] 36)) w.heap.size k sq n ps mr l se d := by
  have hn := heap_alloc_new w (.cells #[.int .i64 k, .int .i64 sq, .int .i64 n, .int .i64 ps, .int .i64 mr, l, .bool se, .string d] 36)
  refine ⟨?_, ?_, ?_, ?_, ?_, ?_, ?_, ?_⟩
  · rw [cell_of_row _ _ 0 _ _ (0, 0) hn]; rfl
  · rw [cell_of_row _ _ 1 _ _ (0, 0) hn]; rfl
  · rw [cell_of_row _ _ 2 _ _ (0, 0) hn]; rfl
  · rw [cell_of_row _ _ 3 _ _ (0, 0) hn]; rfl
  · rw [cell_of_row _ _ 4 _ _ (0, 0) hn]; rfl
  · rw [cell_of_row _ _ 5 _ _ (0, 0) hn]; rfl
  · rw [cell_of_row _ _ 6 _ _ (0, 0) hn]; rfl
  · rw [cell_of_row _ _ 7 _ _ (0, 0) hn]; rfl
theorem RBox.of_block {w w' : World} {b : Nat} {k sq n ps mr : Int} {l : Value} {se : Bool} {d : ByteArray} (h : RBox w b k sq n ps mr l se d) (hb : w'.heap[b]? = w.heap[b]?) : RBox w' b k sq n ps mr l se d := by
  have e : ∀ j, w'.cell? ⟨b, j, none⟩ = w.cell? ⟨b, j, none⟩ := fun j => World.cell?_of_block (a := ⟨b, j, none⟩) hb
  unfold RBox
  rw [e, e, e, e, e, e, e, e]
  exact h
theorem RBox.lt {w : World} {b : Nat} {k sq n ps mr : Int} {l : Value} {se : Bool} {d : ByteArray} (h : RBox w b k sq n ps mr l se d) : b < w.heap.size := World.block_lt_of_cell? w ⟨b, 0, none⟩ h.1
theorem RBox.next {w w' : World} {b : Nat} {k sq n ps mr : Int} {l : Value} {se : Bool} {d : ByteArray} (h : RBox w b k sq n ps mr l se d) (hb : Below w.heap.size w w') : RBox w' b k sq n ps mr l se d := h.of_block (hb.block b h.lt)

def v4 (k : Int) (m : Nat) (d : ByteArray) : Bool := (decide (0 < mostI k) && decide (mostI k < (d.size : Int))) || decide (128 < (m : Int))
def v7 (k sq n ps mr : Int) (d : ByteArray) : Bool := (mostI k == 0 && !d.toList.isEmpty) || !lowB n || !lowB ps || !lowB mr || decide (sq < 0) || decide (255 < sq)
def v8 (k sq n : Int) (se : Bool) : Bool := (!hasSQi k && sq != 0) || (!hasNi k && n != 0) || (k != 3 && se)
def v9 (k ps mr : Int) : Bool := (!memB k [10, 11] && ps != 0) || (!memB k [11, 12] && mr != 0)
def v12 (k : Int) (m : Nat) : Bool := (k == 11 && (m : Int) % 2 != 0) || (k == 12 && (m : Int) != 2) || (k != 11 && k != 12 && decide (0 < m))
def v15 (xs : List Int) : Bool := xs.any fun x => !lowB x
def rCheck (k sq n ps mr : Int) (xs : List Int) (se : Bool) (d : ByteArray) : Int :=
  if 1 ≤ k ∧ k ≤ 15 then (if v4 k xs.length d = true then 6 else if (v7 k sq n ps mr d || v8 k sq n se || v9 k ps mr || v12 k xs.length || v15 xs) = true then 1 else 0) else 10

end Go.Proofs.YtgphgbajgjddfaaDoor
