/- The contract of package pdu's Name. Conditions: the variable names lies as its initialiser leaves it. -/
import Derived.Test.YtammcohjddjaeaaDoorPduFns
namespace Go.Proofs.YtammcohjddjaeaaDoor
open Go.RowKit
set_option linter.unusedVariables false
set_option linter.unusedSimpArgs false

def NamesIn (W : World) : Prop := ∀ r, r < 16 → W.cell? ⟨1, r, none⟩ = some (nameV r)
theorem NamesIn.pos {W : World} (h : NamesIn W) : 1 < W.heap.size := by
  have h0 := h 0 (by decide)
  rcases Nat.lt_or_ge 1 W.heap.size with e | e
  · exact e
  · exfalso
    unfold World.cell? at h0
    have : W.heap[1]? = none := by rw [Array.getElem?_eq_none_iff]; omega
    simp [this] at h0
theorem NamesIn.next {W W' : World} (h : NamesIn W) (hb : Below W.heap.size W W') : NamesIn W' := fun r hr => by
  rw [hb.cell (p := ⟨1, r, none⟩) h.pos]; exact h r hr
def nameS (k : Nat) : ByteArray := match nameV k with
  | .string s => s
  | _ => ByteArray.empty
theorem name_str (k : Nat) (hk : k < 16) : nameV k = .string (nameS k) := by
  have hc : k = 0 ∨ k = 1 ∨ k = 2 ∨ k = 3 ∨ k = 4 ∨ k = 5 ∨ k = 6 ∨ k = 7 ∨ k = 8 ∨ k = 9 ∨ k = 10 ∨ k = 11 ∨ k = 12 ∨ k = 13 ∨ k = 14 ∨ k = 15 := by omega
  rcases hc with rfl | rfl | rfl | rfl | rfl | rfl | rfl | rfl | rfl | rfl | rfl | rfl | rfl | rfl | rfl | rfl <;> rfl

set_option maxRecDepth 100000 in
theorem pdu_name (k sq n ps mr : Int) (p : Option Addr) (len cap : Nat) (se : Bool) (d : ByteArray) (w : World) (hS : NamesIn w) :
    Calls Tryd.prog 21 #[.agg #[.int .i64 k, .int .i64 sq, .int .u32 n, .int .u32 ps, .int .u32 mr, .slice p len cap, .bool se, .string d]] w fun e w' => e = .returned (.string (if 1 ≤ k ∧ k ≤ 15 then nameS k.toNat else ⟨#[]⟩)) ∧ Below w.heap.size w w' := by
  have hn := heap_alloc_new w (.cells #[.int .i64 k, .int .i64 sq, .int .u32 n, .int .u32 ps, .int .u32 mr, .slice p len cap, .bool se, .string d] 31)
  have x0 : (w.alloc (.cells #[.int .i64 k, .int .i64 sq, .int .u32 n, .int .u32 ps, .int .u32 mr, .slice p len cap, .bool se, .string d] 31)).cell? ⟨w.heap.size, 0, none⟩ = some (.int .i64 k) := by rw [cell_of_row _ _ 0 _ _ (0, 0) hn]; rfl
  have hb := (Below.refl _ w).alloc (Nat.le_refl _) (.cells #[.int .i64 k, .int .i64 sq, .int .u32 n, .int .u32 ps, .int .u32 mr, .slice p len cap, .bool se, .string d] 31)
  have hS1 := hS.next hb
  have HB := Lib.hid hb
  have HKN := Lib.hid (fun W => pdu_known k W)
  clear hn hb hS
  by_cases hk : 1 ≤ k ∧ k ≤ 15
  · rw [if_pos hk]
    rw [decide_eq_true hk] at HKN
    obtain ⟨m, rfl⟩ : ∃ m : Nat, k = (m : Int) := ⟨k.toNat, by omega⟩
    have s0 := hS1 m (by omega)
    rw [name_str m (by omega)] at s0
    have hm0 : (0 : Int) ≤ (m : Int) := by omega
    have hm1 : (m : Int) < 16 := by omega
    have hmn : nameS (m : Int).toNat = nameS m := by rw [Int.toNat_natCast]
    rw [hmn]
    clear hS1 hk hmn
    go_enter Tryd.func21, Tryd.ntmps21
    go_upto_region 1 with fail
    generalize w.alloc (.cells #[.int .i64 (m : Int), .int .i64 sq, .int .u32 n, .int .u32 ps, .int .u32 mr, .slice p len cap, .bool se, .string d] 31) = W at *
    go_wp2_with fail
    refine (HKN.out _).mono ?_
    rintro e w3 ⟨rfl, rfl⟩
    go_wp2_with fail
    go_ret
    exact ⟨rfl, HB.out⟩
  · rw [if_neg hk]
    rw [decide_eq_false hk] at HKN
    clear hS1 hk
    go_enter Tryd.func21, Tryd.ntmps21
    go_upto_region 1 with fail
    generalize w.alloc (.cells #[.int .i64 k, .int .i64 sq, .int .u32 n, .int .u32 ps, .int .u32 mr, .slice p len cap, .bool se, .string d] 31) = W at *
    go_wp2_with fail
    refine (HKN.out _).mono ?_
    rintro e w3 ⟨rfl, rfl⟩
    go_wp2_with fail
    go_ret
    exact ⟨rfl, HB.out⟩
end Go.Proofs.YtammcohjddjaeaaDoor
