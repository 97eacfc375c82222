/- The contract of Turn: a text with the bits of a mask turned. Conditions: the text isn't empty, the place lies in it. -/
import Derived.Test.YtgphgbajgjddfaaDoorCrcAwake
import Derived.OpenShut
import Derived.Lib.ConvBytes
import Derived.RegionTactic
import Derived.ChangeAlike
namespace Go.Proofs.YtgphgbajgjddfaaDoor
open Go.RowKit Crc
set_option linter.unusedVariables false

/-- One bit turned, if the mask asks for it. -/
def turn1 (l : List Nat) (at_ mask k : Nat) : List Nat :=
  if mask.testBit (31 - k) = true ∧ at_ + k < 8 * l.length then l.set ((at_ + k) / 8) (l.getD ((at_ + k) / 8) 0 ^^^ 2 ^ (7 - (at_ + k) % 8)) else l
def turnN (l : List Nat) (at_ mask : Nat) : Nat → List Nat
  | 0 => l
  | k + 1 => turn1 (turnN l at_ mask k) at_ mask k
theorem turnN_len (l : List Nat) (at_ mask : Nat) (k : Nat) : (turnN l at_ mask k).length = l.length := by
  induction k with
  | zero => rfl
  | succ k ih =>
    show (turn1 (turnN l at_ mask k) at_ mask k).length = _
    unfold turn1
    split
    · rw [List.length_set, ih]
    · exact ih

def Row8 (w : World) (g n : Nat) (l : List Nat) : Prop := l.length = n ∧ ∀ j, j < n → w.cell? ⟨g, j, none⟩ = some (.int .u8 (l.getD j 0 : Nat)) ∧ w.frozen? ⟨g, j, none⟩ = false

theorem mask_bit (mask m : Nat) (h : mask < 4294967296) : (Go.bits .and .u32 ((mask : Int) / 2 ^ m) 1 == 1) = mask.testBit m := by
  have e : ((mask : Int) / 2 ^ m) = ((mask / 2 ^ m : Nat) : Int) := by simp
  have h2 : mask / 2 ^ m < 4294967296 := Nat.lt_of_le_of_lt (Nat.div_le_self _ _) h
  have h3 := u32_and_nat (mask / 2 ^ m) 1 h2 (by decide)
  have h4 : Go.bits .and .u32 ((mask / 2 ^ m : Nat) : Int) 1 = ((mask / 2 ^ m &&& 1 : Nat) : Int) := h3
  rw [e, h4, nat_mask1, Nat.testBit_eq_decide_div_mod_eq]
  have h5 : mask / 2 ^ m % 2 = 0 ∨ mask / 2 ^ m % 2 = 1 := by omega
  rcases h5 with h5 | h5 <;> rw [h5] <;> rfl

theorem turnN_lt (l : List Nat) (hl : ∀ b ∈ l, b < 256) (at_ mask : Nat) (k : Nat) : ∀ j, (turnN l at_ mask k).getD j 0 < 256 := by
  induction k with
  | zero =>
    intro j
    show l.getD j 0 < 256
    rw [List.getD_eq_getElem?_getD]
    cases h : l[j]? with
    | none => simp
    | some b => exact hl b (List.mem_of_getElem? h)
  | succ k ih =>
    intro j
    show (turn1 (turnN l at_ mask k) at_ mask k).getD j 0 < 256
    unfold turn1
    split
    · rw [List.getD_eq_getElem?_getD, List.getElem?_set]
      split
      · split
        · exact Nat.xor_lt_two_pow (n := 8) (ih _) (Nat.pow_lt_pow_of_lt (by decide) (by omega))
        · simp
      · rw [← List.getD_eq_getElem?_getD]; exact ih j
    · exact ih j

theorem pow_bit (q : Nat) (hq : q < 8) : (128 : Int) / 2 ^ q = ((2 ^ (7 - q) : Nat) : Int) := by
  have : q = 0 ∨ q = 1 ∨ q = 2 ∨ q = 3 ∨ q = 4 ∨ q = 5 ∨ q = 6 ∨ q = 7 := by omega
  rcases this with rfl | rfl | rfl | rfl | rfl | rfl | rfl | rfl <;> rfl
theorem xor_bit (B p : Nat) (hB : B < 256) : Go.bits .xor .u8 (B : Int) (128 / 2 ^ (p % 8)) = ((B ^^^ 2 ^ (7 - p % 8) : Nat) : Int) := by
  rw [pow_bit (p % 8) (by omega), u8_xor_nat B _ hB (Nat.pow_lt_pow_of_lt (m := 8) (by decide) (by omega))]

theorem below_drew {B : Nat} {a w : World} (h : Below B a w) : Below B a w.drew := ⟨h.os, h.tape, h.output, h.size, h.block⟩
theorem row8_set {w : World} {g n : Nat} {l : List Nat} (h : Row8 w g n l) {i : Nat} (hi : i < n) {V : Int} {v : Nat} (hv : V = (v : Int)) :
    Row8 (w.setCell ⟨g, i, none⟩ (.int .u8 V)).drew g n (l.set i v) := by
  refine ⟨by rw [List.length_set]; exact h.1, fun j hj => ⟨?_, ?_⟩⟩
  · show (w.setCell ⟨g, i, none⟩ (.int .u8 V)).cell? ⟨g, j, none⟩ = _
    by_cases e : i = j
    · subst e
      rw [World.cell?_setCell_same _ _ _ (h.2 i hi).1, hv]
      simp [h.1, hi]
    · rw [World.cell?_setCell_other _ _ _ _ (fun h => e (congrArg Addr.off h)), (h.2 j hj).1]
      simp [e]
  · show (w.setCell ⟨g, i, none⟩ (.int .u8 V)).frozen? ⟨g, j, none⟩ = _
    rw [World.frozen?_setCell]; exact (h.2 j hj).2

theorem row8_start (w : World) (s : ByteArray) : Row8 (Lib.bytesWorld w 5 s) w.heap.size s.size (nums s) := by
  refine ⟨nums_len s, fun j hj => ⟨?_, ?_⟩⟩
  · rw [Lib.bytesWorld_cell w _ s j hj]
    have : (nums s).getD j 0 = (s.data.toList.getD j 0).toNat := by
      unfold nums
      rw [List.getD_eq_getElem?_getD, List.getD_eq_getElem?_getD, List.getElem?_map]
      cases s.data.toList[j]? <;> rfl
    rw [this]
  · have hsz : (Lib.bytesCells w 5 s).size = s.size + (grownCap w s.size 0 5 - s.size) := by
      unfold Lib.bytesCells
      rw [Array.size_append, Array.size_map, Array.size_replicate]
      rfl
    unfold World.frozen?
    rw [Lib.bytesWorld_at_new]
    simp
    omega
theorem below_bytes (w : World) (t : TypeId) (s : ByteArray) : Below w.heap.size w (Lib.bytesWorld w t s) :=
  ⟨rfl, rfl, rfl, by rw [Lib.bytesWorld_size]; omega, fun i hi => Lib.bytesWorld_at_old w t s i hi⟩

theorem row8_string (w : World) (g n cap : Nat) (l : List Nat) (h : Row8 w g n l) :
    Sem.run Tryd.prog (convert 63 9 (.slice (some ⟨g, 0, none⟩) n cap)) w = .ok (.string (strOfNums (l.map Int.ofNat))) w := by
  refine run_convert_bytes_arg (P := Tryd.prog) w 63 5 Tryd.underlying63 Tryd.underlying5 g 0 n cap (l.map Int.ofNat) (by rw [List.length_map]; exact h.1) ?_ 9 Tryd.underlying9
  intro i hi
  rw [Nat.zero_add, (h.2 i hi).1]
  have hl : i < l.length := by rw [h.1]; exact hi
  simp [hl]

theorem nums_ofRow (l : List Nat) (h : ∀ j, l.getD j 0 < 256) : nums (strOfNums (l.map Int.ofNat)) = l := by
  rw [nums_strOfNums, List.map_map]
  apply List.ext_getElem?
  intro i
  rw [List.getElem?_map]
  cases hi : l[i]? with
  | none => rfl
  | some b =>
    have := h i
    rw [List.getD_eq_getElem?_getD, hi] at this
    simp only [Option.getD_some] at this
    simp
    omega

end Go.Proofs.YtgphgbajgjddfaaDoor
