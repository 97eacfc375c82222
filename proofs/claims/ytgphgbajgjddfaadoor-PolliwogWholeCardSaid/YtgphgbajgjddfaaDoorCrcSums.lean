/- The contracts of the document's sum and of its four bytes, and of crc.sumBytes: bytes are numbers below 256. Conditions: a text is no longer than a text may be. -/
import Derived.Test.YtgphgbajgjddfaaDoorCrcFns
import Derived.Deep.QuietTactic
import Derived.BigQuiet
import Derived.Laws.BytesArg
namespace Go.Proofs.YtgphgbajgjddfaaDoor
open Go.RowKit Crc
set_option linter.unusedVariables false

/-- A text's bytes as numbers. -/
def nums (s : ByteArray) : List Nat := s.data.toList.map UInt8.toNat
theorem nums_len (s : ByteArray) : (nums s).length = s.size := by simp [nums]
theorem nums_lt (s : ByteArray) : ∀ b ∈ nums s, b < 256 := by
  intro b hb
  obtain ⟨c, _, rfl⟩ := List.mem_map.1 hb
  exact c.toNat_lt
theorem nums_take (s : ByteArray) (k : Nat) (h : k < s.size) : (nums s).take (k + 1) = (nums s).take k ++ [(s[k]).toNat] := by
  rw [List.take_succ_eq_append_getElem (by rw [nums_len]; exact h)]
  simp [nums]; rfl

theorem run_take (x : BitVec 32) (s : ByteArray) (k : Nat) (h : k < s.size) : run x ((nums s).take (k + 1)) = on (run x ((nums s).take k)) (s[k]).toNat := by
  rw [nums_take s k h, run_snoc]

theorem bv_not (x : BitVec 32) : 4294967295 - (x.toNat : Int) = ((~~~x).toNat : Int) := by
  rw [BitVec.toNat_not]; have := x.isLt; omega



/-- The four bytes of a sum, the highest first. -/
def fourN (x : BitVec 32) : List Int := [(x.toNat : Int) / 16777216, (x.toNat : Int) / 65536 % 256, (x.toNat : Int) / 256 % 256, (x.toNat : Int) % 256]
def four (x : BitVec 32) : ByteArray := strOfNums (fourN x)

theorem conv4 (W : World) (a b c d : Int) :
    Sem.run Tryd.prog (convert 63 9 (.slice (some ⟨W.heap.size, 0, none⟩) 4 4)) (W.alloc (.cells #[.int .u8 a, .int .u8 b, .int .u8 c, .int .u8 d] 5)) =
      .ok (.string (strOfNums [a, b, c, d])) (W.alloc (.cells #[.int .u8 a, .int .u8 b, .int .u8 c, .int .u8 d] 5)) := by
  refine run_convert_bytes_arg (P := Tryd.prog) _ 63 5 Tryd.underlying63 Tryd.underlying5 W.heap.size 0 4 4 [a, b, c, d] rfl ?_ 9 Tryd.underlying9
  intro i hi
  have : i = 0 ∨ i = 1 ∨ i = 2 ∨ i = 3 := by omega
  rcases this with rfl | rfl | rfl | rfl <;> simp

theorem crc_four (x : BitVec 32) (w : World) :
    Calls Tryd.prog 41 #[.int .u32 (x.toNat : Int)] w fun e w' => e = .returned (.string (four x)) ∧ Below w.heap.size w w' := by
  have hb := bv_lt x
  have hb0 : 0 ≤ (x.toNat : Int) := by omega
  have hconv := conv4
  have H : Hid (strOfNums [(x.toNat : Int) / 16777216, (x.toNat : Int) / 65536 % 256, (x.toNat : Int) / 256 % 256, (x.toNat : Int) % 256] = four x) := rfl
  generalize (x.toNat : Int) = X at *
  generalize four x = F at *
  go_enter Tryd.func41, Tryd.ntmps41
  go_wp2
  go_ret
  exact ⟨by rw [← H.out]; rfl, (Below.refl _ _).alloc (Nat.le_refl _) _⟩

end Go.Proofs.YtgphgbajgjddfaaDoor
