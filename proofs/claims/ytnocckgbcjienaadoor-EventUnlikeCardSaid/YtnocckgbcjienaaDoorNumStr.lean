/- Texts as lists of numbers; the contract of the laws' Cut. No conditions but the text's length. -/
import Derived.Test.YtnocckgbcjienaaDoorSeqBase
import Derived.Test.YtnocckgbcjienaaDoorCrcMath
import Derived.Laws.BytesArg
import Derived.Lib.Hide
import Derived.Lib.IndexBytes
import Derived.Lib.SmallJoins
import Derived.Laws.BitsAll
import Derived.WalkKit
import Derived.IntWalk
import Derived.OpenShut
import Derived.Lib.ConvBytes
import Derived.RegionTactic
import Derived.ChangeAlike
namespace Go.Proofs.YtnocckgbcjienaaDoor
open Go.RowKit
set_option linter.unusedVariables false
set_option linter.unusedSimpArgs false

/-- A text's bytes as numbers. -/
def nums (s : ByteArray) : List Nat := s.data.toList.map UInt8.toNat
theorem nums_len (s : ByteArray) : (nums s).length = s.size := by simp [nums]
theorem nums_lt (s : ByteArray) : ∀ b ∈ nums s, b < 256 := by
  intro b hb
  obtain ⟨c, _, rfl⟩ := List.mem_map.1 hb
  exact c.toNat_lt
theorem nums_take (s : ByteArray) (k : Nat) (h : k < s.size) : (nums s).take (k + 1) = (nums s).take k ++ [(s[k]).toNat] := by
  rw [List.take_succ_eq_append_getElem (by rw [nums_len]; exact h)]
  simp [nums]; rfl

theorem nums_strOfNums (xs : List Int) : nums (strOfNums xs) = xs.map fun n => (UInt8.ofNat n.toNat).toNat := by
  unfold nums
  rw [strOfNums_data, List.map_map]
  rfl

theorem nums_append (a b : ByteArray) : nums (a ++ b) = nums a ++ nums b := by
  unfold nums
  rw [Joins.data_append, List.map_append]
theorem nums_inj (a b : ByteArray) (h : nums a = nums b) : a = b := by
  apply WideShapes.bytes_inj
  unfold nums at h
  exact List.map_inj_right (fun x y h => UInt8.toNat_inj.1 h) |>.1 h

def cutB (s : ByteArray) (n : Nat) : ByteArray := if n < s.size then s.extract 0 n else s
theorem cutB_size (s : ByteArray) (n : Nat) : (cutB s n).size ≤ n := by
  unfold cutB
  split
  · rw [ByteArray.size_extract]; omega
  · omega
def dataI (d : ByteArray) : List Int := (nums d).map Int.ofNat
theorem dataI_len (d : ByteArray) : (dataI d).length = d.size := by unfold dataI; rw [List.length_map, nums_len]
theorem nums_strI (l : List Int) (h : ∀ b, b ∈ l → 0 ≤ b ∧ b < 256) : nums (strOfNums l) = l.map Int.toNat := by
  rw [nums_strOfNums]
  apply List.map_congr_left
  intro b hb
  have := h b hb
  simp only [UInt8.toNat_ofNat']
  omega
theorem dataI_in (d : ByteArray) : ∀ b, b ∈ dataI d → 0 ≤ b ∧ b < 256 := by
  intro b hb
  unfold dataI at hb
  obtain ⟨x, hx, rfl⟩ := List.mem_map.1 hb
  have := nums_lt d x hx
  simp only [Int.ofNat_eq_natCast]
  omega
theorem strI_data (d : ByteArray) : strOfNums (dataI d) = d := by
  apply nums_inj
  rw [nums_strI _ (dataI_in d)]
  unfold dataI
  rw [List.map_map]
  have : (Int.toNat ∘ Int.ofNat) = id := by funext x; rfl
  rw [this, List.map_id]
theorem byte_str (l : List Int) (hl : ∀ b, b ∈ l → 0 ≤ b ∧ b < 256) (i : Nat) (hi : i < (strOfNums l).size) : (((strOfNums l)[i].toNat : Nat) : Int) = l.getD i 0 := by
  have hi2 : i < l.length := by rw [strOfNums_size] at hi; exact hi
  have e : nums (strOfNums l) = l.map fun n => (UInt8.ofNat n.toNat).toNat := nums_strOfNums l
  have e2 : (nums (strOfNums l))[i]? = some ((strOfNums l)[i]).toNat := by
    unfold nums
    rw [List.getElem?_map]
    have : (strOfNums l).data.toList[i]? = some (strOfNums l)[i] := by
      rw [Array.getElem?_toList]
      exact Array.getElem?_eq_getElem hi
    rw [this]; rfl
  rw [e, List.getElem?_map, List.getElem?_eq_getElem hi2] at e2
  simp only [Option.map_some, Option.some.injEq] at e2
  rw [← e2, List.getD_eq_getElem?_getD, List.getElem?_eq_getElem hi2]
  have := hl _ (List.getElem_mem hi2)
  simp only [Option.getD_some, UInt8.toNat_ofNat']
  omega

theorem str_append (a b : List Int) : strOfNums a ++ strOfNums b = strOfNums (a ++ b) := by
  apply nums_inj
  rw [nums_append, nums_strOfNums, nums_strOfNums, nums_strOfNums, List.map_append]
theorem toList_eq2 (a b : ByteArray) : (a.toList == b.toList) = decide (a = b) := by
  rw [ByteArray.toList_eq, ByteArray.toList_eq, Bool.eq_iff_iff, beq_iff_eq, decide_eq_true_iff]
  constructor
  · intro h
    apply ByteArray.ext
    exact Array.toList_inj.1 h
  · intro h; rw [h]
theorem crc_cut (s : ByteArray) (n : Nat) (w : World) (hs : s.size ≤ maxLen) (hn : n ≤ 100000) :
    Calls Tryd.prog 10 #[.string s, .int .i64 (n : Int)] w fun e w' => e = .returned (.string (cutB s n)) ∧ w = w' := by
  unfold maxLen at hs
  by_cases h : n < s.size
  · have e : Hid (cutB s n = s.extract 0 n) := if_pos h
    go_enter Tryd.func10, Tryd.ntmps10
    go_wp2
    go_ret
    exact ⟨by rw [e.out]; rfl, rfl⟩
  · have e : Hid (cutB s n = s) := if_neg h
    go_enter Tryd.func10, Tryd.ntmps10
    go_wp2
    go_ret
    exact ⟨by rw [e.out]; rfl, rfl⟩
end Go.Proofs.YtnocckgbcjienaaDoor
