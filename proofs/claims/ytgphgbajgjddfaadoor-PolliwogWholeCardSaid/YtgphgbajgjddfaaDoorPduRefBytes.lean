/- The contract of the document's own Bytes of a unit. Conditions: its numbers are from 0 on; its row lies as a row does. -/
import Derived.Test.YtgphgbajgjddfaaDoorPduRefBox
import Derived.Test.YtgphgbajgjddfaaDoorPduRefSame
import Derived.Deep.DeepCutAuto
import Derived.Test.YtgphgbajgjddfaaDoorFrameRef
namespace Go.Proofs.YtgphgbajgjddfaaDoor
open Go.RowKit
set_option linter.unusedVariables false
set_option linter.unusedSimpArgs false
theorem str_append (a b : List Int) : strOfNums a ++ strOfNums b = strOfNums (a ++ b) := by
  apply nums_inj
  rw [nums_append, nums_strOfNums, nums_strOfNums, nums_strOfNums, List.map_append]
theorem data_zeros (d : ByteArray) (j : Nat) : d ++ zeros j = strOfNums (dataI d ++ List.replicate j 0) := by
  apply nums_inj
  rw [nums_append, nums_zeros, nums_strOfNums, List.map_append]
  congr 1
  · unfold dataI
    rw [List.map_map]
    conv => lhs; rw [← List.map_id (nums d)]
    apply List.map_congr_left
    intro b hb
    have := nums_lt d b hb
    simp only [Function.comp, id, UInt8.toNat_ofNat']
    show b = (Int.ofNat b).toNat % 2 ^ 8
    rw [Int.toNat_natCast (n := b) |> (fun h => show (Int.ofNat b).toNat = b from h)]
    omega
  · rw [List.map_replicate]; rfl

def optB (b : Bool) (x : Int) : List Int := if b = true then [x] else []
theorem optB_len (b : Bool) (x : Int) : (optB b x).length ≤ 1 := by cases b <;> simp [optB]
theorem flatB_len (l : List Int) : (l.flatMap wordB).length = 4 * l.length := flat_len l
/-- The document's order of the words is the program's: who has an SQ has no list. -/
theorem sq_first {k : Nat} {sq n ps mr : Int} {xs : List Int} {se : Bool} {d : ByteArray} (hk : 1 ≤ k ∧ k ≤ 15) (h : checkV k sq n ps mr xs se d = 0) : optB (hasSQ k) sq ++ xs ++ optB (hasPS k) ps ++ optB (hasMR k) mr = wordsL k sq ps mr xs := by
  unfold wordsL
  have e : optB (hasSQ k) sq ++ xs = xs ++ optB (hasSQ k) sq := by
    cases hq : hasSQ k with
    | false => simp [optB]
    | true =>
      have hx : xs = [] := by
        unfold checkV at h
        split at h
        · omega
        · split at h
          · rename_i hg
            rw [Bool.and_eq_true, Bool.and_eq_true] at hg
            have h2 := hg.1.2
            unfold listFitsV at h2
            rw [Bool.and_eq_true] at h2
            have h22 := h2.2
            have hl : listOf k = 0 := by
              have hc : k = 1 ∨ k = 2 ∨ k = 3 ∨ k = 4 ∨ k = 5 ∨ k = 6 ∨ k = 7 ∨ k = 8 ∨ k = 9 ∨ k = 10 ∨ k = 11 ∨ k = 12 ∨ k = 13 ∨ k = 14 ∨ k = 15 := by omega
              rcases hc with rfl | rfl | rfl | rfl | rfl | rfl | rfl | rfl | rfl | rfl | rfl | rfl | rfl | rfl | rfl <;> first | rfl | exact absurd hq (by decide)
            rw [hl, if_neg (by decide), if_neg (by decide), beq_iff_eq] at h22
            exact List.eq_nil_of_length_eq_zero (by omega)
          · omega
      subst hx
      simp
  rw [e]
  rfl
theorem kind_atoms (k : Nat) (hk : 1 ≤ k ∧ k ≤ 15) : (((k : Int) == 10) = true ∧ hasPS k = true) ∨ (((k : Int) == 10) = false ∧ ((k : Int) == 11) = true ∧ hasPS k = true) ∨ (((k : Int) == 10) = false ∧ ((k : Int) == 11) = false ∧ hasPS k = false) := by
  have hc : k = 1 ∨ k = 2 ∨ k = 3 ∨ k = 4 ∨ k = 5 ∨ k = 6 ∨ k = 7 ∨ k = 8 ∨ k = 9 ∨ k = 10 ∨ k = 11 ∨ k = 12 ∨ k = 13 ∨ k = 14 ∨ k = 15 := by omega
  rcases hc with rfl | rfl | rfl | rfl | rfl | rfl | rfl | rfl | rfl | rfl | rfl | rfl | rfl | rfl | rfl <;> decide
theorem kind_atoms2 (k : Nat) (hk : 1 ≤ k ∧ k ≤ 15) : (((k : Int) == 11) = true ∧ hasMR k = true) ∨ (((k : Int) == 11) = false ∧ ((k : Int) == 12) = true ∧ hasMR k = true) ∨ (((k : Int) == 11) = false ∧ ((k : Int) == 12) = false ∧ hasMR k = false) := by
  have hc : k = 1 ∨ k = 2 ∨ k = 3 ∨ k = 4 ∨ k = 5 ∨ k = 6 ∨ k = 7 ∨ k = 8 ∨ k = 9 ∨ k = 10 ∨ k = 11 ∨ k = 12 ∨ k = 13 ∨ k = 14 ∨ k = 15 := by omega
  rcases hc with rfl | rfl | rfl | rfl | rfl | rfl | rfl | rfl | rfl | rfl | rfl | rfl | rfl | rfl | rfl <;> decide

def DW (DT OQ xs Q M : List Int) : List Int := DT ++ (OQ ++ xs ++ Q ++ M).flatMap wordB
theorem DW_len (DT OQ xs Q M : List Int) : (DW DT OQ xs Q M).length = DT.length + 4 * (OQ.length + xs.length + Q.length + M.length) := by
  unfold DW
  rw [List.length_append, flatB_len, List.length_append, List.length_append, List.length_append]

end Go.Proofs.YtgphgbajgjddfaaDoor
