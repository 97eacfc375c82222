/- The contract of package pdu's Check. Conditions: the variables lie as their initialisers leave them; the row lies as a row does; the numbers fit their kinds. -/
import Derived.Test.YtgphgbajgjddfaaDoorPduListFits
namespace Go.Proofs.YtgphgbajgjddfaaDoor
open Go.RowKit
set_option linter.unusedVariables false
set_option linter.unusedSimpArgs false

def tooBigV (k : Nat) (len : Nat) (d : ByteArray) : Bool := decide (128 < (len : Int)) || (decide (0 < most k) && decide (most k < (d.size : Int)))
def numbersV (k : Nat) (sq n ps mr : Int) : Bool := fitsV sq (hasSQ k) 255 && fitsV n (hasN k) 16777215 && fitsV ps (hasPS k) 16777215 && fitsV mr (hasMR k) 16777215
def dataV (k : Nat) (se : Bool) (d : ByteArray) : Bool := ((d.toList == []) || decide (0 < most k)) && (!se || hasSelf k)
def checkV (k : Nat) (sq n ps mr : Int) (xs : List Int) (se : Bool) (d : ByteArray) : Int :=
  if tooBigV k xs.length d = true then 6 else if (numbersV k sq n ps mr && listFitsV k xs && dataV k se d) = true then 0 else 1

set_option maxHeartbeats 4000000 in
set_option maxRecDepth 100000 in
theorem pdu_check (k : Nat) (sq n ps mr : Int) (p : Option Addr) (len cap : Nat) (xs : List Int) (se : Bool) (d : ByteArray) (w : World) (hk1' : 1 ≤ k ∧ k ≤ 15) (hS : ShapesIn w) (hlen : len = xs.length) (hr : NumRow w (.slice p len cap) xs) (h1 : 0 ≤ n ∧ n < 4294967296) (h2 : 0 ≤ ps ∧ ps < 4294967296) (h3 : 0 ≤ mr ∧ mr < 4294967296) :
    Calls Tryd.prog 9 #[.agg #[.int .i64 (k : Int), .int .i64 sq, .int .u32 n, .int .u32 ps, .int .u32 mr, .slice p len cap, .bool se, .string d]] w fun e w' => e = .returned (.int .i64 (checkV k sq n ps mr xs se d)) ∧ Below w.heap.size w w' := by
  have hk : k < 16 := by omega
  have HR := Lib.hid (hr.below ((Below.refl _ w).alloc (Nat.le_refl _) (.cells #[.int .i64 (k : Int), .int .i64 sq, .int .u32 n, .int .u32 ps, .int .u32 mr, .slice p len cap, .bool se, .string d] 32)))
  have HS := Lib.hid (hS.next ((Below.refl _ w).alloc (Nat.le_refl _) (.cells #[.int .i64 (k : Int), .int .i64 sq, .int .u32 n, .int .u32 ps, .int .u32 mr, .slice p len cap, .bool se, .string d] 32)))
  have hw1 : w.heap.size < (w.alloc (.cells #[.int .i64 (k : Int), .int .i64 sq, .int .u32 n, .int .u32 ps, .int .u32 mr, .slice p len cap, .bool se, .string d] 32)).heap.size := by simp
  have HKN := Lib.hid (fun W => pdu_known (k : Int) W)
  rw [decide_eq_true (show 1 ≤ (k : Int) ∧ (k : Int) ≤ 15 by omega)] at HKN
  have HV : Hid (checkV k sq n ps mr xs se d = if tooBigV k len d = true then 6 else if (numbersV k sq n ps mr && listFitsV k xs && dataV k se d) = true then 0 else 1) := by show _ = _; rw [hlen]; rfl
  have HLE := Lib.hid hlen
  clear hlen
  have hn := heap_alloc_new w (.cells #[.int .i64 (k : Int), .int .i64 sq, .int .u32 n, .int .u32 ps, .int .u32 mr, .slice p len cap, .bool se, .string d] 32)
  have x0 : (w.alloc (.cells #[.int .i64 (k : Int), .int .i64 sq, .int .u32 n, .int .u32 ps, .int .u32 mr, .slice p len cap, .bool se, .string d] 32)).cell? ⟨w.heap.size, 0, none⟩ = some (.int .i64 (k : Int)) := by rw [cell_of_row _ _ 0 _ _ (0, 0) hn]; rfl
  have x1 : (w.alloc (.cells #[.int .i64 (k : Int), .int .i64 sq, .int .u32 n, .int .u32 ps, .int .u32 mr, .slice p len cap, .bool se, .string d] 32)).cell? ⟨w.heap.size, 1, none⟩ = some (.int .i64 sq) := by rw [cell_of_row _ _ 1 _ _ (0, 0) hn]; rfl
  have x2 : (w.alloc (.cells #[.int .i64 (k : Int), .int .i64 sq, .int .u32 n, .int .u32 ps, .int .u32 mr, .slice p len cap, .bool se, .string d] 32)).cell? ⟨w.heap.size, 2, none⟩ = some (.int .u32 n) := by rw [cell_of_row _ _ 2 _ _ (0, 0) hn]; rfl
  have x3 : (w.alloc (.cells #[.int .i64 (k : Int), .int .i64 sq, .int .u32 n, .int .u32 ps, .int .u32 mr, .slice p len cap, .bool se, .string d] 32)).cell? ⟨w.heap.size, 3, none⟩ = some (.int .u32 ps) := by rw [cell_of_row _ _ 3 _ _ (0, 0) hn]; rfl
  have x4 : (w.alloc (.cells #[.int .i64 (k : Int), .int .i64 sq, .int .u32 n, .int .u32 ps, .int .u32 mr, .slice p len cap, .bool se, .string d] 32)).cell? ⟨w.heap.size, 4, none⟩ = some (.int .u32 mr) := by rw [cell_of_row _ _ 4 _ _ (0, 0) hn]; rfl
  have x5 : (w.alloc (.cells #[.int .i64 (k : Int), .int .i64 sq, .int .u32 n, .int .u32 ps, .int .u32 mr, .slice p len cap, .bool se, .string d] 32)).cell? ⟨w.heap.size, 5, none⟩ = some (.slice p len cap) := by rw [cell_of_row _ _ 5 _ _ (0, 0) hn]; rfl
  have x6 : (w.alloc (.cells #[.int .i64 (k : Int), .int .i64 sq, .int .u32 n, .int .u32 ps, .int .u32 mr, .slice p len cap, .bool se, .string d] 32)).cell? ⟨w.heap.size, 6, none⟩ = some (.bool se) := by rw [cell_of_row _ _ 6 _ _ (0, 0) hn]; rfl
  have x7 : (w.alloc (.cells #[.int .i64 (k : Int), .int .i64 sq, .int .u32 n, .int .u32 ps, .int .u32 mr, .slice p len cap, .bool se, .string d] 32)).cell? ⟨w.heap.size, 7, none⟩ = some (.string d) := by rw [cell_of_row _ _ 7 _ _ (0, 0) hn]; rfl
  have hb := (Below.refl _ w).alloc (Nat.le_refl _) (.cells #[.int .i64 (k : Int), .int .i64 sq, .int .u32 n, .int .u32 ps, .int .u32 mr, .slice p len cap, .bool se, .string d] 32)
  have hS1 := hS.next hb
  obtain ⟨v0, v1, v2, v3, v4, v5, v6⟩ := shape_all k hk
  have s0 := hS1 k 0 hk (by decide)
  have s1 := hS1 k 1 hk (by decide)
  have s2 := hS1 k 2 hk (by decide)
  have s3 := hS1 k 3 hk (by decide)
  have s4 := hS1 k 4 hk (by decide)
  have s5 := hS1 k 5 hk (by decide)
  have s6 := hS1 k 6 hk (by decide)
  rw [Nat.add_zero] at s0
  rw [v0] at s0
  rw [v1] at s1
  rw [v2] at s2
  rw [v3] at s3
  rw [v4] at s4
  rw [v5] at s5
  rw [v6] at s6
  have HB := Lib.hid hb
  have hk0 : (0 : Int) ≤ (k : Int) := by omega
  have hk1 : (k : Int) < 16 := by omega
  clear hn hb hS hS1 v0 v1 v2 v3 v4 v5 v6
  clear s0 s1 s2 s3 s4 s5 s6 hk0 hk1 hr
  have HXX : Hid (∀ W' : World, Below (w.alloc (.cells #[.int .i64 (k : Int), .int .i64 sq, .int .u32 n, .int .u32 ps, .int .u32 mr, .slice p len cap, .bool se, .string d] 32)).heap.size (w.alloc (.cells #[.int .i64 (k : Int), .int .i64 sq, .int .u32 n, .int .u32 ps, .int .u32 mr, .slice p len cap, .bool se, .string d] 32)) W' → W'.cell? ⟨w.heap.size, 0, none⟩ = some (.int .i64 (k : Int)) ∧ W'.cell? ⟨w.heap.size, 1, none⟩ = some (.int .i64 sq) ∧ W'.cell? ⟨w.heap.size, 2, none⟩ = some (.int .u32 n) ∧ W'.cell? ⟨w.heap.size, 3, none⟩ = some (.int .u32 ps) ∧ W'.cell? ⟨w.heap.size, 4, none⟩ = some (.int .u32 mr) ∧ W'.cell? ⟨w.heap.size, 5, none⟩ = some (.slice p len cap) ∧ W'.cell? ⟨w.heap.size, 6, none⟩ = some (.bool se) ∧ W'.cell? ⟨w.heap.size, 7, none⟩ = some (.string d)) := fun W' hb => ⟨by rw [hb.cell (p := ⟨w.heap.size, 0, none⟩) hw1]; exact x0, by rw [hb.cell (p := ⟨w.heap.size, 1, none⟩) hw1]; exact x1, by rw [hb.cell (p := ⟨w.heap.size, 2, none⟩) hw1]; exact x2, by rw [hb.cell (p := ⟨w.heap.size, 3, none⟩) hw1]; exact x3, by rw [hb.cell (p := ⟨w.heap.size, 4, none⟩) hw1]; exact x4, by rw [hb.cell (p := ⟨w.heap.size, 5, none⟩) hw1]; exact x5, by rw [hb.cell (p := ⟨w.heap.size, 6, none⟩) hw1]; exact x6, by rw [hb.cell (p := ⟨w.heap.size, 7, none⟩) hw1]; exact x7⟩
  go_enter Tryd.func9, Tryd.ntmps9
  go_upto_region 1 with fail
  generalize w.alloc (.cells #[.int .i64 (k : Int), .int .i64 sq, .int .u32 n, .int .u32 ps, .int .u32 mr, .slice p len cap, .bool se, .string d] 32) = w2 at *
  have HL2 := Lib.hid (Below.refl w2.heap.size w2)
  go_wp2_with fail
  refine (HKN.out _).mono ?_
  rintro e w2' ⟨rfl, rfl⟩
  go_wp2_with fail
  refine (pdu_tooBig k sq n ps mr p len cap se d w2 hk (HS.out.next HL2.out)).mono ?_
  rintro e w3 ⟨rfl, hl3⟩
  have HL3 := Lib.hid (HL2.out.trans (hl3.mono HL2.out.size))
  clear x0 x1 x2 x3 x4 x5 x6 x7
  obtain ⟨x0, x1, x2, x3, x4, x5, x6, x7⟩ := HXX.out w3 HL3.out
  clear hl3
  rw [show (decide (128 < (len : Int)) || (decide (0 < most k) && decide (most k < (d.size : Int)))) = tooBigV k len d from rfl]
  cases ht : tooBigV k len d with
  | true =>
    rw [ht] at HV
    go_wp2_with fail
    go_ret
    exact ⟨by rw [HV.out]; rfl, HB.out.trans (HL3.out.mono HB.out.size)⟩
  | false =>
    rw [ht] at HV
    go_wp2_with fail
    refine (pdu_numbersFit k sq n ps mr p len cap se d w3 hk (HS.out.next HL3.out) h1 h2 h3).mono ?_
    rintro e w4 ⟨rfl, hl4⟩
    have HL4 := Lib.hid (HL3.out.trans (hl4.mono HL3.out.size))
    clear x0 x1 x2 x3 x4 x5 x6 x7
    obtain ⟨x0, x1, x2, x3, x4, x5, x6, x7⟩ := HXX.out w4 HL4.out
    clear hl4
    rw [show (fitsV sq (hasSQ k) 255 && fitsV n (hasN k) 16777215 && fitsV ps (hasPS k) 16777215 && fitsV mr (hasMR k) 16777215) = numbersV k sq n ps mr from rfl]
    cases hnf : numbersV k sq n ps mr with
    | false =>
      rw [hnf] at HV
      go_wp2_with fail
      go_ret
      exact ⟨by rw [HV.out]; rfl, HB.out.trans (HL4.out.mono HB.out.size)⟩
    | true =>
      rw [hnf] at HV
      go_wp2_with fail
      refine (pdu_listFits k sq n ps mr p len cap xs se d w4 hk (HS.out.next HL4.out) HLE.out (HR.out.below HL4.out)).mono ?_
      rintro e w5 ⟨rfl, hl5⟩
      have HL5 := Lib.hid (HL4.out.trans (hl5.mono HL4.out.size))
      clear x0 x1 x2 x3 x4 x5 x6 x7
      obtain ⟨x0, x1, x2, x3, x4, x5, x6, x7⟩ := HXX.out w5 HL5.out
      clear hl5
      cases hlf : listFitsV k xs with
      | false =>
        rw [hlf] at HV
        go_wp2_with fail
        go_ret
        exact ⟨by rw [HV.out]; rfl, HB.out.trans (HL5.out.mono HB.out.size)⟩
      | true =>
        rw [hlf] at HV
        go_wp2_with fail
        refine (pdu_dataFits k sq n ps mr p len cap se d w5 hk (HS.out.next HL5.out)).mono ?_
        rintro e w6 ⟨rfl, hl6⟩
        have HL6 := Lib.hid (HL5.out.trans (hl6.mono HL5.out.size))
        clear x0 x1 x2 x3 x4 x5 x6 x7
        obtain ⟨x0, x1, x2, x3, x4, x5, x6, x7⟩ := HXX.out w6 HL6.out
        clear hl6
        rw [show (((d.toList == []) || decide (0 < most k)) && (!se || hasSelf k)) = dataV k se d from rfl]
        cases hdf : dataV k se d
        all_goals
          rw [hdf] at HV
          go_wp2_with fail
          go_ret
          exact ⟨by rw [HV.out]; rfl, HB.out.trans (HL6.out.mono HB.out.size)⟩
end Go.Proofs.YtgphgbajgjddfaaDoor
