/- The contracts of package pdu's numbersFit and dataFits. Conditions: the variables lie as their initialisers leave them; the kind is below 16. -/
import Derived.Test.YtgphgbajgjddfaaDoorPduFns
namespace Go.Proofs.YtgphgbajgjddfaaDoor
open Go.RowKit
set_option linter.unusedVariables false
set_option linter.unusedSimpArgs false

set_option maxHeartbeats 4000000 in
set_option maxRecDepth 100000 in
theorem pdu_numbersFit (k : Nat) (sq n ps mr : Int) (p : Option Addr) (len cap : Nat) (se : Bool) (d : ByteArray) (w : World) (hk : k < 16) (hS : ShapesIn w) (h1 : 0 ≤ n ∧ n < 4294967296) (h2 : 0 ≤ ps ∧ ps < 4294967296) (h3 : 0 ≤ mr ∧ mr < 4294967296) :
    Calls Tryd.prog 23 #[.agg #[.int .i64 (k : Int), .int .i64 sq, .int .u32 n, .int .u32 ps, .int .u32 mr, .slice p len cap, .bool se, .string d]] w fun e w' => e = .returned (.bool (fitsV sq (hasSQ k) 255 && fitsV n (hasN k) 16777215 && fitsV ps (hasPS k) 16777215 && fitsV mr (hasMR k) 16777215)) ∧ Below w.heap.size w w' := by
  have hn := heap_alloc_new w (.cells #[.int .i64 (k : Int), .int .i64 sq, .int .u32 n, .int .u32 ps, .int .u32 mr, .slice p len cap, .bool se, .string d] 32)
  have x0 : (w.alloc (.cells #[.int .i64 (k : Int), .int .i64 sq, .int .u32 n, .int .u32 ps, .int .u32 mr, .slice p len cap, .bool se, .string d] 32)).cell? ⟨w.heap.size, 0, none⟩ = some (.int .i64 (k : Int)) := by rw [cell_of_row _ _ 0 _ _ (0, 0) hn]; rfl
  have x1 : (w.alloc (.cells #[.int .i64 (k : Int), .int .i64 sq, .int .u32 n, .int .u32 ps, .int .u32 mr, .slice p len cap, .bool se, .string d] 32)).cell? ⟨w.heap.size, 1, none⟩ = some (.int .i64 sq) := by rw [cell_of_row _ _ 1 _ _ (0, 0) hn]; rfl
  have x2 : (w.alloc (.cells #[.int .i64 (k : Int), .int .i64 sq, .int .u32 n, .int .u32 ps, .int .u32 mr, .slice p len cap, .bool se, .string d] 32)).cell? ⟨w.heap.size, 2, none⟩ = some (.int .u32 n) := by rw [cell_of_row _ _ 2 _ _ (0, 0) hn]; rfl
  have x3 : (w.alloc (.cells #[.int .i64 (k : Int), .int .i64 sq, .int .u32 n, .int .u32 ps, .int .u32 mr, .slice p len cap, .bool se, .string d] 32)).cell? ⟨w.heap.size, 3, none⟩ = some (.int .u32 ps) := by rw [cell_of_row _ _ 3 _ _ (0, 0) hn]; rfl
  have x4 : (w.alloc (.cells #[.int .i64 (k : Int), .int .i64 sq, .int .u32 n, .int .u32 ps, .int .u32 mr, .slice p len cap, .bool se, .string d] 32)).cell? ⟨w.heap.size, 4, none⟩ = some (.int .u32 mr) := by rw [cell_of_row _ _ 4 _ _ (0, 0) hn]; rfl
  have x5 : (w.alloc (.cells #[.int .i64 (k : Int), .int .i64 sq, .int .u32 n, .int .u32 ps, .int .u32 mr, .slice p len cap, .bool se, .string d] 32)).cell? ⟨w.heap.size, 5, none⟩ = some (.slice p len cap) := by rw [cell_of_row _ _ 5 _ _ (0, 0) hn]; rfl
  have x6 : (w.alloc (.cells #[.int .i64 (k : Int), .int .i64 sq, .int .u32 n, .int .u32 ps, .int .u32 mr, .slice p len cap, .bool se, .string d] 32)).cell? ⟨w.heap.size, 6, none⟩ = some (.bool se) := by rw [cell_of_row _ _ 6 _ _ (0, 0) hn]; rfl
  have x7 : (w.alloc (.cells #[.int .i64 (k : Int), .int .i64 sq, .int .u32 n, .int .u32 ps, .int .u32 mr, .slice p len cap, .bool se, .string d] 32)).cell? ⟨w.heap.size, 7, none⟩ = some (.string d) := by rw [cell_of_row _ _ 7 _ _ (0, 0) hn]; rfl
  have hb := (Below.refl _ w).alloc (Nat.le_refl _) (.cells #[.int .i64 (k : Int), .int .i64 sq, .int .u32 n, .int .u32 ps, .int .u32 mr, .slice p len cap, .bool se, .string d] 32)
  have hS1 := hS.next hb
  obtain ⟨v0, v1, v2, v3, v4, v5, v6⟩ := shape_all k hk
  have s0 := hS1 k 0 hk (by decide)
  have s1 := hS1 k 1 hk (by decide)
  have s2 := hS1 k 2 hk (by decide)
  have s3 := hS1 k 3 hk (by decide)
  have s4 := hS1 k 4 hk (by decide)
  have s5 := hS1 k 5 hk (by decide)
  have s6 := hS1 k 6 hk (by decide)
  rw [Nat.add_zero] at s0
  rw [v0] at s0
  rw [v1] at s1
  rw [v2] at s2
  rw [v3] at s3
  rw [v4] at s4
  rw [v5] at s5
  rw [v6] at s6
  have HB := Lib.hid hb
  have hk0 : (0 : Int) ≤ (k : Int) := by omega
  have hk1 : (k : Int) < 16 := by omega
  clear hn hb hS hS1 v0 v1 v2 v3 v4 v5 v6
  have F1 := Lib.hid (fun W => pdu_fits sq (hasSQ k) 255 W)
  have F2 := Lib.hid (fun W => pdu_fits n (hasN k) 16777215 W)
  have F3 := Lib.hid (fun W => pdu_fits ps (hasPS k) 16777215 W)
  have F4 := Lib.hid (fun W => pdu_fits mr (hasMR k) 16777215 W)
  generalize fitsV sq (hasSQ k) 255 = f1 at *
  generalize fitsV n (hasN k) 16777215 = f2 at *
  generalize fitsV ps (hasPS k) 16777215 = f3 at *
  generalize fitsV mr (hasMR k) 16777215 = f4 at *
  have hw1 : w.heap.size < (w.alloc (.cells #[.int .i64 (k : Int), .int .i64 sq, .int .u32 n, .int .u32 ps, .int .u32 mr, .slice p len cap, .bool se, .string d] 32)).heap.size := by simp
  go_enter Tryd.func23, Tryd.ntmps23
  go_upto_region 1 with fail
  generalize w.alloc (.cells #[.int .i64 (k : Int), .int .i64 sq, .int .u32 n, .int .u32 ps, .int .u32 mr, .slice p len cap, .bool se, .string d] 32) = W at *
  go_upto_region 2 with fail
  have hm := heap_alloc_new W (.cells #[.bool (hasSQ k), .bool (hasPS k), .bool (hasMR k), .bool (hasN k), .bool (hasSelf k), .int .i64 (listOf k), .int .i64 (most k)] 69)
  have y0 : (W.alloc (.cells #[.bool (hasSQ k), .bool (hasPS k), .bool (hasMR k), .bool (hasN k), .bool (hasSelf k), .int .i64 (listOf k), .int .i64 (most k)] 69)).cell? ⟨W.heap.size, 0, none⟩ = some (.bool (hasSQ k)) := by rw [cell_of_row _ _ 0 _ _ (0, 0) hm]; rfl
  have y1 : (W.alloc (.cells #[.bool (hasSQ k), .bool (hasPS k), .bool (hasMR k), .bool (hasN k), .bool (hasSelf k), .int .i64 (listOf k), .int .i64 (most k)] 69)).cell? ⟨W.heap.size, 1, none⟩ = some (.bool (hasPS k)) := by rw [cell_of_row _ _ 1 _ _ (0, 0) hm]; rfl
  have y2 : (W.alloc (.cells #[.bool (hasSQ k), .bool (hasPS k), .bool (hasMR k), .bool (hasN k), .bool (hasSelf k), .int .i64 (listOf k), .int .i64 (most k)] 69)).cell? ⟨W.heap.size, 2, none⟩ = some (.bool (hasMR k)) := by rw [cell_of_row _ _ 2 _ _ (0, 0) hm]; rfl
  have y3 : (W.alloc (.cells #[.bool (hasSQ k), .bool (hasPS k), .bool (hasMR k), .bool (hasN k), .bool (hasSelf k), .int .i64 (listOf k), .int .i64 (most k)] 69)).cell? ⟨W.heap.size, 3, none⟩ = some (.bool (hasN k)) := by rw [cell_of_row _ _ 3 _ _ (0, 0) hm]; rfl
  have y4 : (W.alloc (.cells #[.bool (hasSQ k), .bool (hasPS k), .bool (hasMR k), .bool (hasN k), .bool (hasSelf k), .int .i64 (listOf k), .int .i64 (most k)] 69)).cell? ⟨W.heap.size, 4, none⟩ = some (.bool (hasSelf k)) := by rw [cell_of_row _ _ 4 _ _ (0, 0) hm]; rfl
  have y5 : (W.alloc (.cells #[.bool (hasSQ k), .bool (hasPS k), .bool (hasMR k), .bool (hasN k), .bool (hasSelf k), .int .i64 (listOf k), .int .i64 (most k)] 69)).cell? ⟨W.heap.size, 5, none⟩ = some (.int .i64 (listOf k)) := by rw [cell_of_row _ _ 5 _ _ (0, 0) hm]; rfl
  have y6 : (W.alloc (.cells #[.bool (hasSQ k), .bool (hasPS k), .bool (hasMR k), .bool (hasN k), .bool (hasSelf k), .int .i64 (listOf k), .int .i64 (most k)] 69)).cell? ⟨W.heap.size, 6, none⟩ = some (.int .i64 (most k)) := by rw [cell_of_row _ _ 6 _ _ (0, 0) hm]; rfl
  have hb2 := (Below.refl _ W).alloc (Nat.le_refl _) (.cells #[.bool (hasSQ k), .bool (hasPS k), .bool (hasMR k), .bool (hasN k), .bool (hasSelf k), .int .i64 (listOf k), .int .i64 (most k)] 69)
  have z0 : (W.alloc (.cells #[.bool (hasSQ k), .bool (hasPS k), .bool (hasMR k), .bool (hasN k), .bool (hasSelf k), .int .i64 (listOf k), .int .i64 (most k)] 69)).cell? ⟨w.heap.size, 0, none⟩ = some (.int .i64 (k : Int)) := by rw [hb2.cell (p := ⟨w.heap.size, 0, none⟩) hw1]; exact x0
  have z1 : (W.alloc (.cells #[.bool (hasSQ k), .bool (hasPS k), .bool (hasMR k), .bool (hasN k), .bool (hasSelf k), .int .i64 (listOf k), .int .i64 (most k)] 69)).cell? ⟨w.heap.size, 1, none⟩ = some (.int .i64 sq) := by rw [hb2.cell (p := ⟨w.heap.size, 1, none⟩) hw1]; exact x1
  have z2 : (W.alloc (.cells #[.bool (hasSQ k), .bool (hasPS k), .bool (hasMR k), .bool (hasN k), .bool (hasSelf k), .int .i64 (listOf k), .int .i64 (most k)] 69)).cell? ⟨w.heap.size, 2, none⟩ = some (.int .u32 n) := by rw [hb2.cell (p := ⟨w.heap.size, 2, none⟩) hw1]; exact x2
  have z3 : (W.alloc (.cells #[.bool (hasSQ k), .bool (hasPS k), .bool (hasMR k), .bool (hasN k), .bool (hasSelf k), .int .i64 (listOf k), .int .i64 (most k)] 69)).cell? ⟨w.heap.size, 3, none⟩ = some (.int .u32 ps) := by rw [hb2.cell (p := ⟨w.heap.size, 3, none⟩) hw1]; exact x3
  have z4 : (W.alloc (.cells #[.bool (hasSQ k), .bool (hasPS k), .bool (hasMR k), .bool (hasN k), .bool (hasSelf k), .int .i64 (listOf k), .int .i64 (most k)] 69)).cell? ⟨w.heap.size, 4, none⟩ = some (.int .u32 mr) := by rw [hb2.cell (p := ⟨w.heap.size, 4, none⟩) hw1]; exact x4
  have z5 : (W.alloc (.cells #[.bool (hasSQ k), .bool (hasPS k), .bool (hasMR k), .bool (hasN k), .bool (hasSelf k), .int .i64 (listOf k), .int .i64 (most k)] 69)).cell? ⟨w.heap.size, 5, none⟩ = some (.slice p len cap) := by rw [hb2.cell (p := ⟨w.heap.size, 5, none⟩) hw1]; exact x5
  have z6 : (W.alloc (.cells #[.bool (hasSQ k), .bool (hasPS k), .bool (hasMR k), .bool (hasN k), .bool (hasSelf k), .int .i64 (listOf k), .int .i64 (most k)] 69)).cell? ⟨w.heap.size, 6, none⟩ = some (.bool se) := by rw [hb2.cell (p := ⟨w.heap.size, 6, none⟩) hw1]; exact x6
  have z7 : (W.alloc (.cells #[.bool (hasSQ k), .bool (hasPS k), .bool (hasMR k), .bool (hasN k), .bool (hasSelf k), .int .i64 (listOf k), .int .i64 (most k)] 69)).cell? ⟨w.heap.size, 7, none⟩ = some (.string d) := by rw [hb2.cell (p := ⟨w.heap.size, 7, none⟩) hw1]; exact x7
  have HB2 := Lib.hid (HB.out.trans (hb2.mono HB.out.size))
  clear hm hb2 x0 x1 x2 x3 x4 x5 x6 x7 s0 s1 s2 s3 s4 s5 s6
  generalize W.alloc (.cells #[.bool (hasSQ k), .bool (hasPS k), .bool (hasMR k), .bool (hasN k), .bool (hasSelf k), .int .i64 (listOf k), .int .i64 (most k)] 69) = W2 at *
  clear hk0 hk1
  cases f1
  · go_wp2_with fail
    refine (F1.out _).mono ?_
    rintro e w3 ⟨rfl, rfl⟩
    go_wp2_with fail
    go_ret
    exact ⟨rfl, HB2.out⟩
  cases f2
  · go_wp2_with fail
    refine (F1.out _).mono ?_
    rintro e w3 ⟨rfl, rfl⟩
    go_wp2_with fail
    refine (F2.out _).mono ?_
    rintro e w4 ⟨rfl, rfl⟩
    go_wp2_with fail
    go_ret
    exact ⟨rfl, HB2.out⟩
  cases f3
  · go_wp2_with fail
    refine (F1.out _).mono ?_
    rintro e w3 ⟨rfl, rfl⟩
    go_wp2_with fail
    refine (F2.out _).mono ?_
    rintro e w4 ⟨rfl, rfl⟩
    go_wp2_with fail
    refine (F3.out _).mono ?_
    rintro e w5 ⟨rfl, rfl⟩
    go_wp2_with fail
    go_ret
    exact ⟨rfl, HB2.out⟩
  cases f4
  all_goals
    go_wp2_with fail
    refine (F1.out _).mono ?_
    rintro e w3 ⟨rfl, rfl⟩
    go_wp2_with fail
    refine (F2.out _).mono ?_
    rintro e w4 ⟨rfl, rfl⟩
    go_wp2_with fail
    refine (F3.out _).mono ?_
    rintro e w5 ⟨rfl, rfl⟩
    go_wp2_with fail
    refine (F4.out _).mono ?_
    rintro e w6 ⟨rfl, rfl⟩
    go_wp2_with fail
    go_ret
    exact ⟨rfl, HB2.out⟩

set_option maxHeartbeats 4000000 in
set_option maxRecDepth 100000 in
theorem pdu_dataFits (k : Nat) (sq n ps mr : Int) (p : Option Addr) (len cap : Nat) (se : Bool) (d : ByteArray) (w : World) (hk : k < 16) (hS : ShapesIn w) :
    Calls Tryd.prog 25 #[.agg #[.int .i64 (k : Int), .int .i64 sq, .int .u32 n, .int .u32 ps, .int .u32 mr, .slice p len cap, .bool se, .string d]] w fun e w' => e = .returned (.bool (((d.toList == []) || decide (0 < most k)) && (!se || hasSelf k))) ∧ Below w.heap.size w w' := by
  have hn := heap_alloc_new w (.cells #[.int .i64 (k : Int), .int .i64 sq, .int .u32 n, .int .u32 ps, .int .u32 mr, .slice p len cap, .bool se, .string d] 32)
  have x0 : (w.alloc (.cells #[.int .i64 (k : Int), .int .i64 sq, .int .u32 n, .int .u32 ps, .int .u32 mr, .slice p len cap, .bool se, .string d] 32)).cell? ⟨w.heap.size, 0, none⟩ = some (.int .i64 (k : Int)) := by rw [cell_of_row _ _ 0 _ _ (0, 0) hn]; rfl
  have x1 : (w.alloc (.cells #[.int .i64 (k : Int), .int .i64 sq, .int .u32 n, .int .u32 ps, .int .u32 mr, .slice p len cap, .bool se, .string d] 32)).cell? ⟨w.heap.size, 1, none⟩ = some (.int .i64 sq) := by rw [cell_of_row _ _ 1 _ _ (0, 0) hn]; rfl
  have x2 : (w.alloc (.cells #[.int .i64 (k : Int), .int .i64 sq, .int .u32 n, .int .u32 ps, .int .u32 mr, .slice p len cap, .bool se, .string d] 32)).cell? ⟨w.heap.size, 2, none⟩ = some (.int .u32 n) := by rw [cell_of_row _ _ 2 _ _ (0, 0) hn]; rfl
  have x3 : (w.alloc (.cells #[.int .i64 (k : Int), .int .i64 sq, .int .u32 n, .int .u32 ps, .int .u32 mr, .slice p len cap, .bool se, .string d] 32)).cell? ⟨w.heap.size, 3, none⟩ = some (.int .u32 ps) := by rw [cell_of_row _ _ 3 _ _ (0, 0) hn]; rfl
  have x4 : (w.alloc (.cells #[.int .i64 (k : Int), .int .i64 sq, .int .u32 n, .int .u32 ps, .int .u32 mr, .slice p len cap, .bool se, .string d] 32)).cell? ⟨w.heap.size, 4, none⟩ = some (.int .u32 mr) := by rw [cell_of_row _ _ 4 _ _ (0, 0) hn]; rfl
  have x5 : (w.alloc (.cells #[.int .i64 (k : Int), .int .i64 sq, .int .u32 n, .int .u32 ps, .int .u32 mr, .slice p len cap, .bool se, .string d] 32)).cell? ⟨w.heap.size, 5, none⟩ = some (.slice p len cap) := by rw [cell_of_row _ _ 5 _ _ (0, 0) hn]; rfl
  have x6 : (w.alloc (.cells #[.int .i64 (k : Int), .int .i64 sq, .int .u32 n, .int .u32 ps, .int .u32 mr, .slice p len cap, .bool se, .string d] 32)).cell? ⟨w.heap.size, 6, none⟩ = some (.bool se) := by rw [cell_of_row _ _ 6 _ _ (0, 0) hn]; rfl
  have x7 : (w.alloc (.cells #[.int .i64 (k : Int), .int .i64 sq, .int .u32 n, .int .u32 ps, .int .u32 mr, .slice p len cap, .bool se, .string d] 32)).cell? ⟨w.heap.size, 7, none⟩ = some (.string d) := by rw [cell_of_row _ _ 7 _ _ (0, 0) hn]; rfl
  have hb := (Below.refl _ w).alloc (Nat.le_refl _) (.cells #[.int .i64 (k : Int), .int .i64 sq, .int .u32 n, .int .u32 ps, .int .u32 mr, .slice p len cap, .bool se, .string d] 32)
  have hS1 := hS.next hb
  obtain ⟨v0, v1, v2, v3, v4, v5, v6⟩ := shape_all k hk
  have s0 := hS1 k 0 hk (by decide)
  have s1 := hS1 k 1 hk (by decide)
  have s2 := hS1 k 2 hk (by decide)
  have s3 := hS1 k 3 hk (by decide)
  have s4 := hS1 k 4 hk (by decide)
  have s5 := hS1 k 5 hk (by decide)
  have s6 := hS1 k 6 hk (by decide)
  rw [Nat.add_zero] at s0
  rw [v0] at s0
  rw [v1] at s1
  rw [v2] at s2
  rw [v3] at s3
  rw [v4] at s4
  rw [v5] at s5
  rw [v6] at s6
  have HB := Lib.hid hb
  have hk0 : (0 : Int) ≤ (k : Int) := by omega
  have hk1 : (k : Int) < 16 := by omega
  clear hn hb hS hS1 v0 v1 v2 v3 v4 v5 v6
  have hw1 : w.heap.size < (w.alloc (.cells #[.int .i64 (k : Int), .int .i64 sq, .int .u32 n, .int .u32 ps, .int .u32 mr, .slice p len cap, .bool se, .string d] 32)).heap.size := by simp
  go_enter Tryd.func25, Tryd.ntmps25
  go_upto_region 1 with fail
  generalize w.alloc (.cells #[.int .i64 (k : Int), .int .i64 sq, .int .u32 n, .int .u32 ps, .int .u32 mr, .slice p len cap, .bool se, .string d] 32) = W at *
  go_upto_region 2 with fail
  have hm := heap_alloc_new W (.cells #[.bool (hasSQ k), .bool (hasPS k), .bool (hasMR k), .bool (hasN k), .bool (hasSelf k), .int .i64 (listOf k), .int .i64 (most k)] 69)
  have y0 : (W.alloc (.cells #[.bool (hasSQ k), .bool (hasPS k), .bool (hasMR k), .bool (hasN k), .bool (hasSelf k), .int .i64 (listOf k), .int .i64 (most k)] 69)).cell? ⟨W.heap.size, 0, none⟩ = some (.bool (hasSQ k)) := by rw [cell_of_row _ _ 0 _ _ (0, 0) hm]; rfl
  have y1 : (W.alloc (.cells #[.bool (hasSQ k), .bool (hasPS k), .bool (hasMR k), .bool (hasN k), .bool (hasSelf k), .int .i64 (listOf k), .int .i64 (most k)] 69)).cell? ⟨W.heap.size, 1, none⟩ = some (.bool (hasPS k)) := by rw [cell_of_row _ _ 1 _ _ (0, 0) hm]; rfl
  have y2 : (W.alloc (.cells #[.bool (hasSQ k), .bool (hasPS k), .bool (hasMR k), .bool (hasN k), .bool (hasSelf k), .int .i64 (listOf k), .int .i64 (most k)] 69)).cell? ⟨W.heap.size, 2, none⟩ = some (.bool (hasMR k)) := by rw [cell_of_row _ _ 2 _ _ (0, 0) hm]; rfl
  have y3 : (W.alloc (.cells #[.bool (hasSQ k), .bool (hasPS k), .bool (hasMR k), .bool (hasN k), .bool (hasSelf k), .int .i64 (listOf k), .int .i64 (most k)] 69)).cell? ⟨W.heap.size, 3, none⟩ = some (.bool (hasN k)) := by rw [cell_of_row _ _ 3 _ _ (0, 0) hm]; rfl
  have y4 : (W.alloc (.cells #[.bool (hasSQ k), .bool (hasPS k), .bool (hasMR k), .bool (hasN k), .bool (hasSelf k), .int .i64 (listOf k), .int .i64 (most k)] 69)).cell? ⟨W.heap.size, 4, none⟩ = some (.bool (hasSelf k)) := by rw [cell_of_row _ _ 4 _ _ (0, 0) hm]; rfl
  have y5 : (W.alloc (.cells #[.bool (hasSQ k), .bool (hasPS k), .bool (hasMR k), .bool (hasN k), .bool (hasSelf k), .int .i64 (listOf k), .int .i64 (most k)] 69)).cell? ⟨W.heap.size, 5, none⟩ = some (.int .i64 (listOf k)) := by rw [cell_of_row _ _ 5 _ _ (0, 0) hm]; rfl
  have y6 : (W.alloc (.cells #[.bool (hasSQ k), .bool (hasPS k), .bool (hasMR k), .bool (hasN k), .bool (hasSelf k), .int .i64 (listOf k), .int .i64 (most k)] 69)).cell? ⟨W.heap.size, 6, none⟩ = some (.int .i64 (most k)) := by rw [cell_of_row _ _ 6 _ _ (0, 0) hm]; rfl
  have hb2 := (Below.refl _ W).alloc (Nat.le_refl _) (.cells #[.bool (hasSQ k), .bool (hasPS k), .bool (hasMR k), .bool (hasN k), .bool (hasSelf k), .int .i64 (listOf k), .int .i64 (most k)] 69)
  have z0 : (W.alloc (.cells #[.bool (hasSQ k), .bool (hasPS k), .bool (hasMR k), .bool (hasN k), .bool (hasSelf k), .int .i64 (listOf k), .int .i64 (most k)] 69)).cell? ⟨w.heap.size, 0, none⟩ = some (.int .i64 (k : Int)) := by rw [hb2.cell (p := ⟨w.heap.size, 0, none⟩) hw1]; exact x0
  have z1 : (W.alloc (.cells #[.bool (hasSQ k), .bool (hasPS k), .bool (hasMR k), .bool (hasN k), .bool (hasSelf k), .int .i64 (listOf k), .int .i64 (most k)] 69)).cell? ⟨w.heap.size, 1, none⟩ = some (.int .i64 sq) := by rw [hb2.cell (p := ⟨w.heap.size, 1, none⟩) hw1]; exact x1
  have z2 : (W.alloc (.cells #[.bool (hasSQ k), .bool (hasPS k), .bool (hasMR k), .bool (hasN k), .bool (hasSelf k), .int .i64 (listOf k), .int .i64 (most k)] 69)).cell? ⟨w.heap.size, 2, none⟩ = some (.int .u32 n) := by rw [hb2.cell (p := ⟨w.heap.size, 2, none⟩) hw1]; exact x2
  have z3 : (W.alloc (.cells #[.bool (hasSQ k), .bool (hasPS k), .bool (hasMR k), .bool (hasN k), .bool (hasSelf k), .int .i64 (listOf k), .int .i64 (most k)] 69)).cell? ⟨w.heap.size, 3, none⟩ = some (.int .u32 ps) := by rw [hb2.cell (p := ⟨w.heap.size, 3, none⟩) hw1]; exact x3
  have z4 : (W.alloc (.cells #[.bool (hasSQ k), .bool (hasPS k), .bool (hasMR k), .bool (hasN k), .bool (hasSelf k), .int .i64 (listOf k), .int .i64 (most k)] 69)).cell? ⟨w.heap.size, 4, none⟩ = some (.int .u32 mr) := by rw [hb2.cell (p := ⟨w.heap.size, 4, none⟩) hw1]; exact x4
  have z5 : (W.alloc (.cells #[.bool (hasSQ k), .bool (hasPS k), .bool (hasMR k), .bool (hasN k), .bool (hasSelf k), .int .i64 (listOf k), .int .i64 (most k)] 69)).cell? ⟨w.heap.size, 5, none⟩ = some (.slice p len cap) := by rw [hb2.cell (p := ⟨w.heap.size, 5, none⟩) hw1]; exact x5
  have z6 : (W.alloc (.cells #[.bool (hasSQ k), .bool (hasPS k), .bool (hasMR k), .bool (hasN k), .bool (hasSelf k), .int .i64 (listOf k), .int .i64 (most k)] 69)).cell? ⟨w.heap.size, 6, none⟩ = some (.bool se) := by rw [hb2.cell (p := ⟨w.heap.size, 6, none⟩) hw1]; exact x6
  have z7 : (W.alloc (.cells #[.bool (hasSQ k), .bool (hasPS k), .bool (hasMR k), .bool (hasN k), .bool (hasSelf k), .int .i64 (listOf k), .int .i64 (most k)] 69)).cell? ⟨w.heap.size, 7, none⟩ = some (.string d) := by rw [hb2.cell (p := ⟨w.heap.size, 7, none⟩) hw1]; exact x7
  have HB2 := Lib.hid (HB.out.trans (hb2.mono HB.out.size))
  clear hm hb2 x0 x1 x2 x3 x4 x5 x6 x7 s0 s1 s2 s3 s4 s5 s6
  generalize W.alloc (.cells #[.bool (hasSQ k), .bool (hasPS k), .bool (hasMR k), .bool (hasN k), .bool (hasSelf k), .int .i64 (listOf k), .int .i64 (most k)] 69) = W2 at *
  clear hk0 hk1
  have k1 : ∀ b : Bool, b = true ∨ b = false := fun b => by cases b <;> simp
  rcases k1 (d.toList == []) with c1 | c1 <;> rcases k1 (decide (0 < most k)) with c2 | c2 <;> rcases k1 se with c3 | c3 <;> rcases k1 (hasSelf k) with c4 | c4
  all_goals
    go_wp2_with fail
    go_ret
    exact ⟨by rw [c1, c2, c3, c4]; rfl, HB2.out⟩
end Go.Proofs.YtgphgbajgjddfaaDoor
