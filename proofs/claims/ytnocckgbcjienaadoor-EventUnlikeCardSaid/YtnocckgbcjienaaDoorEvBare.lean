/- The contract of the law's bare. -/
import Derived.Test.YtnocckgbcjienaaDoorEvTexts
import Derived.Test.YtnocckgbcjienaaDoorEvInj
import Derived.Test.YtnocckgbcjienaaDoorEvLaws
namespace Go.Proofs.YtnocckgbcjienaaDoor
open Go.RowKit
set_option linter.unusedVariables false
set_option linter.unusedSimpArgs false

theorem and255 (n : Int) : ∃ m : Nat, m < 256 ∧ bits .and .i64 n 255 = (m : Int) := by
  have e3 : (BitVec.ofInt 64 255).toNat = 2 ^ 8 - 1 := by decide
  have e4 : (BitVec.ofInt 64 n &&& BitVec.ofInt 64 255).toNat < 256 := by
    rw [BitVec.toNat_and, e3, Nat.and_two_pow_sub_one_eq_mod]
    omega
  refine ⟨(BitVec.ofInt 64 n &&& BitVec.ofInt 64 255).toNat, e4, ?_⟩
  show IntKind.i64.wrap ((BitVec.ofInt 64 n &&& BitVec.ofInt 64 255).toNat : Nat) = _
  rw [IntKind.wrap_i64]
  omega
/-- The law's own signal lies in the call's first block, its result in the second. -/
structure St (w W : World) (k n : Int) (d : ByteArray) (se : Bool) (code : Int) : Prop where
  box : W.heap[w.heap.size]? = some (.cells #[.int .i64 k, .string d, .bool se, .int .u8 code, .int .i64 n] 31 (0, 0))
  out : W.heap[w.heap.size + 1]? = some (.cells #[.int .i64 0, .string ⟨#[]⟩, .bool false, .int .u8 0, .int .i64 0] 31 (0, 0))
  low : Below w.heap.size w W
theorem st_new (w : World) (k n : Int) (d : ByteArray) (se : Bool) (code : Int) : St w ((w.alloc (.cells #[.int .i64 k, .string d, .bool se, .int .u8 code, .int .i64 n] 31)).alloc (.cells #[.int .i64 0, .string ⟨#[]⟩, .bool false, .int .u8 0, .int .i64 0] 31)) k n d se code := by
  have e : (w.alloc (.cells #[.int .i64 k, .string d, .bool se, .int .u8 code, .int .i64 n] 31)).heap.size = w.heap.size + 1 := by simp
  have hb := (Below.refl (w.heap.size + 1) (w.alloc (.cells #[.int .i64 k, .string d, .bool se, .int .u8 code, .int .i64 n] 31))).alloc (by simp) (.cells #[.int .i64 0, .string ⟨#[]⟩, .bool false, .int .u8 0, .int .i64 0] 31)
  refine ⟨?_, ?_, ((Below.refl _ w).alloc (Nat.le_refl _) _).alloc (by simp) _⟩
  · rw [hb.block _ (by omega)]
    exact heap_alloc_new w _
  · rw [← e]
    exact heap_alloc_new _ _
theorem st_cells {w W : World} {k n : Int} {d : ByteArray} {se : Bool} {code : Int} (h : St w W k n d se code) : W.cell? ⟨w.heap.size, 0, none⟩ = some (.int .i64 k) ∧ W.cell? ⟨w.heap.size, 1, none⟩ = some (.string d) ∧ W.cell? ⟨w.heap.size, 2, none⟩ = some (.bool se) ∧ W.cell? ⟨w.heap.size, 3, none⟩ = some (.int .u8 code) ∧ W.cell? ⟨w.heap.size, 4, none⟩ = some (.int .i64 n) := by
  refine ⟨?_, ?_, ?_, ?_, ?_⟩
  · rw [cell_of_row _ _ 0 _ _ (0, 0) h.box]; rfl
  · rw [cell_of_row _ _ 1 _ _ (0, 0) h.box]; rfl
  · rw [cell_of_row _ _ 2 _ _ (0, 0) h.box]; rfl
  · rw [cell_of_row _ _ 3 _ _ (0, 0) h.box]; rfl
  · rw [cell_of_row _ _ 4 _ _ (0, 0) h.box]; rfl
theorem st_frozen {w W : World} {k n : Int} {d : ByteArray} {se : Bool} {code : Int} (h : St w W k n d se code) (j : Nat) : W.frozen? ⟨w.heap.size, j, none⟩ = false := by
  unfold World.frozen?
  rw [h.box]
  simp
theorem st_k {w W : World} {k n : Int} {d : ByteArray} {se : Bool} {code : Int} (h : St w W k n d se code) (x : Int) : St w (W.setCell ⟨w.heap.size, 0, none⟩ (.int .i64 x)) x n d se code := by
  refine ⟨?_, ?_, Below.setCell h.low (p := ⟨w.heap.size, 0, none⟩) (Nat.le_refl _) _⟩
  · rw [heap_setCell_same W w.heap.size 0 _ _ _ h.box]; rfl
  · rw [heap_setCell_other W _ _ _ (by show w.heap.size + 1 ≠ w.heap.size; omega)]; exact h.out
theorem st_d {w W : World} {k n : Int} {d : ByteArray} {se : Bool} {code : Int} (h : St w W k n d se code) (x : ByteArray) : St w (W.setCell ⟨w.heap.size, 1, none⟩ (.string x)) k n x se code := by
  refine ⟨?_, ?_, Below.setCell h.low (p := ⟨w.heap.size, 1, none⟩) (Nat.le_refl _) _⟩
  · rw [heap_setCell_same W w.heap.size 1 _ _ _ h.box]; rfl
  · rw [heap_setCell_other W _ _ _ (by show w.heap.size + 1 ≠ w.heap.size; omega)]; exact h.out
theorem st_se {w W : World} {k n : Int} {d : ByteArray} {se : Bool} {code : Int} (h : St w W k n d se code) (x : Bool) : St w (W.setCell ⟨w.heap.size, 2, none⟩ (.bool x)) k n d x code := by
  refine ⟨?_, ?_, Below.setCell h.low (p := ⟨w.heap.size, 2, none⟩) (Nat.le_refl _) _⟩
  · rw [heap_setCell_same W w.heap.size 2 _ _ _ h.box]; rfl
  · rw [heap_setCell_other W _ _ _ (by show w.heap.size + 1 ≠ w.heap.size; omega)]; exact h.out
theorem st_code {w W : World} {k n : Int} {d : ByteArray} {se : Bool} {code : Int} (h : St w W k n d se code) (x : Int) : St w (W.setCell ⟨w.heap.size, 3, none⟩ (.int .u8 x)) k n d se x := by
  refine ⟨?_, ?_, Below.setCell h.low (p := ⟨w.heap.size, 3, none⟩) (Nat.le_refl _) _⟩
  · rw [heap_setCell_same W w.heap.size 3 _ _ _ h.box]; rfl
  · rw [heap_setCell_other W _ _ _ (by show w.heap.size + 1 ≠ w.heap.size; omega)]; exact h.out
theorem st_n {w W : World} {k n : Int} {d : ByteArray} {se : Bool} {code : Int} (h : St w W k n d se code) (x : Int) : St w (W.setCell ⟨w.heap.size, 4, none⟩ (.int .i64 x)) k x d se code := by
  refine ⟨?_, ?_, Below.setCell h.low (p := ⟨w.heap.size, 4, none⟩) (Nat.le_refl _) _⟩
  · rw [heap_setCell_same W w.heap.size 4 _ _ _ h.box]; rfl
  · rw [heap_setCell_other W _ _ _ (by show w.heap.size + 1 ≠ w.heap.size; omega)]; exact h.out
theorem sig_one (k n : Int) (d : ByteArray) (se : Bool) (code : Int) : (#[.int .i64 k, .string d, .bool se, .int .u8 code, .int .i64 n] : Array Value).all (·.oneCell') = true := by simp [Value.oneCell']
theorem infoSig5 (k n : Int) (d : ByteArray) (se : Bool) (code : Int) : (Tryd.prog.info? 31).map (·.size) = some (#[.int .i64 k, .string d, .bool se, .int .u8 code, .int .i64 n] : Array Value).size := infoSig
set_option maxHeartbeats 8000000 in
set_option maxRecDepth 100000 in
theorem law_bare (k n : Int) (d : ByteArray) (se : Bool) (code : Int) (w : World) (hd : d.size ≤ maxLen) (h0 : -9223372036854775808 ≤ n) (h1 : n ≤ 9223372036854775807) (hc : 0 ≤ code ∧ code ≤ 255) :
    Calls Tryd.prog 15 #[.agg #[.int .i64 k, .string d, .bool se, .int .u8 code, .int .i64 n]] w fun e w' => ∃ k' n' d' se' code', e = .returned (.agg #[.int .i64 k', .string d', .bool se', .int .u8 code', .int .i64 n']) ∧ Bare k' n' d' se' code' ∧ d'.size ≤ 60 ∧ -9223372036854775808 ≤ n' ∧ n' ≤ 9223372036854775807 ∧ Below w.heap.size w w' := by
  obtain ⟨m, hm, ham⟩ := and255 k
  have hsz := cutB_size d 60
  have HS := Lib.hid (st_new w k n d se code)
  have HC := Lib.hid (fun W => show Calls Tryd.prog 10 #[.string d, .int .i64 60] W fun e w' => e = .returned (.string (cutB d 60)) ∧ w' = W from (crc_cut d 60 W hd (by decide)).mono fun _ _ h => ⟨h.1, h.2.symm⟩)
  generalize cutB d 60 = D at *
  have hlt : w.heap.size < ((w.alloc (.cells #[.int .i64 k, .string d, .bool se, .int .u8 code, .int .i64 n] 31))).heap.size := by simp
  clear hlt
  have hq : m % 12 < 12 := by omega
  have e1 : ((m : Nat) : Int).tmod 12 = ((m % 12 : Nat) : Int) := by rw [Int.tmod_eq_emod_of_nonneg (by omega)]; omega
  generalize m % 12 = q at *
  have hqc : q = 0 ∨ q = 1 ∨ q = 2 ∨ q = 3 ∨ q = 4 ∨ q = 5 ∨ q = 6 ∨ q = 7 ∨ q = 8 ∨ q = 9 ∨ q = 10 ∨ q = 11 := by omega
  go_enter Tryd.func15, Tryd.ntmps15
  go_upto_region 1 with fail
  generalize (w.alloc (.cells #[.int .i64 k, .string d, .bool se, .int .u8 code, .int .i64 n] 31)).alloc (.cells #[.int .i64 0, .string ⟨#[]⟩, .bool false, .int .u8 0, .int .i64 0] 31) = V0 at *
  obtain ⟨x0, x1, x2, x3, x4⟩ := st_cells HS.out
  have f0 := st_frozen HS.out 0
  have f1 := st_frozen HS.out 1
  have f2 := st_frozen HS.out 2
  have f3 := st_frozen HS.out 3
  have f4 := st_frozen HS.out 4
  rcases hqc with rfl | rfl | rfl | rfl | rfl | rfl | rfl | rfl | rfl | rfl | rfl | rfl
  · go_upto_region 2 with fail
    have HN := Lib.hid (st_k HS.out 1)
    clear HS x0 x1 x2 x3 x4 f0 f1 f2 f3 f4
    generalize World.setCell V0 ⟨w.heap.size, 0, none⟩ (.int .i64 1) = V1 at *
    have HS := HN
    clear HN
    obtain ⟨x0, x1, x2, x3, x4⟩ := st_cells HS.out
    have f0 := st_frozen HS.out 0
    have f1 := st_frozen HS.out 1
    have f2 := st_frozen HS.out 2
    have f3 := st_frozen HS.out 3
    have f4 := st_frozen HS.out 4
    go_wp2_with fail
    refine (HC.out _).mono ?_
    rintro e VC ⟨rfl, hwc⟩
    subst hwc
    go_upto_region 3 with fail
    have HN := Lib.hid (st_d HS.out D)
    clear HS x0 x1 x2 x3 x4 f0 f1 f2 f3 f4
    generalize World.setCell VC ⟨w.heap.size, 1, none⟩ (.string D) = V2 at *
    have HS := HN
    clear HN
    obtain ⟨x0, x1, x2, x3, x4⟩ := st_cells HS.out
    have f0 := st_frozen HS.out 0
    have f1 := st_frozen HS.out 1
    have f2 := st_frozen HS.out 2
    have f3 := st_frozen HS.out 3
    have f4 := st_frozen HS.out 4
    go_upto_region 5 with fail
    have HN := Lib.hid (st_se HS.out false)
    clear HS x0 x1 x2 x3 x4 f0 f1 f2 f3 f4
    generalize World.setCell V2 ⟨w.heap.size, 2, none⟩ (.bool false) = V3 at *
    have HS := HN
    clear HN
    obtain ⟨x0, x1, x2, x3, x4⟩ := st_cells HS.out
    have f0 := st_frozen HS.out 0
    have f1 := st_frozen HS.out 1
    have f2 := st_frozen HS.out 2
    have f3 := st_frozen HS.out 3
    have f4 := st_frozen HS.out 4
    go_upto_region 7 with fail
    have HN := Lib.hid (st_n (st_code HS.out 0) 0)
    clear HS x0 x1 x2 x3 x4 f0 f1 f2 f3 f4
    generalize World.setCell (World.setCell V3 ⟨w.heap.size, 3, none⟩ (.int .u8 0)) ⟨w.heap.size, 4, none⟩ (.int .i64 0) = V4 at *
    have HS := HN
    clear HN
    obtain ⟨x0, x1, x2, x3, x4⟩ := st_cells HS.out
    have f0 := st_frozen HS.out 0
    have f1 := st_frozen HS.out 1
    have f2 := st_frozen HS.out 2
    have f3 := st_frozen HS.out 3
    have f4 := st_frozen HS.out 4
    go_upto_region 9 with fail
    have HN := Lib.hid (st_n HS.out 0)
    clear HS x0 x1 x2 x3 x4 f0 f1 f2 f3 f4
    generalize World.setCell V4 ⟨w.heap.size, 4, none⟩ (.int .i64 0) = V5 at *
    have HS := HN
    clear HN
    obtain ⟨x0, x1, x2, x3, x4⟩ := st_cells HS.out
    have f0 := st_frozen HS.out 0
    have f1 := st_frozen HS.out 1
    have f2 := st_frozen HS.out 2
    have f3 := st_frozen HS.out 3
    have f4 := st_frozen HS.out 4
    have HO := Lib.hid HS.out.out
    have HL := Lib.hid HS.out.low
    have Hend : Hid (∀ (tmps : Array Value) (_ : tmps.getD 2 undef = .pointer (some ⟨w.heap.size + 1, 0, none⟩)), (results Tryd.f15 tmps).run Tryd.prog (V5.setRow (w.heap.size + 1) #[.int .i64 1, .string D, .bool false, .int .u8 0, .int .i64 0]) = .ok (.agg #[.int .i64 1, .string D, .bool false, .int .u8 0, .int .i64 0]) (V5.setRow (w.heap.size + 1) #[.int .i64 1, .string D, .bool false, .int .u8 0, .int .i64 0])) := fun tmps ht => results_cell_row (by kernel_rfl) tmps _ (w.heap.size + 1) 31 #[.int .i64 1, .string D, .bool false, .int .u8 0, .int .i64 0] (0, 0) _ ht (setRow_heap _ _ _ _ _ _ HO.out) Tryd.underlying31 rfl infoSig
    clear f0 f1 f2 f3 f4
    go_wp2_with (refine wpList_store_row rfl 31 (.tmp 2) (.tmp 50) rfl (w.heap.size + 1) #[.int .i64 1, .string D, .bool false, .int .u8 0, .int .i64 0] rfl rfl 31 _ HO.out infoSig rfl (sig_one _ _ _ _ _) ?_)
    exact bodyPost_ret (Hend.out _ rfl) rfl ⟨1, 0, D, false, 0, rfl, ⟨by decide, by intro _; rfl, by intro _; exact ⟨rfl, rfl⟩, by intro _; rfl, by intro h; omega, by decide, by decide⟩, hsz, by decide, by decide, below_setRow HL.out (by omega) _⟩
  · go_upto_region 2 with fail
    have HN := Lib.hid (st_k HS.out 2)
    clear HS x0 x1 x2 x3 x4 f0 f1 f2 f3 f4
    generalize World.setCell V0 ⟨w.heap.size, 0, none⟩ (.int .i64 2) = V1 at *
    have HS := HN
    clear HN
    obtain ⟨x0, x1, x2, x3, x4⟩ := st_cells HS.out
    have f0 := st_frozen HS.out 0
    have f1 := st_frozen HS.out 1
    have f2 := st_frozen HS.out 2
    have f3 := st_frozen HS.out 3
    have f4 := st_frozen HS.out 4
    go_wp2_with fail
    refine (HC.out _).mono ?_
    rintro e VC ⟨rfl, hwc⟩
    subst hwc
    go_upto_region 3 with fail
    have HN := Lib.hid (st_d HS.out D)
    clear HS x0 x1 x2 x3 x4 f0 f1 f2 f3 f4
    generalize World.setCell VC ⟨w.heap.size, 1, none⟩ (.string D) = V2 at *
    have HS := HN
    clear HN
    obtain ⟨x0, x1, x2, x3, x4⟩ := st_cells HS.out
    have f0 := st_frozen HS.out 0
    have f1 := st_frozen HS.out 1
    have f2 := st_frozen HS.out 2
    have f3 := st_frozen HS.out 3
    have f4 := st_frozen HS.out 4
    go_upto_region 5 with fail
    have HN := Lib.hid (st_se HS.out false)
    clear HS x0 x1 x2 x3 x4 f0 f1 f2 f3 f4
    generalize World.setCell V2 ⟨w.heap.size, 2, none⟩ (.bool false) = V3 at *
    have HS := HN
    clear HN
    obtain ⟨x0, x1, x2, x3, x4⟩ := st_cells HS.out
    have f0 := st_frozen HS.out 0
    have f1 := st_frozen HS.out 1
    have f2 := st_frozen HS.out 2
    have f3 := st_frozen HS.out 3
    have f4 := st_frozen HS.out 4
    go_upto_region 7 with fail
    have HN := Lib.hid (st_n (st_code HS.out 0) 0)
    clear HS x0 x1 x2 x3 x4 f0 f1 f2 f3 f4
    generalize World.setCell (World.setCell V3 ⟨w.heap.size, 3, none⟩ (.int .u8 0)) ⟨w.heap.size, 4, none⟩ (.int .i64 0) = V4 at *
    have HS := HN
    clear HN
    obtain ⟨x0, x1, x2, x3, x4⟩ := st_cells HS.out
    have f0 := st_frozen HS.out 0
    have f1 := st_frozen HS.out 1
    have f2 := st_frozen HS.out 2
    have f3 := st_frozen HS.out 3
    have f4 := st_frozen HS.out 4
    go_upto_region 9 with fail
    have HN := Lib.hid (st_n HS.out 0)
    clear HS x0 x1 x2 x3 x4 f0 f1 f2 f3 f4
    generalize World.setCell V4 ⟨w.heap.size, 4, none⟩ (.int .i64 0) = V5 at *
    have HS := HN
    clear HN
    obtain ⟨x0, x1, x2, x3, x4⟩ := st_cells HS.out
    have f0 := st_frozen HS.out 0
    have f1 := st_frozen HS.out 1
    have f2 := st_frozen HS.out 2
    have f3 := st_frozen HS.out 3
    have f4 := st_frozen HS.out 4
    go_upto_region 11 with fail
    have HN := Lib.hid (st_d HS.out ⟨#[]⟩)
    clear HS x0 x1 x2 x3 x4 f0 f1 f2 f3 f4
    generalize World.setCell V5 ⟨w.heap.size, 1, none⟩ (.string ⟨#[]⟩) = V6 at *
    have HS := HN
    clear HN
    obtain ⟨x0, x1, x2, x3, x4⟩ := st_cells HS.out
    have f0 := st_frozen HS.out 0
    have f1 := st_frozen HS.out 1
    have f2 := st_frozen HS.out 2
    have f3 := st_frozen HS.out 3
    have f4 := st_frozen HS.out 4
    have HO := Lib.hid HS.out.out
    have HL := Lib.hid HS.out.low
    have Hend : Hid (∀ (tmps : Array Value) (_ : tmps.getD 2 undef = .pointer (some ⟨w.heap.size + 1, 0, none⟩)), (results Tryd.f15 tmps).run Tryd.prog (V6.setRow (w.heap.size + 1) #[.int .i64 2, .string ⟨#[]⟩, .bool false, .int .u8 0, .int .i64 0]) = .ok (.agg #[.int .i64 2, .string ⟨#[]⟩, .bool false, .int .u8 0, .int .i64 0]) (V6.setRow (w.heap.size + 1) #[.int .i64 2, .string ⟨#[]⟩, .bool false, .int .u8 0, .int .i64 0])) := fun tmps ht => results_cell_row (by kernel_rfl) tmps _ (w.heap.size + 1) 31 #[.int .i64 2, .string ⟨#[]⟩, .bool false, .int .u8 0, .int .i64 0] (0, 0) _ ht (setRow_heap _ _ _ _ _ _ HO.out) Tryd.underlying31 rfl infoSig
    clear f0 f1 f2 f3 f4
    go_wp2_with (refine wpList_store_row rfl 31 (.tmp 2) (.tmp 50) rfl (w.heap.size + 1) #[.int .i64 2, .string ⟨#[]⟩, .bool false, .int .u8 0, .int .i64 0] rfl rfl 31 _ HO.out infoSig rfl (sig_one _ _ _ _ _) ?_)
    exact bodyPost_ret (Hend.out _ rfl) rfl ⟨2, 0, ⟨#[]⟩, false, 0, rfl, ⟨by decide, by intro _; rfl, by intro _; exact ⟨rfl, rfl⟩, by intro _; rfl, by intro _; rfl, by decide, by decide⟩, by decide, by decide, by decide, below_setRow HL.out (by omega) _⟩
  · go_upto_region 2 with fail
    have HN := Lib.hid (st_k HS.out 3)
    clear HS x0 x1 x2 x3 x4 f0 f1 f2 f3 f4
    generalize World.setCell V0 ⟨w.heap.size, 0, none⟩ (.int .i64 3) = V1 at *
    have HS := HN
    clear HN
    obtain ⟨x0, x1, x2, x3, x4⟩ := st_cells HS.out
    have f0 := st_frozen HS.out 0
    have f1 := st_frozen HS.out 1
    have f2 := st_frozen HS.out 2
    have f3 := st_frozen HS.out 3
    have f4 := st_frozen HS.out 4
    go_wp2_with fail
    refine (HC.out _).mono ?_
    rintro e VC ⟨rfl, hwc⟩
    subst hwc
    go_upto_region 3 with fail
    have HN := Lib.hid (st_d HS.out D)
    clear HS x0 x1 x2 x3 x4 f0 f1 f2 f3 f4
    generalize World.setCell VC ⟨w.heap.size, 1, none⟩ (.string D) = V2 at *
    have HS := HN
    clear HN
    obtain ⟨x0, x1, x2, x3, x4⟩ := st_cells HS.out
    have f0 := st_frozen HS.out 0
    have f1 := st_frozen HS.out 1
    have f2 := st_frozen HS.out 2
    have f3 := st_frozen HS.out 3
    have f4 := st_frozen HS.out 4
    go_upto_region 7 with fail
    have HN := Lib.hid (st_n (st_code HS.out 0) 0)
    clear HS x0 x1 x2 x3 x4 f0 f1 f2 f3 f4
    generalize World.setCell (World.setCell V2 ⟨w.heap.size, 3, none⟩ (.int .u8 0)) ⟨w.heap.size, 4, none⟩ (.int .i64 0) = V3 at *
    have HS := HN
    clear HN
    obtain ⟨x0, x1, x2, x3, x4⟩ := st_cells HS.out
    have f0 := st_frozen HS.out 0
    have f1 := st_frozen HS.out 1
    have f2 := st_frozen HS.out 2
    have f3 := st_frozen HS.out 3
    have f4 := st_frozen HS.out 4
    go_upto_region 9 with fail
    have HN := Lib.hid (st_n HS.out 0)
    clear HS x0 x1 x2 x3 x4 f0 f1 f2 f3 f4
    generalize World.setCell V3 ⟨w.heap.size, 4, none⟩ (.int .i64 0) = V4 at *
    have HS := HN
    clear HN
    obtain ⟨x0, x1, x2, x3, x4⟩ := st_cells HS.out
    have f0 := st_frozen HS.out 0
    have f1 := st_frozen HS.out 1
    have f2 := st_frozen HS.out 2
    have f3 := st_frozen HS.out 3
    have f4 := st_frozen HS.out 4
    have HO := Lib.hid HS.out.out
    have HL := Lib.hid HS.out.low
    have Hend : Hid (∀ (tmps : Array Value) (_ : tmps.getD 2 undef = .pointer (some ⟨w.heap.size + 1, 0, none⟩)), (results Tryd.f15 tmps).run Tryd.prog (V4.setRow (w.heap.size + 1) #[.int .i64 3, .string D, .bool se, .int .u8 0, .int .i64 0]) = .ok (.agg #[.int .i64 3, .string D, .bool se, .int .u8 0, .int .i64 0]) (V4.setRow (w.heap.size + 1) #[.int .i64 3, .string D, .bool se, .int .u8 0, .int .i64 0])) := fun tmps ht => results_cell_row (by kernel_rfl) tmps _ (w.heap.size + 1) 31 #[.int .i64 3, .string D, .bool se, .int .u8 0, .int .i64 0] (0, 0) _ ht (setRow_heap _ _ _ _ _ _ HO.out) Tryd.underlying31 rfl infoSig
    clear f0 f1 f2 f3 f4
    go_wp2_with (refine wpList_store_row rfl 31 (.tmp 2) (.tmp 50) rfl (w.heap.size + 1) #[.int .i64 3, .string D, .bool se, .int .u8 0, .int .i64 0] rfl rfl 31 _ HO.out infoSig rfl (sig_one _ _ _ _ _) ?_)
    exact bodyPost_ret (Hend.out _ rfl) rfl ⟨3, 0, D, se, 0, rfl, ⟨by decide, by intro h; exact absurd rfl h, by intro _; exact ⟨rfl, rfl⟩, by intro _; rfl, by intro h; omega, by decide, by decide⟩, hsz, by decide, by decide, below_setRow HL.out (by omega) _⟩
  · go_upto_region 2 with fail
    have HN := Lib.hid (st_k HS.out 4)
    clear HS x0 x1 x2 x3 x4 f0 f1 f2 f3 f4
    generalize World.setCell V0 ⟨w.heap.size, 0, none⟩ (.int .i64 4) = V1 at *
    have HS := HN
    clear HN
    obtain ⟨x0, x1, x2, x3, x4⟩ := st_cells HS.out
    have f0 := st_frozen HS.out 0
    have f1 := st_frozen HS.out 1
    have f2 := st_frozen HS.out 2
    have f3 := st_frozen HS.out 3
    have f4 := st_frozen HS.out 4
    go_wp2_with fail
    refine (HC.out _).mono ?_
    rintro e VC ⟨rfl, hwc⟩
    subst hwc
    go_upto_region 3 with fail
    have HN := Lib.hid (st_d HS.out D)
    clear HS x0 x1 x2 x3 x4 f0 f1 f2 f3 f4
    generalize World.setCell VC ⟨w.heap.size, 1, none⟩ (.string D) = V2 at *
    have HS := HN
    clear HN
    obtain ⟨x0, x1, x2, x3, x4⟩ := st_cells HS.out
    have f0 := st_frozen HS.out 0
    have f1 := st_frozen HS.out 1
    have f2 := st_frozen HS.out 2
    have f3 := st_frozen HS.out 3
    have f4 := st_frozen HS.out 4
    go_upto_region 5 with fail
    have HN := Lib.hid (st_se HS.out false)
    clear HS x0 x1 x2 x3 x4 f0 f1 f2 f3 f4
    generalize World.setCell V2 ⟨w.heap.size, 2, none⟩ (.bool false) = V3 at *
    have HS := HN
    clear HN
    obtain ⟨x0, x1, x2, x3, x4⟩ := st_cells HS.out
    have f0 := st_frozen HS.out 0
    have f1 := st_frozen HS.out 1
    have f2 := st_frozen HS.out 2
    have f3 := st_frozen HS.out 3
    have f4 := st_frozen HS.out 4
    go_upto_region 7 with fail
    have HN := Lib.hid (st_n (st_code HS.out 0) 0)
    clear HS x0 x1 x2 x3 x4 f0 f1 f2 f3 f4
    generalize World.setCell (World.setCell V3 ⟨w.heap.size, 3, none⟩ (.int .u8 0)) ⟨w.heap.size, 4, none⟩ (.int .i64 0) = V4 at *
    have HS := HN
    clear HN
    obtain ⟨x0, x1, x2, x3, x4⟩ := st_cells HS.out
    have f0 := st_frozen HS.out 0
    have f1 := st_frozen HS.out 1
    have f2 := st_frozen HS.out 2
    have f3 := st_frozen HS.out 3
    have f4 := st_frozen HS.out 4
    go_upto_region 9 with fail
    have HN := Lib.hid (st_n HS.out 0)
    clear HS x0 x1 x2 x3 x4 f0 f1 f2 f3 f4
    generalize World.setCell V4 ⟨w.heap.size, 4, none⟩ (.int .i64 0) = V5 at *
    have HS := HN
    clear HN
    obtain ⟨x0, x1, x2, x3, x4⟩ := st_cells HS.out
    have f0 := st_frozen HS.out 0
    have f1 := st_frozen HS.out 1
    have f2 := st_frozen HS.out 2
    have f3 := st_frozen HS.out 3
    have f4 := st_frozen HS.out 4
    go_upto_region 11 with fail
    have HN := Lib.hid (st_d HS.out ⟨#[]⟩)
    clear HS x0 x1 x2 x3 x4 f0 f1 f2 f3 f4
    generalize World.setCell V5 ⟨w.heap.size, 1, none⟩ (.string ⟨#[]⟩) = V6 at *
    have HS := HN
    clear HN
    obtain ⟨x0, x1, x2, x3, x4⟩ := st_cells HS.out
    have f0 := st_frozen HS.out 0
    have f1 := st_frozen HS.out 1
    have f2 := st_frozen HS.out 2
    have f3 := st_frozen HS.out 3
    have f4 := st_frozen HS.out 4
    have HO := Lib.hid HS.out.out
    have HL := Lib.hid HS.out.low
    have Hend : Hid (∀ (tmps : Array Value) (_ : tmps.getD 2 undef = .pointer (some ⟨w.heap.size + 1, 0, none⟩)), (results Tryd.f15 tmps).run Tryd.prog (V6.setRow (w.heap.size + 1) #[.int .i64 4, .string ⟨#[]⟩, .bool false, .int .u8 0, .int .i64 0]) = .ok (.agg #[.int .i64 4, .string ⟨#[]⟩, .bool false, .int .u8 0, .int .i64 0]) (V6.setRow (w.heap.size + 1) #[.int .i64 4, .string ⟨#[]⟩, .bool false, .int .u8 0, .int .i64 0])) := fun tmps ht => results_cell_row (by kernel_rfl) tmps _ (w.heap.size + 1) 31 #[.int .i64 4, .string ⟨#[]⟩, .bool false, .int .u8 0, .int .i64 0] (0, 0) _ ht (setRow_heap _ _ _ _ _ _ HO.out) Tryd.underlying31 rfl infoSig
    clear f0 f1 f2 f3 f4
    go_wp2_with (refine wpList_store_row rfl 31 (.tmp 2) (.tmp 50) rfl (w.heap.size + 1) #[.int .i64 4, .string ⟨#[]⟩, .bool false, .int .u8 0, .int .i64 0] rfl rfl 31 _ HO.out infoSig rfl (sig_one _ _ _ _ _) ?_)
    exact bodyPost_ret (Hend.out _ rfl) rfl ⟨4, 0, ⟨#[]⟩, false, 0, rfl, ⟨by decide, by intro _; rfl, by intro _; exact ⟨rfl, rfl⟩, by intro _; rfl, by intro _; rfl, by decide, by decide⟩, by decide, by decide, by decide, below_setRow HL.out (by omega) _⟩
  · go_upto_region 2 with fail
    have HN := Lib.hid (st_k HS.out 5)
    clear HS x0 x1 x2 x3 x4 f0 f1 f2 f3 f4
    generalize World.setCell V0 ⟨w.heap.size, 0, none⟩ (.int .i64 5) = V1 at *
    have HS := HN
    clear HN
    obtain ⟨x0, x1, x2, x3, x4⟩ := st_cells HS.out
    have f0 := st_frozen HS.out 0
    have f1 := st_frozen HS.out 1
    have f2 := st_frozen HS.out 2
    have f3 := st_frozen HS.out 3
    have f4 := st_frozen HS.out 4
    go_wp2_with fail
    refine (HC.out _).mono ?_
    rintro e VC ⟨rfl, hwc⟩
    subst hwc
    go_upto_region 3 with fail
    have HN := Lib.hid (st_d HS.out D)
    clear HS x0 x1 x2 x3 x4 f0 f1 f2 f3 f4
    generalize World.setCell VC ⟨w.heap.size, 1, none⟩ (.string D) = V2 at *
    have HS := HN
    clear HN
    obtain ⟨x0, x1, x2, x3, x4⟩ := st_cells HS.out
    have f0 := st_frozen HS.out 0
    have f1 := st_frozen HS.out 1
    have f2 := st_frozen HS.out 2
    have f3 := st_frozen HS.out 3
    have f4 := st_frozen HS.out 4
    go_upto_region 5 with fail
    have HN := Lib.hid (st_se HS.out false)
    clear HS x0 x1 x2 x3 x4 f0 f1 f2 f3 f4
    generalize World.setCell V2 ⟨w.heap.size, 2, none⟩ (.bool false) = V3 at *
    have HS := HN
    clear HN
    obtain ⟨x0, x1, x2, x3, x4⟩ := st_cells HS.out
    have f0 := st_frozen HS.out 0
    have f1 := st_frozen HS.out 1
    have f2 := st_frozen HS.out 2
    have f3 := st_frozen HS.out 3
    have f4 := st_frozen HS.out 4
    go_upto_region 7 with fail
    have HN := Lib.hid (st_n (st_code HS.out 0) 0)
    clear HS x0 x1 x2 x3 x4 f0 f1 f2 f3 f4
    generalize World.setCell (World.setCell V3 ⟨w.heap.size, 3, none⟩ (.int .u8 0)) ⟨w.heap.size, 4, none⟩ (.int .i64 0) = V4 at *
    have HS := HN
    clear HN
    obtain ⟨x0, x1, x2, x3, x4⟩ := st_cells HS.out
    have f0 := st_frozen HS.out 0
    have f1 := st_frozen HS.out 1
    have f2 := st_frozen HS.out 2
    have f3 := st_frozen HS.out 3
    have f4 := st_frozen HS.out 4
    go_upto_region 9 with fail
    have HN := Lib.hid (st_n HS.out 0)
    clear HS x0 x1 x2 x3 x4 f0 f1 f2 f3 f4
    generalize World.setCell V4 ⟨w.heap.size, 4, none⟩ (.int .i64 0) = V5 at *
    have HS := HN
    clear HN
    obtain ⟨x0, x1, x2, x3, x4⟩ := st_cells HS.out
    have f0 := st_frozen HS.out 0
    have f1 := st_frozen HS.out 1
    have f2 := st_frozen HS.out 2
    have f3 := st_frozen HS.out 3
    have f4 := st_frozen HS.out 4
    have HO := Lib.hid HS.out.out
    have HL := Lib.hid HS.out.low
    have Hend : Hid (∀ (tmps : Array Value) (_ : tmps.getD 2 undef = .pointer (some ⟨w.heap.size + 1, 0, none⟩)), (results Tryd.f15 tmps).run Tryd.prog (V5.setRow (w.heap.size + 1) #[.int .i64 5, .string D, .bool false, .int .u8 0, .int .i64 0]) = .ok (.agg #[.int .i64 5, .string D, .bool false, .int .u8 0, .int .i64 0]) (V5.setRow (w.heap.size + 1) #[.int .i64 5, .string D, .bool false, .int .u8 0, .int .i64 0])) := fun tmps ht => results_cell_row (by kernel_rfl) tmps _ (w.heap.size + 1) 31 #[.int .i64 5, .string D, .bool false, .int .u8 0, .int .i64 0] (0, 0) _ ht (setRow_heap _ _ _ _ _ _ HO.out) Tryd.underlying31 rfl infoSig
    clear f0 f1 f2 f3 f4
    go_wp2_with (refine wpList_store_row rfl 31 (.tmp 2) (.tmp 50) rfl (w.heap.size + 1) #[.int .i64 5, .string D, .bool false, .int .u8 0, .int .i64 0] rfl rfl 31 _ HO.out infoSig rfl (sig_one _ _ _ _ _) ?_)
    exact bodyPost_ret (Hend.out _ rfl) rfl ⟨5, 0, D, false, 0, rfl, ⟨by decide, by intro _; rfl, by intro _; exact ⟨rfl, rfl⟩, by intro _; rfl, by intro h; omega, by decide, by decide⟩, hsz, by decide, by decide, below_setRow HL.out (by omega) _⟩
  · go_upto_region 2 with fail
    have HN := Lib.hid (st_k HS.out 6)
    clear HS x0 x1 x2 x3 x4 f0 f1 f2 f3 f4
    generalize World.setCell V0 ⟨w.heap.size, 0, none⟩ (.int .i64 6) = V1 at *
    have HS := HN
    clear HN
    obtain ⟨x0, x1, x2, x3, x4⟩ := st_cells HS.out
    have f0 := st_frozen HS.out 0
    have f1 := st_frozen HS.out 1
    have f2 := st_frozen HS.out 2
    have f3 := st_frozen HS.out 3
    have f4 := st_frozen HS.out 4
    go_wp2_with fail
    refine (HC.out _).mono ?_
    rintro e VC ⟨rfl, hwc⟩
    subst hwc
    go_upto_region 3 with fail
    have HN := Lib.hid (st_d HS.out D)
    clear HS x0 x1 x2 x3 x4 f0 f1 f2 f3 f4
    generalize World.setCell VC ⟨w.heap.size, 1, none⟩ (.string D) = V2 at *
    have HS := HN
    clear HN
    obtain ⟨x0, x1, x2, x3, x4⟩ := st_cells HS.out
    have f0 := st_frozen HS.out 0
    have f1 := st_frozen HS.out 1
    have f2 := st_frozen HS.out 2
    have f3 := st_frozen HS.out 3
    have f4 := st_frozen HS.out 4
    go_upto_region 5 with fail
    have HN := Lib.hid (st_se HS.out false)
    clear HS x0 x1 x2 x3 x4 f0 f1 f2 f3 f4
    generalize World.setCell V2 ⟨w.heap.size, 2, none⟩ (.bool false) = V3 at *
    have HS := HN
    clear HN
    obtain ⟨x0, x1, x2, x3, x4⟩ := st_cells HS.out
    have f0 := st_frozen HS.out 0
    have f1 := st_frozen HS.out 1
    have f2 := st_frozen HS.out 2
    have f3 := st_frozen HS.out 3
    have f4 := st_frozen HS.out 4
    go_upto_region 7 with fail
    have HN := Lib.hid (st_n (st_code HS.out 0) 0)
    clear HS x0 x1 x2 x3 x4 f0 f1 f2 f3 f4
    generalize World.setCell (World.setCell V3 ⟨w.heap.size, 3, none⟩ (.int .u8 0)) ⟨w.heap.size, 4, none⟩ (.int .i64 0) = V4 at *
    have HS := HN
    clear HN
    obtain ⟨x0, x1, x2, x3, x4⟩ := st_cells HS.out
    have f0 := st_frozen HS.out 0
    have f1 := st_frozen HS.out 1
    have f2 := st_frozen HS.out 2
    have f3 := st_frozen HS.out 3
    have f4 := st_frozen HS.out 4
    go_upto_region 9 with fail
    have HN := Lib.hid (st_n HS.out 0)
    clear HS x0 x1 x2 x3 x4 f0 f1 f2 f3 f4
    generalize World.setCell V4 ⟨w.heap.size, 4, none⟩ (.int .i64 0) = V5 at *
    have HS := HN
    clear HN
    obtain ⟨x0, x1, x2, x3, x4⟩ := st_cells HS.out
    have f0 := st_frozen HS.out 0
    have f1 := st_frozen HS.out 1
    have f2 := st_frozen HS.out 2
    have f3 := st_frozen HS.out 3
    have f4 := st_frozen HS.out 4
    go_upto_region 11 with fail
    have HN := Lib.hid (st_d HS.out ⟨#[]⟩)
    clear HS x0 x1 x2 x3 x4 f0 f1 f2 f3 f4
    generalize World.setCell V5 ⟨w.heap.size, 1, none⟩ (.string ⟨#[]⟩) = V6 at *
    have HS := HN
    clear HN
    obtain ⟨x0, x1, x2, x3, x4⟩ := st_cells HS.out
    have f0 := st_frozen HS.out 0
    have f1 := st_frozen HS.out 1
    have f2 := st_frozen HS.out 2
    have f3 := st_frozen HS.out 3
    have f4 := st_frozen HS.out 4
    have HO := Lib.hid HS.out.out
    have HL := Lib.hid HS.out.low
    have Hend : Hid (∀ (tmps : Array Value) (_ : tmps.getD 2 undef = .pointer (some ⟨w.heap.size + 1, 0, none⟩)), (results Tryd.f15 tmps).run Tryd.prog (V6.setRow (w.heap.size + 1) #[.int .i64 6, .string ⟨#[]⟩, .bool false, .int .u8 0, .int .i64 0]) = .ok (.agg #[.int .i64 6, .string ⟨#[]⟩, .bool false, .int .u8 0, .int .i64 0]) (V6.setRow (w.heap.size + 1) #[.int .i64 6, .string ⟨#[]⟩, .bool false, .int .u8 0, .int .i64 0])) := fun tmps ht => results_cell_row (by kernel_rfl) tmps _ (w.heap.size + 1) 31 #[.int .i64 6, .string ⟨#[]⟩, .bool false, .int .u8 0, .int .i64 0] (0, 0) _ ht (setRow_heap _ _ _ _ _ _ HO.out) Tryd.underlying31 rfl infoSig
    clear f0 f1 f2 f3 f4
    go_wp2_with (refine wpList_store_row rfl 31 (.tmp 2) (.tmp 50) rfl (w.heap.size + 1) #[.int .i64 6, .string ⟨#[]⟩, .bool false, .int .u8 0, .int .i64 0] rfl rfl 31 _ HO.out infoSig rfl (sig_one _ _ _ _ _) ?_)
    exact bodyPost_ret (Hend.out _ rfl) rfl ⟨6, 0, ⟨#[]⟩, false, 0, rfl, ⟨by decide, by intro _; rfl, by intro _; exact ⟨rfl, rfl⟩, by intro _; rfl, by intro _; rfl, by decide, by decide⟩, by decide, by decide, by decide, below_setRow HL.out (by omega) _⟩
  · go_upto_region 2 with fail
    have HN := Lib.hid (st_k HS.out 7)
    clear HS x0 x1 x2 x3 x4 f0 f1 f2 f3 f4
    generalize World.setCell V0 ⟨w.heap.size, 0, none⟩ (.int .i64 7) = V1 at *
    have HS := HN
    clear HN
    obtain ⟨x0, x1, x2, x3, x4⟩ := st_cells HS.out
    have f0 := st_frozen HS.out 0
    have f1 := st_frozen HS.out 1
    have f2 := st_frozen HS.out 2
    have f3 := st_frozen HS.out 3
    have f4 := st_frozen HS.out 4
    go_wp2_with fail
    refine (HC.out _).mono ?_
    rintro e VC ⟨rfl, hwc⟩
    subst hwc
    go_upto_region 3 with fail
    have HN := Lib.hid (st_d HS.out D)
    clear HS x0 x1 x2 x3 x4 f0 f1 f2 f3 f4
    generalize World.setCell VC ⟨w.heap.size, 1, none⟩ (.string D) = V2 at *
    have HS := HN
    clear HN
    obtain ⟨x0, x1, x2, x3, x4⟩ := st_cells HS.out
    have f0 := st_frozen HS.out 0
    have f1 := st_frozen HS.out 1
    have f2 := st_frozen HS.out 2
    have f3 := st_frozen HS.out 3
    have f4 := st_frozen HS.out 4
    go_upto_region 5 with fail
    have HN := Lib.hid (st_se HS.out false)
    clear HS x0 x1 x2 x3 x4 f0 f1 f2 f3 f4
    generalize World.setCell V2 ⟨w.heap.size, 2, none⟩ (.bool false) = V3 at *
    have HS := HN
    clear HN
    obtain ⟨x0, x1, x2, x3, x4⟩ := st_cells HS.out
    have f0 := st_frozen HS.out 0
    have f1 := st_frozen HS.out 1
    have f2 := st_frozen HS.out 2
    have f3 := st_frozen HS.out 3
    have f4 := st_frozen HS.out 4
    go_upto_region 7 with fail
    have HN := Lib.hid (st_n (st_code HS.out 0) 0)
    clear HS x0 x1 x2 x3 x4 f0 f1 f2 f3 f4
    generalize World.setCell (World.setCell V3 ⟨w.heap.size, 3, none⟩ (.int .u8 0)) ⟨w.heap.size, 4, none⟩ (.int .i64 0) = V4 at *
    have HS := HN
    clear HN
    obtain ⟨x0, x1, x2, x3, x4⟩ := st_cells HS.out
    have f0 := st_frozen HS.out 0
    have f1 := st_frozen HS.out 1
    have f2 := st_frozen HS.out 2
    have f3 := st_frozen HS.out 3
    have f4 := st_frozen HS.out 4
    go_upto_region 9 with fail
    have HN := Lib.hid (st_n HS.out 0)
    clear HS x0 x1 x2 x3 x4 f0 f1 f2 f3 f4
    generalize World.setCell V4 ⟨w.heap.size, 4, none⟩ (.int .i64 0) = V5 at *
    have HS := HN
    clear HN
    obtain ⟨x0, x1, x2, x3, x4⟩ := st_cells HS.out
    have f0 := st_frozen HS.out 0
    have f1 := st_frozen HS.out 1
    have f2 := st_frozen HS.out 2
    have f3 := st_frozen HS.out 3
    have f4 := st_frozen HS.out 4
    go_upto_region 11 with fail
    have HN := Lib.hid (st_d HS.out ⟨#[]⟩)
    clear HS x0 x1 x2 x3 x4 f0 f1 f2 f3 f4
    generalize World.setCell V5 ⟨w.heap.size, 1, none⟩ (.string ⟨#[]⟩) = V6 at *
    have HS := HN
    clear HN
    obtain ⟨x0, x1, x2, x3, x4⟩ := st_cells HS.out
    have f0 := st_frozen HS.out 0
    have f1 := st_frozen HS.out 1
    have f2 := st_frozen HS.out 2
    have f3 := st_frozen HS.out 3
    have f4 := st_frozen HS.out 4
    have HO := Lib.hid HS.out.out
    have HL := Lib.hid HS.out.low
    have Hend : Hid (∀ (tmps : Array Value) (_ : tmps.getD 2 undef = .pointer (some ⟨w.heap.size + 1, 0, none⟩)), (results Tryd.f15 tmps).run Tryd.prog (V6.setRow (w.heap.size + 1) #[.int .i64 7, .string ⟨#[]⟩, .bool false, .int .u8 0, .int .i64 0]) = .ok (.agg #[.int .i64 7, .string ⟨#[]⟩, .bool false, .int .u8 0, .int .i64 0]) (V6.setRow (w.heap.size + 1) #[.int .i64 7, .string ⟨#[]⟩, .bool false, .int .u8 0, .int .i64 0])) := fun tmps ht => results_cell_row (by kernel_rfl) tmps _ (w.heap.size + 1) 31 #[.int .i64 7, .string ⟨#[]⟩, .bool false, .int .u8 0, .int .i64 0] (0, 0) _ ht (setRow_heap _ _ _ _ _ _ HO.out) Tryd.underlying31 rfl infoSig
    clear f0 f1 f2 f3 f4
    go_wp2_with (refine wpList_store_row rfl 31 (.tmp 2) (.tmp 50) rfl (w.heap.size + 1) #[.int .i64 7, .string ⟨#[]⟩, .bool false, .int .u8 0, .int .i64 0] rfl rfl 31 _ HO.out infoSig rfl (sig_one _ _ _ _ _) ?_)
    exact bodyPost_ret (Hend.out _ rfl) rfl ⟨7, 0, ⟨#[]⟩, false, 0, rfl, ⟨by decide, by intro _; rfl, by intro _; exact ⟨rfl, rfl⟩, by intro _; rfl, by intro _; rfl, by decide, by decide⟩, by decide, by decide, by decide, below_setRow HL.out (by omega) _⟩
  · go_upto_region 2 with fail
    have HN := Lib.hid (st_k HS.out 8)
    clear HS x0 x1 x2 x3 x4 f0 f1 f2 f3 f4
    generalize World.setCell V0 ⟨w.heap.size, 0, none⟩ (.int .i64 8) = V1 at *
    have HS := HN
    clear HN
    obtain ⟨x0, x1, x2, x3, x4⟩ := st_cells HS.out
    have f0 := st_frozen HS.out 0
    have f1 := st_frozen HS.out 1
    have f2 := st_frozen HS.out 2
    have f3 := st_frozen HS.out 3
    have f4 := st_frozen HS.out 4
    go_wp2_with fail
    refine (HC.out _).mono ?_
    rintro e VC ⟨rfl, hwc⟩
    subst hwc
    go_upto_region 3 with fail
    have HN := Lib.hid (st_d HS.out D)
    clear HS x0 x1 x2 x3 x4 f0 f1 f2 f3 f4
    generalize World.setCell VC ⟨w.heap.size, 1, none⟩ (.string D) = V2 at *
    have HS := HN
    clear HN
    obtain ⟨x0, x1, x2, x3, x4⟩ := st_cells HS.out
    have f0 := st_frozen HS.out 0
    have f1 := st_frozen HS.out 1
    have f2 := st_frozen HS.out 2
    have f3 := st_frozen HS.out 3
    have f4 := st_frozen HS.out 4
    go_upto_region 5 with fail
    have HN := Lib.hid (st_se HS.out false)
    clear HS x0 x1 x2 x3 x4 f0 f1 f2 f3 f4
    generalize World.setCell V2 ⟨w.heap.size, 2, none⟩ (.bool false) = V3 at *
    have HS := HN
    clear HN
    obtain ⟨x0, x1, x2, x3, x4⟩ := st_cells HS.out
    have f0 := st_frozen HS.out 0
    have f1 := st_frozen HS.out 1
    have f2 := st_frozen HS.out 2
    have f3 := st_frozen HS.out 3
    have f4 := st_frozen HS.out 4
    go_upto_region 7 with fail
    have HN := Lib.hid (st_n (st_code HS.out 0) 0)
    clear HS x0 x1 x2 x3 x4 f0 f1 f2 f3 f4
    generalize World.setCell (World.setCell V3 ⟨w.heap.size, 3, none⟩ (.int .u8 0)) ⟨w.heap.size, 4, none⟩ (.int .i64 0) = V4 at *
    have HS := HN
    clear HN
    obtain ⟨x0, x1, x2, x3, x4⟩ := st_cells HS.out
    have f0 := st_frozen HS.out 0
    have f1 := st_frozen HS.out 1
    have f2 := st_frozen HS.out 2
    have f3 := st_frozen HS.out 3
    have f4 := st_frozen HS.out 4
    go_upto_region 9 with fail
    have HN := Lib.hid (st_n HS.out 0)
    clear HS x0 x1 x2 x3 x4 f0 f1 f2 f3 f4
    generalize World.setCell V4 ⟨w.heap.size, 4, none⟩ (.int .i64 0) = V5 at *
    have HS := HN
    clear HN
    obtain ⟨x0, x1, x2, x3, x4⟩ := st_cells HS.out
    have f0 := st_frozen HS.out 0
    have f1 := st_frozen HS.out 1
    have f2 := st_frozen HS.out 2
    have f3 := st_frozen HS.out 3
    have f4 := st_frozen HS.out 4
    have HO := Lib.hid HS.out.out
    have HL := Lib.hid HS.out.low
    have Hend : Hid (∀ (tmps : Array Value) (_ : tmps.getD 2 undef = .pointer (some ⟨w.heap.size + 1, 0, none⟩)), (results Tryd.f15 tmps).run Tryd.prog (V5.setRow (w.heap.size + 1) #[.int .i64 8, .string D, .bool false, .int .u8 0, .int .i64 0]) = .ok (.agg #[.int .i64 8, .string D, .bool false, .int .u8 0, .int .i64 0]) (V5.setRow (w.heap.size + 1) #[.int .i64 8, .string D, .bool false, .int .u8 0, .int .i64 0])) := fun tmps ht => results_cell_row (by kernel_rfl) tmps _ (w.heap.size + 1) 31 #[.int .i64 8, .string D, .bool false, .int .u8 0, .int .i64 0] (0, 0) _ ht (setRow_heap _ _ _ _ _ _ HO.out) Tryd.underlying31 rfl infoSig
    clear f0 f1 f2 f3 f4
    go_wp2_with (refine wpList_store_row rfl 31 (.tmp 2) (.tmp 50) rfl (w.heap.size + 1) #[.int .i64 8, .string D, .bool false, .int .u8 0, .int .i64 0] rfl rfl 31 _ HO.out infoSig rfl (sig_one _ _ _ _ _) ?_)
    exact bodyPost_ret (Hend.out _ rfl) rfl ⟨8, 0, D, false, 0, rfl, ⟨by decide, by intro _; rfl, by intro _; exact ⟨rfl, rfl⟩, by intro _; rfl, by intro h; omega, by decide, by decide⟩, hsz, by decide, by decide, below_setRow HL.out (by omega) _⟩
  · go_upto_region 2 with fail
    have HN := Lib.hid (st_k HS.out 9)
    clear HS x0 x1 x2 x3 x4 f0 f1 f2 f3 f4
    generalize World.setCell V0 ⟨w.heap.size, 0, none⟩ (.int .i64 9) = V1 at *
    have HS := HN
    clear HN
    obtain ⟨x0, x1, x2, x3, x4⟩ := st_cells HS.out
    have f0 := st_frozen HS.out 0
    have f1 := st_frozen HS.out 1
    have f2 := st_frozen HS.out 2
    have f3 := st_frozen HS.out 3
    have f4 := st_frozen HS.out 4
    go_wp2_with fail
    refine (HC.out _).mono ?_
    rintro e VC ⟨rfl, hwc⟩
    subst hwc
    go_upto_region 3 with fail
    have HN := Lib.hid (st_d HS.out D)
    clear HS x0 x1 x2 x3 x4 f0 f1 f2 f3 f4
    generalize World.setCell VC ⟨w.heap.size, 1, none⟩ (.string D) = V2 at *
    have HS := HN
    clear HN
    obtain ⟨x0, x1, x2, x3, x4⟩ := st_cells HS.out
    have f0 := st_frozen HS.out 0
    have f1 := st_frozen HS.out 1
    have f2 := st_frozen HS.out 2
    have f3 := st_frozen HS.out 3
    have f4 := st_frozen HS.out 4
    go_upto_region 5 with fail
    have HN := Lib.hid (st_se HS.out false)
    clear HS x0 x1 x2 x3 x4 f0 f1 f2 f3 f4
    generalize World.setCell V2 ⟨w.heap.size, 2, none⟩ (.bool false) = V3 at *
    have HS := HN
    clear HN
    obtain ⟨x0, x1, x2, x3, x4⟩ := st_cells HS.out
    have f0 := st_frozen HS.out 0
    have f1 := st_frozen HS.out 1
    have f2 := st_frozen HS.out 2
    have f3 := st_frozen HS.out 3
    have f4 := st_frozen HS.out 4
    go_upto_region 7 with fail
    have HN := Lib.hid (st_n (st_code HS.out 0) 0)
    clear HS x0 x1 x2 x3 x4 f0 f1 f2 f3 f4
    generalize World.setCell (World.setCell V3 ⟨w.heap.size, 3, none⟩ (.int .u8 0)) ⟨w.heap.size, 4, none⟩ (.int .i64 0) = V4 at *
    have HS := HN
    clear HN
    obtain ⟨x0, x1, x2, x3, x4⟩ := st_cells HS.out
    have f0 := st_frozen HS.out 0
    have f1 := st_frozen HS.out 1
    have f2 := st_frozen HS.out 2
    have f3 := st_frozen HS.out 3
    have f4 := st_frozen HS.out 4
    go_upto_region 9 with fail
    have HN := Lib.hid (st_n HS.out 0)
    clear HS x0 x1 x2 x3 x4 f0 f1 f2 f3 f4
    generalize World.setCell V4 ⟨w.heap.size, 4, none⟩ (.int .i64 0) = V5 at *
    have HS := HN
    clear HN
    obtain ⟨x0, x1, x2, x3, x4⟩ := st_cells HS.out
    have f0 := st_frozen HS.out 0
    have f1 := st_frozen HS.out 1
    have f2 := st_frozen HS.out 2
    have f3 := st_frozen HS.out 3
    have f4 := st_frozen HS.out 4
    have HO := Lib.hid HS.out.out
    have HL := Lib.hid HS.out.low
    have Hend : Hid (∀ (tmps : Array Value) (_ : tmps.getD 2 undef = .pointer (some ⟨w.heap.size + 1, 0, none⟩)), (results Tryd.f15 tmps).run Tryd.prog (V5.setRow (w.heap.size + 1) #[.int .i64 9, .string D, .bool false, .int .u8 0, .int .i64 0]) = .ok (.agg #[.int .i64 9, .string D, .bool false, .int .u8 0, .int .i64 0]) (V5.setRow (w.heap.size + 1) #[.int .i64 9, .string D, .bool false, .int .u8 0, .int .i64 0])) := fun tmps ht => results_cell_row (by kernel_rfl) tmps _ (w.heap.size + 1) 31 #[.int .i64 9, .string D, .bool false, .int .u8 0, .int .i64 0] (0, 0) _ ht (setRow_heap _ _ _ _ _ _ HO.out) Tryd.underlying31 rfl infoSig
    clear f0 f1 f2 f3 f4
    go_wp2_with (refine wpList_store_row rfl 31 (.tmp 2) (.tmp 50) rfl (w.heap.size + 1) #[.int .i64 9, .string D, .bool false, .int .u8 0, .int .i64 0] rfl rfl 31 _ HO.out infoSig rfl (sig_one _ _ _ _ _) ?_)
    exact bodyPost_ret (Hend.out _ rfl) rfl ⟨9, 0, D, false, 0, rfl, ⟨by decide, by intro _; rfl, by intro _; exact ⟨rfl, rfl⟩, by intro _; rfl, by intro h; omega, by decide, by decide⟩, hsz, by decide, by decide, below_setRow HL.out (by omega) _⟩
  · go_upto_region 2 with fail
    have HN := Lib.hid (st_k HS.out 10)
    clear HS x0 x1 x2 x3 x4 f0 f1 f2 f3 f4
    generalize World.setCell V0 ⟨w.heap.size, 0, none⟩ (.int .i64 10) = V1 at *
    have HS := HN
    clear HN
    obtain ⟨x0, x1, x2, x3, x4⟩ := st_cells HS.out
    have f0 := st_frozen HS.out 0
    have f1 := st_frozen HS.out 1
    have f2 := st_frozen HS.out 2
    have f3 := st_frozen HS.out 3
    have f4 := st_frozen HS.out 4
    go_wp2_with fail
    refine (HC.out _).mono ?_
    rintro e VC ⟨rfl, hwc⟩
    subst hwc
    go_upto_region 3 with fail
    have HN := Lib.hid (st_d HS.out D)
    clear HS x0 x1 x2 x3 x4 f0 f1 f2 f3 f4
    generalize World.setCell VC ⟨w.heap.size, 1, none⟩ (.string D) = V2 at *
    have HS := HN
    clear HN
    obtain ⟨x0, x1, x2, x3, x4⟩ := st_cells HS.out
    have f0 := st_frozen HS.out 0
    have f1 := st_frozen HS.out 1
    have f2 := st_frozen HS.out 2
    have f3 := st_frozen HS.out 3
    have f4 := st_frozen HS.out 4
    go_upto_region 5 with fail
    have HN := Lib.hid (st_se HS.out false)
    clear HS x0 x1 x2 x3 x4 f0 f1 f2 f3 f4
    generalize World.setCell V2 ⟨w.heap.size, 2, none⟩ (.bool false) = V3 at *
    have HS := HN
    clear HN
    obtain ⟨x0, x1, x2, x3, x4⟩ := st_cells HS.out
    have f0 := st_frozen HS.out 0
    have f1 := st_frozen HS.out 1
    have f2 := st_frozen HS.out 2
    have f3 := st_frozen HS.out 3
    have f4 := st_frozen HS.out 4
    go_upto_region 7 with fail
    have HN := Lib.hid (st_n (st_code HS.out 0) 0)
    clear HS x0 x1 x2 x3 x4 f0 f1 f2 f3 f4
    generalize World.setCell (World.setCell V3 ⟨w.heap.size, 3, none⟩ (.int .u8 0)) ⟨w.heap.size, 4, none⟩ (.int .i64 0) = V4 at *
    have HS := HN
    clear HN
    obtain ⟨x0, x1, x2, x3, x4⟩ := st_cells HS.out
    have f0 := st_frozen HS.out 0
    have f1 := st_frozen HS.out 1
    have f2 := st_frozen HS.out 2
    have f3 := st_frozen HS.out 3
    have f4 := st_frozen HS.out 4
    go_upto_region 9 with fail
    have HN := Lib.hid (st_n HS.out 0)
    clear HS x0 x1 x2 x3 x4 f0 f1 f2 f3 f4
    generalize World.setCell V4 ⟨w.heap.size, 4, none⟩ (.int .i64 0) = V5 at *
    have HS := HN
    clear HN
    obtain ⟨x0, x1, x2, x3, x4⟩ := st_cells HS.out
    have f0 := st_frozen HS.out 0
    have f1 := st_frozen HS.out 1
    have f2 := st_frozen HS.out 2
    have f3 := st_frozen HS.out 3
    have f4 := st_frozen HS.out 4
    have HO := Lib.hid HS.out.out
    have HL := Lib.hid HS.out.low
    have Hend : Hid (∀ (tmps : Array Value) (_ : tmps.getD 2 undef = .pointer (some ⟨w.heap.size + 1, 0, none⟩)), (results Tryd.f15 tmps).run Tryd.prog (V5.setRow (w.heap.size + 1) #[.int .i64 10, .string D, .bool false, .int .u8 0, .int .i64 0]) = .ok (.agg #[.int .i64 10, .string D, .bool false, .int .u8 0, .int .i64 0]) (V5.setRow (w.heap.size + 1) #[.int .i64 10, .string D, .bool false, .int .u8 0, .int .i64 0])) := fun tmps ht => results_cell_row (by kernel_rfl) tmps _ (w.heap.size + 1) 31 #[.int .i64 10, .string D, .bool false, .int .u8 0, .int .i64 0] (0, 0) _ ht (setRow_heap _ _ _ _ _ _ HO.out) Tryd.underlying31 rfl infoSig
    clear f0 f1 f2 f3 f4
    go_wp2_with (refine wpList_store_row rfl 31 (.tmp 2) (.tmp 50) rfl (w.heap.size + 1) #[.int .i64 10, .string D, .bool false, .int .u8 0, .int .i64 0] rfl rfl 31 _ HO.out infoSig rfl (sig_one _ _ _ _ _) ?_)
    exact bodyPost_ret (Hend.out _ rfl) rfl ⟨10, 0, D, false, 0, rfl, ⟨by decide, by intro _; rfl, by intro _; exact ⟨rfl, rfl⟩, by intro _; rfl, by intro h; omega, by decide, by decide⟩, hsz, by decide, by decide, below_setRow HL.out (by omega) _⟩
  · go_upto_region 2 with fail
    have HN := Lib.hid (st_k HS.out 11)
    clear HS x0 x1 x2 x3 x4 f0 f1 f2 f3 f4
    generalize World.setCell V0 ⟨w.heap.size, 0, none⟩ (.int .i64 11) = V1 at *
    have HS := HN
    clear HN
    obtain ⟨x0, x1, x2, x3, x4⟩ := st_cells HS.out
    have f0 := st_frozen HS.out 0
    have f1 := st_frozen HS.out 1
    have f2 := st_frozen HS.out 2
    have f3 := st_frozen HS.out 3
    have f4 := st_frozen HS.out 4
    go_wp2_with fail
    refine (HC.out _).mono ?_
    rintro e VC ⟨rfl, hwc⟩
    subst hwc
    go_upto_region 3 with fail
    have HN := Lib.hid (st_d HS.out D)
    clear HS x0 x1 x2 x3 x4 f0 f1 f2 f3 f4
    generalize World.setCell VC ⟨w.heap.size, 1, none⟩ (.string D) = V2 at *
    have HS := HN
    clear HN
    obtain ⟨x0, x1, x2, x3, x4⟩ := st_cells HS.out
    have f0 := st_frozen HS.out 0
    have f1 := st_frozen HS.out 1
    have f2 := st_frozen HS.out 2
    have f3 := st_frozen HS.out 3
    have f4 := st_frozen HS.out 4
    go_upto_region 5 with fail
    have HN := Lib.hid (st_se HS.out false)
    clear HS x0 x1 x2 x3 x4 f0 f1 f2 f3 f4
    generalize World.setCell V2 ⟨w.heap.size, 2, none⟩ (.bool false) = V3 at *
    have HS := HN
    clear HN
    obtain ⟨x0, x1, x2, x3, x4⟩ := st_cells HS.out
    have f0 := st_frozen HS.out 0
    have f1 := st_frozen HS.out 1
    have f2 := st_frozen HS.out 2
    have f3 := st_frozen HS.out 3
    have f4 := st_frozen HS.out 4
    go_upto_region 7 with fail
    have HN := Lib.hid (st_n (st_code HS.out 0) 0)
    clear HS x0 x1 x2 x3 x4 f0 f1 f2 f3 f4
    generalize World.setCell (World.setCell V3 ⟨w.heap.size, 3, none⟩ (.int .u8 0)) ⟨w.heap.size, 4, none⟩ (.int .i64 0) = V4 at *
    have HS := HN
    clear HN
    obtain ⟨x0, x1, x2, x3, x4⟩ := st_cells HS.out
    have f0 := st_frozen HS.out 0
    have f1 := st_frozen HS.out 1
    have f2 := st_frozen HS.out 2
    have f3 := st_frozen HS.out 3
    have f4 := st_frozen HS.out 4
    go_upto_region 9 with fail
    have HN := Lib.hid (st_n HS.out 0)
    clear HS x0 x1 x2 x3 x4 f0 f1 f2 f3 f4
    generalize World.setCell V4 ⟨w.heap.size, 4, none⟩ (.int .i64 0) = V5 at *
    have HS := HN
    clear HN
    obtain ⟨x0, x1, x2, x3, x4⟩ := st_cells HS.out
    have f0 := st_frozen HS.out 0
    have f1 := st_frozen HS.out 1
    have f2 := st_frozen HS.out 2
    have f3 := st_frozen HS.out 3
    have f4 := st_frozen HS.out 4
    have HO := Lib.hid HS.out.out
    have HL := Lib.hid HS.out.low
    have Hend : Hid (∀ (tmps : Array Value) (_ : tmps.getD 2 undef = .pointer (some ⟨w.heap.size + 1, 0, none⟩)), (results Tryd.f15 tmps).run Tryd.prog (V5.setRow (w.heap.size + 1) #[.int .i64 11, .string D, .bool false, .int .u8 0, .int .i64 0]) = .ok (.agg #[.int .i64 11, .string D, .bool false, .int .u8 0, .int .i64 0]) (V5.setRow (w.heap.size + 1) #[.int .i64 11, .string D, .bool false, .int .u8 0, .int .i64 0])) := fun tmps ht => results_cell_row (by kernel_rfl) tmps _ (w.heap.size + 1) 31 #[.int .i64 11, .string D, .bool false, .int .u8 0, .int .i64 0] (0, 0) _ ht (setRow_heap _ _ _ _ _ _ HO.out) Tryd.underlying31 rfl infoSig
    clear f0 f1 f2 f3 f4
    go_wp2_with (refine wpList_store_row rfl 31 (.tmp 2) (.tmp 50) rfl (w.heap.size + 1) #[.int .i64 11, .string D, .bool false, .int .u8 0, .int .i64 0] rfl rfl 31 _ HO.out infoSig rfl (sig_one _ _ _ _ _) ?_)
    exact bodyPost_ret (Hend.out _ rfl) rfl ⟨11, 0, D, false, 0, rfl, ⟨by decide, by intro _; rfl, by intro _; exact ⟨rfl, rfl⟩, by intro _; rfl, by intro h; omega, by decide, by decide⟩, hsz, by decide, by decide, below_setRow HL.out (by omega) _⟩
  · by_cases hc86 : code = 86
    · subst hc86
      go_upto_region 2 with fail
      have HN := Lib.hid (st_k HS.out 12)
      clear HS x0 x1 x2 x3 x4 f0 f1 f2 f3 f4
      generalize World.setCell V0 ⟨w.heap.size, 0, none⟩ (.int .i64 12) = V1 at *
      have HS := HN
      clear HN
      obtain ⟨x0, x1, x2, x3, x4⟩ := st_cells HS.out
      have f0 := st_frozen HS.out 0
      have f1 := st_frozen HS.out 1
      have f2 := st_frozen HS.out 2
      have f3 := st_frozen HS.out 3
      have f4 := st_frozen HS.out 4
      go_wp2_with fail
      refine (HC.out _).mono ?_
      rintro e VC ⟨rfl, hwc⟩
      subst hwc
      go_upto_region 3 with fail
      have HN := Lib.hid (st_d HS.out D)
      clear HS x0 x1 x2 x3 x4 f0 f1 f2 f3 f4
      generalize World.setCell VC ⟨w.heap.size, 1, none⟩ (.string D) = V2 at *
      have HS := HN
      clear HN
      obtain ⟨x0, x1, x2, x3, x4⟩ := st_cells HS.out
      have f0 := st_frozen HS.out 0
      have f1 := st_frozen HS.out 1
      have f2 := st_frozen HS.out 2
      have f3 := st_frozen HS.out 3
      have f4 := st_frozen HS.out 4
      go_upto_region 5 with fail
      have HN := Lib.hid (st_se HS.out false)
      clear HS x0 x1 x2 x3 x4 f0 f1 f2 f3 f4
      generalize World.setCell V2 ⟨w.heap.size, 2, none⟩ (.bool false) = V3 at *
      have HS := HN
      clear HN
      obtain ⟨x0, x1, x2, x3, x4⟩ := st_cells HS.out
      have f0 := st_frozen HS.out 0
      have f1 := st_frozen HS.out 1
      have f2 := st_frozen HS.out 2
      have f3 := st_frozen HS.out 3
      have f4 := st_frozen HS.out 4
      go_upto_region 11 with fail
      have HN := Lib.hid (st_d HS.out ⟨#[]⟩)
      clear HS x0 x1 x2 x3 x4 f0 f1 f2 f3 f4
      generalize World.setCell V3 ⟨w.heap.size, 1, none⟩ (.string ⟨#[]⟩) = V4 at *
      have HS := HN
      clear HN
      obtain ⟨x0, x1, x2, x3, x4⟩ := st_cells HS.out
      have f0 := st_frozen HS.out 0
      have f1 := st_frozen HS.out 1
      have f2 := st_frozen HS.out 2
      have f3 := st_frozen HS.out 3
      have f4 := st_frozen HS.out 4
      have HO := Lib.hid HS.out.out
      have HL := Lib.hid HS.out.low
      have Hend : Hid (∀ (tmps : Array Value) (_ : tmps.getD 2 undef = .pointer (some ⟨w.heap.size + 1, 0, none⟩)), (results Tryd.f15 tmps).run Tryd.prog (V4.setRow (w.heap.size + 1) #[.int .i64 12, .string ⟨#[]⟩, .bool false, .int .u8 86, .int .i64 n]) = .ok (.agg #[.int .i64 12, .string ⟨#[]⟩, .bool false, .int .u8 86, .int .i64 n]) (V4.setRow (w.heap.size + 1) #[.int .i64 12, .string ⟨#[]⟩, .bool false, .int .u8 86, .int .i64 n])) := fun tmps ht => results_cell_row (by kernel_rfl) tmps _ (w.heap.size + 1) 31 #[.int .i64 12, .string ⟨#[]⟩, .bool false, .int .u8 86, .int .i64 n] (0, 0) _ ht (setRow_heap _ _ _ _ _ _ HO.out) Tryd.underlying31 rfl infoSig
      clear f0 f1 f2 f3 f4
      go_wp2_with (refine wpList_store_row rfl 31 (.tmp 2) (.tmp 50) rfl (w.heap.size + 1) #[.int .i64 12, .string ⟨#[]⟩, .bool false, .int .u8 86, .int .i64 n] rfl rfl 31 _ HO.out infoSig rfl (sig_one _ _ _ _ _) ?_)
      exact bodyPost_ret (Hend.out _ rfl) rfl ⟨12, n, ⟨#[]⟩, false, 86, rfl, ⟨by decide, by intro _; rfl, by intro h; exact absurd rfl h, by exact fun h => absurd rfl h, by intro _; rfl, hc.1, hc.2⟩, by decide, h0, h1, below_setRow HL.out (by omega) _⟩
    · have d86 : (code == 86) = false := by rw [beq_eq_false_iff_ne]; exact hc86
      go_upto_region 2 with fail
      have HN := Lib.hid (st_k HS.out 12)
      clear HS x0 x1 x2 x3 x4 f0 f1 f2 f3 f4
      generalize World.setCell V0 ⟨w.heap.size, 0, none⟩ (.int .i64 12) = V1 at *
      have HS := HN
      clear HN
      obtain ⟨x0, x1, x2, x3, x4⟩ := st_cells HS.out
      have f0 := st_frozen HS.out 0
      have f1 := st_frozen HS.out 1
      have f2 := st_frozen HS.out 2
      have f3 := st_frozen HS.out 3
      have f4 := st_frozen HS.out 4
      go_wp2_with fail
      refine (HC.out _).mono ?_
      rintro e VC ⟨rfl, hwc⟩
      subst hwc
      go_upto_region 3 with fail
      have HN := Lib.hid (st_d HS.out D)
      clear HS x0 x1 x2 x3 x4 f0 f1 f2 f3 f4
      generalize World.setCell VC ⟨w.heap.size, 1, none⟩ (.string D) = V2 at *
      have HS := HN
      clear HN
      obtain ⟨x0, x1, x2, x3, x4⟩ := st_cells HS.out
      have f0 := st_frozen HS.out 0
      have f1 := st_frozen HS.out 1
      have f2 := st_frozen HS.out 2
      have f3 := st_frozen HS.out 3
      have f4 := st_frozen HS.out 4
      go_upto_region 5 with fail
      have HN := Lib.hid (st_se HS.out false)
      clear HS x0 x1 x2 x3 x4 f0 f1 f2 f3 f4
      generalize World.setCell V2 ⟨w.heap.size, 2, none⟩ (.bool false) = V3 at *
      have HS := HN
      clear HN
      obtain ⟨x0, x1, x2, x3, x4⟩ := st_cells HS.out
      have f0 := st_frozen HS.out 0
      have f1 := st_frozen HS.out 1
      have f2 := st_frozen HS.out 2
      have f3 := st_frozen HS.out 3
      have f4 := st_frozen HS.out 4
      go_upto_region 9 with fail
      have HN := Lib.hid (st_n HS.out 0)
      clear HS x0 x1 x2 x3 x4 f0 f1 f2 f3 f4
      generalize World.setCell V3 ⟨w.heap.size, 4, none⟩ (.int .i64 0) = V4 at *
      have HS := HN
      clear HN
      obtain ⟨x0, x1, x2, x3, x4⟩ := st_cells HS.out
      have f0 := st_frozen HS.out 0
      have f1 := st_frozen HS.out 1
      have f2 := st_frozen HS.out 2
      have f3 := st_frozen HS.out 3
      have f4 := st_frozen HS.out 4
      go_upto_region 11 with fail
      have HN := Lib.hid (st_d HS.out ⟨#[]⟩)
      clear HS x0 x1 x2 x3 x4 f0 f1 f2 f3 f4
      generalize World.setCell V4 ⟨w.heap.size, 1, none⟩ (.string ⟨#[]⟩) = V5 at *
      have HS := HN
      clear HN
      obtain ⟨x0, x1, x2, x3, x4⟩ := st_cells HS.out
      have f0 := st_frozen HS.out 0
      have f1 := st_frozen HS.out 1
      have f2 := st_frozen HS.out 2
      have f3 := st_frozen HS.out 3
      have f4 := st_frozen HS.out 4
      have HO := Lib.hid HS.out.out
      have HL := Lib.hid HS.out.low
      have Hend : Hid (∀ (tmps : Array Value) (_ : tmps.getD 2 undef = .pointer (some ⟨w.heap.size + 1, 0, none⟩)), (results Tryd.f15 tmps).run Tryd.prog (V5.setRow (w.heap.size + 1) #[.int .i64 12, .string ⟨#[]⟩, .bool false, .int .u8 code, .int .i64 0]) = .ok (.agg #[.int .i64 12, .string ⟨#[]⟩, .bool false, .int .u8 code, .int .i64 0]) (V5.setRow (w.heap.size + 1) #[.int .i64 12, .string ⟨#[]⟩, .bool false, .int .u8 code, .int .i64 0])) := fun tmps ht => results_cell_row (by kernel_rfl) tmps _ (w.heap.size + 1) 31 #[.int .i64 12, .string ⟨#[]⟩, .bool false, .int .u8 code, .int .i64 0] (0, 0) _ ht (setRow_heap _ _ _ _ _ _ HO.out) Tryd.underlying31 rfl infoSig
      clear f0 f1 f2 f3 f4
      go_wp2_with (refine wpList_store_row rfl 31 (.tmp 2) (.tmp 50) rfl (w.heap.size + 1) #[.int .i64 12, .string ⟨#[]⟩, .bool false, .int .u8 code, .int .i64 0] rfl rfl 31 _ HO.out infoSig rfl (sig_one _ _ _ _ _) ?_)
      exact bodyPost_ret (Hend.out _ rfl) rfl ⟨12, 0, ⟨#[]⟩, false, code, rfl, ⟨by decide, by intro _; rfl, by intro h; exact absurd rfl h, by intro _; rfl, by intro _; rfl, hc.1, hc.2⟩, by decide, by decide, by decide, below_setRow HL.out (by omega) _⟩
end Go.Proofs.YtnocckgbcjienaaDoor
