/- The walk of EventKinds. Conditions: event's variables and the library's table lie as their initialisers leave them. -/
import Derived.Test.YtnocckgbcjienaaDoorEvAwake
import Derived.Deep.OwnRows
namespace Go.Proofs.YtnocckgbcjienaaDoor
open Go.RowKit
set_option linter.unusedVariables false
set_option linter.unusedSimpArgs false

theorem below_setRow {B : Nat} {w w' : World} (h : Below B w w') {g : Nat} (hg : B ≤ g) (cs : Array Value) : Below B w (w'.setRow g cs) :=
  ⟨h.os, h.tape, h.output, by rw [setRow_size]; exact h.size, fun i hi => by rw [setRow_other _ _ _ _ (by omega)]; exact h.block i hi⟩
theorem infoSig : (Tryd.prog.info? 31).map (·.size) = some 5 := by kernel_rfl
theorem infoReq : (Tryd.prog.info? 23).map (·.size) = some 3 := by kernel_rfl
theorem sbox_set (w : World) (R : Nat) (k n : Int) (d : ByteArray) (se : Bool) (code : Int) {old : Array Value} (h : w.heap[R]? = some (.cells old 31 (0, 0))) :
    SBox (w.setRow R #[.int .i64 k, .string d, .bool se, .int .u8 code, .int .i64 n]) R k n d se code := by
  have hn := setRow_heap w R _ #[.int .i64 k, .string d, .bool se, .int .u8 code, .int .i64 n] _ _ h
  refine ⟨?_, ?_, ?_, ?_, ?_⟩
  · rw [cell_of_row _ _ 0 _ _ (0, 0) hn]; rfl
  · rw [cell_of_row _ _ 1 _ _ (0, 0) hn]; rfl
  · rw [cell_of_row _ _ 2 _ _ (0, 0) hn]; rfl
  · rw [cell_of_row _ _ 3 _ _ (0, 0) hn]; rfl
  · rw [cell_of_row _ _ 4 _ _ (0, 0) hn]; rfl
/-- A request lies in block g. -/
def RQ (w : World) (g : Nat) (k n : Int) (d : ByteArray) : Prop := w.cell? ⟨g, 0, none⟩ = some (.int .i64 k) ∧ w.cell? ⟨g, 1, none⟩ = some (.string d) ∧ w.cell? ⟨g, 2, none⟩ = some (.int .i64 n)
theorem rq_next {w w' : World} {g : Nat} {k n : Int} {d : ByteArray} (h : RQ w g k n d) (hb : Below w.heap.size w w') : RQ w' g k n d :=
  ⟨by rw [hb.cell (p := ⟨g, 0, none⟩) (pos_of_cell h.1)]; exact h.1, by rw [hb.cell (p := ⟨g, 1, none⟩) (pos_of_cell h.1)]; exact h.2.1, by rw [hb.cell (p := ⟨g, 2, none⟩) (pos_of_cell h.1)]; exact h.2.2⟩
theorem rq_set (w : World) (R : Nat) (k n : Int) (d : ByteArray) {old : Array Value} (h : w.heap[R]? = some (.cells old 23 (0, 0))) :
    RQ (w.setRow R #[.int .i64 k, .string d, .int .i64 n]) R k n d ∧ ∀ j, (w.setRow R #[.int .i64 k, .string d, .int .i64 n]).frozen? ⟨R, j, none⟩ = false := by
  have hn := setRow_heap w R _ #[.int .i64 k, .string d, .int .i64 n] _ _ h
  refine ⟨⟨?_, ?_, ?_⟩, fun j => ?_⟩
  · rw [cell_of_row _ _ 0 _ _ (0, 0) hn]; rfl
  · rw [cell_of_row _ _ 1 _ _ (0, 0) hn]; rfl
  · rw [cell_of_row _ _ 2 _ _ (0, 0) hn]; rfl
  · unfold World.frozen?
    rw [hn]
    simp
theorem text_full (k : Int) (hk : 1 ≤ k ∧ k ≤ 12) (n : Int) (d : ByteArray) (se : Bool) (code : Int) : ((textB k n d se code).toList == []) = false := by
  rw [empty_size, decide_eq_false_iff_not]
  unfold textB
  rw [if_pos hk, joinB_size]
  have hc : ∀ j : Fin 13, 1 ≤ j.val → 1 ≤ (wordS j.val).size := by decide +kernel
  have h : 1 ≤ (wordS k.toNat).size := hc ⟨k.toNat, by omega⟩ (by show 1 ≤ k.toNat; omega)
  omega
theorem text_none (k : Int) (hk : ¬ (1 ≤ k ∧ k ≤ 12)) (n : Int) (d : ByteArray) (se : Bool) (code : Int) : textB k n d se code = ⟨#[]⟩ := by
  unfold textB
  rw [if_neg hk]
theorem and63 (n : Nat) : bits .and .i64 (n : Int) 63 = (n : Int) % 64 := by
  have e3 : (BitVec.ofInt 64 63).toNat = 2 ^ 6 - 1 := by decide
  have e4 : (BitVec.ofInt 64 (n : Int) &&& BitVec.ofInt 64 63).toNat = ((n : Int) % 64).toNat := by
    rw [BitVec.toNat_and, BitVec.toNat_ofInt, e3, Nat.and_two_pow_sub_one_eq_mod]
    omega
  show IntKind.i64.wrap ((BitVec.ofInt 64 (n : Int) &&& BitVec.ofInt 64 63).toNat : Nat) = _
  rw [e4, IntKind.wrap_i64]
  omega
set_option maxHeartbeats 8000000 in
set_option maxRecDepth 100000 in
theorem walk_EventKinds (k : Int) (s : ByteArray) (w : World) (hS : VarsIn w) (htab : TabIn w) (hs : s.size ≤ maxLen) :
    Calls Tryd.prog 7 #[.int .i64 k, .string s] w fun e w' => e = .returned (.bool true) ∧ Below w.heap.size w w' := by
  have HS := Lib.hid hS
  have HT := Lib.hid htab
  have HC := Lib.hid (fun W => show Calls Tryd.prog 10 #[.string s, .int .i64 64] W fun e w' => e = .returned (.string (cutB s 64)) ∧ w' = W from (crc_cut s 64 W hs (by decide)).mono fun _ _ h => ⟨h.1, h.2.symm⟩)
  have hsz := cutB_size s 64
  have b1 := fun (k : Int) (W : World) => run_build (P := Tryd.prog) W 31 #[(0, .int .i64 k), (3, .int .u8 65)] #[.int .i64 k, .string ⟨#[]⟩, .bool false, .int .u8 65, .int .i64 0] (by kernel_rfl)
  have b2 := fun (W : World) => run_build (P := Tryd.prog) W 23 #[(0, .int .i64 k)] #[.int .i64 k, .string ⟨#[]⟩, .int .i64 0] (by kernel_rfl)
  clear hS htab hs
  generalize cutB s 64 = d at *
  go_enter Tryd.func7, Tryd.ntmps7
  go_wp2_with fail
  refine (ev_awake _ HS.out HT.out).mono ?_
  rintro e w1 ⟨rfl, hb1⟩
  have HB1 := Lib.hid hb1
  clear hb1
  go_wp2_with fail
  refine (HC.out _).mono ?_
  rintro e w2 ⟨rfl, rfl⟩
  go_upto_region 5 with fail
  have hb4 := (Below.refl w2.heap.size w2).alloc (Nat.le_refl _) (.cells #[.int .i64 k, .string ⟨#[]⟩, .int .i64 0] 23)
  have HQ4 : Hid (RQ (w2.alloc (.cells #[.int .i64 k, .string ⟨#[]⟩, .int .i64 0] 23)) w2.heap.size k 0 ⟨#[]⟩) := req_new w2 k 0 ⟨#[]⟩
  have HF4 : Hid (∀ j, (w2.alloc (.cells #[.int .i64 k, .string ⟨#[]⟩, .int .i64 0] 23)).frozen? ⟨w2.heap.size, j, none⟩ = false) := fun j => by
    unfold World.frozen?
    rw [heap_alloc_new]
    simp
  have HB4 := Lib.hid (HB1.out.trans (hb4.mono HB1.out.size))
  have hgw : w.heap.size ≤ w2.heap.size := HB1.out.size
  clear hb4 HB1 b2
  obtain ⟨g, hg⟩ : ∃ g, g = w2.heap.size := ⟨_, rfl⟩
  rw [← hg] at HQ4 HF4 hgw ⊢
  clear hg
  generalize w2.alloc (.cells #[.int .i64 k, .string ⟨#[]⟩, .int .i64 0] 23) = w4 at *
  have hcase : (k = 1 ∨ k = 3 ∨ k = 4 ∨ k = 7 ∨ k = 8 ∨ k = 9) ∨ k = 10 ∨ (k = 2 ∨ k = 5 ∨ k = 6 ∨ k = 11) ∨ k = 12 ∨ ¬ (1 ≤ k ∧ k ≤ 12) := by omega
  rcases hcase with hk | hk | hk | hk | hk
  · have HR : Hid (reqA k d 0 = 0) := by
      rcases hk with rfl | rfl | rfl | rfl | rfl | rfl
      · exact (req_data 1 64 d 0 (by decide) rfl (by decide) rfl).trans (by rw [if_neg (by omega)]; rfl)
      · exact (req_data 3 64 d 0 (by decide) rfl (by decide) rfl).trans (by rw [if_neg (by omega)]; rfl)
      · exact (req_data 4 64 d 0 (by decide) rfl (by decide) rfl).trans (by rw [if_neg (by omega)]; rfl)
      · exact (req_data 7 200 d 0 (by decide) rfl (by decide) rfl).trans (by rw [if_neg (by omega)]; rfl)
      · exact (req_data 8 200 d 0 (by decide) rfl (by decide) rfl).trans (by rw [if_neg (by omega)]; rfl)
      · exact (req_data 9 200 d 0 (by decide) rfl (by decide) rfl).trans (by rw [if_neg (by omega)]; rfl)
    have HCK := Lib.hid (fun W (hW : VarsIn W) => ev_check k 0 d W hW)
    rw [HR.out] at HCK
    have HTX := Lib.hid (fun W (hW : VarsIn W) (hT : TabIn W) => ev_text k 0 ⟨#[]⟩ false 65 W hW (by decide) (by decide) (by decide) hT)
    have hx := text_full k (by omega) 0 ⟨#[]⟩ false 65
    generalize textB k 0 ⟨#[]⟩ false 65 = X at *
    obtain ⟨x0, x1, x2⟩ := HQ4.out
    have f1 := HF4.out 1
    have HQ5 : Hid (RQ (w4.setCell ⟨g, 1, none⟩ (.string d)) g k 0 d) := ⟨by rw [World.cell?_setCell_other _ _ _ _ (by simp)]; exact x0, World.cell?_setCell_same _ _ _ x1, by rw [World.cell?_setCell_other _ _ _ _ (by simp)]; exact x2⟩
    have HB5 : Hid (Below w.heap.size w (w4.setCell ⟨g, 1, none⟩ (.string d))) := Below.setCell HB4.out (p := ⟨g, 1, none⟩) hgw _
    rcases hk with hk | hk | hk | hk | hk | hk
    all_goals
      first | (have e1 : (k == 1) = true := by rw [hk]; rfl) | (have e1 : (k == 1) = false := by rw [hk]; rfl)
      first | (have e2 : (k == 3) = true := by rw [hk]; rfl) | (have e2 : (k == 3) = false := by rw [hk]; rfl)
      first | (have e3 : (k == 4) = true := by rw [hk]; rfl) | (have e3 : (k == 4) = false := by rw [hk]; rfl)
      first | (have e4 : (k == 7) = true := by rw [hk]; rfl) | (have e4 : (k == 7) = false := by rw [hk]; rfl)
      first | (have e5 : (k == 8) = true := by rw [hk]; rfl) | (have e5 : (k == 8) = false := by rw [hk]; rfl)
      first | (have e6 : (k == 9) = true := by rw [hk]; rfl) | (have e6 : (k == 9) = false := by rw [hk]; rfl)
      first | (have e7 : (k == 10) = true := by rw [hk]; rfl) | (have e7 : (k == 10) = false := by rw [hk]; rfl)
      have d1 : decide (1 ≤ k) = true := by rw [hk]; rfl
      first | (have d2 : decide (k ≤ 11) = true := by rw [hk]; rfl) | (have d2 : decide (k ≤ 11) = false := by rw [hk]; rfl)
      have d3 : decide (k ≤ 12) = true := by rw [hk]; rfl
      clear hk
      go_upto_region 15 with fail
      clear x0 x1 x2 f1 HQ4 HF4 HB4
      generalize w4.setCell ⟨g, 1, none⟩ (.string d) = w5 at *
      have hg5 : g < w5.heap.size := pos_of_cell HQ5.out.1
      go_upto_region 16 with fail
      have hb6 := (Below.refl w5.heap.size w5).alloc (Nat.le_refl _) (.cells #[.int .i64 k, .string ⟨#[]⟩, .bool false, .int .u8 65, .int .i64 0] 31)
      have HX6 := Lib.hid (sbox_new w5 k 0 ⟨#[]⟩ false 65)
      have HQ6 := Lib.hid (rq_next HQ5.out hb6)
      have HB6 := Lib.hid (HB5.out.trans (hb6.mono HB5.out.size))
      clear hb6 HQ5 HB5 hg5
      generalize w5.alloc (.cells #[.int .i64 k, .string ⟨#[]⟩, .bool false, .int .u8 65, .int .i64 0] 31) = w6 at *
      generalize w5.heap.size = h at *
      obtain ⟨x0, x1, x2⟩ := HQ6.out
      obtain ⟨y0, y1, y2, y3, y4⟩ := HX6.out
      go_wp2_with fail
      refine (HCK.out _ (HS.out.next HB6.out)).mono ?_
      rintro e w7 ⟨rfl, hb7⟩
      have HB7 := Lib.hid (HB6.out.trans (hb7.mono HB6.out.size))
      have HX7 := Lib.hid (HX6.out.next hb7)
      clear hb7 x0 x1 x2 y0 y1 y2 y3 y4
      obtain ⟨y0, y1, y2, y3, y4⟩ := HX7.out
      go_wp2_with fail
      refine (HTX.out _ (HS.out.next HB7.out) (HT.out.next HB7.out)).mono ?_
      rintro e w8 ⟨rfl, hb8⟩
      have HB8 := Lib.hid (HB7.out.trans (hb8.mono HB7.out.size))
      clear hb8
      go_wp2_with fail
      go_ret
      exact ⟨by first | rfl | simp, HB8.out⟩
  · have HR : Hid (reqA k ⟨#[]⟩ (1 + (d.size : Int) % 64) = 0) := by
      show _ = _
      rw [hk]
      exact (req_take ⟨#[]⟩ (1 + (d.size : Int) % 64)).trans (by rw [if_pos ⟨rfl, by omega, by omega⟩])
    have HCK := Lib.hid (fun W (hW : VarsIn W) => ev_check k (1 + (d.size : Int) % 64) ⟨#[]⟩ W hW)
    rw [HR.out] at HCK
    have HTX := Lib.hid (fun W (hW : VarsIn W) (hT : TabIn W) => ev_text k 0 ⟨#[]⟩ false 65 W hW (by decide) (by decide) (by decide) hT)
    have hx := text_full k (by omega) 0 ⟨#[]⟩ false 65
    generalize textB k 0 ⟨#[]⟩ false 65 = X at *
    obtain ⟨x0, x1, x2⟩ := HQ4.out
    have f2 := HF4.out 2
    have ha := and63 d.size
    have HQ5 : Hid (RQ (w4.setCell ⟨g, 2, none⟩ (.int .i64 (1 + (d.size : Int) % 64))) g k (1 + (d.size : Int) % 64) ⟨#[]⟩) := ⟨by rw [World.cell?_setCell_other _ _ _ _ (by simp)]; exact x0, by rw [World.cell?_setCell_other _ _ _ _ (by simp)]; exact x1, World.cell?_setCell_same _ _ _ x2⟩
    have HB5 : Hid (Below w.heap.size w (w4.setCell ⟨g, 2, none⟩ (.int .i64 (1 + (d.size : Int) % 64)))) := Below.setCell HB4.out (p := ⟨g, 2, none⟩) hgw _
    first | (have e1 : (k == 1) = true := by rw [hk]; rfl) | (have e1 : (k == 1) = false := by rw [hk]; rfl)
    first | (have e2 : (k == 3) = true := by rw [hk]; rfl) | (have e2 : (k == 3) = false := by rw [hk]; rfl)
    first | (have e3 : (k == 4) = true := by rw [hk]; rfl) | (have e3 : (k == 4) = false := by rw [hk]; rfl)
    first | (have e4 : (k == 7) = true := by rw [hk]; rfl) | (have e4 : (k == 7) = false := by rw [hk]; rfl)
    first | (have e5 : (k == 8) = true := by rw [hk]; rfl) | (have e5 : (k == 8) = false := by rw [hk]; rfl)
    first | (have e6 : (k == 9) = true := by rw [hk]; rfl) | (have e6 : (k == 9) = false := by rw [hk]; rfl)
    first | (have e7 : (k == 10) = true := by rw [hk]; rfl) | (have e7 : (k == 10) = false := by rw [hk]; rfl)
    have d1 : decide (1 ≤ k) = true := by rw [hk]; rfl
    first | (have d2 : decide (k ≤ 11) = true := by rw [hk]; rfl) | (have d2 : decide (k ≤ 11) = false := by rw [hk]; rfl)
    have d3 : decide (k ≤ 12) = true := by rw [hk]; rfl
    clear hk
    go_upto_region 15 with fail
    clear x0 x1 x2 f2 HQ4 HF4 HB4
    generalize w4.setCell ⟨g, 2, none⟩ (.int .i64 (1 + (d.size : Int) % 64)) = w5 at *
    have hg5 : g < w5.heap.size := pos_of_cell HQ5.out.1
    go_upto_region 16 with fail
    have hb6 := (Below.refl w5.heap.size w5).alloc (Nat.le_refl _) (.cells #[.int .i64 k, .string ⟨#[]⟩, .bool false, .int .u8 65, .int .i64 0] 31)
    have HX6 := Lib.hid (sbox_new w5 k 0 ⟨#[]⟩ false 65)
    have HQ6 := Lib.hid (rq_next HQ5.out hb6)
    have HB6 := Lib.hid (HB5.out.trans (hb6.mono HB5.out.size))
    clear hb6 HQ5 HB5 hg5
    generalize w5.alloc (.cells #[.int .i64 k, .string ⟨#[]⟩, .bool false, .int .u8 65, .int .i64 0] 31) = w6 at *
    generalize w5.heap.size = h at *
    obtain ⟨x0, x1, x2⟩ := HQ6.out
    obtain ⟨y0, y1, y2, y3, y4⟩ := HX6.out
    go_wp2_with fail
    refine (HCK.out _ (HS.out.next HB6.out)).mono ?_
    rintro e w7 ⟨rfl, hb7⟩
    have HB7 := Lib.hid (HB6.out.trans (hb7.mono HB6.out.size))
    have HX7 := Lib.hid (HX6.out.next hb7)
    clear hb7 x0 x1 x2 y0 y1 y2 y3 y4
    obtain ⟨y0, y1, y2, y3, y4⟩ := HX7.out
    go_wp2_with fail
    refine (HTX.out _ (HS.out.next HB7.out) (HT.out.next HB7.out)).mono ?_
    rintro e w8 ⟨rfl, hb8⟩
    have HB8 := Lib.hid (HB7.out.trans (hb8.mono HB7.out.size))
    clear hb8
    go_wp2_with fail
    go_ret
    exact ⟨by first | rfl | simp, HB8.out⟩
  · have HR : Hid (reqA k ⟨#[]⟩ 0 = 0) := by
      rcases hk with rfl | rfl | rfl | rfl
      · exact (req_none 2 ⟨#[]⟩ 0 (by decide) rfl rfl)
      · exact (req_none 5 ⟨#[]⟩ 0 (by decide) rfl rfl)
      · exact (req_none 6 ⟨#[]⟩ 0 (by decide) rfl rfl)
      · exact (req_none 11 ⟨#[]⟩ 0 (by decide) rfl rfl)
    have HCK := Lib.hid (fun W (hW : VarsIn W) => ev_check k 0 ⟨#[]⟩ W hW)
    rw [HR.out] at HCK
    have HTX := Lib.hid (fun W (hW : VarsIn W) (hT : TabIn W) => ev_text k 0 ⟨#[]⟩ false 65 W hW (by decide) (by decide) (by decide) hT)
    have hx := text_full k (by omega) 0 ⟨#[]⟩ false 65
    generalize textB k 0 ⟨#[]⟩ false 65 = X at *
    have HQ5 := HQ4
    have HB5 := HB4
    rcases hk with hk | hk | hk | hk
    all_goals
      first | (have e1 : (k == 1) = true := by rw [hk]; rfl) | (have e1 : (k == 1) = false := by rw [hk]; rfl)
      first | (have e2 : (k == 3) = true := by rw [hk]; rfl) | (have e2 : (k == 3) = false := by rw [hk]; rfl)
      first | (have e3 : (k == 4) = true := by rw [hk]; rfl) | (have e3 : (k == 4) = false := by rw [hk]; rfl)
      first | (have e4 : (k == 7) = true := by rw [hk]; rfl) | (have e4 : (k == 7) = false := by rw [hk]; rfl)
      first | (have e5 : (k == 8) = true := by rw [hk]; rfl) | (have e5 : (k == 8) = false := by rw [hk]; rfl)
      first | (have e6 : (k == 9) = true := by rw [hk]; rfl) | (have e6 : (k == 9) = false := by rw [hk]; rfl)
      first | (have e7 : (k == 10) = true := by rw [hk]; rfl) | (have e7 : (k == 10) = false := by rw [hk]; rfl)
      have d1 : decide (1 ≤ k) = true := by rw [hk]; rfl
      first | (have d2 : decide (k ≤ 11) = true := by rw [hk]; rfl) | (have d2 : decide (k ≤ 11) = false := by rw [hk]; rfl)
      have d3 : decide (k ≤ 12) = true := by rw [hk]; rfl
      clear hk
      go_upto_region 15 with fail
      clear HQ4 HF4 HB4
      generalize w4 = w5 at *
      have hg5 : g < w5.heap.size := pos_of_cell HQ5.out.1
      go_upto_region 16 with fail
      have hb6 := (Below.refl w5.heap.size w5).alloc (Nat.le_refl _) (.cells #[.int .i64 k, .string ⟨#[]⟩, .bool false, .int .u8 65, .int .i64 0] 31)
      have HX6 := Lib.hid (sbox_new w5 k 0 ⟨#[]⟩ false 65)
      have HQ6 := Lib.hid (rq_next HQ5.out hb6)
      have HB6 := Lib.hid (HB5.out.trans (hb6.mono HB5.out.size))
      clear hb6 HQ5 HB5 hg5
      generalize w5.alloc (.cells #[.int .i64 k, .string ⟨#[]⟩, .bool false, .int .u8 65, .int .i64 0] 31) = w6 at *
      generalize w5.heap.size = h at *
      obtain ⟨x0, x1, x2⟩ := HQ6.out
      obtain ⟨y0, y1, y2, y3, y4⟩ := HX6.out
      go_wp2_with fail
      refine (HCK.out _ (HS.out.next HB6.out)).mono ?_
      rintro e w7 ⟨rfl, hb7⟩
      have HB7 := Lib.hid (HB6.out.trans (hb7.mono HB6.out.size))
      have HX7 := Lib.hid (HX6.out.next hb7)
      clear hb7 x0 x1 x2 y0 y1 y2 y3 y4
      obtain ⟨y0, y1, y2, y3, y4⟩ := HX7.out
      go_wp2_with fail
      refine (HTX.out _ (HS.out.next HB7.out) (HT.out.next HB7.out)).mono ?_
      rintro e w8 ⟨rfl, hb8⟩
      have HB8 := Lib.hid (HB7.out.trans (hb8.mono HB7.out.size))
      clear hb8
      go_wp2_with fail
      go_ret
      exact ⟨by first | rfl | simp, HB8.out⟩
  · have HR : Hid (reqA k ⟨#[]⟩ 0 = 10) := by
      show _ = _
      rw [hk]; rfl
    have HCK := Lib.hid (fun W (hW : VarsIn W) => ev_check k 0 ⟨#[]⟩ W hW)
    rw [HR.out] at HCK
    have HTX := Lib.hid (fun W (hW : VarsIn W) (hT : TabIn W) => ev_text k 0 ⟨#[]⟩ false 65 W hW (by decide) (by decide) (by decide) hT)
    have hx := text_full k (by omega) 0 ⟨#[]⟩ false 65
    generalize textB k 0 ⟨#[]⟩ false 65 = X at *
    have HQ5 := HQ4
    have HB5 := HB4
    first | (have e1 : (k == 1) = true := by rw [hk]; rfl) | (have e1 : (k == 1) = false := by rw [hk]; rfl)
    first | (have e2 : (k == 3) = true := by rw [hk]; rfl) | (have e2 : (k == 3) = false := by rw [hk]; rfl)
    first | (have e3 : (k == 4) = true := by rw [hk]; rfl) | (have e3 : (k == 4) = false := by rw [hk]; rfl)
    first | (have e4 : (k == 7) = true := by rw [hk]; rfl) | (have e4 : (k == 7) = false := by rw [hk]; rfl)
    first | (have e5 : (k == 8) = true := by rw [hk]; rfl) | (have e5 : (k == 8) = false := by rw [hk]; rfl)
    first | (have e6 : (k == 9) = true := by rw [hk]; rfl) | (have e6 : (k == 9) = false := by rw [hk]; rfl)
    first | (have e7 : (k == 10) = true := by rw [hk]; rfl) | (have e7 : (k == 10) = false := by rw [hk]; rfl)
    have d1 : decide (1 ≤ k) = true := by rw [hk]; rfl
    first | (have d2 : decide (k ≤ 11) = true := by rw [hk]; rfl) | (have d2 : decide (k ≤ 11) = false := by rw [hk]; rfl)
    have d3 : decide (k ≤ 12) = true := by rw [hk]; rfl
    clear hk
    go_upto_region 15 with fail
    clear HQ4 HF4 HB4
    generalize w4 = w5 at *
    have hg5 : g < w5.heap.size := pos_of_cell HQ5.out.1
    go_upto_region 16 with fail
    have hb6 := (Below.refl w5.heap.size w5).alloc (Nat.le_refl _) (.cells #[.int .i64 k, .string ⟨#[]⟩, .bool false, .int .u8 65, .int .i64 0] 31)
    have HX6 := Lib.hid (sbox_new w5 k 0 ⟨#[]⟩ false 65)
    have HQ6 := Lib.hid (rq_next HQ5.out hb6)
    have HB6 := Lib.hid (HB5.out.trans (hb6.mono HB5.out.size))
    clear hb6 HQ5 HB5 hg5
    generalize w5.alloc (.cells #[.int .i64 k, .string ⟨#[]⟩, .bool false, .int .u8 65, .int .i64 0] 31) = w6 at *
    generalize w5.heap.size = h at *
    obtain ⟨x0, x1, x2⟩ := HQ6.out
    obtain ⟨y0, y1, y2, y3, y4⟩ := HX6.out
    go_wp2_with fail
    refine (HCK.out _ (HS.out.next HB6.out)).mono ?_
    rintro e w7 ⟨rfl, hb7⟩
    have HB7 := Lib.hid (HB6.out.trans (hb7.mono HB6.out.size))
    have HX7 := Lib.hid (HX6.out.next hb7)
    clear hb7 x0 x1 x2 y0 y1 y2 y3 y4
    obtain ⟨y0, y1, y2, y3, y4⟩ := HX7.out
    go_wp2_with fail
    refine (HTX.out _ (HS.out.next HB7.out) (HT.out.next HB7.out)).mono ?_
    rintro e w8 ⟨rfl, hb8⟩
    have HB8 := Lib.hid (HB7.out.trans (hb8.mono HB7.out.size))
    clear hb8
    go_wp2_with fail
    go_ret
    exact ⟨by first | rfl | simp, HB8.out⟩
  · have HR : Hid (reqA k ⟨#[]⟩ 0 = 10) := if_neg (by omega)
    have HCK := Lib.hid (fun W (hW : VarsIn W) => ev_check k 0 ⟨#[]⟩ W hW)
    rw [HR.out] at HCK
    have HTX := Lib.hid (fun W (hW : VarsIn W) (hT : TabIn W) => ev_text k 0 ⟨#[]⟩ false 65 W hW (by decide) (by decide) (by decide) hT)
    rw [text_none k hk] at HTX
    have HQ5 := HQ4
    have HB5 := HB4
    have e1 : (k == 1) = false := by rw [beq_eq_false_iff_ne]; omega
    have e2 : (k == 3) = false := by rw [beq_eq_false_iff_ne]; omega
    have e3 : (k == 4) = false := by rw [beq_eq_false_iff_ne]; omega
    have e4 : (k == 7) = false := by rw [beq_eq_false_iff_ne]; omega
    have e5 : (k == 8) = false := by rw [beq_eq_false_iff_ne]; omega
    have e6 : (k == 9) = false := by rw [beq_eq_false_iff_ne]; omega
    have e7 : (k == 10) = false := by rw [beq_eq_false_iff_ne]; omega
    by_cases h1 : 1 ≤ k
    · have d1 : decide (1 ≤ k) = true := decide_eq_true h1
      have d2 : decide (k ≤ 11) = false := decide_eq_false (by omega)
      have d3 : decide (k ≤ 12) = false := decide_eq_false (by omega)
      clear hk h1
      go_upto_region 15 with fail
      clear HQ4 HF4 HB4
      generalize w4 = w5 at *
      have hg5 : g < w5.heap.size := pos_of_cell HQ5.out.1
      go_upto_region 16 with fail
      have hb6 := (Below.refl w5.heap.size w5).alloc (Nat.le_refl _) (.cells #[.int .i64 k, .string ⟨#[]⟩, .bool false, .int .u8 65, .int .i64 0] 31)
      have HX6 := Lib.hid (sbox_new w5 k 0 ⟨#[]⟩ false 65)
      have HQ6 := Lib.hid (rq_next HQ5.out hb6)
      have HB6 := Lib.hid (HB5.out.trans (hb6.mono HB5.out.size))
      clear hb6 HQ5 HB5 hg5
      generalize w5.alloc (.cells #[.int .i64 k, .string ⟨#[]⟩, .bool false, .int .u8 65, .int .i64 0] 31) = w6 at *
      generalize w5.heap.size = h at *
      obtain ⟨x0, x1, x2⟩ := HQ6.out
      obtain ⟨y0, y1, y2, y3, y4⟩ := HX6.out
      go_wp2_with fail
      refine (HCK.out _ (HS.out.next HB6.out)).mono ?_
      rintro e w7 ⟨rfl, hb7⟩
      have HB7 := Lib.hid (HB6.out.trans (hb7.mono HB6.out.size))
      have HX7 := Lib.hid (HX6.out.next hb7)
      clear hb7 x0 x1 x2 y0 y1 y2 y3 y4
      obtain ⟨y0, y1, y2, y3, y4⟩ := HX7.out
      go_wp2_with fail
      refine (HTX.out _ (HS.out.next HB7.out) (HT.out.next HB7.out)).mono ?_
      rintro e w8 ⟨rfl, hb8⟩
      have HB8 := Lib.hid (HB7.out.trans (hb8.mono HB7.out.size))
      clear hb8
      go_wp2_with fail
      go_ret
      exact ⟨by first | rfl | simp, HB8.out⟩
    · have d1 : decide (1 ≤ k) = false := decide_eq_false h1
      clear hk h1
      go_upto_region 15 with fail
      clear HQ4 HF4 HB4
      generalize w4 = w5 at *
      have hg5 : g < w5.heap.size := pos_of_cell HQ5.out.1
      go_upto_region 16 with fail
      have hb6 := (Below.refl w5.heap.size w5).alloc (Nat.le_refl _) (.cells #[.int .i64 k, .string ⟨#[]⟩, .bool false, .int .u8 65, .int .i64 0] 31)
      have HX6 := Lib.hid (sbox_new w5 k 0 ⟨#[]⟩ false 65)
      have HQ6 := Lib.hid (rq_next HQ5.out hb6)
      have HB6 := Lib.hid (HB5.out.trans (hb6.mono HB5.out.size))
      clear hb6 HQ5 HB5 hg5
      generalize w5.alloc (.cells #[.int .i64 k, .string ⟨#[]⟩, .bool false, .int .u8 65, .int .i64 0] 31) = w6 at *
      generalize w5.heap.size = h at *
      obtain ⟨x0, x1, x2⟩ := HQ6.out
      obtain ⟨y0, y1, y2, y3, y4⟩ := HX6.out
      go_wp2_with fail
      refine (HCK.out _ (HS.out.next HB6.out)).mono ?_
      rintro e w7 ⟨rfl, hb7⟩
      have HB7 := Lib.hid (HB6.out.trans (hb7.mono HB6.out.size))
      have HX7 := Lib.hid (HX6.out.next hb7)
      clear hb7 x0 x1 x2 y0 y1 y2 y3 y4
      obtain ⟨y0, y1, y2, y3, y4⟩ := HX7.out
      go_wp2_with fail
      refine (HTX.out _ (HS.out.next HB7.out) (HT.out.next HB7.out)).mono ?_
      rintro e w8 ⟨rfl, hb8⟩
      have HB8 := Lib.hid (HB7.out.trans (hb8.mono HB7.out.size))
      clear hb8
      go_wp2_with fail
      go_ret
      exact ⟨by first | rfl | simp, HB8.out⟩
end Go.Proofs.YtnocckgbcjienaaDoor
