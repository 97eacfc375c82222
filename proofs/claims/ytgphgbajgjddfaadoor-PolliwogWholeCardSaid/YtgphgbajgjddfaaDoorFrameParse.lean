/- The contract of package frame's Parse. Conditions: the table is laid. -/
import Derived.Test.YtgphgbajgjddfaaDoorFrameBytes
import Derived.Lib.QuoteBits
namespace Go.Proofs.YtgphgbajgjddfaaDoor
open Go.RowKit Go.Shelf
set_option linter.unusedVariables false
set_option linter.unusedSimpArgs false

def at_ (s : ByteArray) (k : Nat) : Nat := (nums s).getD k 0
/-- How many bytes of data a frame's bytes tell. -/
def toldN (s : ByteArray) : Nat := at_ s (s.size - 6) * 256 + at_ s (s.size - 5)
def FrameOut (w0 : World) (g : Nat) (u : Int) (d : ByteArray) (err : Int) (e : Ending) (w' : World) : Prop := e = .returned (.tuple #[.agg #[.int .u8 u, .string d], .int .i64 err]) ∧ Has w0 w' g

theorem res_parse (tmps : Array Value) (w : World) (r : Nat) (u err : Int) (d : ByteArray) (h4 : tmps.getD 4 undef = .pointer (some ⟨r, 0, none⟩)) (h5 : tmps.getD 5 undef = .int .i64 err)
    (c0 : w.cell? ⟨r, 0, none⟩ = some (.int .u8 u)) (c1 : w.cell? ⟨r, 1, none⟩ = some (.string d)) :
    (results Tryd.f12 tmps).run Tryd.prog w = .ok (.tuple #[.agg #[.int .u8 u, .string d], .int .i64 err]) w := by
  simp only [results, Tryd.results12]
  simp only [List.mapM_toArray, List.mapM_cons, List.mapM_nil, h4, h5]
  go_simp
@[go_sem] theorem buildF (u : Int) (d : ByteArray) (w : World) : (Instr.build 44 #[(0, .int .u8 u), (1, .string d)]).run Tryd.prog w = .ok (.agg #[.int .u8 u, .string d]) w := run_build w 44 _ _ (by kernel_rfl)
theorem wpList_val {P : Program} {ops : Array Oper} {rest : List Oper} {o : Oper} {a : Act} {Q : Exit → Act → World → Prop} {w : World} (hg : o.guard = none) (v : Value) (w' : World) (hr : (execOp a.eval o).run P w = .ok (.value v) w') (h : wpList P ops Q rest (a.put o.dst v) w') : wpList P ops Q (o :: rest) a w := by
  unfold wpList
  rw [if_pos (by simp [Region.wanted, hg])]
  left
  unfold Oper.wp
  rw [hr]
  exact h
theorem exec_build {ev : Operand → Value} {o : Oper} {w : World} (x y : Operand) (hop : o.op = .build 44 #[(0, x), (1, y)]) (u : Int) (d : ByteArray) (hx : ev x = .int .u8 u) (hy : ev y = .string d) : (execOp ev o).run Tryd.prog w = .ok (.value (.agg #[.int .u8 u, .string d])) w := by
  have hb := buildF u d w
  unfold execOp
  simp only [hop]
  simp only [List.map_toArray, List.map_cons, List.map_nil, hx, hy, Sem.run_bind, Sem.run_map, hb, Result.andThen_ok, Sem.run_pure]
theorem agg_new (w : World) (u : Int) (d : ByteArray) (t : TypeId) : (w.alloc (.cells #[.int .u8 u, .string d] t)).cell? ⟨w.heap.size, 0, none⟩ = some (.int .u8 u) ∧ (w.alloc (.cells #[.int .u8 u, .string d] t)).cell? ⟨w.heap.size, 1, none⟩ = some (.string d) := by
  constructor
  · rw [cell_of_row _ _ 0 _ _ (0, 0) (heap_alloc_new w _)]; rfl
  · rw [cell_of_row _ _ 1 _ _ (0, 0) (heap_alloc_new w _)]; rfl
theorem toList_nil (s : ByteArray) : (s.toList == []) = decide (s.size = 0) := by
  rw [ByteArray.toList_eq, Bool.eq_iff_iff, beq_iff_eq, decide_eq_true_iff]
  constructor
  · intro h
    have := congrArg List.length h
    simpa using this
  · intro h
    apply List.eq_nil_of_length_eq_zero
    simpa using h

theorem at_lt (s : ByteArray) (k : Nat) : at_ s k < 256 := by
  unfold at_
  by_cases h : k < (nums s).length
  · rw [List.getD_eq_getElem?_getD, List.getElem?_eq_getElem h]
    exact nums_lt s _ (List.getElem_mem h)
  · rw [List.getD_eq_getElem?_getD, List.getElem?_eq_none (by omega)]
    decide
theorem index_at (w : World) (s : ByteArray) (k : Nat) (h : k < s.size) : (Instr.index 9 (.string s) (.int .i64 (k : Int))).run Tryd.prog w = .ok (.int .u8 (at_ s k : Nat)) w := by
  rw [run_index_string w 9 s .i64 k Tryd.underlying9, dif_pos ⟨by omega, by omega⟩]
  congr 3
  unfold at_ nums
  rw [List.getD_eq_getElem?_getD, List.getElem?_map]
  have h1 : s.data.toList[k]? = some s[k] := by
    rw [List.getElem?_eq_getElem (by simpa using h)]
    rfl
  rw [h1]
  rfl
theorem or_shl (a b : Nat) (ha : a < 256) (hb : b < 256) : Go.bits .or .i64 ((a : Int) * 256) (b : Int) = (a : Int) * 256 + b := by
  have h : a * 256 ||| b = a * 256 + b := by
    have := Nat.shiftLeft_add_eq_or_of_lt (i := 8) (show b < 2 ^ 8 by omega) a
    rw [Nat.shiftLeft_eq] at this
    exact this.symm
  have e : (a : Int) * 256 = ((a * 256 : Nat) : Int) := by omega
  rw [e]
  show IntKind.i64.wrap ((BitVec.ofInt 64 ((a * 256 : Nat) : Int) ||| BitVec.ofInt 64 (b : Int)).toNat : Int) = _
  rw [BitVec.toNat_or, ofInt_u64 (a * 256) (by omega), ofInt_u64 b (by omega), h]
  rw [Lib.wrap_i64_small _ (by omega)]
  omega
def AllZero (d : ByteArray) : Prop := ∀ b, b ∈ d.data.toList → b = 0

set_option maxHeartbeats 1000000 in
set_option maxRecDepth 100000 in
theorem parse_len (s : ByteArray) (g : Nat) (w0 w : World) (hs : s.size ≤ maxLen) (hT : Has w0 w g) (h : s.size = 0 ∨ s.size % 48 ≠ 0) :
    Calls Tryd.prog 12 #[.pointer (some ⟨g, 0, none⟩), .string s] w (FrameOut w0 g 0 ⟨#[]⟩ 5) := by
  have HT := Lib.hid hT
  clear hT
  unfold maxLen at hs
  obtain ⟨a0, a1⟩ := agg_new w 0 ⟨#[]⟩ 44
  have HA0 := Lib.hid a0
  have HA1 := Lib.hid a1
  clear a0 a1
  by_cases h0 : s.size = 0
  · have h1 : (s.toList == []) = true := by rw [toList_nil]; simpa using h0
    clear h0 h
    go_enter Tryd.func12, Tryd.ntmps12
    go_wp2_with fail
    exact bodyPost_ret (res_parse _ _ w.heap.size 0 5 ⟨#[]⟩ rfl rfl HA0.out HA1.out) rfl ⟨rfl, HT.out.next ((Below.refl _ w).alloc (Nat.le_refl _) _)⟩
  · have h1 : (s.toList == []) = false := by rw [toList_nil]; simpa using h0
    have h2 : ((s.size : Int) % 48 != 0) = true := by rw [bne_iff_ne]; omega
    clear h0 h
    go_enter Tryd.func12, Tryd.ntmps12
    go_wp2_with fail
    exact bodyPost_ret (res_parse _ _ w.heap.size 0 5 ⟨#[]⟩ rfl rfl HA0.out HA1.out) rfl ⟨rfl, HT.out.next ((Below.refl _ w).alloc (Nat.le_refl _) _)⟩

set_option maxHeartbeats 1000000 in
set_option maxRecDepth 100000 in
theorem parse_sum (s : ByteArray) (g : Nat) (w0 w : World) (hs : s.size ≤ maxLen) (hT : Has w0 w g) (h0 : s.size ≠ 0) (h48 : s.size % 48 = 0) (hf : fitsB s = false) :
    Calls Tryd.prog 12 #[.pointer (some ⟨g, 0, none⟩), .string s] w (FrameOut w0 g 0 ⟨#[]⟩ 4) := by
  have HT := Lib.hid hT
  have HS := Lib.hid hs
  clear hT
  unfold maxLen at hs
  obtain ⟨a0, a1⟩ := agg_new w 0 ⟨#[]⟩ 44
  have HA0 := Lib.hid a0
  have HA1 := Lib.hid a1
  have ff := frozen_of_row _ w.heap.size 0 _ _ (heap_alloc_new w (.cells #[.int .u8 0, .string ⟨#[]⟩] 44))
  have ff1 := frozen_of_row _ w.heap.size 1 _ _ (heap_alloc_new w (.cells #[.int .u8 0, .string ⟨#[]⟩] 44))
  clear a0 a1
  have h1 : (s.toList == []) = false := by rw [toList_nil]; simpa using h0
  have h2 : ((s.size : Int) % 48 != 0) = false := by rw [bne_eq_false_iff_eq]; omega
  have HB := Lib.hid ((Below.refl _ w).alloc (Nat.le_refl _) (.cells #[.int .u8 0, .string ⟨#[]⟩] 44))
  have hg : w.heap.size < (w.alloc (.cells #[.int .u8 0, .string ⟨#[]⟩] 44)).heap.size := by simp
  have HF := Lib.hid hf
  clear h0 h48 hf
  go_enter Tryd.func12, Tryd.ntmps12
  go_upto_region 1 with fail
  generalize w.alloc (.cells #[.int .u8 0, .string ⟨#[]⟩] 44) = W at *
  go_wp2_with fail
  refine (crcFits2 s g W HS.out (HT.out.next HB.out).tab).mono ?_
  rintro e w1 ⟨rfl, hb1⟩
  rw [HF.out]
  have HB1 := Lib.hid (HB.out.trans (hb1.mono HB.out.size))
  have k0 : w1.cell? ⟨w.heap.size, 0, none⟩ = some (.int .u8 0) := by rw [hb1.cell (p := ⟨w.heap.size, 0, none⟩) hg]; exact HA0.out
  have k1 : w1.cell? ⟨w.heap.size, 1, none⟩ = some (.string ⟨#[]⟩) := by rw [hb1.cell (p := ⟨w.heap.size, 1, none⟩) hg]; exact HA1.out
  have f0 : w1.frozen? ⟨w.heap.size, 0, none⟩ = false := by rw [hb1.frozen (p := ⟨w.heap.size, 0, none⟩) hg]; exact ff
  have f1 : w1.frozen? ⟨w.heap.size, 1, none⟩ = false := by rw [hb1.frozen (p := ⟨w.heap.size, 1, none⟩) hg]; exact ff1
  have hg1 : w.heap.size < w1.heap.size := Nat.lt_of_lt_of_le hg hb1.size
  clear hb1 ff ff1
  go_wp2_with fail
  exact bodyPost_ret (res_parse _ _ w.heap.size 0 4 ⟨#[]⟩ rfl rfl (by go_simp) (by go_simp)) rfl ⟨rfl, HT.out.next ((HB1.out.setCell (p := ⟨w.heap.size, 0, none⟩) (Nat.le_refl _) _).setCell (p := ⟨w.heap.size, 1, none⟩) (Nat.le_refl _) _)⟩

theorem below_drewN' {B : Nat} {a w : World} (h : Below B a w) (n : Nat) : Below B a (w.drewN n) := ⟨h.os, h.tape, h.output, h.size, h.block⟩

set_option maxHeartbeats 1000000 in
set_option maxRecDepth 100000 in
theorem parse_told (s : ByteArray) (K N : Nat) (g : Nat) (w0 w : World) (hs : s.size ≤ maxLen) (hT : Has w0 w g) (hK : s.size = K + 8) (h48 : s.size % 48 = 0) (hf : fitsB s = true) (hN : N = toldN s) (hn : cellsOf N * 48 ≠ (K : Int) + 8) :
    Calls Tryd.prog 12 #[.pointer (some ⟨g, 0, none⟩), .string s] w (FrameOut w0 g 0 ⟨#[]⟩ 5) := by
  have hne : (cellsOf N * 48 != (K : Int) + 8) = true := by rw [bne_iff_ne]; exact hn
  clear hn
  have HT := Lib.hid hT
  have HS := Lib.hid hs
  clear hT
  unfold maxLen at hs
  obtain ⟨a0, a1⟩ := agg_new w 0 ⟨#[]⟩ 44
  have HA0 := Lib.hid a0
  have HA1 := Lib.hid a1
  have ff := frozen_of_row _ w.heap.size 0 _ _ (heap_alloc_new w (.cells #[.int .u8 0, .string ⟨#[]⟩] 44))
  have ff1 := frozen_of_row _ w.heap.size 1 _ _ (heap_alloc_new w (.cells #[.int .u8 0, .string ⟨#[]⟩] 44))
  clear a0 a1
  have h1 : (s.toList == []) = false := by rw [toList_nil, decide_eq_false_iff_not]; omega
  have h2 : (((K : Int) + 8) % 48 != 0) = false := by rw [bne_eq_false_iff_eq]; omega
  have HB := Lib.hid ((Below.refl _ w).alloc (Nat.le_refl _) (.cells #[.int .u8 0, .string ⟨#[]⟩] 44))
  have hg : w.heap.size < (w.alloc (.cells #[.int .u8 0, .string ⟨#[]⟩] 44)).heap.size := by simp
  have HF := Lib.hid hf
  clear h48 hf
  go_enter Tryd.func12, Tryd.ntmps12
  go_upto_region 1 with fail
  generalize w.alloc (.cells #[.int .u8 0, .string ⟨#[]⟩] 44) = W at *
  go_wp2_with fail
  refine (crcFits2 s g W HS.out (HT.out.next HB.out).tab).mono ?_
  rintro e w1 ⟨rfl, hb1⟩
  rw [HF.out]
  have HB1 := Lib.hid (HB.out.trans (hb1.mono HB.out.size))
  have k0 : w1.cell? ⟨w.heap.size, 0, none⟩ = some (.int .u8 0) := by rw [hb1.cell (p := ⟨w.heap.size, 0, none⟩) hg]; exact HA0.out
  have k1 : w1.cell? ⟨w.heap.size, 1, none⟩ = some (.string ⟨#[]⟩) := by rw [hb1.cell (p := ⟨w.heap.size, 1, none⟩) hg]; exact HA1.out
  have f0 : w1.frozen? ⟨w.heap.size, 0, none⟩ = false := by rw [hb1.frozen (p := ⟨w.heap.size, 0, none⟩) hg]; exact ff
  have f1 : w1.frozen? ⟨w.heap.size, 1, none⟩ = false := by rw [hb1.frozen (p := ⟨w.heap.size, 1, none⟩) hg]; exact ff1
  have hg1 : w.heap.size < w1.heap.size := Nat.lt_of_lt_of_le hg hb1.size
  clear hb1 ff ff1
  have x0 : ∀ w, (Instr.index 9 (.string s) (.int .i64 (K : Int))).run Tryd.prog w = .ok (.int .u8 (at_ s K : Nat)) w := fun w => index_at w s K (by omega)
  have x1 : ∀ w, (Instr.index 9 (.string s) (.int .i64 ((K : Int) + 1))).run Tryd.prog w = .ok (.int .u8 (at_ s (K + 1) : Nat)) w := fun w => index_at w s (K + 1) (by omega)
  have x2 : ∀ w, (Instr.index 9 (.string s) (.int .i64 ((K : Int) + 2))).run Tryd.prog w = .ok (.int .u8 (at_ s (K + 2) : Nat)) w := fun w => index_at w s (K + 2) (by omega)
  have x3 : ∀ w, (Instr.index 9 (.string s) (.int .i64 ((K : Int) + 3))).run Tryd.prog w = .ok (.int .u8 (at_ s (K + 3) : Nat)) w := fun w => index_at w s (K + 3) (by omega)
  have j1 := at_lt s (K + 2)
  have j2 := at_lt s (K + 3)
  have hor : Go.bits .or .i64 ((at_ s (K + 2) : Int) * 256) (at_ s (K + 3) : Int) = (N : Int) := by rw [or_shl (at_ s (K + 2)) (at_ s (K + 3)) j1 j2, hN]; unfold toldN; rw [hK]; simp
  have hN65 : N < 65536 := by rw [hN]; unfold toldN; rw [hK]; simp; omega
  have hCN : 0 ≤ cellsOf (N : Int) ∧ cellsOf (N : Int) ≤ 1367 := by unfold cellsOf; omega
  have HNN := Lib.hid hN
  clear hN
  generalize hU : at_ s K = U at *
  generalize hZ : at_ s (K + 1) = Z at *
  generalize at_ s (K + 2) = H at *
  generalize at_ s (K + 3) = LO at *
  have HU := Lib.hid hU
  have HZ := Lib.hid hZ
  clear hU hZ
  go_wp2_with fail
  go_quiet (fail)
  have HB1 := Lib.hid (below_drewN' HB1.out nq)
  have k0 : (w1.drewN nq).cell? ⟨w.heap.size, 0, none⟩ = some (.int .u8 0) := k0
  have k1 : (w1.drewN nq).cell? ⟨w.heap.size, 1, none⟩ = some (.string ⟨#[]⟩) := k1
  have f0 : (w1.drewN nq).frozen? ⟨w.heap.size, 0, none⟩ = false := f0
  have f1 : (w1.drewN nq).frozen? ⟨w.heap.size, 1, none⟩ = false := f1
  have hg1 : w.heap.size < (w1.drewN nq).heap.size := hg1
  generalize w1.drewN nq = w1 at *
  go_wp2_with fail
  go_quiet (fail)
  have HB1 := Lib.hid (below_drewN' HB1.out nq)
  have k0 : (w1.drewN nq).cell? ⟨w.heap.size, 0, none⟩ = some (.int .u8 0) := k0
  have k1 : (w1.drewN nq).cell? ⟨w.heap.size, 1, none⟩ = some (.string ⟨#[]⟩) := k1
  have f0 : (w1.drewN nq).frozen? ⟨w.heap.size, 0, none⟩ = false := f0
  have f1 : (w1.drewN nq).frozen? ⟨w.heap.size, 1, none⟩ = false := f1
  have hg1 : w.heap.size < (w1.drewN nq).heap.size := hg1
  generalize w1.drewN nq = w1 at *
  go_wp2_with fail
  refine (cells (N : Int) _ (by omega) (by omega)).mono ?_
  rintro e w2 ⟨rfl, rfl⟩
  generalize cellsOf (N : Int) = CN at *
  go_wp2_with fail
  exact bodyPost_ret (res_parse _ _ w.heap.size 0 5 ⟨#[]⟩ rfl rfl (by go_simp) (by go_simp)) rfl ⟨rfl, HT.out.next ((HB1.out.setCell (p := ⟨w.heap.size, 0, none⟩) (Nat.le_refl _) _).setCell (p := ⟨w.heap.size, 1, none⟩) (Nat.le_refl _) _)⟩

theorem told_room {N K : Nat} (h : cellsOf (N : Int) * 48 = (K : Int) + 8) : N ≤ K := by unfold cellsOf at h; omega

set_option maxHeartbeats 1000000 in
set_option maxRecDepth 100000 in
theorem parse_ok (s : ByteArray) (K N : Nat) (g : Nat) (w0 w : World) (hs : s.size ≤ maxLen) (hT : Has w0 w g) (hK : s.size = K + 8) (h48 : s.size % 48 = 0) (hf : fitsB s = true) (hN : N = toldN s) (hn : cellsOf N * 48 = (K : Int) + 8) (hz : at_ s (K + 1) = 0) (ha : AllZero (s.extract N K)) :
    Calls Tryd.prog 12 #[.pointer (some ⟨g, 0, none⟩), .string s] w (FrameOut w0 g (at_ s K : Nat) (s.extract 0 N) 0) := by
  have hne : (cellsOf N * 48 != (K : Int) + 8) = false := by rw [bne_eq_false_iff_eq]; exact hn
  have hNK := told_room hn
  have HAZ := Lib.hid ha
  clear hn ha
  have HT := Lib.hid hT
  have HS := Lib.hid hs
  clear hT
  unfold maxLen at hs
  obtain ⟨a0, a1⟩ := agg_new w 0 ⟨#[]⟩ 44
  have HA0 := Lib.hid a0
  have HA1 := Lib.hid a1
  have ff := frozen_of_row _ w.heap.size 0 _ _ (heap_alloc_new w (.cells #[.int .u8 0, .string ⟨#[]⟩] 44))
  have ff1 := frozen_of_row _ w.heap.size 1 _ _ (heap_alloc_new w (.cells #[.int .u8 0, .string ⟨#[]⟩] 44))
  clear a0 a1
  have h1 : (s.toList == []) = false := by rw [toList_nil, decide_eq_false_iff_not]; omega
  have h2 : (((K : Int) + 8) % 48 != 0) = false := by rw [bne_eq_false_iff_eq]; omega
  have HB := Lib.hid ((Below.refl _ w).alloc (Nat.le_refl _) (.cells #[.int .u8 0, .string ⟨#[]⟩] 44))
  have hg : w.heap.size < (w.alloc (.cells #[.int .u8 0, .string ⟨#[]⟩] 44)).heap.size := by simp
  have HF := Lib.hid hf
  clear h48 hf
  go_enter Tryd.func12, Tryd.ntmps12
  go_upto_region 1 with fail
  generalize w.alloc (.cells #[.int .u8 0, .string ⟨#[]⟩] 44) = W at *
  go_wp2_with fail
  refine (crcFits2 s g W HS.out (HT.out.next HB.out).tab).mono ?_
  rintro e w1 ⟨rfl, hb1⟩
  rw [HF.out]
  have HB1 := Lib.hid (HB.out.trans (hb1.mono HB.out.size))
  have k0 : w1.cell? ⟨w.heap.size, 0, none⟩ = some (.int .u8 0) := by rw [hb1.cell (p := ⟨w.heap.size, 0, none⟩) hg]; exact HA0.out
  have k1 : w1.cell? ⟨w.heap.size, 1, none⟩ = some (.string ⟨#[]⟩) := by rw [hb1.cell (p := ⟨w.heap.size, 1, none⟩) hg]; exact HA1.out
  have f0 : w1.frozen? ⟨w.heap.size, 0, none⟩ = false := by rw [hb1.frozen (p := ⟨w.heap.size, 0, none⟩) hg]; exact ff
  have f1 : w1.frozen? ⟨w.heap.size, 1, none⟩ = false := by rw [hb1.frozen (p := ⟨w.heap.size, 1, none⟩) hg]; exact ff1
  have hg1 : w.heap.size < w1.heap.size := Nat.lt_of_lt_of_le hg hb1.size
  clear hb1 ff ff1
  have x0 : ∀ w, (Instr.index 9 (.string s) (.int .i64 (K : Int))).run Tryd.prog w = .ok (.int .u8 (at_ s K : Nat)) w := fun w => index_at w s K (by omega)
  have x1 : ∀ w, (Instr.index 9 (.string s) (.int .i64 ((K : Int) + 1))).run Tryd.prog w = .ok (.int .u8 (at_ s (K + 1) : Nat)) w := fun w => index_at w s (K + 1) (by omega)
  have x2 : ∀ w, (Instr.index 9 (.string s) (.int .i64 ((K : Int) + 2))).run Tryd.prog w = .ok (.int .u8 (at_ s (K + 2) : Nat)) w := fun w => index_at w s (K + 2) (by omega)
  have x3 : ∀ w, (Instr.index 9 (.string s) (.int .i64 ((K : Int) + 3))).run Tryd.prog w = .ok (.int .u8 (at_ s (K + 3) : Nat)) w := fun w => index_at w s (K + 3) (by omega)
  have j1 := at_lt s (K + 2)
  have j2 := at_lt s (K + 3)
  have hor : Go.bits .or .i64 ((at_ s (K + 2) : Int) * 256) (at_ s (K + 3) : Int) = (N : Int) := by rw [or_shl (at_ s (K + 2)) (at_ s (K + 3)) j1 j2, hN]; unfold toldN; rw [hK]; simp
  have hN65 : N < 65536 := by rw [hN]; unfold toldN; rw [hK]; simp; omega
  have hCN : 0 ≤ cellsOf (N : Int) ∧ cellsOf (N : Int) ≤ 1367 := by unfold cellsOf; omega
  have HNN := Lib.hid hN
  clear hN
  generalize hU : at_ s K = U at *
  generalize hZ : at_ s (K + 1) = Z at *
  generalize at_ s (K + 2) = H at *
  generalize at_ s (K + 3) = LO at *
  have HU := Lib.hid hU
  have HZ := Lib.hid hZ
  clear hU hZ
  go_wp2_with fail
  go_quiet (fail)
  have HB1 := Lib.hid (below_drewN' HB1.out nq)
  have k0 : (w1.drewN nq).cell? ⟨w.heap.size, 0, none⟩ = some (.int .u8 0) := k0
  have k1 : (w1.drewN nq).cell? ⟨w.heap.size, 1, none⟩ = some (.string ⟨#[]⟩) := k1
  have f0 : (w1.drewN nq).frozen? ⟨w.heap.size, 0, none⟩ = false := f0
  have f1 : (w1.drewN nq).frozen? ⟨w.heap.size, 1, none⟩ = false := f1
  have hg1 : w.heap.size < (w1.drewN nq).heap.size := hg1
  generalize w1.drewN nq = w1 at *
  go_wp2_with fail
  go_quiet (fail)
  have HB1 := Lib.hid (below_drewN' HB1.out nq)
  have k0 : (w1.drewN nq).cell? ⟨w.heap.size, 0, none⟩ = some (.int .u8 0) := k0
  have k1 : (w1.drewN nq).cell? ⟨w.heap.size, 1, none⟩ = some (.string ⟨#[]⟩) := k1
  have f0 : (w1.drewN nq).frozen? ⟨w.heap.size, 0, none⟩ = false := f0
  have f1 : (w1.drewN nq).frozen? ⟨w.heap.size, 1, none⟩ = false := f1
  have hg1 : w.heap.size < (w1.drewN nq).heap.size := hg1
  generalize w1.drewN nq = w1 at *
  go_wp2_with fail
  refine (cells (N : Int) _ (by omega) (by omega)).mono ?_
  rintro e w2 ⟨rfl, rfl⟩
  generalize cellsOf (N : Int) = CN at *
  obtain rfl : Z = 0 := hz
  have i1 : (0 : Int) ≤ (N : Int) := by omega
  have i2 : (N : Int) ≤ (K : Int) := by omega
  have i3 : (K : Int) ≤ (K : Int) + 8 := by omega
  have hx1 : (s.extract N K).size ≤ 9223372036854775807 := by rw [ByteArray.size_extract]; omega
  have hx2 : (s.extract 0 N).size ≤ 281474976710656 := by rw [ByteArray.size_extract]; omega
  have HX1 := Lib.hid hx1
  have HX2 := Lib.hid hx2
  clear hx1 hx2
  go_wp2_with fail
  refine (trim0 (s.extract N K) _ HX1.out).mono ?_
  rintro e w3 ⟨t, rfl, ht, hb3⟩
  obtain rfl := ht.2 HAZ.out
  clear ht
  have HB3 := Lib.hid (HB1.out.trans (hb3.mono HB1.out.size))
  have m0 : w3.cell? ⟨w.heap.size, 0, none⟩ = some (.int .u8 0) := by rw [hb3.cell (p := ⟨w.heap.size, 0, none⟩) hg1]; exact k0
  have m1 : w3.cell? ⟨w.heap.size, 1, none⟩ = some (.string ⟨#[]⟩) := by rw [hb3.cell (p := ⟨w.heap.size, 1, none⟩) hg1]; exact k1
  have g0 : w3.frozen? ⟨w.heap.size, 0, none⟩ = false := by rw [hb3.frozen (p := ⟨w.heap.size, 0, none⟩) hg1]; exact f0
  have g1 : w3.frozen? ⟨w.heap.size, 1, none⟩ = false := by rw [hb3.frozen (p := ⟨w.heap.size, 1, none⟩) hg1]; exact f1
  have hg3 : w.heap.size < w3.heap.size := Nat.lt_of_lt_of_le hg1 hb3.size
  clear hb3
  have hsl : ∀ w, (Instr.sliceAt 9 (.string s) none (some (.int .i64 (N : Int))) none).run Tryd.prog w = .ok (.string (s.extract 0 N)) w := fun w => by
    rw [run_sliceAt_string w 9 _ _ _ _ Tryd.underlying9, run_slice_string_h w 9 s Tryd.underlying9 .i64 (N : Int) (by omega) (by omega)]
    rfl
  go_wp2_with fail
  refine (clone (s.extract 0 N) _ HX2.out).mono ?_
  rintro e w4 ⟨rfl, hb4⟩
  have HB4 := Lib.hid (HB3.out.trans (hb4.mono HB3.out.size))
  have n0 : w4.cell? ⟨w.heap.size, 0, none⟩ = some (.int .u8 0) := by rw [hb4.cell (p := ⟨w.heap.size, 0, none⟩) hg3]; exact m0
  have n1 : w4.cell? ⟨w.heap.size, 1, none⟩ = some (.string ⟨#[]⟩) := by rw [hb4.cell (p := ⟨w.heap.size, 1, none⟩) hg3]; exact m1
  have q0 : w4.frozen? ⟨w.heap.size, 0, none⟩ = false := by rw [hb4.frozen (p := ⟨w.heap.size, 0, none⟩) hg3]; exact g0
  have q1 : w4.frozen? ⟨w.heap.size, 1, none⟩ = false := by rw [hb4.frozen (p := ⟨w.heap.size, 1, none⟩) hg3]; exact g1
  clear hb4
  clear hsl x0 x1 x2 x3 hor h1 h2 hs hK hNK i1 i2 i3 j1 j2 hN65 hg hg1 hg3 m0 m1 g0 g1 k0 k1 f0 f1 hCN
  generalize s.extract 0 N = D at *
  generalize (U : Int) = u at *
  go_wp2_with fail
  exact bodyPost_ret (res_parse _ _ w.heap.size u 0 D rfl rfl (by go_simp) (by go_simp)) rfl ⟨rfl, HT.out.next ((HB4.out.setCell (p := ⟨w.heap.size, 0, none⟩) (Nat.le_refl _) _).setCell (p := ⟨w.heap.size, 1, none⟩) (Nat.le_refl _) _)⟩

set_option maxHeartbeats 1000000 in
set_option maxRecDepth 100000 in
theorem parse_form (s : ByteArray) (K N : Nat) (g : Nat) (w0 w : World) (hs : s.size ≤ maxLen) (hT : Has w0 w g) (hK : s.size = K + 8) (h48 : s.size % 48 = 0) (hf : fitsB s = true) (hN : N = toldN s) (hn : cellsOf N * 48 = (K : Int) + 8) (hz : at_ s (K + 1) ≠ 0 ∨ ¬ AllZero (s.extract N K)) :
    Calls Tryd.prog 12 #[.pointer (some ⟨g, 0, none⟩), .string s] w (FrameOut w0 g 0 ⟨#[]⟩ 3) := by
  have hne : (cellsOf N * 48 != (K : Int) + 8) = false := by rw [bne_eq_false_iff_eq]; exact hn
  have hNK := told_room hn
  have hz2 := at_lt s (K + 1)
  clear hn
  have HT := Lib.hid hT
  have HS := Lib.hid hs
  clear hT
  unfold maxLen at hs
  obtain ⟨a0, a1⟩ := agg_new w 0 ⟨#[]⟩ 44
  have HA0 := Lib.hid a0
  have HA1 := Lib.hid a1
  have ff := frozen_of_row _ w.heap.size 0 _ _ (heap_alloc_new w (.cells #[.int .u8 0, .string ⟨#[]⟩] 44))
  have ff1 := frozen_of_row _ w.heap.size 1 _ _ (heap_alloc_new w (.cells #[.int .u8 0, .string ⟨#[]⟩] 44))
  clear a0 a1
  have h1 : (s.toList == []) = false := by rw [toList_nil, decide_eq_false_iff_not]; omega
  have h2 : (((K : Int) + 8) % 48 != 0) = false := by rw [bne_eq_false_iff_eq]; omega
  have HB := Lib.hid ((Below.refl _ w).alloc (Nat.le_refl _) (.cells #[.int .u8 0, .string ⟨#[]⟩] 44))
  have hg : w.heap.size < (w.alloc (.cells #[.int .u8 0, .string ⟨#[]⟩] 44)).heap.size := by simp
  have HF := Lib.hid hf
  clear h48 hf
  go_enter Tryd.func12, Tryd.ntmps12
  go_upto_region 1 with fail
  generalize w.alloc (.cells #[.int .u8 0, .string ⟨#[]⟩] 44) = W at *
  go_wp2_with fail
  refine (crcFits2 s g W HS.out (HT.out.next HB.out).tab).mono ?_
  rintro e w1 ⟨rfl, hb1⟩
  rw [HF.out]
  have HB1 := Lib.hid (HB.out.trans (hb1.mono HB.out.size))
  have k0 : w1.cell? ⟨w.heap.size, 0, none⟩ = some (.int .u8 0) := by rw [hb1.cell (p := ⟨w.heap.size, 0, none⟩) hg]; exact HA0.out
  have k1 : w1.cell? ⟨w.heap.size, 1, none⟩ = some (.string ⟨#[]⟩) := by rw [hb1.cell (p := ⟨w.heap.size, 1, none⟩) hg]; exact HA1.out
  have f0 : w1.frozen? ⟨w.heap.size, 0, none⟩ = false := by rw [hb1.frozen (p := ⟨w.heap.size, 0, none⟩) hg]; exact ff
  have f1 : w1.frozen? ⟨w.heap.size, 1, none⟩ = false := by rw [hb1.frozen (p := ⟨w.heap.size, 1, none⟩) hg]; exact ff1
  have hg1 : w.heap.size < w1.heap.size := Nat.lt_of_lt_of_le hg hb1.size
  clear hb1 ff ff1
  have x0 : ∀ w, (Instr.index 9 (.string s) (.int .i64 (K : Int))).run Tryd.prog w = .ok (.int .u8 (at_ s K : Nat)) w := fun w => index_at w s K (by omega)
  have x1 : ∀ w, (Instr.index 9 (.string s) (.int .i64 ((K : Int) + 1))).run Tryd.prog w = .ok (.int .u8 (at_ s (K + 1) : Nat)) w := fun w => index_at w s (K + 1) (by omega)
  have x2 : ∀ w, (Instr.index 9 (.string s) (.int .i64 ((K : Int) + 2))).run Tryd.prog w = .ok (.int .u8 (at_ s (K + 2) : Nat)) w := fun w => index_at w s (K + 2) (by omega)
  have x3 : ∀ w, (Instr.index 9 (.string s) (.int .i64 ((K : Int) + 3))).run Tryd.prog w = .ok (.int .u8 (at_ s (K + 3) : Nat)) w := fun w => index_at w s (K + 3) (by omega)
  have j1 := at_lt s (K + 2)
  have j2 := at_lt s (K + 3)
  have hor : Go.bits .or .i64 ((at_ s (K + 2) : Int) * 256) (at_ s (K + 3) : Int) = (N : Int) := by rw [or_shl (at_ s (K + 2)) (at_ s (K + 3)) j1 j2, hN]; unfold toldN; rw [hK]; simp
  have hN65 : N < 65536 := by rw [hN]; unfold toldN; rw [hK]; simp; omega
  have hCN : 0 ≤ cellsOf (N : Int) ∧ cellsOf (N : Int) ≤ 1367 := by unfold cellsOf; omega
  have HNN := Lib.hid hN
  clear hN
  generalize hU : at_ s K = U at *
  generalize hZ : at_ s (K + 1) = Z at *
  generalize at_ s (K + 2) = H at *
  generalize at_ s (K + 3) = LO at *
  have HU := Lib.hid hU
  have HZ := Lib.hid hZ
  clear hU hZ
  go_wp2_with fail
  go_quiet (fail)
  have HB1 := Lib.hid (below_drewN' HB1.out nq)
  have k0 : (w1.drewN nq).cell? ⟨w.heap.size, 0, none⟩ = some (.int .u8 0) := k0
  have k1 : (w1.drewN nq).cell? ⟨w.heap.size, 1, none⟩ = some (.string ⟨#[]⟩) := k1
  have f0 : (w1.drewN nq).frozen? ⟨w.heap.size, 0, none⟩ = false := f0
  have f1 : (w1.drewN nq).frozen? ⟨w.heap.size, 1, none⟩ = false := f1
  have hg1 : w.heap.size < (w1.drewN nq).heap.size := hg1
  generalize w1.drewN nq = w1 at *
  go_wp2_with fail
  go_quiet (fail)
  have HB1 := Lib.hid (below_drewN' HB1.out nq)
  have k0 : (w1.drewN nq).cell? ⟨w.heap.size, 0, none⟩ = some (.int .u8 0) := k0
  have k1 : (w1.drewN nq).cell? ⟨w.heap.size, 1, none⟩ = some (.string ⟨#[]⟩) := k1
  have f0 : (w1.drewN nq).frozen? ⟨w.heap.size, 0, none⟩ = false := f0
  have f1 : (w1.drewN nq).frozen? ⟨w.heap.size, 1, none⟩ = false := f1
  have hg1 : w.heap.size < (w1.drewN nq).heap.size := hg1
  generalize w1.drewN nq = w1 at *
  go_wp2_with fail
  refine (cells (N : Int) _ (by omega) (by omega)).mono ?_
  rintro e w2 ⟨rfl, rfl⟩
  generalize cellsOf (N : Int) = CN at *
  by_cases hZ0 : Z = 0
  · subst hZ0
    have HAZ := Lib.hid (hz.resolve_left (fun h => h rfl))
    have i1 : (0 : Int) ≤ (N : Int) := by omega
    have i2 : (N : Int) ≤ (K : Int) := by omega
    have i3 : (K : Int) ≤ (K : Int) + 8 := by omega
    have hx1 : (s.extract N K).size ≤ 9223372036854775807 := by rw [ByteArray.size_extract]; omega
    have HX1 := Lib.hid hx1
    clear hx1 hz
    go_wp2_with fail
    refine (trim0 (s.extract N K) _ HX1.out).mono ?_
    rintro e w3 ⟨t, rfl, ht, hb3⟩
    have htn : (t.toList == []) = false := by
      rw [toList_nil, decide_eq_false_iff_not]
      intro h0
      exact HAZ.out (ht.1 (by
        apply ByteArray.ext
        exact Array.eq_empty_of_size_eq_zero h0))
    clear ht
    have HB3 := Lib.hid (HB1.out.trans (hb3.mono HB1.out.size))
    have m0 : w3.cell? ⟨w.heap.size, 0, none⟩ = some (.int .u8 0) := by rw [hb3.cell (p := ⟨w.heap.size, 0, none⟩) hg1]; exact k0
    have m1 : w3.cell? ⟨w.heap.size, 1, none⟩ = some (.string ⟨#[]⟩) := by rw [hb3.cell (p := ⟨w.heap.size, 1, none⟩) hg1]; exact k1
    have g0 : w3.frozen? ⟨w.heap.size, 0, none⟩ = false := by rw [hb3.frozen (p := ⟨w.heap.size, 0, none⟩) hg1]; exact f0
    have g1 : w3.frozen? ⟨w.heap.size, 1, none⟩ = false := by rw [hb3.frozen (p := ⟨w.heap.size, 1, none⟩) hg1]; exact f1
    have hg3 : w.heap.size < w3.heap.size := Nat.lt_of_lt_of_le hg1 hb3.size
    clear hb3
    go_wp2_with fail
    exact bodyPost_ret (res_parse _ _ w.heap.size 0 3 ⟨#[]⟩ rfl rfl (by go_simp) (by go_simp)) rfl ⟨rfl, HT.out.next ((HB3.out.setCell (p := ⟨w.heap.size, 0, none⟩) (Nat.le_refl _) _).setCell (p := ⟨w.heap.size, 1, none⟩) (Nat.le_refl _) _)⟩
  · have hzn : ((Z : Int) != 0) = true := by rw [bne_iff_ne]; omega
    clear hz
    go_wp2_with fail
    exact bodyPost_ret (res_parse _ _ w.heap.size 0 3 ⟨#[]⟩ rfl rfl (by go_simp) (by go_simp)) rfl ⟨rfl, HT.out.next ((HB1.out.setCell (p := ⟨w.heap.size, 0, none⟩) (Nat.le_refl _) _).setCell (p := ⟨w.heap.size, 1, none⟩) (Nat.le_refl _) _)⟩
end Go.Proofs.YtgphgbajgjddfaaDoor
