/- The round of CrcXors, whose operations come up in an open order: what each leaves in its slot. Conditions: the three cells of the triple are there. -/
import Derived.Test.YtamnmablodgdjaaRegionInv
import Derived.Test.YtamnmablodgdjaaCrcFitsLaw
namespace Go.Proofs.Ytamnmablodgdjaa.Xo
open Go Go.RowKit Go.Proofs.Ytamnmablodgdjaa Reg
set_option linter.unusedVariables false

section
variable {w : World} {ev : Operand → Value} {o : Oper}
theorem run_move (x : Operand) (h : o.op = .move x) : (execOp ev o).run Try.prog w = .ok (.value (ev x)) w := by
  unfold execOp; simp only [h]; go_simp
theorem run_assign (x : Operand) (h : o.op = .assign x) : (execOp ev o).run Try.prog w = .ok (.value (ev x)) w := by
  unfold execOp; simp only [h]; go_simp
theorem run_addr (x y : Operand) (h : o.op = .indexAddr 57 x y) (xb k : Nat) (hk : k < 3) (hx : ev x = .pointer (some ⟨xb, 0, none⟩)) (hy : ev y = .int .i64 (k : Int)) :
    (execOp ev o).run Try.prog w = .ok (.value (.pointer (some ⟨xb, k, none⟩))) w := by
  unfold execOp; simp only [h, hx, hy]
  have h3 : (k : Int) < 3 := by omega
  go_simp
theorem run_load (x : Operand) (h : o.op = .load 5 x) (p : Addr) (n : Int) (hx : ev x = .pointer (some p)) (hc : w.cell? p = some (.int .u8 n)) :
    (execOp ev o).run Try.prog w = .ok (.value (.int .u8 n)) w := by
  unfold execOp; simp only [h, hx]
  go_simp
theorem run_xor (x y : Operand) (t : TypeId) (h : o.op = .binOp .xor 5 x y t) (a b : Nat) (ha : a < 256) (hb : b < 256) (hx : ev x = .int .u8 (a : Int)) (hy : ev y = .int .u8 (b : Int)) :
    (execOp ev o).run Try.prog w = .ok (.value (.int .u8 ((a ^^^ b : Nat) : Int))) w := by
  unfold execOp; simp only [h, hx, hy]
  have := u8_xor_nat a b ha hb
  go_simp
theorem run_build (x : Operand) (h : o.op = .buildSlice 58 1 #[(0, x)]) (n : Int) (hx : ev x = .int .u8 n) :
    (execOp ev o).run Try.prog w = .ok (.value (.slice (some ⟨w.heap.size, 0, none⟩) 1 1)) (w.alloc (.cells #[.int .u8 n] 5)) := by
  unfold execOp; simp only [h]
  go_simp
theorem run_conv (x : Operand) (h : o.op = .convert 58 9 x) (g : Nat) (n : Int) (hx : ev x = .slice (some ⟨g, 0, none⟩) 1 1) (hc : w.cell? ⟨g, 0, none⟩ = some (.int .u8 n)) :
    (execOp ev o).run Try.prog w = .ok (.value (.string (strOfNums [n]))) w := by
  unfold execOp; simp only [h, hx]
  have := run_convert_bytes_arg (P := Try.prog) w 58 5 Try.underlying58 Try.underlying5 g 0 1 1 [n] rfl (fun i hi => by
    have : i = 0 := by omega
    subst this; exact hc) 9 Try.underlying9
  go_simp
theorem run_add (x y : Operand) (t : TypeId) (h : o.op = .binOp .add 9 x y t) (a b : ByteArray) (hab : ¬ 9223372036854775807 < a.size + b.size) (hx : ev x = .string a) (hy : ev y = .string b) :
    (execOp ev o).run Try.prog w = .ok (.value (.string (a ++ b))) w := by
  unfold execOp; simp only [h, hx, hy]
  go_simp
end

/-! ### What stands in the slots -/
structure Ins where
  a : ByteArray
  b : ByteArray
  c : ByteArray
  d : ByteArray
  x : Nat
  y : Nat
  z : Nat
  xb : Nat

def dst (j : Nat) : Nat := if j < 30 then 23 + j else j - 27
def one (n : Nat) : ByteArray := strOfNums [(n : Int)]
def Ins.q (s : Ins) : Nat := s.x ^^^ s.y ^^^ s.z
def num (n : Nat) : Value := .int .u8 (n : Int)
def ptr (b k : Nat) : Value := .pointer (some ⟨b, k, none⟩)

def known (s : Ins) : Nat → Option Value
  | 0 => some (.string s.a) | 6 => some (.string s.b) | 12 => some (.string s.c) | 18 => some (.string s.d)
  | 1 => some (ptr s.xb 0) | 19 => some (ptr s.xb 0) | 7 => some (ptr s.xb 1) | 21 => some (ptr s.xb 1) | 13 => some (ptr s.xb 2) | 24 => some (ptr s.xb 2)
  | 2 => some (num s.x) | 20 => some (num s.x) | 8 => some (num s.y) | 22 => some (num s.y) | 14 => some (num s.z) | 25 => some (num s.z)
  | 23 => some (num (s.x ^^^ s.y)) | 26 => some (num s.q)
  | 4 => some (.string (one s.x)) | 10 => some (.string (one s.y)) | 16 => some (.string (one s.z)) | 28 => some (.string (one s.q))
  | 5 => some (.string (s.a ++ one s.x)) | 11 => some (.string (s.b ++ one s.y)) | 17 => some (.string (s.c ++ one s.z)) | 29 => some (.string (s.d ++ one s.q))
  | 30 => some (.string (s.a ++ one s.x)) | 31 => some (.string (s.b ++ one s.y)) | 32 => some (.string (s.c ++ one s.z)) | 33 => some (.string (s.d ++ one s.q))
  | _ => none
def sliced (s : Ins) : Nat → Option Nat
  | 3 => some s.x | 9 => some s.y | 15 => some s.z | 27 => some s.q
  | _ => none

def Good (s : Ins) (j : Nat) (v : Value) (w : World) : Prop :=
  (∀ u, known s j = some u → v = u) ∧ ∀ n, sliced s j = some n → ∃ g, v = .slice (some ⟨g, 0, none⟩) 1 1 ∧ w.cell? ⟨g, 0, none⟩ = some (num n)

/-- Every cell that was there is there. -/
def Ext (w w' : World) : Prop := ∀ p u, w.cell? p = some u → w'.cell? p = some u
theorem Ext.refl (w : World) : Ext w w := fun _ _ h => h
theorem Ext.alloc (w : World) (o : Obj) : Ext w (w.alloc o) := fun p u h => by rw [World.cell?_alloc_lt w o _ (block_lt_of_cell h)]; exact h
theorem Good.ext {s : Ins} {j : Nat} {v : Value} {w w' : World} (h : Good s j v w) (e : Ext w w') : Good s j v w' :=
  ⟨h.1, fun n hn => by obtain ⟨g, h1, h2⟩ := h.2 n hn; exact ⟨g, h1, e _ _ h2⟩⟩

structure Inv (s : Ins) (w0 : World) (a0 : Act) (L : Array Bool) (a : Act) (w : World) : Prop where
  defers : a.defers = a0.defers
  size : a.tmps.size = 78
  rest : ∀ t, (∀ j, j < 34 → dst j ≠ t) → a.tmps.getD t undef = a0.tmps.getD t undef
  good : ∀ j, j < 34 → L.getD j true = true → Good s j (a.tmps.getD (dst j) undef) w
  inp : ∀ m, m < 4 → L.getD (30 + m) true = false → a.tmps.getD (3 + m) undef = a0.tmps.getD (3 + m) undef
  wait : ∀ m, m < 4 → L.getD (30 + m) true = true → L.getD (6 * m) true = true
  cells : w.cell? ⟨s.xb, 0, none⟩ = some (num s.x) ∧ w.cell? ⟨s.xb, 1, none⟩ = some (num s.y) ∧ w.cell? ⟨s.xb, 2, none⟩ = some (num s.z)
  below : Below w0.heap.size w0 w

theorem Inv.of {s : Ins} {w0 : World} {a0 : Act} {L : Array Bool} {a : Act} {w : World} (h : Inv s w0 a0 L a w) (hsz : L.size = 34) (j : Nat) (hj : j < 34) (hL : L.getD j false = true) : Good s j (a.tmps.getD (dst j) undef) w :=
  h.good j hj (by rw [getD_any L j (by omega) true false]; exact hL)
theorem newCell (w : World) (v : Value) (t : TypeId) : (w.alloc (.cells #[v] t)).cell? ⟨w.heap.size, 0, none⟩ = some v := by
  rw [cell_of_row _ _ 0 _ t (0, 0) (heap_alloc_new w _)]; rfl
theorem Good.of {s : Ins} {j : Nat} {v : Value} {w : World} {u : Value} (h : known s j = some u) (h2 : sliced s j = Option.none) (e : v = u) : Good s j v w :=
  ⟨fun u' hu => by rw [h] at hu; injection hu with hu; rw [e, hu], fun n hn => by rw [h2] at hn; cases hn⟩

theorem Good.ofSlice {s : Ins} {j : Nat} {v : Value} {w : World} {n g : Nat} (h : known s j = Option.none) (h2 : sliced s j = some n) (e : v = .slice (some ⟨g, 0, none⟩) 1 1) (hc : w.cell? ⟨g, 0, none⟩ = some (num n)) : Good s j v w :=
  ⟨(fun u' hu => by rw [h] at hu; cases hu), fun n' hn => by rw [h2] at hn; injection hn with hn; rw [← hn]; exact ⟨g, e, hc⟩⟩

theorem dst_inj (i j : Nat) (hi : i < 34) (hj : j < 34) (h : dst i = dst j) : i = j := by
  unfold dst at h
  split at h <;> split at h <;> omega
theorem dst_lt (i : Nat) (hi : i < 34) : dst i < 78 := by unfold dst; split <;> omega
theorem dst_in (m : Nat) (hm : m < 4) : dst (30 + m) = 3 + m := by unfold dst; rw [if_neg (by omega)]; omega

theorem inv_step {P : Program} {ops : Array Oper} {Q : Exit → Act → World → Prop} {s : Ins} {w0 : World} {a0 : Act} {L : Array Bool} {a : Act} {w w' : World} {i : Nat} {o : Oper} {v : Value}
    (hI : Inv s w0 a0 L a w) (hsz : L.size = 34) (hi : i < 34) (ho : ops[i]? = some o) (hg : o.guard = none) (hd : o.dst = some (dst i))
    (hr : (execOp a.eval o).run P w = .ok (.value v) w') (he : Ext w w') (hb : Below w0.heap.size w0 w') (hgood : Good s i v w')
    (hph : ∀ m, m < 4 → i = 30 + m → L.getD (6 * m) true = true) : wpOp P ops Q i (Inv s w0 a0 (L.setIfInBounds i true)) a w := by
  refine wpOp_run ho hg hr ?_
  rw [hd]
  have hlt : dst i < a.tmps.size := by rw [hI.size]; exact dst_lt i hi
  refine ⟨hI.defers, by rw [put_size]; exact hI.size, fun t ht => ?_, fun j hj hL => ?_, fun m hm hL => ?_, fun m hm hL => ?_, ⟨he _ _ hI.cells.1, he _ _ hI.cells.2.1, he _ _ hI.cells.2.2⟩, hb⟩
  · rw [put_get _ _ _ _ hlt, if_neg (fun e => ht i hi e.symm)]; exact hI.rest t ht
  · rw [put_get _ _ _ _ hlt]
    rw [getD_set _ _ _ _ (by omega)] at hL
    by_cases e : j = i
    · subst e; rw [if_pos rfl]; exact hgood
    · rw [if_neg e] at hL
      rw [if_neg (fun h => e (dst_inj j i hj hi h))]
      exact (hI.good j hj hL).ext he
  · rw [getD_set _ _ _ _ (by omega)] at hL
    by_cases e : 30 + m = i
    · rw [if_pos e] at hL; cases hL
    · rw [if_neg e] at hL
      rw [put_get _ _ _ _ hlt, if_neg (fun h => e (dst_inj _ _ (by omega) hi (by rw [dst_in m hm]; exact h)))]
      exact hI.inp m hm hL
  · rw [getD_set _ _ _ _ (by omega)] at hL ⊢
    by_cases e : 30 + m = i
    · have := hph m hm e.symm
      split
      · rfl
      · exact this
    · rw [if_neg e] at hL
      split
      · rfl
      · exact hI.wait m hm hL
end Go.Proofs.Ytamnmablodgdjaa.Xo
