/- The contracts of package event's doer, report and parts; Join and Itoa off the shelf. Conditions: event's variables and the library's table lie as their initialisers leave them. -/
import Derived.Test.YtnocckgbcjienaaDoorEvHex
import Derived.Test.YtnocckgbcjienaaDoorShelfE
import Derived.Test.YtnocckgbcjienaaDoorAppendSrc
import Derived.Lib.AppendIntMem
import Derived.Lib.Join
import Derived.Laws.OwnMore
namespace Go.Proofs.YtnocckgbcjienaaDoor
open Go.RowKit
set_option linter.unusedVariables false
set_option linter.unusedSimpArgs false

theorem extraE : Go.Proofs.Builder.Extra Tryd.prog Tryd.layJoin_ren where
  sizeBuilder := by kernel_rfl
  liesBuilder := by kernel_rfl
  t5 := Tryd.underlying5
  a5 := Tryd.isAgg5
  z5 := Tryd.sizeOf5
  v5 := Tryd.zeroValue5
  infoByte := by kernel_rfl
  cellsByte := by kernel_rfl
  sizeByte := by kernel_rfl
  neB5 := by decide
def itoaB (n : Int) : ByteArray := ⟨(Lib.itoa n).toArray⟩
def TabIn (w : World) : Prop := Lib.TabIs Tryd.prog w "internal/strconv.uint64pow10" .u64 Lib.pow10Tab
theorem TabIn.next {w w' : World} (h : TabIn w) (hb : Below w.heap.size w w') : TabIn w' := by
  obtain ⟨g, hg⟩ : ∃ g, Tryd.prog.globalNamed "internal/strconv.uint64pow10" = some g := Option.isSome_iff_exists.1 (by kernel_rfl)
  exact Joins.tab_stays hg h hb (Nat.le_refl _)
theorem ev_itoa (n : Int) (w : World) (h0 : -9223372036854775808 ≤ n) (h1 : n ≤ 9223372036854775807) (htab : TabIn w) :
    Calls Tryd.prog 32 #[.int .i64 n] w fun e w' => e = .returned (.string (itoaB n)) ∧ Below w.heap.size w w' :=
  (Go.Proofs.Any.strconv_Itoa Tryd.layItoa n h0 h1 w htab).mono fun e w' ⟨he, k, os, hw⟩ => ⟨he, by rw [hw]; exact Lib.below_grow _ w (Nat.le_refl _) k os⟩
def joinB (xs : List ByteArray) : ByteArray := ⟨(Lib.join (xs.map (·.data.toList)) [32]).toArray⟩
theorem ev_join (bk c : Nat) (xs : List ByteArray) (w : World) (hcells : ∀ (j : Nat) x, xs[j]? = some x → w.cell? ⟨bk, 0 + j, none⟩ = some (.string x)) (hbk : bk < w.heap.size) (hN : xs.length ≤ 1000) (hcap : xs.length ≤ c) (hlen : (joinB xs).size ≤ 1000000) :
    Calls Tryd.prog 20 #[.slice (some ⟨bk, 0, none⟩) xs.length c, .string ⟨#[32]⟩] w fun e w' => e = .returned (.string (joinB xs)) ∧ Below w.heap.size w w' :=
  Go.Proofs.Any.strings_Join Tryd.layJoin extraE bk 0 c xs ⟨#[32]⟩ w hcells hbk (by omega) hcap (by
    have e : (joinB xs).size = (Lib.join (xs.map (·.data.toList)) [32]).length := by unfold joinB; simp [ByteArray.size]
    show (Lib.join (xs.map (·.data.toList)) [32]).length ≤ _
    omega)

theorem sig_new (w : World) (k n : Int) (d : ByteArray) (se : Bool) (code : Int) : (w.alloc (.cells #[.int .i64 k, .string d, .bool se, .int .u8 code, .int .i64 n] 31)).cell? ⟨w.heap.size, 0, none⟩ = some (.int .i64 k) ∧ (w.alloc (.cells #[.int .i64 k, .string d, .bool se, .int .u8 code, .int .i64 n] 31)).cell? ⟨w.heap.size, 1, none⟩ = some (.string d) ∧ (w.alloc (.cells #[.int .i64 k, .string d, .bool se, .int .u8 code, .int .i64 n] 31)).cell? ⟨w.heap.size, 2, none⟩ = some (.bool se) ∧ (w.alloc (.cells #[.int .i64 k, .string d, .bool se, .int .u8 code, .int .i64 n] 31)).cell? ⟨w.heap.size, 3, none⟩ = some (.int .u8 code) ∧ (w.alloc (.cells #[.int .i64 k, .string d, .bool se, .int .u8 code, .int .i64 n] 31)).cell? ⟨w.heap.size, 4, none⟩ = some (.int .i64 n) := by
  have hn := heap_alloc_new w (.cells #[.int .i64 k, .string d, .bool se, .int .u8 code, .int .i64 n] 31)
  refine ⟨?_, ?_, ?_, ?_, ?_⟩
  · rw [cell_of_row _ _ 0 _ _ (0, 0) hn]; rfl
  · rw [cell_of_row _ _ 1 _ _ (0, 0) hn]; rfl
  · rw [cell_of_row _ _ 2 _ _ (0, 0) hn]; rfl
  · rw [cell_of_row _ _ 3 _ _ (0, 0) hn]; rfl
  · rw [cell_of_row _ _ 4 _ _ (0, 0) hn]; rfl
/-- A signal lies in block g. -/
structure SBox (w : World) (g : Nat) (k n : Int) (d : ByteArray) (se : Bool) (code : Int) : Prop where
  c0 : w.cell? ⟨g, 0, none⟩ = some (.int .i64 k)
  c1 : w.cell? ⟨g, 1, none⟩ = some (.string d)
  c2 : w.cell? ⟨g, 2, none⟩ = some (.bool se)
  c3 : w.cell? ⟨g, 3, none⟩ = some (.int .u8 code)
  c4 : w.cell? ⟨g, 4, none⟩ = some (.int .i64 n)
theorem SBox.lt {w : World} {g : Nat} {k n : Int} {d : ByteArray} {se : Bool} {code : Int} (h : SBox w g k n d se code) : g < w.heap.size := pos_of_cell h.c0
theorem SBox.next {w w' : World} {g : Nat} {k n : Int} {d : ByteArray} {se : Bool} {code : Int} (h : SBox w g k n d se code) (hb : Below w.heap.size w w') : SBox w' g k n d se code :=
  ⟨by rw [hb.cell (p := ⟨g, 0, none⟩) h.lt]; exact h.c0, by rw [hb.cell (p := ⟨g, 1, none⟩) h.lt]; exact h.c1, by rw [hb.cell (p := ⟨g, 2, none⟩) h.lt]; exact h.c2, by rw [hb.cell (p := ⟨g, 3, none⟩) h.lt]; exact h.c3, by rw [hb.cell (p := ⟨g, 4, none⟩) h.lt]; exact h.c4⟩
theorem sbox_new (w : World) (k n : Int) (d : ByteArray) (se : Bool) (code : Int) : SBox (w.alloc (.cells #[.int .i64 k, .string d, .bool se, .int .u8 code, .int .i64 n] 31)) w.heap.size k n d se code := by
  obtain ⟨a, b, c, e, f⟩ := sig_new w k n d se code
  exact ⟨a, b, c, e, f⟩
/-- A row of texts. -/
def SRow (w : World) (v : Value) (ys : List ByteArray) : Prop :=
  ∃ A c, v = .slice A ys.length c ∧ ((ys = [] ∧ A = none) ∨ ∃ b, A = some ⟨b, 0, none⟩ ∧ b < w.heap.size ∧ ∀ i x, ys[i]? = some x → w.cell? ⟨b, i, none⟩ = some (.string x))
theorem SRow.next {w w' : World} {v : Value} {ys : List ByteArray} (h : SRow w v ys) (hb : Below w.heap.size w w') : SRow w' v ys := by
  obtain ⟨A, c, e, h⟩ := h
  refine ⟨A, c, e, h.imp id fun ⟨b, e, hl, hc⟩ => ⟨b, e, Nat.lt_of_lt_of_le hl hb.size, fun i x hx => ?_⟩⟩
  rw [hb.cell (p := ⟨b, i, none⟩) hl]
  exact hc i x hx
theorem srow_one (w : World) (a : ByteArray) (t : TypeId) : SRow (w.alloc (.cells #[.string a] t)) (.slice (some ⟨w.heap.size, 0, none⟩) 1 1) [a] := by
  have hn := heap_alloc_new w (.cells #[.string a] t)
  refine ⟨_, _, rfl, .inr ⟨_, rfl, by simp, fun i x hx => ?_⟩⟩
  match i, hx with
  | 0, hx => simp at hx; subst hx; rw [cell_of_row _ _ 0 _ _ (0, 0) hn]; rfl
  | i + 1, hx => simp at hx
theorem srow_two (w : World) (a b : ByteArray) (t : TypeId) : SRow (w.alloc (.cells #[.string a, .string b] t)) (.slice (some ⟨w.heap.size, 0, none⟩) 2 2) [a, b] := by
  have hn := heap_alloc_new w (.cells #[.string a, .string b] t)
  refine ⟨_, _, rfl, .inr ⟨_, rfl, by simp, fun i x hx => ?_⟩⟩
  match i, hx with
  | 0, hx => simp at hx; subst hx; rw [cell_of_row _ _ 0 _ _ (0, 0) hn]; rfl
  | 1, hx => simp at hx; subst hx; rw [cell_of_row _ _ 1 _ _ (0, 0) hn]; rfl
  | i + 2, hx => simp at hx
theorem convE (W : World) (a : Int) :
    Sem.run Tryd.prog (convert 43 9 (.slice (some ⟨W.heap.size, 0, none⟩) 1 1)) (W.alloc (.cells #[.int .u8 a] 5)) = .ok (.string (strOfNums [a])) (W.alloc (.cells #[.int .u8 a] 5)) := by
  refine run_convert_bytes_arg (P := Tryd.prog) _ 43 5 Tryd.underlying43 Tryd.underlying5 W.heap.size 0 1 1 [a] rfl ?_ 9 Tryd.underlying9
  intro i hi
  obtain rfl : i = 0 := by omega
  simp

def doerS (se : Bool) : ByteArray := if se = true then ⟨#[115, 101, 108, 102]⟩ else ⟨#[117, 115, 101, 114]⟩
theorem ev_doer (k n : Int) (d : ByteArray) (se : Bool) (code : Int) (w : World) :
    Calls Tryd.prog 27 #[.agg #[.int .i64 k, .string d, .bool se, .int .u8 code, .int .i64 n]] w fun e w' => e = .returned (.string (doerS se)) ∧ Below w.heap.size w w' := by
  obtain ⟨x0, x1, x2, x3, x4⟩ := sbox_new w k n d se code
  have HB := Lib.hid ((Below.refl _ w).alloc (Nat.le_refl _) (.cells #[.int .i64 k, .string d, .bool se, .int .u8 code, .int .i64 n] 31))
  cases se
  all_goals
    go_enter Tryd.func27, Tryd.ntmps27
    go_wp2_with fail
    go_ret
    exact ⟨rfl, HB.out⟩
def reportL (code n : Int) : List ByteArray := if code = 86 then [strOfNums [code], itoaB n] else [strOfNums [code]]
set_option maxHeartbeats 2000000 in
set_option maxRecDepth 100000 in
theorem ev_report (k n : Int) (d : ByteArray) (se : Bool) (code : Int) (w : World) (h0 : -9223372036854775808 ≤ n) (h1 : n ≤ 9223372036854775807) (htab : TabIn w) :
    Calls Tryd.prog 28 #[.agg #[.int .i64 k, .string d, .bool se, .int .u8 code, .int .i64 n]] w fun e w' => ∃ v, e = .returned v ∧ SRow w' v (reportL code n) ∧ Below w.heap.size w w' := by
  have HX := Lib.hid (sbox_new w k n d se code)
  have hb := (Below.refl _ w).alloc (Nat.le_refl _) (.cells #[.int .i64 k, .string d, .bool se, .int .u8 code, .int .i64 n] 31)
  have HB := Lib.hid hb
  have HT := Lib.hid (htab.next hb)
  have hconv := fun W => convE W code
  have HI := Lib.hid (fun W (hW : TabIn W) => ev_itoa n W h0 h1 hW)
  clear hb htab
  obtain ⟨x0, x1, x2, x3, x4⟩ := HX.out
  go_enter Tryd.func28, Tryd.ntmps28
  go_upto_region 1 with fail
  generalize w.alloc (.cells #[.int .i64 k, .string d, .bool se, .int .u8 code, .int .i64 n] 31) = w1 at *
  go_upto_region 2 with fail
  have hb2 := (Below.refl w1.heap.size w1).alloc (Nat.le_refl _) (.cells #[.int .u8 code] 5)
  have HB2 := Lib.hid (HB.out.trans (hb2.mono HB.out.size))
  have HX2 := Lib.hid (HX.out.next hb2)
  have HT2 := Lib.hid (HT.out.next hb2)
  clear hb2 x0 x1 x2 x3 x4 hconv
  generalize w1.alloc (.cells #[.int .u8 code] 5) = w2 at *
  obtain ⟨x0, x1, x2, x3, x4⟩ := HX2.out
  by_cases hc : code = 86
  · have d1 : (code == 86) = true := by rw [beq_iff_eq]; exact hc
    have HV : Hid (reportL code n = [strOfNums [code], itoaB n]) := if_pos hc
    generalize strOfNums [code] = L at *
    clear hc
    go_wp2_with fail
    refine (HI.out _ HT2.out).mono ?_
    rintro e w3 ⟨rfl, hb3⟩
    have HB3 := Lib.hid (HB2.out.trans (hb3.mono HB2.out.size))
    clear hb3
    go_wp2_with fail
    go_ret
    exact ⟨_, rfl, by rw [HV.out]; exact srow_two _ _ _ _, HB3.out.alloc HB3.out.size _⟩
  · have d1 : (code == 86) = false := by rw [beq_eq_false_iff_ne]; exact hc
    have HV : Hid (reportL code n = [strOfNums [code]]) := if_neg hc
    generalize strOfNums [code] = L at *
    clear hc
    go_wp2_with fail
    go_ret
    exact ⟨_, rfl, by rw [HV.out]; exact srow_one _ _ _, HB2.out.alloc HB2.out.size _⟩
end Go.Proofs.YtnocckgbcjienaaDoor
