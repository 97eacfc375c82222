/- The fixed fact of layer crc's statements, and the cutting of texts. No conditions but that a text is no longer than a text may be. -/
import Derived.Test.YtgphgbajgjddfaaDoorCrcThm
namespace Go.Proofs.YtgphgbajgjddfaaDoor
open Go.RowKit Crc
set_option linter.unusedVariables false

def cutB (s : ByteArray) (n : Nat) : ByteArray := if n < s.size then s.extract 0 n else s
theorem cutB_size (s : ByteArray) (n : Nat) : (cutB s n).size ≤ n := by
  unfold cutB
  split
  · rw [ByteArray.size_extract]; omega
  · omega

theorem crc_cut (s : ByteArray) (n : Nat) (w : World) (hs : s.size ≤ maxLen) (hn : n ≤ 100000) :
    Calls Tryd.prog 20 #[.string s, .int .i64 (n : Int)] w fun e w' => e = .returned (.string (cutB s n)) ∧ w = w' := by
  unfold maxLen at hs
  by_cases h : n < s.size
  · have e : Hid (cutB s n = s.extract 0 n) := if_pos h
    go_enter Tryd.func20, Tryd.ntmps20
    go_wp2
    go_ret
    exact ⟨by rw [e.out]; rfl, rfl⟩
  · have e : Hid (cutB s n = s) := if_neg h
    go_enter Tryd.func20, Tryd.ntmps20
    go_wp2
    go_ret
    exact ⟨by rw [e.out]; rfl, rfl⟩

/-- A table that was just made lies whole in its block. -/
theorem tabAt_made (w : World) (Z : Array Value) (t : TypeId) : TabAt ((w.alloc (.cells Z t)).setRow w.heap.size tabArr) w.heap.size := by
  intro b hb
  rw [cell_setRow_same _ _ _ _ _ _ _ (heap_alloc_new w _), tabArr_get b hb]
  rfl
theorem below_made {B : Nat} {a w : World} (h : Below B a w) (hB : B ≤ w.heap.size) (Z : Array Value) (t : TypeId) : Below B a ((w.alloc (.cells Z t)).setRow w.heap.size tabArr) :=
  below_setRow (h.alloc hB _) hB _

theorem tabInfo : (Tryd.prog.info? 27).map (·.size) = some tabArr.size := by
  rw [tabArr_size]; exact (zero_of_info infoTab).2
theorem zeros_tab : zeros256.size = tabArr.size := by rw [zeros_size, tabArr_size]

theorem sumOf_digits : sumOf ⟨#[49, 50, 51, 52, 53, 54, 55, 56, 57]⟩ = 4236843288#32 := by decide +kernel
theorem sum_none : ~~~(run ones (numsAll [])) = 0#32 := by decide +kernel

/-- The table's block is there, and the calls so far have laid new blocks alone. -/
structure Has (w W : World) (g : Nat) : Prop where
  tab : TabAt W g
  lt : g < W.heap.size
  below : Below w.heap.size w W

theorem Has.made {w w1 : World} (h : Below w.heap.size w w1) (Z : Array Value) (t : TypeId) : Has w ((w1.alloc (.cells Z t)).setRow w1.heap.size tabArr) w1.heap.size :=
  ⟨tabAt_made w1 Z t, by simp, below_made h h.size Z t⟩
theorem Has.next {w W W' : World} {g : Nat} (h : Has w W g) (hb : Below W.heap.size W W') : Has w W' g :=
  ⟨tabAt_below h.tab h.lt hb, Nat.lt_of_lt_of_le h.lt hb.size, h.below.trans (hb.mono h.below.size)⟩
theorem Has.alloc {w W : World} {g : Nat} (h : Has w W g) (o : Obj) : Has w (W.alloc o) g := h.next ((Below.refl _ W).alloc (Nat.le_refl _) o)
theorem Has.drewN {w W : World} {g : Nat} (h : Has w W g) (n : Nat) : Has w (W.drewN n) g := h.next (below_drewN (Below.refl _ W) n)
theorem made_size (w : World) (Z : Array Value) (t : TypeId) : w.heap.size + 1 = ((w.alloc (.cells Z t)).setRow w.heap.size tabArr).heap.size := by simp

/-- Sum of one text, the row of it just laid. -/
theorem sum1 (s : ByteArray) (g : Nat) (w0 w : World) (n : Nat) (hs : s.size ≤ maxLen) (hT : Has w0 w g) (hn : n = w.heap.size) :
    Calls Tryd.prog 42 #[.pointer (some ⟨g, 0, none⟩), .slice (some ⟨n, 0, none⟩) 1 1] (w.alloc (.cells #[.string s] 9)) fun e w' => e = .returned (.int .u32 ((sumOf s).toNat : Int)) ∧ Has w0 w' g := by
  subst hn
  exact (crc_sum_heap s g w _ 9 hs hT.tab rfl).mono fun e w' ⟨he, k, hk⟩ => ⟨he, by rw [hk]; exact (hT.alloc _).drewN k⟩
theorem sum0 (g : Nat) (w0 w : World) (hT : Has w0 w g) (c : Nat) :
    Calls Tryd.prog 42 #[.pointer (some ⟨g, 0, none⟩), .slice none 0 c] w fun e w' => e = .returned (.int .u32 0) ∧ Has w0 w' g :=
  (crc_sum [] none c g w (by simp) hT.tab ⟨by simp, .inl rfl⟩).mono fun e w' ⟨he, k, hk⟩ => ⟨by rw [he, sum_none]; rfl, by rw [hk]; exact hT.drewN k⟩
theorem seal1 (s : ByteArray) (g : Nat) (w0 w : World) (hs : s.size ≤ 1099511627776) (hT : Has w0 w g) :
    Calls Tryd.prog 29 #[.pointer (some ⟨g, 0, none⟩), .string s] w fun e w' => e = .returned (.string (s ++ four (sumOf s))) ∧ Has w0 w' g :=
  (crc_seal s g w hs hT.tab).mono fun e w' ⟨he, hb⟩ => ⟨he, hT.next hb⟩

/-- What Fits answers: at least four bytes, and the register ends at one value. -/
def fitsB (s : ByteArray) : Bool := decide (4 ≤ s.size) && decide (run ones (nums s) = shN 32 ones)
theorem fitsHas (s : ByteArray) (g : Nat) (w0 w : World) (hs : s.size ≤ maxLen) (hT : Has w0 w g) :
    Calls Tryd.prog 31 #[.pointer (some ⟨g, 0, none⟩), .string s] w fun e w' => e = .returned (.bool (fitsB s)) ∧ Has w0 w' g := by
  by_cases h4 : 4 ≤ s.size
  · have hn : s.size = (s.size - 4) + 4 := by omega
    refine (crc_fits_long s (s.size - 4) g w hs hn hT.tab).mono fun e w' ⟨he, hb⟩ => ⟨?_, hT.next hb⟩
    rw [he, fits_iff s _ hn]
    unfold fitsB
    rw [decide_eq_true h4, Bool.true_and]
  · refine (crc_fits_short s g w hs (by omega)).mono fun e w' ⟨he, hb⟩ => ⟨?_, hT.next hb⟩
    rw [he]
    unfold fitsB
    rw [decide_eq_false h4, Bool.false_and]
/-- The same, with what the call leaves of memory. -/
theorem crcFits2 (s : ByteArray) (g : Nat) (w : World) (hs : s.size ≤ maxLen) (hT : TabAt w g) :
    Calls Tryd.prog 31 #[.pointer (some ⟨g, 0, none⟩), .string s] w fun e w' => e = .returned (.bool (fitsB s)) ∧ Below w.heap.size w w' := by
  by_cases h4 : 4 ≤ s.size
  · have hn : s.size = (s.size - 4) + 4 := by omega
    refine (crc_fits_long s (s.size - 4) g w hs hn hT).mono fun e w' ⟨he, hb⟩ => ⟨?_, hb⟩
    rw [he, fits_iff s _ hn]
    unfold fitsB
    rw [decide_eq_true h4, Bool.true_and]
  · refine (crc_fits_short s g w hs (by omega)).mono fun e w' ⟨he, hb⟩ => ⟨?_, hb⟩
    rw [he]
    unfold fitsB
    rw [decide_eq_false h4, Bool.false_and]
theorem fits_seal (s : ByteArray) : fitsB (s ++ four (sumOf s)) = true := by
  unfold fitsB
  rw [seal_end, decide_eq_true (by rw [ByteArray.size_append, four_size]; omega), decide_eq_true rfl]
  rfl

end Go.Proofs.YtgphgbajgjddfaaDoor
