/- The contracts of Seal and Fits: Fits answers whether the last four bytes are the sum of those ahead. Conditions: the table is one that Make answers; texts are short enough for a text. -/
import Derived.Test.YtgphgbajgjddfaaDoorCrcMoved
import Derived.Deep.RegionHeld3
namespace Go.Proofs.YtgphgbajgjddfaaDoor
open Go.RowKit Crc
set_option linter.unusedVariables false

theorem tabAt_below {w w' : World} {g : Nat} {B : Nat} (h : TabAt w g) (hg : g < B) (hb : Below B w w') : TabAt w' g := fun b hb' => by
  rw [hb.cell (p := ⟨g, b, none⟩) hg]; exact h b hb'
theorem tabAt_alloc {w : World} {g : Nat} (h : TabAt w g) (o : Obj) : TabAt (w.alloc o) g := fun b hb => by
  have h1 := h b hb
  rw [World.cell?_alloc_lt w o _ (block_lt_of_cell h1)]; exact h1
theorem strsAt_one (w : World) (s : ByteArray) (hs : s.size ≤ maxLen) (t : TypeId) (n : Nat) (hn : n = w.heap.size) : StrsAt (w.alloc (.cells #[.string s] t)) (some ⟨n, 0, none⟩) [s] := by
  subst hn
  refine ⟨fun x hx => by simp at hx; subst hx; exact hs, .inr ⟨w.heap.size, 0, rfl, fun i hi => ?_⟩⟩
  simp at hi
  subst hi
  rw [Nat.add_zero, cell_of_row _ _ 0 _ t (0, 0) (heap_alloc_new w _)]
  simp
theorem numsAll_one (s : ByteArray) : numsAll [s] = nums s := by simp [numsAll]
theorem below_drewN {B : Nat} {a w : World} (h : Below B a w) (n : Nat) : Below B a (w.drewN n) := ⟨h.os, h.tape, h.output, h.size, h.block⟩

theorem four_size (x : BitVec 32) : (four x).size = 4 := by unfold four; rw [strOfNums_size]; rfl
def sumOf (s : ByteArray) : BitVec 32 := ~~~(run ones (nums s))

theorem crc_sum_one (s : ByteArray) (n : Nat) (g : Nat) (w : World) (t : TypeId) (hs : s.size ≤ maxLen) (hT : TabAt w g) (hn : n = w.heap.size) :
    Calls Tryd.prog 42 #[.pointer (some ⟨g, 0, none⟩), .slice (some ⟨n, 0, none⟩) 1 1] (w.alloc (.cells #[.string s] t)) fun e w' => e = .returned (.int .u32 ((sumOf s).toNat : Int)) ∧ ∃ k, w' = (w.alloc (.cells #[.string s] t)).drewN k := by
  have h := crc_sum [s] (some ⟨n, 0, none⟩) 1 g (w.alloc (.cells #[.string s] t)) (by simp) (tabAt_alloc hT _) (strsAt_one w s hs t n hn)
  rw [numsAll_one] at h
  exact h

theorem cell_heap {w W : World} (h : W.heap = w.heap) (a : Addr) : W.cell? a = w.cell? a := by unfold World.cell?; rw [h]

theorem crc_sum_heap (s : ByteArray) (g : Nat) (w W : World) (t : TypeId) (hs : s.size ≤ maxLen) (hT : TabAt w g) (hW : W.heap = (w.alloc (.cells #[.string s] t)).heap) :
    Calls Tryd.prog 42 #[.pointer (some ⟨g, 0, none⟩), .slice (some ⟨w.heap.size, 0, none⟩) 1 1] W fun e w' => e = .returned (.int .u32 ((sumOf s).toNat : Int)) ∧ ∃ k, w' = W.drewN k := by
  have h := crc_sum [s] (some ⟨w.heap.size, 0, none⟩) 1 g W (by simp) (fun b hb => by rw [cell_heap hW]; exact tabAt_alloc hT _ b hb)
    (by
      obtain ⟨h1, h2⟩ := strsAt_one w s hs t w.heap.size rfl
      refine ⟨h1, ?_⟩
      rcases h2 with h2 | ⟨b, off, e, h2⟩
      · exact .inl h2
      · exact .inr ⟨b, off, e, fun i hi => by rw [cell_heap hW]; exact h2 i hi⟩)
  rw [numsAll_one] at h
  exact h

theorem crc_seal (s : ByteArray) (g : Nat) (w : World) (hs : s.size ≤ 1099511627776) (hT : TabAt w g) :
    Calls Tryd.prog 29 #[.pointer (some ⟨g, 0, none⟩), .string s] w fun e w' => e = .returned (.string (s ++ four (sumOf s))) ∧ Below w.heap.size w w' := by
  have HT := Lib.hid hT
  clear hT
  have hs2 : s.size ≤ maxLen := by unfold maxLen; omega
  go_enter Tryd.func29, Tryd.ntmps29
  go_wp2_with fail
  refine (crc_sum_one s _ g _ _ hs2 HT.out rfl).mono ?_
  rintro e w1 ⟨rfl, k, rfl⟩
  go_wp2_with fail
  refine (crc_four (sumOf s) _).mono ?_
  rintro e w1 ⟨rfl, hbel⟩
  have hf : (four (sumOf s)).size ≤ 4 := by rw [four_size]; omega
  go_wp2_with fail
  go_ret
  exact ⟨rfl, (below_drewN ((Below.refl _ w).alloc (Nat.le_refl _) _) k).trans (hbel.mono (by simp))⟩

theorem crc_fits_long (s : ByteArray) (n : Nat) (g : Nat) (w : World) (hs : s.size ≤ maxLen) (hn : s.size = n + 4) (hT : TabAt w g) :
    Calls Tryd.prog 31 #[.pointer (some ⟨g, 0, none⟩), .string s] w fun e w' => e = .returned (.bool ((s.extract n s.size).toList == (four (sumOf (s.extract 0 n))).toList)) ∧ Below w.heap.size w w' := by
  have HT := Lib.hid hT
  clear hT
  have hs2 := hs
  unfold maxLen at hs2
  have hn2 : (s.size : Int) - 4 = (n : Int) := by omega
  have hn3 : n ≤ s.size := by omega
  have Hn := Lib.hid hn
  have hsz : (s.extract 0 n).size ≤ maxLen := by rw [ByteArray.size_extract]; omega
  have Hsz := Lib.hid hsz
  clear hn hsz
  go_enter Tryd.func31, Tryd.ntmps31
  go_wp2_with fail
  go_region_held3 (fun _ => True) (trivial) (first
    | (go_at_call 42; refine (crc_sum_heap (s.extract 0 n) g w _ 9 Hsz.out HT.out (by exact rfl)).mono ?_; rintro e w1 ⟨rfl, k, rfl⟩)
    | (go_at_call 41; refine (crc_four (sumOf (s.extract 0 n)) _).mono ?_; rintro e w1 ⟨rfl, hbel⟩))
  go_wp2
  go_ret
  exact ⟨rfl, (below_drewN ((Below.refl _ w).alloc (Nat.le_refl _) _) _).trans (hbel.mono (by simp))⟩

theorem crc_fits_short (s : ByteArray) (g : Nat) (w : World) (hs : s.size ≤ maxLen) (h4 : s.size < 4) :
    Calls Tryd.prog 31 #[.pointer (some ⟨g, 0, none⟩), .string s] w fun e w' => e = .returned (.bool false) ∧ Below w.heap.size w w' := by
  unfold maxLen at hs
  go_enter Tryd.func31, Tryd.ntmps31
  go_wp2_with fail
  have hd1 : decide (0 ≤ (s.size : Int) - 4) = false := by simp; omega
  have hd2 : decide ((4 : Int) ≤ (s.size : Int)) = false := by simp; omega
  go_quiet (fail)
  go_wp2
  go_ret
  exact ⟨rfl, below_drewN (Below.refl _ w) nq⟩
end Go.Proofs.YtgphgbajgjddfaaDoor
