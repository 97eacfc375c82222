/- The contract of crc.Make: the table's entries are the registers behind each byte. No conditions. -/
import Derived.Test.YtgphgbajgjddfaaDoorCrcSums
import Derived.Deep.OwnRows
import Derived.Deep.WholeRow
import Derived.StillTailTactics
namespace Go.Proofs.YtgphgbajgjddfaaDoor
open Go.RowKit Crc
set_option linter.unusedVariables false

def tabV (b : Nat) : Value := .int .u32 ((tab b).toNat : Int)
def zeros256 : Array Value := Array.replicate 256 (.int .u32 0)
def tabArr : Array Value := Array.ofFn fun i : Fin 256 => tabV i.val
theorem zeros_size : zeros256.size = 256 := by simp [zeros256]
theorem tabArr_size : tabArr.size = 256 := by simp [tabArr]
theorem tabArr_get (i : Nat) (h : i < 256) : tabArr[i]? = some (tabV i) := by
  rw [Array.getElem?_eq_getElem (by rw [tabArr_size]; exact h)]; simp [tabArr]
theorem tabArr_eq (cs : Array Value) (hs : cs.size = 256) (h : ∀ j, j < 256 → cs[j]? = some (tabV j)) : cs = tabArr := by
  apply Array.ext_getElem?
  intro i
  by_cases hi : i < 256
  · rw [h i hi, tabArr_get i hi]
  · rw [Array.getElem?_eq_none (by omega), Array.getElem?_eq_none (by rw [tabArr_size]; omega)]
theorem tabArr_one : tabArr.all (·.oneCell') = true := by
  rw [Array.all_eq_true]; intro i hi; simp [tabArr, tabV, Value.oneCell']

theorem below_setRow {B : Nat} {w w' : World} (h : Below B w w') {g : Nat} (hg : B ≤ g) (cs : Array Value) : Below B w (w'.setRow g cs) :=
  ⟨h.os, h.tape, h.output, by rw [setRow_size]; exact h.size, fun i hi => by rw [setRow_other _ _ _ _ (by omega)]; exact h.block i hi⟩

theorem crc_entry (k : Nat) (hk : k < 256) (w : World) :
    Calls Tryd.prog 17 #[.int .u32 ((k : Int) * 16777216)] w fun e w' => e = .returned (tabV k) ∧ w = w' := by
  have h := crc_shifted (byteAt k) w
  rw [← byteAt_int k hk] at h
  exact h

theorem infoTab : (Tryd.prog.info? 27).map (fun i => (i.zero, i.size)) = some (some (.agg zeros256), 256) := by kernel_rfl

set_option maxRecDepth 100000 in
theorem crc_make (w : World) :
    Calls Tryd.prog 5 #[] w fun e w' => e = .returned (.agg tabArr) ∧ Below w.heap.size w w' := by
  obtain ⟨hz, hi⟩ := zero_of_info infoTab
  have Hi := Lib.hid hi
  clear hi
  have hzs := zeros_size
  generalize zeros256 = Z at *
  go_enter Tryd.func5, Tryd.ntmps5
  go_wp2_with fail
  go_loopw [3] (fun i wr => ∃ (k : Nat) (cs : Array Value), k ≤ 256 ∧ i = .int .i64 k ∧ cs.size = 256 ∧ (∀ j, j < k → cs[j]? = some (tabV j)) ∧ wr = (w.alloc (.cells Z 27)).alloc (.cells cs 27)) (fun i _ => 256 - (intOf i).toNat)
  case atStart => exact ⟨0, Z, by omega, rfl, hzs, fun j hj => by omega, rfl⟩
  case round =>
    obtain ⟨k, cs, hk, rfl, hcs, hj, rfl⟩ := hrel
    have Hcs := Lib.hid hcs
    have Hj := Lib.hid hj
    have Hzs := Lib.hid hzs
    have Hz := Lib.hid hz
    have hcell : ∀ j, j < k → True := fun _ _ => trivial
    clear hcs hj hzs hz hcell
    by_cases hlt : k < 256
    · have Hset : Hid (∀ j, j < k + 1 → (cs.setIfInBounds k (tabV k))[j]? = some (tabV j)) := by
        intro j hjk
        rw [Array.getElem?_setIfInBounds]
        by_cases e : k = j
        · subst e; rw [if_pos rfl, if_pos (by rw [Hcs.out]; exact hlt)]
        · rw [if_neg e]; exact Hj.out j (by omega)
      have hcell : ∃ v, cs[k]? = some v := ⟨_, Array.getElem?_eq_getElem (by rw [Hcs.out]; exact hlt)⟩
      obtain ⟨v0, hv0⟩ := hcell
      go_wp2_with (go_at_call 17; refine (crc_entry k hlt _).mono ?_; unfold tabV at Hset ⊢; generalize ((tab k).toNat : Int) = V at *; rintro e w1 ⟨rfl, rfl⟩)
      go_roundw
      case rel => exact ⟨k + 1, _, by omega, by go_num, by rw [Array.size_setIfInBounds]; exact Hcs.out, Hset.out, rfl⟩
      case measure => simp [intOf]; omega
    · have hg : ((w.alloc (.cells Z 27)).alloc (.cells cs 27)).heap[w.heap.size + 1]? = some (.cells cs 27) := heap_alloc2_new _ _ _
      have hg0 : ((w.alloc (.cells Z 27)).alloc (.cells cs 27)).heap[w.heap.size]? = some (.cells Z 27) := heap_alloc2_old _ _ _
      have hcs2 : cs = tabArr := tabArr_eq cs Hcs.out (fun j hj => Hj.out j (by omega))
      have h1 := tabArr_one
      have hsz := tabArr_size
      have hi2 : (Tryd.prog.info? 27).map (·.size) = some tabArr.size := by rw [hsz]; exact Hi.out
      subst hcs2
      have hZ : Z.size = tabArr.size := by rw [hsz]; exact Hzs.out
      have hend : ∀ (tmps : Array Value) (_ : tmps.getD 0 undef = .pointer (some ⟨w.heap.size, 0, none⟩)), (results Tryd.f5 tmps).run Tryd.prog (((w.alloc (.cells Z 27)).alloc (.cells tabArr 27)).setRow w.heap.size tabArr) = .ok (.agg tabArr) (((w.alloc (.cells Z 27)).alloc (.cells tabArr 27)).setRow w.heap.size tabArr) := fun tmps ht =>
        results_cell_row (by kernel_rfl) tmps _ w.heap.size 27 tabArr (0, 0) _ ht (setRow_heap _ _ _ _ _ _ hg0) Tryd.underlying27 rfl hi2
      have Hg := Lib.hid hg
      have Hg0 := Lib.hid hg0
      have H1 := Lib.hid h1
      have Hi2 := Lib.hid hi2
      have HZ := Lib.hid hZ
      have Hend := Lib.hid hend
      clear hg hg0 h1 hsz hi2 hZ hend
      generalize hT : tabArr = T at *
      have HT := Lib.hid hT
      clear hT
      go_wp2_with (first
        | refine wpList_load_row rfl 27 (.tmp 1) rfl (w.heap.size + 1) rfl 27 T (0, 0) _ Hg.out Tryd.underlying27 rfl Hi2.out ?_
        | refine wpList_store_row rfl 27 (.tmp 0) (.tmp 13) rfl w.heap.size T rfl rfl 27 Z Hg0.out Hi2.out HZ.out H1.out ?_)
      exact bodyPost_ret (Hend.out _ rfl) rfl ⟨by rw [HT.out], below_setRow (((Below.refl _ w).alloc (Nat.le_refl _) _).alloc (by simp) _) (Nat.le_refl _) _⟩
end Go.Proofs.YtgphgbajgjddfaaDoor
