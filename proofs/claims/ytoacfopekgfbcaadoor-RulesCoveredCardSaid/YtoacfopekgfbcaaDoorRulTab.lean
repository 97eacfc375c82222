/- Package rules' table: what table answers, and what is looked up in it. No condition. -/
import Derived.Test.YtoacfopekgfbcaaDoorSeqBase
import Derived.Maps.Own
import Derived.Maps.OwnSet
import Derived.Maps.OwnOps
import Derived.Deep.OwnRows
import Derived.Deep.RegionHeld3
import Derived.Deep.QuietTactic
import Derived.BigQuiet
import Derived.StillTailTactics
import Derived.RegionTactic
import Derived.IntWalk
import Derived.Deep.Cut
import Derived.Deep.CutBlock
namespace Go.Proofs.YtoacfopekgfbcaaDoor
open Go.RowKit Go.Maps
set_option linter.unusedVariables false
set_option linter.unusedSimpArgs false

/-- The names, words and requests of the ten states. -/
def rulN : Nat → ByteArray
  | 0 => ⟨#[105, 100, 108, 101]⟩
  | 1 => ⟨#[111, 117, 116, 103, 111, 105, 110, 103]⟩
  | 2 => ⟨#[105, 110, 99, 111, 109, 105, 110, 103]⟩
  | 3 => ⟨#[108, 101, 97, 118, 105, 110, 103]⟩
  | 4 => ⟨#[114, 101, 115, 121, 110, 99, 105, 110, 103]⟩
  | 5 => ⟨#[114, 101, 115, 121, 110, 99, 101, 100]⟩
  | 6 => ⟨#[114, 101, 99, 111, 118, 101, 114, 105, 110, 103]⟩
  | 7 => ⟨#[97, 110, 115, 119, 101, 114, 101, 100]⟩
  | 8 => ⟨#[114, 101, 99, 111, 118, 101, 114, 101, 100]⟩
  | 9 => ⟨#[114, 101, 97, 100, 121]⟩
  | _ => ⟨#[]⟩
def rulU : Nat → ByteArray
  | 0 => ⟨#[72, 82, 72, 46, 82, 82, 87, 82, 82, 82, 82, 82, 72, 72, 82]⟩
  | 1 => ⟨#[72, 72, 46, 46, 46, 46, 72, 46, 46, 46, 46, 46, 72, 72, 46]⟩
  | 2 => ⟨#[72, 87, 72, 87, 87, 87, 87, 87, 87, 87, 87, 87, 72, 72, 87]⟩
  | 3 => ⟨#[72, 46, 72, 72, 46, 46, 72, 46, 46, 46, 46, 46, 72, 72, 46]⟩
  | 4 => ⟨#[72, 46, 72, 70, 72, 72, 70, 46, 46, 46, 46, 46, 72, 72, 46]⟩
  | 5 => ⟨#[72, 46, 72, 70, 72, 46, 70, 46, 46, 46, 46, 46, 72, 72, 46]⟩
  | 6 => ⟨#[72, 46, 72, 70, 72, 46, 70, 46, 72, 46, 46, 46, 72, 72, 72]⟩
  | 7 => ⟨#[72, 46, 72, 70, 72, 46, 70, 46, 72, 46, 46, 46, 72, 72, 46]⟩
  | 8 => ⟨#[72, 46, 72, 70, 72, 46, 70, 46, 72, 46, 46, 46, 72, 72, 46]⟩
  | 9 => ⟨#[72, 46, 72, 70, 72, 46, 70, 72, 72, 72, 72, 72, 72, 72, 46]⟩
  | _ => ⟨#[]⟩
def rulR : Nat → ByteArray
  | 0 => ⟨#[120, 46, 46, 46, 46, 46, 46, 120, 120, 120, 120]⟩
  | 1 => ⟨#[46, 46, 120, 46, 46, 46, 46, 120, 120, 120, 120]⟩
  | 2 => ⟨#[46, 120, 120, 46, 46, 46, 46, 120, 120, 120, 120]⟩
  | 3 => ⟨#[120, 46, 46, 46, 46, 46, 46, 120, 120, 120, 120]⟩
  | 4 => ⟨#[46, 46, 120, 46, 46, 46, 46, 120, 120, 120, 120]⟩
  | 5 => ⟨#[46, 46, 120, 46, 120, 46, 46, 120, 120, 120, 120]⟩
  | 6 => ⟨#[46, 46, 120, 46, 46, 46, 46, 120, 120, 120, 120]⟩
  | 7 => ⟨#[46, 46, 120, 120, 46, 120, 46, 120, 120, 120, 120]⟩
  | 8 => ⟨#[46, 46, 120, 46, 46, 120, 46, 120, 120, 120, 120]⟩
  | 9 => ⟨#[46, 46, 120, 120, 46, 46, 120, 120, 120, 120, 120]⟩
  | _ => ⟨#[]⟩

def rulDat (s : Int) (n u r : ByteArray) : DataW Unit := .agg [.lit (.int .i64 s), .lit (.string n.data.toList), .lit (.string u.data.toList), .lit (.string r.data.toList)]
def rulElem : Value → Option (DataW Unit × List MemPlace)
  | .agg ⟨[.int .i64 s, .string n, .string u, .string r]⟩ => some (rulDat s n u r, [])
  | _ => none
theorem rulElem_mk (s : Int) (n u r : ByteArray) : rulElem (.agg #[.int .i64 s, .string n, .string u, .string r]) = some (rulDat s n u r, []) := rfl
theorem baEq {a b : ByteArray} (h : a.data.toList = b.data.toList) : a = b := by
  cases a with
  | mk x => cases b with
    | mk y =>
      have : x = y := Array.toList_inj.1 h
      rw [this]
theorem rulElem_inv {v : Value} {s : Int} {n u r : ByteArray} {ps : List MemPlace} (h : rulElem v = some (rulDat s n u r, ps)) : v = .agg #[.int .i64 s, .string n, .string u, .string r] := by
  unfold rulElem at h
  split at h
  · injection h with h
    injection h with h _
    unfold rulDat at h
    simp at h
    obtain ⟨h1, h2, h3, h4⟩ := h
    subst h1
    rw [baEq (congrArg Array.toList h2), baEq (congrArg Array.toList h3), baEq (congrArg Array.toList h4)]
  · cases h
theorem rulKey : Keyed Tryd.prog 3 := int_keyed Tryd.underlying3
/-- The map behind k rounds. -/
def rulD : Nat → DataW Unit
  | 0 => .map []
  | k + 1 => (rulD k).put (.int .i64 ((k : Int) + 1)) (rulDat ((k : Int) + 1) (rulN k) (rulU k) (rulR k))
def rulZ : DataW Unit := rulDat 0 ⟨#[]⟩ ⟨#[]⟩ ⟨#[]⟩
theorem rulD_isMap : ∀ k, IsMap (rulD k)
  | 0 => ⟨_, rfl⟩
  | k + 1 => IsMap.put (rulD_isMap k) _ _
theorem rulD_at : ∀ (n : Nat) (s : Int) (z : DataW Unit), (rulD n).atKey (.int .i64 s) z = if 1 ≤ s ∧ s ≤ n then rulDat s (rulN (s.toNat - 1)) (rulU (s.toNat - 1)) (rulR (s.toNat - 1)) else z
  | 0, s, z => by rw [if_neg (by omega)]; rfl
  | n + 1, s, z => by
    by_cases e : s = (n : Int) + 1
    · subst e
      rw [rulD, atKey_put_same (rulD_isMap n) (by exact trivial), if_pos (by omega), show ((n : Int) + 1).toNat - 1 = n by omega]
    · have hne : Lit.int .i64 s ≠ .int .i64 ((n : Int) + 1) := fun h => e (by injection h)
      rw [rulD, atKey_put_other hne, rulD_at n s z]
      by_cases h : 1 ≤ s ∧ s ≤ n
      · rw [if_pos h, if_pos (by omega)]
      · rw [if_neg h, if_neg (by omega)]
theorem rul_blk {w : World} {g : Nat} {cs : Array Value} {t : TypeId} (h : w.heap[g]? = some (.cells cs t (0, 0))) (i : Nat) : w.cell? ⟨g, i, none⟩ = cs[i]? := by
  simp [World.cell?, h]
theorem rul_lt {w : World} {g : Nat} {o : Obj} (h : w.heap[g]? = some o) : g < w.heap.size := (Array.getElem?_eq_some_iff.1 h).1
/-- The rows lie in block b. -/
def RowsAt (w : World) (b : Nat) : Prop := b < w.heap.size ∧ ∀ k : Nat, k < 10 → w.cell? ⟨b, k * 4, none⟩ = some (.int .i64 ((k : Int) + 1)) ∧ w.cell? ⟨b, k * 4 + 1, none⟩ = some (.string (rulN k)) ∧ w.cell? ⟨b, k * 4 + 2, none⟩ = some (.string (rulU k)) ∧ w.cell? ⟨b, k * 4 + 3, none⟩ = some (.string (rulR k))
theorem RowsAt.below {w w' : World} {b : Nat} (h : RowsAt w b) (hb : Below w.heap.size w w') : RowsAt w' b :=
  ⟨Nat.lt_of_lt_of_le h.1 hb.size, fun k hk => by
    obtain ⟨h1, h2, h3, h4⟩ := h.2 k hk
    refine ⟨?_, ?_, ?_, ?_⟩
    · rw [hb.cell (p := ⟨b, _, none⟩) h.1]; exact h1
    · rw [hb.cell (p := ⟨b, _, none⟩) h.1]; exact h2
    · rw [hb.cell (p := ⟨b, _, none⟩) h.1]; exact h3
    · rw [hb.cell (p := ⟨b, _, none⟩) h.1]; exact h4⟩
def rulCells : Array Value := #[.int .i64 1, .string ⟨#[105, 100, 108, 101]⟩, .string ⟨#[72, 82, 72, 46, 82, 82, 87, 82, 82, 82, 82, 82, 72, 72, 82]⟩, .string ⟨#[120, 46, 46, 46, 46, 46, 46, 120, 120, 120, 120]⟩, .int .i64 2, .string ⟨#[111, 117, 116, 103, 111, 105, 110, 103]⟩, .string ⟨#[72, 72, 46, 46, 46, 46, 72, 46, 46, 46, 46, 46, 72, 72, 46]⟩, .string ⟨#[46, 46, 120, 46, 46, 46, 46, 120, 120, 120, 120]⟩, .int .i64 3, .string ⟨#[105, 110, 99, 111, 109, 105, 110, 103]⟩, .string ⟨#[72, 87, 72, 87, 87, 87, 87, 87, 87, 87, 87, 87, 72, 72, 87]⟩, .string ⟨#[46, 120, 120, 46, 46, 46, 46, 120, 120, 120, 120]⟩, .int .i64 4, .string ⟨#[108, 101, 97, 118, 105, 110, 103]⟩, .string ⟨#[72, 46, 72, 72, 46, 46, 72, 46, 46, 46, 46, 46, 72, 72, 46]⟩, .string ⟨#[120, 46, 46, 46, 46, 46, 46, 120, 120, 120, 120]⟩, .int .i64 5, .string ⟨#[114, 101, 115, 121, 110, 99, 105, 110, 103]⟩, .string ⟨#[72, 46, 72, 70, 72, 72, 70, 46, 46, 46, 46, 46, 72, 72, 46]⟩, .string ⟨#[46, 46, 120, 46, 46, 46, 46, 120, 120, 120, 120]⟩, .int .i64 6, .string ⟨#[114, 101, 115, 121, 110, 99, 101, 100]⟩, .string ⟨#[72, 46, 72, 70, 72, 46, 70, 46, 46, 46, 46, 46, 72, 72, 46]⟩, .string ⟨#[46, 46, 120, 46, 120, 46, 46, 120, 120, 120, 120]⟩, .int .i64 7, .string ⟨#[114, 101, 99, 111, 118, 101, 114, 105, 110, 103]⟩, .string ⟨#[72, 46, 72, 70, 72, 46, 70, 46, 72, 46, 46, 46, 72, 72, 72]⟩, .string ⟨#[46, 46, 120, 46, 46, 46, 46, 120, 120, 120, 120]⟩, .int .i64 8, .string ⟨#[97, 110, 115, 119, 101, 114, 101, 100]⟩, .string ⟨#[72, 46, 72, 70, 72, 46, 70, 46, 72, 46, 46, 46, 72, 72, 46]⟩, .string ⟨#[46, 46, 120, 120, 46, 120, 46, 120, 120, 120, 120]⟩, .int .i64 9, .string ⟨#[114, 101, 99, 111, 118, 101, 114, 101, 100]⟩, .string ⟨#[72, 46, 72, 70, 72, 46, 70, 46, 72, 46, 46, 46, 72, 72, 46]⟩, .string ⟨#[46, 46, 120, 46, 46, 120, 46, 120, 120, 120, 120]⟩, .int .i64 10, .string ⟨#[114, 101, 97, 100, 121]⟩, .string ⟨#[72, 46, 72, 70, 72, 46, 70, 72, 72, 72, 72, 72, 72, 72, 46]⟩, .string ⟨#[46, 46, 120, 120, 46, 46, 120, 120, 120, 120, 120]⟩]
theorem rowsAt_new (w : World) (b : Nat) (h : w.heap[b]? = some (.cells rulCells 31 (0, 0))) : RowsAt w b := by
  refine ⟨rul_lt h, fun k hk => ?_⟩
  have hc : k = 0 ∨ k = 1 ∨ k = 2 ∨ k = 3 ∨ k = 4 ∨ k = 5 ∨ k = 6 ∨ k = 7 ∨ k = 8 ∨ k = 9 := by omega
  rcases hc with rfl | rfl | rfl | rfl | rfl | rfl | rfl | rfl | rfl | rfl <;> exact ⟨by rw [rul_blk h]; rfl, by rw [rul_blk h]; rfl, by rw [rul_blk h]; rfl, by rw [rul_blk h]; rfl⟩

theorem rul_key (k : Nat) (h : k < 10) : keyOf Tryd.prog 3 (.int .i64 ((k : Int) + 1)) = some (.int .i64 ((k : Int) + 1)) := keyOf_int_mk Tryd.underlying3 (WalkArith.wf_i64 (by omega))
theorem run_makeMapR {P : Program} {t k e : TypeId} (ht : P.underlying t = some (.map k e)) (n : Int) (w : World) : (Instr.makeMap t (some (.int .i64 n))).run P w = .ok (.map (some w.heap.size)) (w.alloc (.map #[] 0)) := by
  simp [Instr.makeMap, run_underlying ht, asInt, asIntOf, Result.andThen]
set_option maxHeartbeats 1000000 in
set_option maxRecDepth 100000 in
theorem rul_byState (w : World) (b : Nat) (hr : RowsAt w b) : Calls Tryd.prog 20 #[.slice (some ⟨b, 0, none⟩) 10 10] w fun e w' => ∃ mb, e = .returned (.map (some mb)) ∧ w'.ownsMap Tryd.prog 3 rulElem mb 10 (rulD 10) ∧ Below w.heap.size w w' := by
  have hmm := @run_makeMapR Tryd.prog _ _ _ Tryd.underlying32 10
  have hm := World.ownsMap_made (H := Unit) w Tryd.prog 3 rulElem
  have HM := Lib.hid hm
  have hbl := Lib.hid hr.1
  have hb0 := (Below.refl w.heap.size w).alloc (Nat.le_refl _) (.map #[] 0)
  have HR := Lib.hid (hr.below hb0)
  have HB := Lib.hid hb0
  clear hm hb0 hr
  go_enter Tryd.func20, Tryd.ntmps20
  go_wp2_with fail
  go_loopw [11] (fun i wr => ∃ k : Nat, k ≤ 10 ∧ i = .int .i64 k ∧ Hid (wr.ownsMap Tryd.prog 3 rulElem w.heap.size k (rulD k)) ∧ Hid (RowsAt wr b) ∧ Hid (Below w.heap.size w wr)) (fun i _ => 10 - (intOf i).toNat)
  case atStart => exact ⟨0, by omega, rfl, HM, HR, HB⟩
  case round =>
    obtain ⟨k, hk, rfl, HO, HRR, HW⟩ := hrel
    by_cases hlt : k < 10
    · obtain ⟨c0, c1, c2, c3⟩ := HRR.out.2 k hlt
      have hw1 : IntKind.i64.wrap ((k : Int) + 1) = (k : Int) + 1 := IntWalk.i64_in _ (by omega)
      go_wp2_with (at_mapUpdate; refine wpList_mapUpdate_own _ rfl _ _ _ 32 rfl 3 31 rulKey Tryd.underlying32 rulElem w.heap.size k _ rfl (HO.out.alloc _) (by unfold maxLen; omega) _ _ _ rfl rfl (rul_key k hlt) (rulDat ((k : Int) + 1) (rulN k) (rulU k) (rulR k)) [] (rulElem_mk _ _ _ _) ?_; intro w2 hown hgrow; have HO2 := Lib.hid hown; have HG2 := Lib.hid hgrow; clear hown hgrow)
      have hb1 : Below w.heap.size w w2 := ((HW.out.alloc HW.out.size _)).grown HG2.out (by have := HW.out.size; simp; omega) (fun j hj => by cases hj; exact Nat.le_refl _)
      have HB2 := Lib.hid hb1
      have HR2 : Hid (RowsAt w2 b) := by
        have h1 := HRR.out.below ((Below.refl wr.heap.size wr).alloc (Nat.le_refl _) (.cells #[.int .i64 ((k : Int) + 1), .string (rulN k), .string (rulU k), .string (rulR k)] 31))
        exact ⟨Nat.lt_of_lt_of_le h1.1 HG2.out.size, fun j hj => by
          have h2 := h1.2 j hj
          have hbb := HG2.out.block b h1.1 (by intro e; cases e; exact Nat.lt_irrefl _ hbl.out)
          refine ⟨?_, ?_, ?_, ?_⟩
          · rw [World.cell?_of_block (w := wr.alloc _) hbb]; exact h2.1
          · rw [World.cell?_of_block (w := wr.alloc _) hbb]; exact h2.2.1
          · rw [World.cell?_of_block (w := wr.alloc _) hbb]; exact h2.2.2.1
          · rw [World.cell?_of_block (w := wr.alloc _) hbb]; exact h2.2.2.2⟩
      clear hb1 c0 c1 c2 c3
      go_wp2_with fail
      go_roundw
      case rel => exact ⟨k + 1, by omega, by go_num, HO2, HR2, HB2⟩
      case measure => simp [intOf]; omega
    · obtain rfl : k = 10 := by omega
      clear hlt hk
      go_wp2_with fail
      go_ret
      exact ⟨w.heap.size, rfl, HO.out, HW.out⟩

/-- The map of the ten rows. -/
def TabMap (w : World) (mb : Nat) : Prop := w.ownsMap Tryd.prog 3 rulElem mb 10 (rulD 10)
set_option maxHeartbeats 1000000 in
set_option maxRecDepth 100000 in
theorem rul_table (w : World) : Calls Tryd.prog 17 #[] w fun e w' => ∃ mb, e = .returned (.map (some mb)) ∧ TabMap w' mb ∧ Below w.heap.size w w' := by
  have hb0 := (Below.refl w.heap.size w).alloc (Nat.le_refl _) (.cells rulCells 31)
  have HBY := Lib.hid (rul_byState (w.alloc (.cells rulCells 31)) w.heap.size (rowsAt_new _ _ (heap_alloc_new _ _)))
  have HB := Lib.hid hb0
  clear hb0
  go_enter Tryd.func17, Tryd.ntmps17
  go_wp2_with fail
  refine HBY.out.mono ?_
  rintro e w1 ⟨mb, rfl, hm, hb⟩
  have HM := Lib.hid hm
  have HB1 := Lib.hid (HB.out.trans (hb.mono HB.out.size))
  clear hm hb
  go_wp2_with fail
  go_ret
  exact ⟨mb, rfl, HM.out, HB1.out⟩

/-- What is looked up there. -/
def rulN' (s : Int) : ByteArray := if 1 ≤ s ∧ s ≤ 10 then rulN (s.toNat - 1) else ⟨#[]⟩
def rulU' (s : Int) : ByteArray := if 1 ≤ s ∧ s ≤ 10 then rulU (s.toNat - 1) else ⟨#[]⟩
def rulR' (s : Int) : ByteArray := if 1 ≤ s ∧ s ≤ 10 then rulR (s.toNat - 1) else ⟨#[]⟩
def rulS' (s : Int) : Int := if 1 ≤ s ∧ s ≤ 10 then s else 0
theorem run_rulLook (w : World) (mb : Nat) (h : TabMap w mb) (s : Int) (hs : -9223372036854775808 ≤ s ∧ s ≤ 9223372036854775807) :
    (Instr.lookup 32 (.map (some mb)) (.int .i64 s) false).run Tryd.prog w = .ok (.agg #[.int .i64 (rulS' s), .string (rulN' s), .string (rulU' s), .string (rulR' s)]) w := by
  have hkey : keyOf Tryd.prog 3 (.int .i64 s) = some (.int .i64 s) := keyOf_int_mk Tryd.underlying3 (WalkArith.wf_i64 (by omega))
  have hz : (zeroValue 31).run Tryd.prog w = .ok (.agg #[.int .i64 0, .string ⟨#[]⟩, .string ⟨#[]⟩, .string ⟨#[]⟩]) w := by rfl
  obtain ⟨v, ps, hrun, hv⟩ := World.ownsMap.lookup h rulKey Tryd.underlying32 hz (rulElem_mk _ _ _ _) hkey
  rw [rulD_at 10 s] at hv
  rw [hrun]
  have e : rulElem v = some (rulDat (rulS' s) (rulN' s) (rulU' s) (rulR' s), ps) := by
    rw [hv]
    unfold rulS' rulN' rulU' rulR'
    by_cases hc : 1 ≤ s ∧ s ≤ 10
    · rw [if_pos hc, if_pos hc, if_pos hc, if_pos hc, if_pos (by simpa using hc)]
    · rw [if_neg hc, if_neg hc, if_neg hc, if_neg hc, if_neg (by simpa using hc)]
  rw [rulElem_inv e]
theorem rul_f1 (s : Int) (n u r : ByteArray) (w : World) : (Instr.field 31 (.agg #[.int .i64 s, .string n, .string u, .string r]) 1).run Tryd.prog w = .ok (.string n) w := by kernel_rfl
theorem rul_f2 (s : Int) (n u r : ByteArray) (w : World) : (Instr.field 31 (.agg #[.int .i64 s, .string n, .string u, .string r]) 2).run Tryd.prog w = .ok (.string u) w := by kernel_rfl
theorem rul_f3 (s : Int) (n u r : ByteArray) (w : World) : (Instr.field 31 (.agg #[.int .i64 s, .string n, .string u, .string r]) 3).run Tryd.prog w = .ok (.string r) w := by kernel_rfl
theorem rul_name (s : Int) (w : World) (hs : -9223372036854775808 ≤ s ∧ s ≤ 9223372036854775807) : Calls Tryd.prog 15 #[.int .i64 s] w fun e w' => e = .returned (.string (rulN' s)) ∧ Below w.heap.size w w' := by
  have HT := Lib.hid (rul_table w)
  have HS := Lib.hid hs
  clear hs
  go_enter Tryd.func15, Tryd.ntmps15
  go_wp2_with fail
  refine HT.out.mono ?_
  rintro e w1 ⟨mb, rfl, hm, hb⟩
  have hr := run_rulLook w1 mb hm s HS.out
  have hf := rul_f1 (rulS' s) (rulN' s) (rulU' s) (rulR' s) w1
  have HB := Lib.hid hb
  clear hm hb
  go_wp2_with fail
  go_ret
  exact ⟨rfl, HB.out⟩
end Go.Proofs.YtoacfopekgfbcaaDoor
