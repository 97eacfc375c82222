/- The contracts of package timer's functions: five numbers in a block. Conditions: the bank lies in a block of its own; the numbers are those of ticks. -/
import Derived.Test.YtammcohjddjaeaaIntRow
import Derived.Test.YtammcohjddjaeaaAppendSrc
import Derived.WalkSpells
import Derived.Deep.DeepCutAuto
import Derived.OneCell
namespace Go.Proofs.Ytammcohjddjaeaa
open Go.RowKit
set_option linter.unusedVariables false
set_option linter.unusedSimpArgs false

def arrT (L : Nat → Int) : Array Value := #[.int .i64 (L 0), .int .i64 (L 1), .int .i64 (L 2), .int .i64 (L 3), .int .i64 (L 4)]
/-- The bank in block g has L. -/
def BankAt (w : World) (g : Nat) (L : Nat → Int) : Prop := w.heap[g]? = some (.cells (arrT L) 26 (0, 0))
def upd (L : Nat → Int) (t : Nat) (x : Int) : Nat → Int := fun i => if i = t then x else L i
theorem five {t : Nat} (h : t < 5) : t = 0 ∨ t = 1 ∨ t = 2 ∨ t = 3 ∨ t = 4 := by omega
theorem BankAt.congr {w : World} {g : Nat} {L L' : Nat → Int} (h : BankAt w g L) (e : ∀ t, t < 5 → L t = L' t) : BankAt w g L' := by
  unfold BankAt arrT at *
  rw [← e 0 (by decide), ← e 1 (by decide), ← e 2 (by decide), ← e 3 (by decide), ← e 4 (by decide)]
  exact h
theorem BankAt.cell {w : World} {g : Nat} {L : Nat → Int} (h : BankAt w g L) {t : Nat} (ht : t < 5) : w.cell? ⟨g, t, none⟩ = some (.int .i64 (L t)) := by
  rw [cell_of_row _ _ t _ _ (0, 0) h]
  rcases five ht with rfl | rfl | rfl | rfl | rfl <;> rfl
theorem BankAt.free {w : World} {g : Nat} {L : Nat → Int} (h : BankAt w g L) (t : Nat) : w.frozen? ⟨g, t, none⟩ = false := by
  unfold World.frozen?
  rw [h]
  simp
theorem BankAt.set {w : World} {g : Nat} {L : Nat → Int} (h : BankAt w g L) {t : Nat} (ht : t < 5) (x : Int) : BankAt (w.setCell ⟨g, t, none⟩ (.int .i64 x)) g (upd L t x) := by
  unfold BankAt
  rw [setCell_eq_setRow w g t _ _ _ _ h, setRow_heap w g _ _ _ _ h]
  congr 2
  rcases five ht with rfl | rfl | rfl | rfl | rfl <;> rfl
theorem BankAt.lt {w : World} {g : Nat} {L : Nat → Int} (h : BankAt w g L) : g < w.heap.size := (Array.getElem?_eq_some_iff.1 h).1
theorem BankAt.of_block {w w' : World} {g : Nat} {L : Nat → Int} (h : BankAt w g L) (e : w'.heap[g]? = w.heap[g]?) : BankAt w' g L := e.trans h
theorem grown_set (w : World) (g i : Nat) (v : Value) : w.grownBy (w.setCell ⟨g, i, none⟩ v) (some g) :=
  ⟨rfl, rfl, rfl, by simp, fun j _ hne => Below.heap_setCell _ _ _ _ (fun e => hne (by rw [e]))⟩
theorem grown_refl (w : World) (r : Option Nat) : w.grownBy w r := ⟨rfl, rfl, rfl, Nat.le_refl _, fun _ _ _ => rfl⟩

theorem tim_known (t : Int) (w : World) : Calls Try.prog 15 #[.int .i64 t] w fun e w' => e = .returned (.bool (decide (0 ≤ t ∧ t < 5))) ∧ w = w' := by
  by_cases h1 : 0 ≤ t
  · have d1 : decide (0 ≤ t) = true := decide_eq_true h1
    by_cases h2 : t < 5
    · have d2 : decide (t < 5) = true := decide_eq_true h2
      rw [decide_eq_true (show 0 ≤ t ∧ t < 5 from ⟨h1, h2⟩)]
      clear h1 h2
      go_enter Try.func15, Try.ntmps15
      go_wp2_with fail
      go_ret
      exact ⟨rfl, rfl⟩
    · have d2 : decide (t < 5) = false := decide_eq_false h2
      rw [decide_eq_false (show ¬ (0 ≤ t ∧ t < 5) from fun h => h2 h.2)]
      clear h1 h2
      go_enter Try.func15, Try.ntmps15
      go_wp2_with fail
      go_ret
      exact ⟨rfl, rfl⟩
  · have d1 : decide (0 ≤ t) = false := decide_eq_false h1
    rw [decide_eq_false (show ¬ (0 ≤ t ∧ t < 5) from fun h => h1 h.1)]
    clear h1
    go_enter Try.func15, Try.ntmps15
    go_wp2_with fail
    go_ret
    exact ⟨rfl, rfl⟩

def startL (L : Nat → Int) (t n : Int) : Nat → Int := if 0 ≤ t ∧ t < 5 then upd L t.toNat (max 1 (min n 1048576)) else L
def stopL (L : Nat → Int) (t : Int) : Nat → Int := if 0 ≤ t ∧ t < 5 then upd L t.toNat 0 else L
def leftV (L : Nat → Int) (t : Int) : Int := if 0 ≤ t ∧ t < 5 then L t.toNat else 0
set_option maxRecDepth 100000 in
theorem tim_start (g : Nat) (t n : Int) (L : Nat → Int) (w : World) (h : BankAt w g L) : Calls Try.prog 11 #[.pointer (some ⟨g, 0, none⟩), .int .i64 t, .int .i64 n] w fun e w' => e = .returned (.tuple #[]) ∧ BankAt w' g (startL L t n) ∧ w.grownBy w' (some g) := by
  have HK := Lib.hid (fun W => tim_known t W)
  by_cases ht : 0 ≤ t ∧ t < 5
  · obtain ⟨m, rfl⟩ := Int.eq_ofNat_of_zero_le ht.1
    have hm : m < 5 := by omega
    rw [decide_eq_true ht] at HK
    have HS : Hid (startL L (m : Int) n = upd L m (max 1 (min n 1048576))) := by show _ = _; unfold startL; rw [if_pos ht]; rfl
    have hc := h.cell hm
    have hf := h.free m
    have hm0 : (0 : Int) ≤ (m : Int) := by omega
    have hm5 : (m : Int) < 5 := by omega
    have H := Lib.hid h
    clear h ht hm
    go_enter Try.func11, Try.ntmps11
    go_wp2_with fail
    refine (HK.out _).mono ?_
    rintro e w1 ⟨rfl, rfl⟩
    go_wp2_with fail
    all_goals go_end0
    all_goals exact ⟨rfl, (H.out.set (by omega) _).congr (fun i _ => by rw [HS.out]; unfold upd; split <;> first | omega | rfl), grown_set _ _ _ _⟩
  · rw [decide_eq_false ht] at HK
    have HS : Hid (startL L t n = L) := by show _ = _; unfold startL; rw [if_neg ht]
    have H := Lib.hid h
    clear h ht
    go_enter Try.func11, Try.ntmps11
    go_wp2_with fail
    refine (HK.out _).mono ?_
    rintro e w1 ⟨rfl, rfl⟩
    go_wp2_with fail
    go_end0
    exact ⟨rfl, by rw [HS.out]; exact H.out, grown_refl _ _⟩
set_option maxRecDepth 100000 in
theorem tim_stop (g : Nat) (t : Int) (L : Nat → Int) (w : World) (h : BankAt w g L) : Calls Try.prog 7 #[.pointer (some ⟨g, 0, none⟩), .int .i64 t] w fun e w' => e = .returned (.tuple #[]) ∧ BankAt w' g (stopL L t) ∧ w.grownBy w' (some g) := by
  have HK := Lib.hid (fun W => tim_known t W)
  by_cases ht : 0 ≤ t ∧ t < 5
  · obtain ⟨m, rfl⟩ := Int.eq_ofNat_of_zero_le ht.1
    have hm : m < 5 := by omega
    rw [decide_eq_true ht] at HK
    have HS : Hid (stopL L (m : Int) = upd L m 0) := by show _ = _; unfold stopL; rw [if_pos ht]; rfl
    have hc := h.cell hm
    have hf := h.free m
    have hm0 : (0 : Int) ≤ (m : Int) := by omega
    have hm5 : (m : Int) < 5 := by omega
    have H := Lib.hid h
    clear h ht hm
    go_enter Try.func7, Try.ntmps7
    go_wp2_with fail
    refine (HK.out _).mono ?_
    rintro e w1 ⟨rfl, rfl⟩
    go_wp2_with fail
    go_end0
    exact ⟨rfl, by rw [HS.out]; exact H.out.set (by omega) _, grown_set _ _ _ _⟩
  · rw [decide_eq_false ht] at HK
    have HS : Hid (stopL L t = L) := by show _ = _; unfold stopL; rw [if_neg ht]
    have H := Lib.hid h
    clear h ht
    go_enter Try.func7, Try.ntmps7
    go_wp2_with fail
    refine (HK.out _).mono ?_
    rintro e w1 ⟨rfl, rfl⟩
    go_wp2_with fail
    go_end0
    exact ⟨rfl, by rw [HS.out]; exact H.out, grown_refl _ _⟩
set_option maxRecDepth 100000 in
theorem tim_left (g : Nat) (t : Int) (L : Nat → Int) (w : World) (h : BankAt w g L) : Calls Try.prog 12 #[.pointer (some ⟨g, 0, none⟩), .int .i64 t] w fun e w' => e = .returned (.int .i64 (leftV L t)) ∧ w = w' := by
  have HK := Lib.hid (fun W => tim_known t W)
  by_cases ht : 0 ≤ t ∧ t < 5
  · obtain ⟨m, rfl⟩ := Int.eq_ofNat_of_zero_le ht.1
    have hm : m < 5 := by omega
    rw [decide_eq_true ht] at HK
    have HS : Hid (leftV L (m : Int) = L m) := by show _ = _; unfold leftV; rw [if_pos ht]; rfl
    have hc := h.cell hm
    have hm0 : (0 : Int) ≤ (m : Int) := by omega
    have hm5 : (m : Int) < 5 := by omega
    clear h ht hm
    go_enter Try.func12, Try.ntmps12
    go_wp2_with fail
    refine (HK.out _).mono ?_
    rintro e w1 ⟨rfl, rfl⟩
    go_wp2_with fail
    go_ret
    exact ⟨by rw [HS.out]; rfl, rfl⟩
  · rw [decide_eq_false ht] at HK
    have HS : Hid (leftV L t = 0) := by show _ = _; unfold leftV; rw [if_neg ht]
    clear h ht
    go_enter Try.func12, Try.ntmps12
    go_wp2_with fail
    refine (HK.out _).mono ?_
    rintro e w1 ⟨rfl, rfl⟩
    go_wp2_with fail
    go_ret
    exact ⟨by rw [HS.out]; rfl, rfl⟩
set_option maxRecDepth 100000 in
theorem tim_runs (g : Nat) (t : Int) (L : Nat → Int) (w : World) (h : BankAt w g L) : Calls Try.prog 13 #[.pointer (some ⟨g, 0, none⟩), .int .i64 t] w fun e w' => e = .returned (.bool (decide (0 < leftV L t))) ∧ w = w' := by
  have HL := Lib.hid (tim_left g t L w h)
  clear h
  go_enter Try.func13, Try.ntmps13
  go_wp2_with fail
  refine HL.out.mono ?_
  rintro e w1 ⟨rfl, rfl⟩
  go_wp2_with fail
  go_ret
  exact ⟨rfl, rfl⟩
theorem bank_one : (#[.int .i64 0, .int .i64 0, .int .i64 0, .int .i64 0, .int .i64 0] : Array Value).all (·.oneCell') = true := by simp [Value.oneCell']
theorem infoBank : (Try.prog.info? 26).map (·.size) = some 5 := by kernel_rfl
@[go_sem] theorem buildBank (w : World) : (Instr.build 26 #[]).run Try.prog w = .ok (.agg #[.int .i64 0, .int .i64 0, .int .i64 0, .int .i64 0, .int .i64 0]) w := run_build w 26 _ _ (by kernel_rfl)
set_option maxRecDepth 100000 in
theorem tim_clear (g : Nat) (L : Nat → Int) (w : World) (h : BankAt w g L) : Calls Try.prog 10 #[.pointer (some ⟨g, 0, none⟩)] w fun e w' => e = .returned (.tuple #[]) ∧ BankAt w' g (fun _ => 0) ∧ w.grownBy w' (some g) := by
  have H := Lib.hid h
  clear h
  go_enter Try.func10, Try.ntmps10
  go_wp2_with (refine wpList_store_row rfl 26 (.tmp 4) (.tmp 3) rfl g #[.int .i64 0, .int .i64 0, .int .i64 0, .int .i64 0, .int .i64 0] rfl rfl 26 (arrT L) H.out infoBank rfl bank_one ?_)
  go_end0
  exact ⟨rfl, setRow_heap w g _ _ _ _ H.out, ⟨rfl, rfl, rfl, by simp, fun j _ hne => setRow_other _ _ _ _ (fun e => hne (by rw [e]))⟩⟩

def tickF (x : Int) : Int := if x = 0 then 0 else x - 1
def tickL (L : Nat → Int) : Nat → Int := fun t => tickF (L t)
def overTo (L : Nat → Int) (j : Nat) : List Int := ((List.range j).filter fun t => L t == 1).map Int.ofNat
theorem overTo_yes {L : Nat → Int} {j : Nat} (h : L j = 1) : overTo L (j + 1) = overTo L j ++ [(j : Int)] := by
  unfold overTo
  rw [List.range_succ, List.filter_append, List.map_append]
  simp [h]
theorem overTo_no {L : Nat → Int} {j : Nat} (h : L j ≠ 1) : overTo L (j + 1) = overTo L j := by
  unfold overTo
  rw [List.range_succ, List.filter_append, List.map_append]
  simp [h]
theorem overTo_len (L : Nat → Int) (j : Nat) : (overTo L j).length ≤ j := by
  unfold overTo
  rw [List.length_map]
  exact Nat.le_trans (List.length_filter_le _ _) (by rw [List.length_range]; exact Nat.le_refl _)
def tickTo (L : Nat → Int) (j : Nat) : Nat → Int := fun t => if t < j then tickF (L t) else L t
theorem infoInt0 : (Try.prog.info? 3).map (fun i => (i.zero, i.size, i.bytes)) = some (some (.int .i64 0), 1, 8) := by kernel_rfl
theorem index5 (L : Nat → Int) (j : Nat) (hj : j < 5) (w : World) : (Instr.index 24 (.agg (arrT L)) (.int .i64 (j : Int))).run Try.prog w = .ok (.int .i64 (L j)) w := by
  rcases five hj with rfl | rfl | rfl | rfl | rfl <;> kernel_rfl
theorem one_src3 {w : World} {b : Nat} {x : Value} (h : w.cell? ⟨b, 0, none⟩ = some x) : ∀ ad, some (⟨b, 0, none⟩ : Addr) = some ad → ∀ j u, [x][j]? = some u → w.cell? (ad.add j) = some u := by
  intro ad he j u hj
  injection he with he
  subst he
  match j with
  | 0 => simp at hj; subst hj; rw [Addr.add_lit]; exact h
  | j + 1 => simp at hj
theorem one_new3 (w : World) (x : Value) (t : TypeId) : (w.alloc (.cells #[x] t)).cell? ⟨w.heap.size, 0, none⟩ = some x := by rw [cell_of_row _ _ 0 _ _ (0, 0) (heap_alloc_new w _)]; rfl

theorem grown_over {w wa wc : World} {g : Nat} {o : Obj} {row : Option Nat} (h : w.grownBy wa (some g)) (k : (wa.alloc o).grownBy wc row) (hr : ∀ j, row = some j → w.heap.size ≤ j) : w.grownBy wc (some g) :=
  ⟨k.os.trans h.os, k.tape.trans h.tape, k.output.trans h.output, by have := h.size; have h2 := k.size; rw [World.size_alloc] at h2; omega, fun j hj hne => by
    have hs := h.size
    rw [k.block j (by rw [World.size_alloc]; omega) (fun e => by have := hr j e.symm; omega), Below.heap_alloc _ _ _ (by omega)]
    exact h.block j hj hne⟩

set_option maxHeartbeats 2000000 in
set_option maxRecDepth 100000 in
theorem tim_tick (g : Nat) (L : Nat → Int) (w : World) (h : BankAt w g L) (hL : ∀ t, t < 5 → 0 ≤ L t ∧ L t ≤ 1048576) :
    Calls Try.prog 9 #[.pointer (some ⟨g, 0, none⟩)] w fun e w' => ∃ v, e = .returned v ∧ IntRow w' v (overTo L 5) ∧ BankAt w' g (tickL L) ∧ w.grownBy w' (some g) := by
  obtain ⟨i0, hi, hz0, hz1, hz2⟩ := info_parts infoInt0
  have Hi := Lib.hid hi
  have Hz0 := Lib.hid hz0
  have Hz1 := Lib.hid hz1
  have Hz2 := Lib.hid hz2
  clear hi hz0 hz1 hz2
  have c0 := h.cell (t := 0) (by decide)
  have c1 := h.cell (t := 1) (by decide)
  have c2 := h.cell (t := 2) (by decide)
  have c3 := h.cell (t := 3) (by decide)
  have c4 := h.cell (t := 4) (by decide)
  have H := Lib.hid h
  have HL := Lib.hid hL
  have hgl := h.lt
  have HI : Hid (∀ j : Nat, j < 5 → ∀ w, (Instr.index 24 (.agg #[.int .i64 (L 0), .int .i64 (L 1), .int .i64 (L 2), .int .i64 (L 3), .int .i64 (L 4)]) (.int .i64 (j : Int))).run Try.prog w = .ok (.int .i64 (L j)) w) := fun j hj w => index5 L j hj w
  clear h hL
  go_enter Try.func9, Try.ntmps9
  go_wp2_with fail
  clear c0 c1 c2 c3 c4
  go_loopw [3, 10] (fun o i wr => ∃ (j : Nat) (v : Value), j ≤ 5 ∧ v = o ∧ i = .int .i64 j ∧ Hid (wr.ownsRow w.heap.size 3 1 v (overTo L j).length ((overTo L j).map (Value.int .i64))) ∧ Hid (BankAt wr g (tickTo L j)) ∧ Hid (w.grownBy wr (some g))) (fun _ i _ => 5 - (intOf i).toNat)
  case atStart => exact ⟨0, _, by omega, rfl, rfl, World.ownsRow_nil w _ _ _, H.out.congr (fun t _ => by unfold tickTo; rw [if_neg (by omega)]), grown_refl _ _⟩
  case round =>
    obtain ⟨j, v, hj, rfl, rfl, HO, HBK, HG⟩ := hrel
    by_cases hlt : j < 5
    · have hix := HI.out j hlt
      have hb := HL.out j hlt
      have hc := HBK.out.cell hlt
      have hf := HBK.out.free j
      have htl : tickTo L j j = L j := by unfold tickTo; rw [if_neg (by omega)]
      rw [htl] at hc
      have hyes := fun h => overTo_yes (L := L) (j := j) h
      have hno := fun h => overTo_no (L := L) (j := j) h
      have hol := overTo_len L j
      have HYES := Lib.hid hyes
      have HNO := Lib.hid hno
      have hstep : ∀ x, x = tickF (L j) → ∀ t, t < 5 → upd (tickTo L j) j x t = tickTo L (j + 1) t := by
        intro x hx t ht
        unfold upd tickTo
        by_cases e : t = j
        · subst e; rw [if_pos rfl, if_pos (by omega), hx]
        · rw [if_neg e]
          by_cases e2 : t < j
          · rw [if_pos e2, if_pos (by omega)]
          · rw [if_neg e2, if_neg (by omega)]
      have HSTEP := Lib.hid hstep
      have hzero : L j = 0 → ∀ t, t < 5 → tickTo L j t = tickTo L (j + 1) t := by
        intro h0 t ht
        unfold tickTo
        by_cases e : t = j
        · subst e; rw [if_neg (by omega), if_pos (by omega), h0]; rfl
        · by_cases e2 : t < j
          · rw [if_pos e2, if_pos (by omega)]
          · rw [if_neg e2, if_neg (by omega)]
      have HZERO := Lib.hid hzero
      have hone : L j = 1 → tickF (L j) = 0 := fun e => by rw [e]; rfl
      have htf : L j ≠ 0 → tickF (L j) = L j - 1 := fun e => by unfold tickF; rw [if_neg e]
      have HTF := Lib.hid htf
      clear hyes hno hstep hzero hone htf htl
      generalize hLj : L j = x at *
      have HLJ := Lib.hid hLj
      clear hLj
      by_cases h0 : x = 0
      · subst h0
        go_wp2_with fail
        go_roundw
        case rel => exact ⟨j + 1, v, by omega, rfl, by go_num, by rw [HNO.out (by decide)]; exact HO, HBK.out.congr (HZERO.out rfl), HG⟩
        case measure => simp [intOf]; omega
      · have hx0 : (x == 0) = false := by rw [beq_eq_false_iff_ne]; exact h0
        have HX0 := Lib.hid h0
        have hw : IntKind.i64.wrap (x - 1) = x - 1 := by rw [IntKind.wrap_i64]; omega
        by_cases h1 : x = 1
        · subst h1
          have HNB := Lib.hid ((HBK.out.set hlt 0).congr (HSTEP.out 0 (by rw [HTF.out HX0.out]; rfl)))
          have HO2 := Lib.hid (ownsRow_setCell_other (a := ⟨g, j, none⟩) HO.out (fun h => by have := (HO.out.lt g h).1; omega) (.int .i64 0))
          have HG2 := Lib.hid (HG.out.trans (grown_set wr g j (.int .i64 0)))
          have HYS := Lib.hid (HYES.out rfl)
          clear h0 HBK HYES HNO
          go_upto_region 7 with fail
          generalize wr.setCell ⟨g, j, none⟩ (.int .i64 0) = WS at *
          go_wp2_with (at_builtin; refine wpList_append_src (WS.alloc (.cells #[.int .i64 (j : Int)] 3)) rfl (.tmp 25) (.tmp 27) 27 rfl w.heap.size 3 i0 (.int .i64 0) 1 8 Try.underlying27 Hi.out Hz0.out Hz1.out Hz2.out rfl (by decide) v (overTo L j).length ((overTo L j).map (Value.int .i64)) rfl (World.ownsRow.alloc HO2.out _) (some ⟨WS.heap.size, 0, none⟩) 1 1 [.int .i64 (j : Int)] rfl rfl (fun h => by cases h) (one_src3 (one_new3 _ _ _)) (fun u hu => by simp at hu; subst hu; rfl) (by unfold maxLen; omega) (by omega) (by have := HG2.out.size; rw [World.size_alloc]; omega) ?_; intro v5 w5 hown4 hg4 hv4; have HO5 := Lib.hid hown4; have HG5 := Lib.hid hg4; clear hown4 hg4 hv4)
          go_roundw
          case rel =>
            refine ⟨j + 1, v5, by omega, rfl, by go_num, ?_, HNB.out.of_block ?_, ?_⟩
            · show World.ownsRow _ _ _ _ _ _ _
              rw [HYS.out, List.length_append, List.map_append]
              exact HO5.out
            · have hgw : g < WS.heap.size := HNB.out.lt
              rw [HG5.out.block g (by rw [World.size_alloc]; omega) (fun e => by have := (HO2.out.lt _ e.symm).1; omega), Below.heap_alloc _ _ _ hgw]
            · exact grown_over HG2.out HG5.out (fun j hj => (HO2.out.lt j hj).1)
          case measure => simp [intOf]; omega
        · have hx1 : (x == 1) = false := by rw [beq_eq_false_iff_ne]; exact h1
          have HX1 := Lib.hid h1
          have HNB := Lib.hid ((HBK.out.set hlt (x - 1)).congr (HSTEP.out (x - 1) (HTF.out HX0.out).symm))
          have HO2 := Lib.hid (ownsRow_setCell_other (a := ⟨g, j, none⟩) HO.out (fun h => by have := (HO.out.lt g h).1; omega) (.int .i64 (x - 1)))
          have HG2 := Lib.hid (HG.out.trans (grown_set wr g j (.int .i64 (x - 1))))
          have HYS := Lib.hid (HNO.out h1)
          clear h0 h1 HBK HYES HNO
          go_upto_region 7 with fail
          generalize wr.setCell ⟨g, j, none⟩ (.int .i64 (x - 1)) = WS at *
          go_wp2_with fail
          go_roundw
          case rel => exact ⟨j + 1, v, by omega, rfl, by go_num, by show World.ownsRow _ _ _ _ _ _ _; rw [HYS.out]; exact HO2.out, HNB, HG2⟩
          case measure => simp [intOf]; omega
    · have hj5 : j = 5 := by omega
      subst hj5
      go_wp2_with fail
      go_ret
      exact ⟨v, rfl, intRow_own HO.out (by have := overTo_len L 5; omega), HBK.out.congr (fun t ht => by unfold tickTo tickL; rw [if_pos ht]), HG.out⟩
end Go.Proofs.Ytammcohjddjaeaa
