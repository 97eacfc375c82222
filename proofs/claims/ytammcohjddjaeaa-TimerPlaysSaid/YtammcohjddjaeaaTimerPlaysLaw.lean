/- The walk of the law TimerPlays. Conditions: the acts lie as rows do. -/
import Derived.Test.YtammcohjddjaeaaTimerAloneLaw
import Derived.Test.YtammcohjddjaeaaThreeRow
import Derived.Deep.OwnRows
import Derived.Deep.CutBlock
import Derived.Test.YtammcohjddjaeaaAppendSrc
namespace Go.Proofs.Ytammcohjddjaeaa
open Go.RowKit Go.Deep
set_option linter.unusedVariables false
set_option linter.unusedSimpArgs false

/-- The law's own row of five. -/
def LeftAt (w : World) (g : Nat) (L : Nat → Int) : Prop := w.heap[g]? = some (.cells (arrT L) 3 (0, 0))
theorem LeftAt.congr {w : World} {g : Nat} {L L' : Nat → Int} (h : LeftAt w g L) (e : ∀ t, t < 5 → L t = L' t) : LeftAt w g L' := by
  unfold LeftAt arrT at *
  rw [h, e 0 (by decide), e 1 (by decide), e 2 (by decide), e 3 (by decide), e 4 (by decide)]
theorem LeftAt.cell {w : World} {g : Nat} {L : Nat → Int} (h : LeftAt w g L) {t : Nat} (ht : t < 5) : w.cell? ⟨g, t, none⟩ = some (.int .i64 (L t)) := by
  rw [cell_of_row w g t _ _ (0, 0) h]
  rcases five ht with rfl | rfl | rfl | rfl | rfl <;> rfl
theorem LeftAt.free {w : World} {g : Nat} {L : Nat → Int} (h : LeftAt w g L) (t : Nat) : w.frozen? ⟨g, t, none⟩ = false := by
  unfold World.frozen?
  rw [h]
  simp
theorem LeftAt.set {w : World} {g : Nat} {L : Nat → Int} (h : LeftAt w g L) {t : Nat} (ht : t < 5) (x : Int) : LeftAt (w.setCell ⟨g, t, none⟩ (.int .i64 x)) g (upd L t x) := by
  unfold LeftAt
  rw [setCell_eq_setRow w g t _ _ _ _ h, setRow_heap w g _ _ _ _ h]
  congr 2
  rcases five ht with rfl | rfl | rfl | rfl | rfl <;> rfl
theorem LeftAt.lt {w : World} {g : Nat} {L : Nat → Int} (h : LeftAt w g L) : g < w.heap.size := (Array.getElem?_eq_some_iff.1 h).1
theorem LeftAt.of_block {w w' : World} {g : Nat} {L : Nat → Int} (h : LeftAt w g L) (e : w'.heap[g]? = w.heap[g]?) : LeftAt w' g L := e.trans h
/-- The act at hand. -/
def ActAt (w : World) (g : Nat) (k t n : Int) : Prop := w.heap[g]? = some (.cells #[.int .i64 k, .int .i64 t, .int .i64 n] 29 (0, 0))
theorem ActAt.cells {w : World} {g : Nat} {k t n : Int} (h : ActAt w g k t n) : w.cell? ⟨g, 0, none⟩ = some (.int .i64 k) ∧ w.cell? ⟨g, 1, none⟩ = some (.int .i64 t) ∧ w.cell? ⟨g, 2, none⟩ = some (.int .i64 n) :=
  ⟨by rw [cell_of_row w g 0 _ _ (0, 0) h]; rfl, by rw [cell_of_row w g 1 _ _ (0, 0) h]; rfl, by rw [cell_of_row w g 2 _ _ (0, 0) h]; rfl⟩
theorem ActAt.lt {w : World} {g : Nat} {k t n : Int} (h : ActAt w g k t n) : g < w.heap.size := (Array.getElem?_eq_some_iff.1 h).1
theorem ActAt.of_block {w w' : World} {g : Nat} {k t n : Int} (h : ActAt w g k t n) (e : w'.heap[g]? = w.heap[g]?) : ActAt w' g k t n := e.trans h
theorem made5 (z : Value) : madeCells #[z] 5 = #[z, z, z, z, z] := by
  apply Array.ext'
  simp [madeCells, Array.toList_range, List.range_succ, Nat.mod_one]
theorem make5 (w : World) : (Instr.makeSlice 27 (.int .i64 5) (.int .i64 5)).run Try.prog w = .ok (.slice (some ⟨w.heap.size, 0, none⟩) 5 5) (w.alloc (.cells #[.int .i64 0, .int .i64 0, .int .i64 0, .int .i64 0, .int .i64 0] 3)) :=
by
  rw [← made5]
  exact run_make_row' (P := Try.prog) 27 3 (.int .i64 0) 8 Try.underlying27 infoInt0 rfl .i64 .i64 5 (by decide) (by decide) w
theorem left_new (w : World) : LeftAt (w.alloc (.cells #[.int .i64 0, .int .i64 0, .int .i64 0, .int .i64 0, .int .i64 0] 3)) w.heap.size (fun _ => 0) := heap_alloc_new w _

/-- What holds between the acts: the bank at g and the row at gl are one another's like. -/
def Twin (w0 w : World) (g gl : Nat) (L : Nat → Int) : Prop :=
  BankAt w g L ∧ LeftAt w gl L ∧ (∀ t, t < 5 → 0 ≤ L t ∧ L t ≤ 1048576) ∧ g ≠ gl ∧ w0.heap.size ≤ g ∧ w0.heap.size ≤ gl ∧ Below w0.heap.size w0 w

theorem twin_step {w0 w w' : World} {g gl : Nat} {L L' : Nat → Int} (h : Twin w0 w g gl L) (hb : BankAt w' g L') (hk : w.grownBy w' (some g)) (hB : ∀ t, t < 5 → 0 ≤ L' t ∧ L' t ≤ 1048576) (he : ∀ t, t < 5 → L t = L' t) : Twin w0 w' g gl L' := by
  obtain ⟨h1, h2, h3, h4, h5, h6, h7⟩ := h
  exact ⟨hb, (h2.of_block (hk.block gl h2.lt (fun e => by injection e with e; exact h4 e.symm))).congr he, hB, h4, h5, h6, grown_below h7 h5 hk⟩
theorem twin_set {w0 w w' : World} {g gl : Nat} {L L' : Nat → Int} (h : Twin w0 w g gl L) (hb : BankAt w' g L') (hk : w.grownBy w' (some g)) (hB : ∀ t, t < 5 → 0 ≤ L' t ∧ L' t ≤ 1048576) {t : Nat} (ht : t < 5) (x : Int) (he : ∀ i, i < 5 → upd L t x i = L' i) :
    Twin w0 (w'.setCell ⟨gl, t, none⟩ (.int .i64 x)) g gl L' := by
  obtain ⟨h1, h2, h3, h4, h5, h6, h7⟩ := h
  have hl := h2.of_block (hk.block gl h2.lt (fun e => by injection e with e; exact h4 e.symm))
  have hg := grown_set w' gl t (.int .i64 x)
  exact ⟨hb.of_block (hg.block g hb.lt (fun e => by injection e with e; exact h4 e)), (hl.set ht x).congr he, hB, h4, h5, h6, grown_below (grown_below h7 h5 hk) h6 hg⟩
theorem act_step {w w' : World} {g ga : Nat} {K T N : Int} (h : ActAt w ga K T N) (hk : w.grownBy w' (some g)) (hne : g ≠ ga) : ActAt w' ga K T N :=
  h.of_block (hk.block ga h.lt (fun e => by injection e with e; exact hne e.symm))
theorem act_set {w : World} {gl ga : Nat} {K T N : Int} (h : ActAt w ga K T N) (hne : gl ≠ ga) (t : Nat) (v : Value) : ActAt (w.setCell ⟨gl, t, none⟩ v) ga K T N := act_step h (grown_set w gl t v) hne
theorem stop_in {L : Nat → Int} {t : Int} (h : ∀ t, t < 5 → 0 ≤ L t ∧ L t ≤ 1048576) : ∀ i, i < 5 → 0 ≤ stopL L t i ∧ stopL L t i ≤ 1048576 := by
  intro i hi
  have := h i hi
  unfold stopL
  split
  · show 0 ≤ upd L t.toNat 0 i ∧ upd L t.toNat 0 i ≤ 1048576
    unfold upd
    split <;> omega
  · exact this
theorem stop_out {L : Nat → Int} {t : Int} (h : ¬ (0 ≤ t ∧ t < 5)) : ∀ i, i < 5 → L i = stopL L t i := by
  intro i _
  unfold stopL
  rw [if_neg h]
theorem start_out {L : Nat → Int} {t n : Int} (h : ¬ (0 ≤ t ∧ t < 5)) : ∀ i, i < 5 → L i = startL L t n i := by
  intro i _
  unfold startL
  rw [if_neg h]
theorem stop_upd {L : Nat → Int} {t : Nat} (h : t < 5) : ∀ i, i < 5 → upd L t 0 i = stopL L (t : Int) i := by
  intro i _
  unfold stopL
  rw [if_pos (by omega), Int.toNat_natCast]
theorem start_upd {L : Nat → Int} {t : Nat} {n x : Int} (h : t < 5) (hx : x = max 1 (min n 1048576)) : ∀ i, i < 5 → upd L t x i = startL L (t : Int) n i := by
  intro i _
  unfold startL
  rw [if_pos (by omega), Int.toNat_natCast, hx]
theorem below_drewN_t {n : Nat} {w w' : World} (h : Below n w w') (k : Nat) : Below n w (w'.drewN k) := ⟨h.os, h.tape, h.output, h.size, h.block⟩
theorem twin_drewN {w0 w : World} {g gl : Nat} {L : Nat → Int} (h : Twin w0 w g gl L) (n : Nat) : Twin w0 (w.drewN n) g gl L :=
  ⟨h.1, h.2.1, h.2.2.1, h.2.2.2.1, h.2.2.2.2.1, h.2.2.2.2.2.1, below_drewN_t h.2.2.2.2.2.2 n⟩
theorem twin_clear {w0 w w' : World} {g gl : Nat} {L : Nat → Int} (h : Twin w0 w g gl L) (hb : BankAt w' g (fun _ => 0)) (hk : w.grownBy w' (some g)) :
    Twin w0 (w'.alloc (.cells #[.int .i64 0, .int .i64 0, .int .i64 0, .int .i64 0, .int .i64 0] 3)) g w'.heap.size (fun _ => 0) := by
  obtain ⟨h1, h2, h3, h4, h5, h6, h7⟩ := h
  have hw := grown_below h7 h5 hk
  exact ⟨hb.of_block (Below.heap_alloc _ _ _ hb.lt), left_new w', zero_in, by have := hb.lt; omega, h5, hw.size, hw.alloc hw.size _⟩

set_option maxHeartbeats 2000000 in
set_option maxRecDepth 100000 in
theorem walk_TimerPlays (A : Option Addr) (len cap : Nat) (w : World) (ps : Nat → Int × Int × Int) (h : ThreeRow w A len ps) :
    Calls Try.prog 3 #[.slice A len cap] w fun e w' => e = .returned (.bool true) ∧ Below w.heap.size w w' := by
  have HI := Lib.hid h
  have hlen := h.1
  unfold maxLen at hlen
  clear h
  have hmk := make5
  go_enter Try.func3, Try.ntmps3
  go_wp2_with fail
  refine (tim_awake w).mono ?_
  rintro e w1 ⟨rfl, hb1⟩
  have HW1 := Lib.hid (hb1.alloc hb1.size (.cells #[.int .i64 0, .int .i64 0, .int .i64 0, .int .i64 0, .int .i64 0] 26))
  have HB1 := Lib.hid (bank_new w1)
  have HG : Hid (w.heap.size ≤ w1.heap.size) := hb1.size
  clear hb1
  go_upto_region 4 with fail
  generalize w1.alloc (.cells #[.int .i64 0, .int .i64 0, .int .i64 0, .int .i64 0, .int .i64 0] 26) = w2 at *
  generalize w1.heap.size = g at *
  have HT1 : Hid (Twin w (w2.alloc (.cells #[.int .i64 0, .int .i64 0, .int .i64 0, .int .i64 0, .int .i64 0] 3)) g w2.heap.size (fun _ => 0)) :=
    ⟨HB1.out.of_block (Below.heap_alloc _ _ _ HB1.out.lt), left_new w2, zero_in, by have := HB1.out.lt; omega, HG.out, HW1.out.size, HW1.out.alloc HW1.out.size _⟩
  clear HB1 HW1 HG
  go_upto_region 5 with fail
  generalize w2.alloc (.cells #[.int .i64 0, .int .i64 0, .int .i64 0, .int .i64 0, .int .i64 0] 3) = w3 at *
  generalize w2.heap.size = gl0 at *
  go_wp2_with fail
  go_loopw [4, 5] (fun l i wr => ∃ (j gl : Nat) (L : Nat → Int), j ≤ 150 ∧ l = .slice (some ⟨gl, 0, none⟩) 5 5 ∧ i = .int .i64 (j : Int) ∧ Hid (Twin w wr g gl L)) (fun _ i _ => 150 - (intOf i).toNat)
  case atStart => exact ⟨0, gl0, _, by omega, rfl, rfl, HT1⟩
  case round =>
    clear HT1
    obtain ⟨j, gl, L, hj, rfl, rfl, HT⟩ := hrel
    have hcase : (j < len ∧ j < 150) ∨ ¬ (j < len ∧ j < 150) := by omega
    rcases hcase with ⟨h1, h2⟩ | hno
    · have d1 : decide (j < len) = true := decide_eq_true h1
      have d2 : decide ((j : Int) < 150) = true := by simp only [decide_eq_true_eq]; omega
      obtain ⟨b, off, rfl, hbl, hk0, ht0, hn0, hk, ht, hn⟩ := (HI.out.below HT.out.2.2.2.2.2.2).get h1
      have hj1 : (j : Int) < (len : Int) := by omega
      have hj0 : (0 : Int) ≤ (j : Int) := by omega
      generalize ps j = p at *
      obtain ⟨K, T, N⟩ := p
      simp only at hk0 ht0 hn0
      have hT : In64 T := ht
      have hN : In64 N := hn
      clear hk ht hn
      unfold In64 at hT hN
      go_upto_region 9 with fail
      have HA : Hid (ActAt (wr.alloc (.cells #[.int .i64 K, .int .i64 T, .int .i64 N] 29)) wr.heap.size K T N) := heap_alloc_new wr _
      have HT2 : Hid (Twin w (wr.alloc (.cells #[.int .i64 K, .int .i64 T, .int .i64 N] 29)) g gl L) :=
        ⟨HT.out.1.of_block (Below.heap_alloc _ _ _ HT.out.1.lt), HT.out.2.1.of_block (Below.heap_alloc _ _ _ HT.out.2.1.lt), HT.out.2.2.1, HT.out.2.2.2.1, HT.out.2.2.2.2.1, HT.out.2.2.2.2.2.1, HT.out.2.2.2.2.2.2.alloc HT.out.2.2.2.2.2.2.size _⟩
      have HGA : Hid (g ≠ wr.heap.size ∧ gl ≠ wr.heap.size) := ⟨by have := HT.out.1.lt; omega, by have := HT.out.2.1.lt; omega⟩
      clear HT hk0 ht0 hn0
      generalize wr.alloc (.cells #[.int .i64 K, .int .i64 T, .int .i64 N] 29) = w4 at *
      generalize wr.heap.size = ga at *
      obtain ⟨ck, ct, cn⟩ := HA.out.cells
      have hways : (decide (0 ≤ T) = true ∧ decide (T < 5) = true ∧ (0 ≤ T ∧ T < 5)) ∨ (decide (0 ≤ T) = true ∧ decide (T < 5) = false ∧ ¬ (0 ≤ T ∧ T < 5)) ∨ (decide (0 ≤ T) = false ∧ ¬ (0 ≤ T ∧ T < 5)) := by
        by_cases h1 : 0 ≤ T
        · by_cases h2 : T < 5
          · exact .inl ⟨decide_eq_true h1, decide_eq_true h2, h1, h2⟩
          · exact .inr (.inl ⟨decide_eq_true h1, decide_eq_false h2, fun h => h2 h.2⟩)
        · exact .inr (.inr ⟨decide_eq_false h1, fun h => h1 h.1⟩)
      go_cut [7] (fun b w' => ∃ q : Bool, b = .bool q ∧ ((q = true ∧ 0 ≤ T ∧ T < 5) ∨ (q = false ∧ ¬ (0 ≤ T ∧ T < 5))) ∧ w4 = w')
      case first =>
        rcases hways with ⟨e1, e2, h3⟩ | ⟨e1, e2, h3⟩ | ⟨e1, h3⟩
        · go_wp2_with fail
          go_meet
          exact ⟨true, rfl, .inl ⟨rfl, h3⟩, rfl⟩
        · go_wp2_with fail
          go_meet
          exact ⟨false, rfl, .inr ⟨rfl, h3⟩, rfl⟩
        · go_wp2_with fail
          go_meet
          exact ⟨false, rfl, .inr ⟨rfl, h3⟩, rfl⟩
      case rest =>
        clear hways
        obtain ⟨q, rfl, hq, rfl⟩ := hcut
        have HQ := Lib.hid hq
        clear hq d1 d2
        go_upto_block 2 with fail
        go_cut [4] (fun l w' => ∃ (gl' : Nat) (L' : Nat → Int), l = .slice (some ⟨gl', 0, none⟩) 5 5 ∧ Hid (Twin w w' g gl' L') ∧ Hid (ActAt w' ga K T N))
        case first =>
          by_cases k1 : K = 1
          · subst k1
            clear hmk
            go_wp2_with fail
            refine (tim_stop g T L w4 HT2.out.1).mono ?_
            rintro e w5 ⟨rfl, hb5, hk5⟩
            have HA5 := Lib.hid (act_step HA.out hk5 HGA.out.1)
            obtain ⟨ck5, ct5, cn5⟩ := HA5.out.cells
            clear ck ct cn
            rcases HQ.out with ⟨rfl, h3, h4⟩ | ⟨rfl, h3⟩
            · obtain ⟨t, rfl⟩ : ∃ t : Nat, T = (t : Int) := ⟨T.toNat, by omega⟩
              have ht5 : t < 5 := by omega
              have hgl := HT2.out.2.1.of_block (hk5.block gl HT2.out.2.1.lt (fun e => by injection e with e; exact HT2.out.2.2.2.1 e.symm))
              have hc := hgl.cell ht5
              have hf := hgl.free t
              have HT5 := Lib.hid (twin_set HT2.out hb5 hk5 (stop_in HT2.out.2.2.1) ht5 0 (stop_upd ht5))
              have HA6 := Lib.hid (act_set HA5.out HGA.out.2 t (.int .i64 0))
              clear hgl hb5 hk5
              go_wp2_with fail
              go_meet
              exact ⟨gl, _, rfl, HT5, HA6⟩
            · have HT5 := Lib.hid (twin_step HT2.out hb5 hk5 (stop_in HT2.out.2.2.1) (stop_out h3))
              clear hb5 hk5
              go_wp2_with fail
              go_meet
              exact ⟨gl, _, rfl, HT5, HA5⟩
          · have b1 : (K == 1) = false := by rw [beq_eq_false_iff_ne]; exact k1
            by_cases k2 : K = 2
            · subst k2
              clear hmk ck ct cn
              obtain ⟨i0, hi, hz0, hz1, hz2⟩ := info_parts infoInt0
              have Hi := Lib.hid hi
              have Hz0 := Lib.hid hz0
              have Hz1 := Lib.hid hz1
              have Hz2 := Lib.hid hz2
              clear hi hz0 hz1 hz2
              have hck := HA.out.cells.1
              have hgl := HT2.out.2.1.lt
              go_upto_region 20 with fail
              clear hck
              go_wp2_with fail
              go_loopw [8, 70] (fun o i wr => ∃ (m : Nat) (v : Value), m ≤ 5 ∧ v = o ∧ i = .int .i64 m ∧ Hid (wr.ownsRow w4.heap.size 3 1 v (overTo L m).length ((overTo L m).map (Value.int .i64))) ∧ Hid (LeftAt wr gl (tickTo L m)) ∧ Hid (w4.grownBy wr (some gl))) (fun _ i _ => 5 - (intOf i).toNat)
              case atStart => exact ⟨0, _, by omega, rfl, rfl, World.ownsRow_nil w4 _ _ _, HT2.out.2.1.congr (fun t _ => by unfold tickTo; rw [if_neg (by omega)]), grown_refl _ _⟩
              case round =>
                obtain ⟨m, v, hm, rfl, rfl, HO, HL, HG⟩ := hrel
                by_cases hlt : m < 5
                · have hb := HT2.out.2.2.1 m hlt
                  have hc := HL.out.cell hlt
                  have hf := HL.out.free m
                  have htl : tickTo L m m = L m := by unfold tickTo; rw [if_neg (by omega)]
                  rw [htl] at hc
                  have htl2 := htl
                  have HYES := Lib.hid (fun h => overTo_yes (L := L) (j := m) h)
                  have HNO := Lib.hid (fun h => overTo_no (L := L) (j := m) h)
                  have hol := overTo_len L m
                  have hstep : ∀ x, x = tickF (L m) → ∀ t, t < 5 → upd (tickTo L m) m x t = tickTo L (m + 1) t := by
                    intro x hx t ht
                    unfold upd tickTo
                    by_cases e : t = m
                    · subst e; rw [if_pos rfl, if_pos (by omega), hx]
                    · rw [if_neg e]
                      by_cases e2 : t < m
                      · rw [if_pos e2, if_pos (by omega)]
                      · rw [if_neg e2, if_neg (by omega)]
                  have HSTEP := Lib.hid hstep
                  have htf : ∀ x, x = L m → tickF (L m) = if x = 0 then 0 else x - 1 := fun x e => by unfold tickF; rw [e]
                  have HTF := Lib.hid htf
                  clear hstep htf htl
                  have HTL := Lib.hid htl2
                  clear htl2
                  have HO2 := Lib.hid (fun x => ownsRow_setCell_other (a := ⟨gl, m, none⟩) HO.out (fun h => by have := (HO.out.lt gl h).1; omega) (.int .i64 x))
                  have HG2 := Lib.hid (fun x => HG.out.trans (grown_set wr gl m (.int .i64 x)))
                  have HL2 := Lib.hid (fun x hx => (HL.out.set hlt x).congr (HSTEP.out x hx))
                  have hj0 : (0 : Int) ≤ (m : Int) := by omega
                  have hj5 : (m : Int) < 5 := by omega
                  generalize hLj : L m = x at *
                  have HLJ := Lib.hid hLj
                  clear hLj
                  by_cases h1 : x = 1
                  · subst h1
                    have HYS := Lib.hid (HYES.out rfl)
                    clear HO2 HG2 HL2 HYES HNO
                    go_wp2_with (at_builtin; refine wpList_append_src (wr.alloc (.cells #[.int .i64 (m : Int)] 3)) rfl (.tmp 78) (.tmp 80) 27 rfl w4.heap.size 3 i0 (.int .i64 0) 1 8 Try.underlying27 Hi.out Hz0.out Hz1.out Hz2.out rfl (by decide) v (overTo L m).length ((overTo L m).map (Value.int .i64)) rfl (World.ownsRow.alloc HO.out _) (some ⟨wr.heap.size, 0, none⟩) 1 1 [.int .i64 (m : Int)] rfl rfl (fun h => by cases h) (one_src3 (one_new3 _ _ _)) (fun u hu => by simp at hu; subst hu; rfl) (by unfold maxLen; omega) (by omega) (by have := HG.out.size; rw [World.size_alloc]; omega) ?_; intro v5 w5 hown4 hg4 hv4; have HO5 := Lib.hid hown4; have HG5 := Lib.hid (grown_over HG.out hg4 (fun j hj => (HO.out.lt j hj).1)); have HL5 : Hid (LeftAt w5 gl (tickTo L m)) := HL.out.of_block (by rw [hg4.block gl (by rw [World.size_alloc]; have := HL.out.lt; omega) (fun e => by have := (HO.out.lt _ e.symm).1; omega), Below.heap_alloc _ _ _ HL.out.lt]); have hc5 := HL5.out.cell hlt; have hf5 := HL5.out.free m; rw [HTL.out] at hc5; clear hown4 hg4 hv4)
                    refine ⟨⟨m + 1, v5, by omega, rfl, by go_num, ?_, (HL5.out.set hlt 0).congr (HSTEP.out 0 (by rfl)), HG5.out.trans (grown_set w5 gl m (.int .i64 0))⟩, by simp [intOf]; omega⟩
                    show World.ownsRow _ _ _ _ _ _ _
                    rw [HYS.out, List.length_append, List.map_append]
                    exact ownsRow_setCell_other (a := ⟨gl, m, none⟩) HO5.out (fun h => by have := (HO5.out.lt gl h).1; omega) (.int .i64 0)
                  · have hx1 : (x == 1) = false := by rw [beq_eq_false_iff_ne]; exact h1
                    have HYS := Lib.hid (HNO.out h1)
                    go_wp2_with fail
                    go_roundw
                    case rel => exact ⟨m + 1, v, by omega, rfl, by go_num, by show World.ownsRow _ _ _ _ _ _ _; rw [HYS.out]; exact HO2.out _, HL2.out _ (by unfold tickF; split <;> split <;> omega), HG2.out _⟩
                    case measure => simp [intOf]; omega
                · have hm5 : m = 5 := by omega
                  subst hm5
                  have HTK := Lib.hid (tim_tick g L wr (HT2.out.1.of_block (HG.out.block g HT2.out.1.lt (fun e => by injection e with e; exact HT2.out.2.2.2.1 e))) HT2.out.2.2.1)
                  go_wp2_with fail
                  refine HTK.out.mono ?_
                  rintro e w5 ⟨v2, rfl, hr5, hb5, hk5⟩
                  have HRS := Lib.hid (ref_same v2 v (overTo L 5) (overTo L 5) w5 hr5 (intRow_own (HO.out.kept hk5 (.inr (fun e => by have := (HO.out.lt g e).1; have := HT2.out.1.lt; omega))) (by have := overTo_len L 5; omega)))
                  rw [show sameB (overTo L 5) (overTo L 5) = true by simp [sameB]] at HRS
                  have HT5 : Hid (Twin w w5 g gl (tickL L)) := by
                    obtain ⟨t1, t2, t3, t4, t5, t6, t7⟩ := HT2.out
                    exact ⟨hb5, (HL.out.of_block (hk5.block gl HL.out.lt (fun e => by injection e with e; exact t4 e.symm))).congr (fun t ht => by unfold tickTo tickL; rw [if_pos ht]), tick_in t3, t4, t5, t6, grown_below (grown_below t7 t6 HG.out) t5 hk5⟩
                  have HA5 := Lib.hid (act_step (act_step HA.out HG.out HGA.out.2) hk5 HGA.out.1)
                  clear hb5 hk5 hr5 HO HL HG HTK
                  go_wp2_with fail
                  refine HRS.out.mono ?_
                  rintro e w6 ⟨rfl, qn, rfl⟩
                  go_wp2_with fail
                  go_meet
                  exact ⟨gl, _, rfl, twin_drewN HT5.out qn, HA5⟩
            · have b2 : (K == 2) = false := by rw [beq_eq_false_iff_ne]; exact k2
              by_cases k3 : K = 3
              · subst k3
                go_wp2_with fail
                refine (tim_clear g L w4 HT2.out.1).mono ?_
                rintro e w5 ⟨rfl, hb5, hk5⟩
                have HA5 := Lib.hid (act_step HA.out hk5 HGA.out.1)
                have HA6 : Hid (ActAt (w5.alloc (.cells #[.int .i64 0, .int .i64 0, .int .i64 0, .int .i64 0, .int .i64 0] 3)) ga 3 T N) := HA5.out.of_block (Below.heap_alloc _ _ _ HA5.out.lt)
                have HT5 := Lib.hid (twin_clear HT2.out hb5 hk5)
                clear hb5 hk5 ck ct cn
                go_wp2_with fail
                go_meet
                exact ⟨w5.heap.size, _, rfl, HT5, HA6⟩
              · have b3 : (K == 3) = false := by rw [beq_eq_false_iff_ne]; exact k3
                clear hmk
                go_wp2_with fail
                refine (tim_start g T N L w4 HT2.out.1).mono ?_
                rintro e w5 ⟨rfl, hb5, hk5⟩
                have HA5 := Lib.hid (act_step HA.out hk5 HGA.out.1)
                obtain ⟨ck5, ct5, cn5⟩ := HA5.out.cells
                clear ck ct cn
                rcases HQ.out with ⟨rfl, h3, h4⟩ | ⟨rfl, h3⟩
                · obtain ⟨t, rfl⟩ : ∃ t : Nat, T = (t : Int) := ⟨T.toNat, by omega⟩
                  have ht5 : t < 5 := by omega
                  have hgl := HT2.out.2.1.of_block (hk5.block gl HT2.out.2.1.lt (fun e => by injection e with e; exact HT2.out.2.2.2.1 e.symm))
                  have hc := hgl.cell ht5
                  have hf := hgl.free t
                  have HT5 := Lib.hid (fun (x : Int) (hx : x = max 1 (min N 1048576)) => twin_set HT2.out hb5 hk5 (start_in HT2.out.2.2.1) ht5 x (start_upd ht5 hx))
                  have HA6 := Lib.hid (fun (x : Int) => act_set HA5.out HGA.out.2 t (.int .i64 x))
                  clear hgl hb5 hk5
                  go_wp2_with fail
                  all_goals go_meet
                  all_goals exact ⟨gl, _, rfl, HT5.out _ (by omega), HA6.out _⟩
                · have HT5 := Lib.hid (twin_step HT2.out hb5 hk5 (start_in HT2.out.2.2.1) (start_out h3))
                  clear hb5 hk5
                  go_wp2_with fail
                  go_meet
                  exact ⟨gl, _, rfl, HT5, HA5⟩
        case rest =>
          clear HT2 HA ck ct cn hmk
          obtain ⟨gl2, L2, rfl, HT3, HA3⟩ := hcut
          obtain ⟨_, ct, _⟩ := HA3.out.cells
          have hbig := HT3.out.2.2.1
          have HNX := Lib.hid (tim_next g L2 _ HT3.out.1 hbig)
          have HN : Hid (∀ j, nextTo L2 (j + 1) = if 0 < L2 j ∧ (nextTo L2 j = 0 ∨ L2 j < nextTo L2 j) then L2 j else nextTo L2 j) := fun j => rfl
          clear hbig
          go_upto_region 33 with fail
          clear ct
          go_wp2_with fail
          go_loopw [10, 102] (fun nx i wr => ∃ m : Nat, m ≤ 5 ∧ nx = .int .i64 (nextTo L2 m) ∧ i = .int .i64 (m : Int) ∧ wc = wr) (fun _ i _ => 5 - (intOf i).toNat)
          case atStart => exact ⟨0, by omega, rfl, rfl, rfl⟩
          case round =>
            obtain ⟨m, hm, rfl, rfl, rfl⟩ := hrel
            by_cases hlt : m < 5
            · have HLF := Lib.hid (tim_left g (m : Int) L2 wc HT3.out.1)
              have HRF := Lib.hid (tim_runs g (m : Int) L2 wc HT3.out.1)
              have hlv : leftV L2 (m : Int) = L2 m := by
                unfold leftV
                rw [if_pos (by omega), Int.toNat_natCast]
              rw [hlv] at HLF HRF
              clear hlv
              have hc := HT3.out.2.1.cell hlt
              have hj0 : (0 : Int) ≤ (m : Int) := by omega
              have hj5 : (m : Int) < 5 := by omega
              have HNJ := Lib.hid (HN.out m)
              generalize nextTo L2 m = n at *
              generalize L2 m = x at *
              by_cases d1 : 0 < x
              · have e1 : decide (0 < x) = true := decide_eq_true d1
                by_cases d2 : n = 0
                · have e2 : (n == 0) = true := by rw [beq_iff_eq]; exact d2
                  have HNK := Lib.hid (HNJ.out.trans (if_pos ⟨d1, .inl d2⟩))
                  clear d1 d2
                  go_wp2_with fail
                  refine HLF.out.mono ?_
                  rintro e w5 ⟨rfl, rfl⟩
                  go_wp2_with fail
                  refine HRF.out.mono ?_
                  rintro e w6 ⟨rfl, rfl⟩
                  go_wp2_with fail
                  go_roundw
                  case rel => exact ⟨m + 1, by omega, by rw [HNK.out], by go_num, by first | rfl | trivial⟩
                  case measure => simp [intOf]; omega
                · have e2 : (n == 0) = false := by rw [beq_eq_false_iff_ne]; exact d2
                  by_cases d3 : x < n
                  · have e3 : decide (x < n) = true := decide_eq_true d3
                    have HNK := Lib.hid (HNJ.out.trans (if_pos ⟨d1, .inr d3⟩))
                    clear d1 d2 d3
                    go_wp2_with fail
                    refine HLF.out.mono ?_
                    rintro e w5 ⟨rfl, rfl⟩
                    go_wp2_with fail
                    refine HRF.out.mono ?_
                    rintro e w6 ⟨rfl, rfl⟩
                    go_wp2_with fail
                    go_roundw
                    case rel => exact ⟨m + 1, by omega, by rw [HNK.out], by go_num, by first | rfl | trivial⟩
                    case measure => simp [intOf]; omega
                  · have e3 : decide (x < n) = false := decide_eq_false d3
                    have HNK := Lib.hid (HNJ.out.trans (if_neg (fun h => h.2.elim d2 d3)))
                    clear d1 d2 d3
                    go_wp2_with fail
                    refine HLF.out.mono ?_
                    rintro e w5 ⟨rfl, rfl⟩
                    go_wp2_with fail
                    refine HRF.out.mono ?_
                    rintro e w6 ⟨rfl, rfl⟩
                    go_wp2_with fail
                    go_roundw
                    case rel => exact ⟨m + 1, by omega, by rw [HNK.out], by go_num, by first | rfl | trivial⟩
                    case measure => simp [intOf]; omega
              · have e1 : decide (0 < x) = false := decide_eq_false d1
                have HNK := Lib.hid (HNJ.out.trans (if_neg (fun h => d1 h.1)))
                clear d1
                go_wp2_with fail
                refine HLF.out.mono ?_
                rintro e w5 ⟨rfl, rfl⟩
                go_wp2_with fail
                refine HRF.out.mono ?_
                rintro e w6 ⟨rfl, rfl⟩
                go_wp2_with fail
                go_roundw
                case rel => exact ⟨m + 1, by omega, by rw [HNK.out], by go_num, by first | rfl | trivial⟩
                case measure => simp [intOf]; omega
            · have hm5 : m = 5 := by omega
              subst hm5
              obtain ⟨_, ct, _⟩ := HA3.out.cells
              generalize nextTo L2 5 = nn at *
              have hnn : decide (0 < nn) = true ∨ decide (0 < nn) = false := by cases decide (0 < nn) <;> simp
              have HLF := Lib.hid (tim_left g T L2 wc HT3.out.1)
              have HRF := Lib.hid (tim_runs g T L2 wc HT3.out.1)
              rcases HQ.out with ⟨rfl, h3⟩ | ⟨rfl, h3⟩
              · rcases hnn with e1 | e1
                all_goals
                  rw [e1] at HNX
                  clear h3
                  go_wp2_with fail
                  refine HNX.out.mono ?_
                  rintro e w5 ⟨rfl, rfl⟩
                  go_wp2_with fail
                  go_roundw
                case rel => exact ⟨j + 1, gl2, L2, by omega, rfl, by go_num, HT3⟩
                case measure => simp [intOf]; omega
                case rel => exact ⟨j + 1, gl2, L2, by omega, rfl, by go_num, HT3⟩
                case measure => simp [intOf]; omega
              · have hlv : leftV L2 T = 0 := by
                  unfold leftV
                  rw [if_neg h3]
                rw [hlv] at HLF HRF
                rw [show decide (0 < (0 : Int)) = false from rfl] at HRF
                clear h3 hlv
                rcases hnn with e1 | e1
                all_goals
                  rw [e1] at HNX
                  go_wp2_with fail
                  refine HNX.out.mono ?_
                  rintro e w5 ⟨rfl, rfl⟩
                  go_wp2_with fail
                  refine HLF.out.mono ?_
                  rintro e w6 ⟨rfl, rfl⟩
                  go_wp2_with fail
                  refine HRF.out.mono ?_
                  rintro e w7 ⟨rfl, rfl⟩
                  go_wp2_with fail
                  go_roundw
                case rel => exact ⟨j + 1, gl2, L2, by omega, rfl, by go_num, HT3⟩
                case measure => simp [intOf]; omega
                case rel => exact ⟨j + 1, gl2, L2, by omega, rfl, by go_num, HT3⟩
                case measure => simp [intOf]; omega
    · have d12 : (decide (j < len) = true ∧ decide ((j : Int) < 150) = false) ∨ decide (j < len) = false := by
        by_cases h1 : j < len
        · left; exact ⟨decide_eq_true h1, by simp only [decide_eq_false_iff_not]; omega⟩
        · right; exact decide_eq_false h1
      clear hno
      rcases d12 with ⟨d1, d2⟩ | d1
      all_goals
        go_wp2_with fail
        go_ret
        exact ⟨rfl, HT.out.2.2.2.2.2.2⟩
end Go.Proofs.Ytammcohjddjaeaa
