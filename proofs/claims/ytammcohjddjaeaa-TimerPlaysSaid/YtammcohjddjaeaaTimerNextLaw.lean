/- The walk of the law TimerNext. Conditions: the slice of numbers lies as one does. -/
import Derived.Test.YtammcohjddjaeaaTimAwake
import Derived.Test.YtammcohjddjaeaaIntIn
namespace Go.Proofs.Ytammcohjddjaeaa
open Go.RowKit
set_option linter.unusedVariables false
set_option linter.unusedSimpArgs false

def dropL (L : Nat → Int) (k : Nat) : Nat → Int := fun t => if L t ≤ (k : Int) then 0 else L t - k
theorem drop_tick (L : Nat → Int) (k t : Nat) (h : 0 ≤ L t) : tickL (dropL L k) t = dropL L (k + 1) t := by
  unfold tickL tickF dropL
  by_cases a : L t ≤ (k : Int)
  · rw [if_pos a, if_pos rfl, if_pos (by omega)]
  · rw [if_neg a, if_neg (by omega)]
    by_cases b : L t ≤ ((k + 1 : Nat) : Int)
    · rw [if_pos b]; omega
    · rw [if_neg b]; omega
theorem drop_zero (L : Nat → Int) (t : Nat) (h : 0 ≤ L t) : dropL L 0 t = L t := by
  unfold dropL
  split <;> omega
theorem drop_in {L : Nat → Int} (k : Nat) (h : ∀ t, t < 5 → 0 ≤ L t ∧ L t ≤ 50) : ∀ t, t < 5 → 0 ≤ dropL L k t ∧ dropL L k t ≤ 50 := by
  intro t ht
  have := h t ht
  unfold dropL
  split <;> omega
theorem over_none {L : Nat → Int} (h : ∀ t, t < 5 → L t ≠ 1) : overTo L 5 = [] := by
  unfold overTo
  rw [List.filter_eq_nil_iff.2 (fun t ht => by simpa using h t (by simpa using ht))]
  rfl
theorem over_some {L : Nat → Int} {t : Nat} (ht : t < 5) (h : L t = 1) : 0 < (overTo L 5).length := by
  unfold overTo
  rw [List.length_map]
  apply List.length_pos_iff.2
  intro e
  have := List.filter_eq_nil_iff.1 e t (by simpa using ht)
  simp [h] at this
def cntL (L : Nat → Int) : Nat := ((List.range 5).filter fun t => decide (0 < L t)).length
theorem cnt_le (L : Nat → Int) : cntL L ≤ 5 := by
  unfold cntL
  exact Nat.le_trans (List.length_filter_le _ _) (by rw [List.length_range]; exact Nat.le_refl _)
theorem cnt_zero {L : Nat → Int} (h : cntL L = 0) {t : Nat} (ht : t < 5) : ¬ 0 < L t := by
  unfold cntL at h
  have := List.filter_eq_nil_iff.1 (List.eq_nil_of_length_eq_zero h) t (by simpa using ht)
  simpa using this
theorem cnt_drop {L : Nat → Int} {n t : Nat} (ht : t < 5) (h0 : 0 < n) (h : L t = (n : Int)) : cntL (dropL L n) + 1 ≤ cntL L := by
  unfold cntL
  have hs : ((List.range 5).filter fun i => decide (0 < dropL L n i)) = ((List.range 5).filter fun t => decide (0 < L t)).filter fun i => decide ((n : Int) < L i) := by
    rw [List.filter_filter]
    apply List.filter_congr
    intro i _
    unfold dropL
    by_cases a : L i ≤ (n : Int)
    · rw [if_pos a]; simp; omega
    · rw [if_neg a]
      rw [decide_eq_true (show 0 < L i - (n : Int) by omega), decide_eq_true (show 0 < L i by omega), decide_eq_true (show (n : Int) < L i by omega)]
      rfl
  rw [hs]
  apply Nat.succ_le_of_lt
  apply List.length_filter_lt_length_iff_exists.2
  refine ⟨t, List.mem_filter.2 ⟨by simpa using ht, by simp; omega⟩, by simp; omega⟩

theorem start50 {L : Nat → Int} {t n : Int} (h : ∀ t, t < 5 → 0 ≤ L t ∧ L t ≤ 50) (hn : n ≤ 50) : ∀ i, i < 5 → 0 ≤ startL L t n i ∧ startL L t n i ≤ 50 := by
  intro i hi
  have := h i hi
  unfold startL
  split
  · unfold upd
    split
    · omega
    · exact this
  · exact this

theorem start50_of {w : World} {g : Nat} {L : Nat → Int} {t n : Int} (hb : BankAt w g (startL L t n)) (h : ∀ t, t < 5 → 0 ≤ L t ∧ L t ≤ 50) (hn : n ≤ 50) : ∀ i, i < 5 → 0 ≤ startL L t n i ∧ startL L t n i ≤ 50 := start50 h hn

set_option maxHeartbeats 2000000 in
set_option maxRecDepth 100000 in
theorem walk_TimerNext (A : Option Addr) (len cap : Nat) (w : World) (f : Nat → Int) (h : IntIn w A len f) :
    Calls Try.prog 5 #[.slice A len cap] w fun e w' => e = .returned (.bool true) ∧ Below w.heap.size w w' := by
  have HI := Lib.hid h
  have hlen := h.1
  unfold maxLen at hlen
  clear h
  go_enter Try.func5, Try.ntmps5
  go_wp2_with fail
  refine (tim_awake w).mono ?_
  rintro e w1 ⟨rfl, hb1⟩
  have HW1 := Lib.hid (hb1.alloc hb1.size (.cells #[.int .i64 0, .int .i64 0, .int .i64 0, .int .i64 0, .int .i64 0] 26))
  have HB1 := Lib.hid (bank_new w1)
  have HG : Hid (w.heap.size ≤ w1.heap.size) := hb1.size
  clear hb1
  go_upto_region 4 with fail
  generalize w1.alloc (.cells #[.int .i64 0, .int .i64 0, .int .i64 0, .int .i64 0, .int .i64 0] 26) = w2 at *
  generalize w1.heap.size = g at *
  go_wp2_with fail
  go_loopw [4] (fun i wr => ∃ (j : Nat) (L : Nat → Int), j ≤ 5 ∧ i = .int .i64 j ∧ Hid (BankAt wr g L) ∧ Hid (∀ t, t < 5 → 0 ≤ L t ∧ L t ≤ 50) ∧ Hid (Below w.heap.size w wr)) (fun i _ => 5 - (intOf i).toNat)
  case atStart => exact ⟨0, _, by omega, rfl, HB1, fun t _ => ⟨Int.le_refl 0, (by decide : (0 : Int) ≤ 50)⟩, HW1⟩
  case round =>
    obtain ⟨j, L, hj, rfl, HB, HL, HW⟩ := hrel
    have hcase : (j < len ∧ j < 5) ∨ ¬ (j < len ∧ j < 5) := by omega
    rcases hcase with ⟨h1, h2⟩ | hno
    · have d1 : decide (j < len) = true := decide_eq_true h1
      have d2 : decide ((j : Int) < 5) = true := by simp only [decide_eq_true_eq]; omega
      obtain ⟨b, off, rfl, hbl, hc, hlo, hhi⟩ := (HI.out.below HW.out).get h1
      have hj1 : (j : Int) < (len : Int) := by omega
      have hj0 : (0 : Int) ≤ (j : Int) := by omega
      generalize f j = x at *
      go_wp2_with fail
      all_goals refine (tim_start g (j : Int) _ L wr HB.out).mono ?_
      all_goals rintro e w4 ⟨rfl, hb4, hk4⟩
      all_goals have HB4 := Lib.hid hb4
      all_goals have HL4 := Lib.hid (start50_of hb4 HL.out (by omega))
      all_goals have HW4 := Lib.hid (HW.out.grown hk4 HW.out.size (fun q hq => by injection hq with hq; rw [← hq]; exact HG.out))
      all_goals clear hb4 hk4
      all_goals go_wp2_with fail
      all_goals go_roundw
      case rel => exact ⟨j + 1, _, by omega, by go_num, HB4, HL4, HW4⟩
      case measure => simp [intOf]; omega
      case rel => exact ⟨j + 1, _, by omega, by go_num, HB4, HL4, HW4⟩
      case measure => simp [intOf]; omega
      case rel => exact ⟨j + 1, _, by omega, by go_num, HB4, HL4, HW4⟩
      case measure => simp [intOf]; omega
    · have d12 : (decide (j < len) = true ∧ decide ((j : Int) < 5) = false) ∨ decide (j < len) = false := by
        by_cases h1 : j < len
        · left; exact ⟨decide_eq_true h1, by simp only [decide_eq_false_iff_not]; omega⟩
        · right; exact decide_eq_false h1
      clear hno
      obtain ⟨w3, rfl⟩ : ∃ w3, w3 = wr := ⟨_, rfl⟩
      rcases d12 with ⟨d1, d2⟩ | d1
      all_goals
        go_wp2_with fail
        go_loopw [29] (fun i wr => ∃ (r : Nat) (L : Nat → Int), r ≤ 5 ∧ i = .int .i64 r ∧ Hid (BankAt wr g L) ∧ Hid (∀ t, t < 5 → 0 ≤ L t ∧ L t ≤ 50) ∧ Hid (Below w.heap.size w wr) ∧ Hid (cntL L + r ≤ 5)) (fun i _ => 5 - (intOf i).toNat)
        case atStart => exact ⟨0, L, by omega, rfl, HB, HL, HW, cnt_le L⟩
        case round =>
          clear HB HL HW
          obtain ⟨r, L, hr, rfl, HB, HL, HW, HC⟩ := hrel
          have hbig : ∀ t, t < 5 → 0 ≤ L t ∧ L t ≤ 1048576 := fun t ht => by have := HL.out t ht; omega
          have HNX := Lib.hid (tim_next g L wr HB.out hbig)
          have HNI := Lib.hid (nextTo_is L hbig 5 (Nat.le_refl _))
          clear hbig
          generalize nextTo L 5 = n at *
          by_cases hr5 : r < 5
          · rcases HNI.out with ⟨rfl, h0⟩ | ⟨hn, hnb, ⟨t, ht, htn⟩, hall⟩
            · clear h0
              go_wp2_with fail
              refine HNX.out.mono ?_
              rintro e w4 ⟨rfl, rfl⟩
              go_wp2_with fail
              go_ret
              exact ⟨rfl, HW.out⟩
            · obtain ⟨m, rfl⟩ : ∃ m : Nat, n = (m : Int) := ⟨n.toNat, by omega⟩
              have hm50 : m ≤ 50 := by have := (HL.out t ht).2; omega
              have hdn : decide (0 < (m : Int)) = true := decide_eq_true hn
              rw [hdn] at HNX
              have HTN := Lib.hid (And.intro ht htn)
              have HALL := Lib.hid hall
              clear hall htn ht hdn hnb
              obtain ⟨w4, rfl⟩ : ∃ w4, w4 = wr := ⟨_, rfl⟩
              go_wp2_with fail
              refine HNX.out.mono ?_
              rintro e w5 ⟨rfl, rfl⟩
              have hm1 : (1 : Int) ≤ (m : Int) := by omega
              have hmm : (m : Int) ≤ 50 := by omega
              go_wp2_with fail
              go_loopw [41] (fun i wr => ∃ k : Nat, k ≤ m - 1 ∧ i = .int .i64 k ∧ Hid (BankAt wr g (dropL L k)) ∧ Hid (Below w.heap.size w wr)) (fun i _ => m - 1 - (intOf i).toNat)
              case atStart => exact ⟨0, by omega, rfl, HB.out.congr (fun t ht => (drop_zero L t (HL.out t ht).1).symm), HW⟩
              case round =>
                clear HB HW
                obtain ⟨k, hk, rfl, HB, HW⟩ := hrel
                have hdr := drop_in k HL.out
                have HTK := Lib.hid (tim_tick g (dropL L k) wr HB.out (fun t ht => by have := hdr t ht; omega))
                have HTE := Lib.hid (fun t (ht : t < 5) => drop_tick L k t (HL.out t ht).1)
                clear hdr
                by_cases hkm : k < m - 1
                · have hkd : decide ((k : Int) < (m : Int) - 1) = true := by simp only [decide_eq_true_eq]; omega
                  have HOV : Hid (overTo (dropL L k) 5 = []) := over_none (fun t ht e => by
                    have h1 := HALL.out t ht
                    have h2 := (HL.out t ht).1
                    unfold dropL at e
                    split at e <;> omega)
                  rw [HOV.out] at HTK
                  go_wp2_with fail
                  refine HTK.out.mono ?_
                  rintro e w6 ⟨v, rfl, ⟨A6, c6, rfl, _, _⟩, hb6, hk6⟩
                  have HB6 := Lib.hid (hb6.congr HTE.out)
                  have HW6 := Lib.hid (HW.out.grown hk6 HW.out.size (fun q hq => by injection hq with hq; rw [← hq]; exact HG.out))
                  clear hb6 hk6
                  go_wp2_with fail
                  go_roundw
                  case rel => exact ⟨k + 1, by omega, by go_num, HB6, HW6⟩
                  case measure => simp [intOf]; omega
                · have hkd : decide ((k : Int) < (m : Int) - 1) = false := by simp only [decide_eq_false_iff_not]; omega
                  have hkm2 : k + 1 = m := by omega
                  have HOV : Hid (0 < (overTo (dropL L k) 5).length) := over_some HTN.out.1 (by
                    have h2 := HTN.out.2
                    unfold dropL
                    rw [if_neg (by omega)]
                    omega)
                  have HCD := Lib.hid (cnt_drop HTN.out.1 (show 0 < m by omega) HTN.out.2)
                  rw [hkm2] at HTE
                  clear hkm hkm2 hk
                  generalize overTo (dropL L k) 5 = OV at *
                  have hov := HOV.out
                  go_wp2_with fail
                  refine HTK.out.mono ?_
                  rintro e w6 ⟨v, rfl, ⟨A6, c6, rfl, hol, _⟩, hb6, hk6⟩
                  have HB6 := Lib.hid (hb6.congr HTE.out)
                  have HW6 := Lib.hid (HW.out.grown hk6 HW.out.size (fun q hq => by injection hq with hq; rw [← hq]; exact HG.out))
                  have hne : ((OV.length : Int) == 0) = false := by rw [beq_eq_false_iff_ne]; omega
                  clear hb6 hk6 hov
                  go_wp2_with fail
                  go_roundw
                  case rel => exact ⟨r + 1, dropL L m, by omega, by go_num, HB6, drop_in m HL.out, HW6, by have := HCD.out; have := HC.out; show _ ≤ _; omega⟩
                  case measure => simp [intOf]; omega
          · have hr : r = 5 := by omega
            subst hr
            have hc0 : cntL L = 0 := by have := HC.out; omega
            have HN0 : Hid (decide (0 < n) = false) := by
              show _ = _
              rw [decide_eq_false_iff_not]
              rcases HNI.out with ⟨rfl, _⟩ | ⟨hn, _, ⟨t, ht, htn⟩, _⟩
              · decide
              · exact absurd (by rw [htn]; exact hn) (cnt_zero hc0 ht)
            rw [HN0.out] at HNX
            clear hc0
            go_wp2_with fail
            refine HNX.out.mono ?_
            rintro e w4 ⟨rfl, rfl⟩
            go_wp2_with fail
            go_ret
            exact ⟨rfl, HW.out⟩
end Go.Proofs.Ytammcohjddjaeaa
