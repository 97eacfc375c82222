/- The walk of the law TimerAlone. Conditions: the numbers are of 64 bits. -/
import Derived.Test.YtammcohjddjaeaaTimerNextLaw
namespace Go.Proofs.Ytammcohjddjaeaa
open Go.RowKit
set_option linter.unusedVariables false
set_option linter.unusedSimpArgs false

theorem and255 (t : Int) : Go.bits .and .i64 t 255 = t % 256 := by
  have e3 : (BitVec.ofInt 64 255).toNat = 2 ^ 8 - 1 := by decide
  have e4 : (BitVec.ofInt 64 t &&& BitVec.ofInt 64 255).toNat = (t % 256).toNat := by
    rw [BitVec.toNat_and, BitVec.toNat_ofInt, e3, Nat.and_two_pow_sub_one_eq_mod]
    omega
  show IntKind.i64.wrap ((BitVec.ofInt 64 t &&& BitVec.ofInt 64 255).toNat : Nat) = _
  rw [e4, IntKind.wrap_i64]
  omega
theorem and7 (t : Int) : Go.bits .and .i64 t 7 = t % 8 := by
  have e3 : (BitVec.ofInt 64 7).toNat = 2 ^ 3 - 1 := by decide
  have e4 : (BitVec.ofInt 64 t &&& BitVec.ofInt 64 7).toNat = (t % 8).toNat := by
    rw [BitVec.toNat_and, BitVec.toNat_ofInt, e3, Nat.and_two_pow_sub_one_eq_mod]
    omega
  show IntKind.i64.wrap ((BitVec.ofInt 64 t &&& BitVec.ofInt 64 7).toNat : Nat) = _
  rw [e4, IntKind.wrap_i64]
  omega
/-- How often t is among those that are over. -/
def cntOf (t : Int) (l : List Int) : Nat := (l.filter (· == t)).length
theorem cnt_take {t : Int} {l : List Int} {j : Nat} (h : j < l.length) : cntOf t (l.take (j + 1)) = cntOf t (l.take j) + (if l[j] = t then 1 else 0) := by
  unfold cntOf
  rw [List.take_succ_eq_append_getElem h, List.filter_append, List.length_append]
  by_cases e : l[j] = t <;> simp [e]
theorem cnt_over (L : Nat → Int) (t : Nat) (ht : t < 5) : cntOf (t : Int) (overTo L 5) = if L t = 1 then 1 else 0 := by
  have key : ∀ j, cntOf (t : Int) (overTo L j) = if t < j ∧ L t = 1 then 1 else 0 := by
    intro j
    induction j with
    | zero => simp [overTo, cntOf]
    | succ j ih =>
      by_cases h : L j = 1
      · rw [overTo_yes h]
        unfold cntOf at *
        rw [List.filter_append, List.length_append, ih]
        by_cases e : j = t
        · subst e; simp [h]
        · have : ¬ ((j : Int) = (t : Int)) := by omega
          by_cases g : L t = 1
          · simp [this, g]; split <;> split <;> omega
          · simp [this, g]
      · rw [overTo_no h, ih]
        by_cases e : j = t
        · subst e; simp [h]
        · by_cases g : L t = 1
          · simp [g]; split <;> split <;> omega
          · simp [g]
  rw [key 5]
  simp [ht]

/-- The timer t was started for n ticks, k ticks ago. -/
def AloneOk (L : Nat → Int) (t n k : Nat) : Prop := L t = ((n - k : Nat) : Int) ∧ ∀ i, i < 5 → 0 ≤ L i ∧ L i ≤ 1048576
theorem alone_start {L : Nat → Int} {t n k : Nat} (h : AloneOk L t n k) (h1 : ¬ (t : Int) = 1) (x : Int) : AloneOk (startL L 1 x) t n k := by
  refine ⟨?_, start_in h.2⟩
  unfold startL upd
  rw [if_pos (by decide)]
  rw [if_neg (by intro e; apply h1; rw [e]; rfl)]
  exact h.1
theorem alone_tick {L : Nat → Int} {t n k : Nat} (h : AloneOk L t n k) : AloneOk (tickL L) t n (k + 1) := by
  refine ⟨?_, tick_in h.2⟩
  unfold tickL tickF
  rw [h.1]
  split <;> omega
theorem alone_cnt {L : Nat → Int} {t n k : Nat} (h : AloneOk L t n k) (ht : t < 5) : cntOf (t : Int) (overTo L 5) = if k + 1 = n then 1 else 0 := by
  rw [cnt_over L t ht, h.1]
  by_cases e : k + 1 = n
  · rw [if_pos e, if_pos (by omega)]
  · rw [if_neg e, if_neg (by omega)]
theorem alone_first {t n : Nat} (ht : t < 5) (h1 : 1 ≤ n) (h2 : n ≤ 300) : AloneOk (startL (fun _ => 0) (t : Int) (n : Int)) t n 0 := by
  refine ⟨?_, start_in zero_in⟩
  unfold startL upd
  rw [if_pos (by omega), if_pos (by omega)]
  omega

set_option maxHeartbeats 2000000 in
set_option maxRecDepth 100000 in
theorem walk_TimerAlone (t0 n0 other : Int) (w : World) (b1 : -9223372036854775808 ≤ t0 ∧ t0 ≤ 9223372036854775807) (b2 : -9223372036854775808 ≤ n0 ∧ n0 ≤ 9223372036854775807) (b3 : -9223372036854775808 ≤ other ∧ other ≤ 9223372036854775807) :
    Calls Try.prog 4 #[.int .i64 t0, .int .i64 n0, .int .i64 other] w fun e w' => e = .returned (.bool true) ∧ Below w.heap.size w w' := by
  have ha := and255 t0
  have hb := and7 other
  have hm0 : 0 ≤ t0 % 256 := by omega
  have hm1 : t0 % 256 < 256 := by omega
  go_enter Try.func4, Try.ntmps4
  go_wp2_with fail
  refine (tim_awake w).mono ?_
  rintro e w1 ⟨rfl, hbw⟩
  have HW1 := Lib.hid (hbw.alloc hbw.size (.cells #[.int .i64 0, .int .i64 0, .int .i64 0, .int .i64 0, .int .i64 0] 26))
  have HB1 := Lib.hid (bank_new w1)
  have HG : Hid (w.heap.size ≤ w1.heap.size) := hbw.size
  clear hbw
  go_upto_region 3 with fail
  go_cut [0, 1] (fun s0 s1 w' => ∃ (t n : Nat), s0 = .int .i64 (t : Int) ∧ s1 = .int .i64 (n : Int) ∧ t < 5 ∧ 1 ≤ n ∧ n ≤ 300 ∧ w1 = w')
  case first =>
    go_wp2_with fail
    all_goals go_meet
    all_goals
      first
        | exact ⟨(t0 % 256 % 5).toNat, 300, by congr 1; omega, rfl, by omega, by omega, by omega, rfl⟩
        | exact ⟨(t0 % 256 % 5).toNat, 1, by congr 1; omega, rfl, by omega, by omega, by omega, rfl⟩
        | exact ⟨(t0 % 256 % 5).toNat, n0.toNat, by congr 1; omega, by congr 1; omega, by omega, by omega, by omega, rfl⟩
  case rest =>
    obtain ⟨t, n, rfl, rfl, ht, hn1, hn2, rfl⟩ := hcut
    clear ha hm0 hm1 b1 b2
    go_upto_region 5 with fail
    generalize w1.alloc (.cells #[.int .i64 0, .int .i64 0, .int .i64 0, .int .i64 0, .int .i64 0] 26) = w2 at *
    generalize w1.heap.size = g at *
    have HA0 := Lib.hid (alone_first ht hn1 hn2)
    go_wp2_with fail
    refine (tim_start g (t : Int) (n : Int) _ w2 HB1.out).mono ?_
    rintro e w4 ⟨rfl, hb4, hk4⟩
    have HB4 := Lib.hid hb4
    have HW4 := Lib.hid (grown_below HW1.out HG.out hk4)
    clear hb4 hk4 HW1 HB1
    generalize startL (fun _ => 0) (t : Int) (n : Int) = L at *
    have c0 := HB4.out.cell (t := 0) (by decide)
    have c1 := HB4.out.cell (t := 1) (by decide)
    have c2 := HB4.out.cell (t := 2) (by decide)
    have c3 := HB4.out.cell (t := 3) (by decide)
    have c4 := HB4.out.cell (t := 4) (by decide)
    have hgl := HB4.out.lt
    go_upto_region 7 with fail
    have HC5 := Lib.hid (heap_alloc_new w4 (.cells #[.int .i64 (L 0), .int .i64 (L 1), .int .i64 (L 2), .int .i64 (L 3), .int .i64 (L 4)] 26))
    have HB5 := Lib.hid (HB4.out.of_block (Below.heap_alloc w4 (.cells #[.int .i64 (L 0), .int .i64 (L 1), .int .i64 (L 2), .int .i64 (L 3), .int .i64 (L 4)] 26) g hgl))
    have HW5 := Lib.hid (HW4.out.alloc HW4.out.size (.cells #[.int .i64 (L 0), .int .i64 (L 1), .int .i64 (L 2), .int .i64 (L 3), .int .i64 (L 4)] 26))
    have HGC : Hid (g < w4.heap.size) := hgl
    have HC6 : Hid (BankAt (w4.alloc (.cells #[.int .i64 (L 0), .int .i64 (L 1), .int .i64 (L 2), .int .i64 (L 3), .int .i64 (L 4)] 26)) w4.heap.size L) := HC5.out
    clear HC5 hgl c0 c1 c2 c3 c4 HB4 HW4
    generalize w4.alloc (.cells #[.int .i64 (L 0), .int .i64 (L 1), .int .i64 (L 2), .int .i64 (L 3), .int .i64 (L 4)] 26) = w5 at *
    generalize w4.heap.size = gc at *
    have HL0 : Hid (leftV L (t : Int) = (n : Int)) := by
      show _ = _
      have := HA0.out.1
      unfold leftV
      rw [if_pos (by omega), show ((t : Int)).toNat = t by omega, this]
      omega
    go_wp2_with fail
    go_loopw [9] (fun i wr => ∃ (k : Nat) (L' : Nat → Int), k ≤ n + 3 ∧ i = .int .i64 ((k : Int) + 1) ∧ Hid (AloneOk L' t n k) ∧ Hid (BankAt wr g L') ∧ Hid (BankAt wr gc L) ∧ Hid (Below w.heap.size w wr)) (fun i _ => n + 4 - (intOf i).toNat)
    case atStart => exact ⟨0, L, by omega, rfl, HA0, HB5, HC6, HW5⟩
    case round =>
      clear HB5 HC6 HW5 HA0
      obtain ⟨k, L', hk, rfl, HA, HB, HC, HW⟩ := hrel
      by_cases hkn : k < n + 3
      · have hd : decide ((k : Int) + 1 ≤ (n : Int) + 3) = true := decide_eq_true (by omega)
        have hways : (decide (0 < other) = true ∧ ((t : Int) == 1) = false) ∨ (decide (0 < other) = true ∧ ((t : Int) == 1) = true) ∨ decide (0 < other) = false := by
          by_cases h1 : 0 < other
          · by_cases h2 : (t : Int) = 1
            · right; left; exact ⟨decide_eq_true h1, by simp [h2]⟩
            · left; exact ⟨decide_eq_true h1, by simp [h2]⟩
          · right; right; exact decide_eq_false h1
        have HN1 := Lib.hid (fun (e : ((t : Int) == 1) = false) => alone_start HA.out (by simpa using e) (1 + other % 8))
        have hm0 : 0 ≤ other % 8 := by omega
        have hm1 : other % 8 < 8 := by omega
        rcases hways with ⟨d1, d2⟩ | ⟨d1, d2⟩ | d1
        · have HA6 := Lib.hid (HN1.out d2)
          go_wp2_with fail
          refine (tim_start g 1 (1 + other % 8) _ wr HB.out).mono ?_
          rintro e w6 ⟨rfl, hb6, hk6⟩
          have HB6 := Lib.hid hb6
          have HC6 := Lib.hid (HC.out.of_block (hk6.block gc HC.out.lt (fun e => by injection e with e; have := HGC.out; omega)))
          have HW6 := Lib.hid (grown_below HW.out HG.out hk6)
          clear hb6 hk6 HA HB HC HW HN1
          generalize startL L' 1 (1 + other % 8) = L6 at *
          go_upto_region 12 with fail
          have HTK := Lib.hid (tim_tick g L6 w6 HB6.out HA6.out.2)
          have HCN := Lib.hid (alone_cnt HA6.out ht)
          generalize overTo L6 5 = OV at *
          go_wp2_with fail
          refine HTK.out.mono ?_
          rintro e w7 ⟨v, rfl, ⟨A7, c7, rfl, hol7, hc7⟩, hb7, hk7⟩
          have HR7 := Lib.hid (fun (h : OV ≠ []) => hc7.resolve_left h)
          have HB7 := Lib.hid hb7
          have HC7 := Lib.hid (HC6.out.of_block (hk7.block gc HC6.out.lt (fun e => by injection e with e; have := HGC.out; omega)))
          have HW7 := Lib.hid (grown_below HW6.out HG.out hk7)
          have HA7 := Lib.hid (alone_tick HA6.out)
          clear hb7 hk7 hc7 HA6 HB6 HC6 HW6 HTK
          generalize tickL L6 = L7 at *
          go_wp2_with fail
          go_loopw [10, 43] (fun o i wr => ∃ j : Nat, j ≤ OV.length ∧ o = .int .i64 (cntOf (t : Int) (OV.take j) : Nat) ∧ i = .int .i64 (j : Int) ∧ w7 = wr) (fun _ i _ => OV.length - (intOf i).toNat)
          case atStart => exact ⟨0, by omega, rfl, rfl, rfl⟩
          case round =>
            obtain ⟨j, hj, rfl, rfl, rfl⟩ := hrel
            by_cases hjl : j < OV.length
            · obtain ⟨b, off, rfl, hbl, hcc⟩ := HR7.out (by intro e; rw [e] at hjl; simp at hjl)
              have hc := hcc j OV[j] (List.getElem?_eq_getElem hjl)
              have HCT := Lib.hid (cnt_take (t := (t : Int)) hjl)
              have hcl : cntOf (t : Int) (OV.take j) ≤ 1048576 := by
                unfold cntOf
                exact Nat.le_trans (List.length_filter_le _ _) (by rw [List.length_take]; omega)
              clear hcc
              generalize OV[j] = x at *
              have hj0 : (0 : Int) ≤ (j : Int) := by omega
              have hj1 : (j : Int) < (OV.length : Int) := by omega
              by_cases hx : x = (t : Int)
              · have HCT2 := Lib.hid (HCT.out.trans (congrArg (cntOf (t : Int) (OV.take j) + ·) (if_pos hx)))
                have hxd : (x == (t : Int)) = true := by simp [hx]
                clear HCT hx
                generalize cntOf (t : Int) (OV.take j) = cj at *
                go_wp2_with fail
                go_roundw
                case rel => exact ⟨j + 1, by omega, by rw [HCT2.out]; go_num, by go_num, by first | rfl | trivial⟩
                case measure => simp [intOf]; omega
              · have HCT2 := Lib.hid (HCT.out.trans (congrArg (cntOf (t : Int) (OV.take j) + ·) (if_neg hx)))
                have hxd : (x == (t : Int)) = false := by simp [hx]
                clear HCT hx
                generalize cntOf (t : Int) (OV.take j) = cj at *
                go_wp2_with fail
                go_roundw
                case rel => exact ⟨j + 1, by omega, by rw [HCT2.out]; rfl, by go_num, by first | rfl | trivial⟩
                case measure => simp [intOf]; omega
            · have hjj : j = OV.length := by omega
              have hcn : cntOf (t : Int) (OV.take j) = if k + 1 = n then 1 else 0 := by rw [hjj, List.take_length]; exact HCN.out
              have hj1 : ¬ (j : Int) < (OV.length : Int) := by omega
              generalize cntOf (t : Int) (OV.take j) = cj at *
              by_cases hkn1 : k + 1 = n
              · rw [if_pos hkn1] at hcn
                subst hcn
                have hq : ((k : Int) + 1 == (n : Int)) = true := by simp only [beq_iff_eq]; omega
                go_wp2_with fail
                go_roundw
                case rel => exact ⟨k + 1, L7, by omega, by go_num, HA7, HB7, HC7, HW7⟩
                case measure => simp [intOf]; omega
              · rw [if_neg hkn1] at hcn
                subst hcn
                have hq : ((k : Int) + 1 == (n : Int)) = false := by rw [beq_eq_false_iff_ne]; omega
                go_wp2_with fail
                go_roundw
                case rel => exact ⟨k + 1, L7, by omega, by go_num, HA7, HB7, HC7, HW7⟩
                case measure => simp [intOf]; omega
        · have HA6 := HA
          have HB6 := HB
          have HC6 := HC
          have HW6 := HW
          clear HA HB HC HW HN1
          obtain ⟨w6, rfl⟩ : ∃ w6, w6 = wr := ⟨_, rfl⟩
          obtain ⟨L6, rfl⟩ : ∃ L6, L6 = L' := ⟨_, rfl⟩
          go_upto_region 12 with fail
          have HTK := Lib.hid (tim_tick g L6 w6 HB6.out HA6.out.2)
          have HCN := Lib.hid (alone_cnt HA6.out ht)
          generalize overTo L6 5 = OV at *
          go_wp2_with fail
          refine HTK.out.mono ?_
          rintro e w7 ⟨v, rfl, ⟨A7, c7, rfl, hol7, hc7⟩, hb7, hk7⟩
          have HR7 := Lib.hid (fun (h : OV ≠ []) => hc7.resolve_left h)
          have HB7 := Lib.hid hb7
          have HC7 := Lib.hid (HC6.out.of_block (hk7.block gc HC6.out.lt (fun e => by injection e with e; have := HGC.out; omega)))
          have HW7 := Lib.hid (grown_below HW6.out HG.out hk7)
          have HA7 := Lib.hid (alone_tick HA6.out)
          clear hb7 hk7 hc7 HA6 HB6 HC6 HW6 HTK
          generalize tickL L6 = L7 at *
          go_wp2_with fail
          go_loopw [10, 43] (fun o i wr => ∃ j : Nat, j ≤ OV.length ∧ o = .int .i64 (cntOf (t : Int) (OV.take j) : Nat) ∧ i = .int .i64 (j : Int) ∧ w7 = wr) (fun _ i _ => OV.length - (intOf i).toNat)
          case atStart => exact ⟨0, by omega, rfl, rfl, rfl⟩
          case round =>
            obtain ⟨j, hj, rfl, rfl, rfl⟩ := hrel
            by_cases hjl : j < OV.length
            · obtain ⟨b, off, rfl, hbl, hcc⟩ := HR7.out (by intro e; rw [e] at hjl; simp at hjl)
              have hc := hcc j OV[j] (List.getElem?_eq_getElem hjl)
              have HCT := Lib.hid (cnt_take (t := (t : Int)) hjl)
              have hcl : cntOf (t : Int) (OV.take j) ≤ 1048576 := by
                unfold cntOf
                exact Nat.le_trans (List.length_filter_le _ _) (by rw [List.length_take]; omega)
              clear hcc
              generalize OV[j] = x at *
              have hj0 : (0 : Int) ≤ (j : Int) := by omega
              have hj1 : (j : Int) < (OV.length : Int) := by omega
              by_cases hx : x = (t : Int)
              · have HCT2 := Lib.hid (HCT.out.trans (congrArg (cntOf (t : Int) (OV.take j) + ·) (if_pos hx)))
                have hxd : (x == (t : Int)) = true := by simp [hx]
                clear HCT hx
                generalize cntOf (t : Int) (OV.take j) = cj at *
                go_wp2_with fail
                go_roundw
                case rel => exact ⟨j + 1, by omega, by rw [HCT2.out]; go_num, by go_num, by first | rfl | trivial⟩
                case measure => simp [intOf]; omega
              · have HCT2 := Lib.hid (HCT.out.trans (congrArg (cntOf (t : Int) (OV.take j) + ·) (if_neg hx)))
                have hxd : (x == (t : Int)) = false := by simp [hx]
                clear HCT hx
                generalize cntOf (t : Int) (OV.take j) = cj at *
                go_wp2_with fail
                go_roundw
                case rel => exact ⟨j + 1, by omega, by rw [HCT2.out]; rfl, by go_num, by first | rfl | trivial⟩
                case measure => simp [intOf]; omega
            · have hjj : j = OV.length := by omega
              have hcn : cntOf (t : Int) (OV.take j) = if k + 1 = n then 1 else 0 := by rw [hjj, List.take_length]; exact HCN.out
              have hj1 : ¬ (j : Int) < (OV.length : Int) := by omega
              generalize cntOf (t : Int) (OV.take j) = cj at *
              by_cases hkn1 : k + 1 = n
              · rw [if_pos hkn1] at hcn
                subst hcn
                have hq : ((k : Int) + 1 == (n : Int)) = true := by simp only [beq_iff_eq]; omega
                go_wp2_with fail
                go_roundw
                case rel => exact ⟨k + 1, L7, by omega, by go_num, HA7, HB7, HC7, HW7⟩
                case measure => simp [intOf]; omega
              · rw [if_neg hkn1] at hcn
                subst hcn
                have hq : ((k : Int) + 1 == (n : Int)) = false := by rw [beq_eq_false_iff_ne]; omega
                go_wp2_with fail
                go_roundw
                case rel => exact ⟨k + 1, L7, by omega, by go_num, HA7, HB7, HC7, HW7⟩
                case measure => simp [intOf]; omega
        · have HA6 := HA
          have HB6 := HB
          have HC6 := HC
          have HW6 := HW
          clear HA HB HC HW HN1
          obtain ⟨w6, rfl⟩ : ∃ w6, w6 = wr := ⟨_, rfl⟩
          obtain ⟨L6, rfl⟩ : ∃ L6, L6 = L' := ⟨_, rfl⟩
          go_upto_region 12 with fail
          have HTK := Lib.hid (tim_tick g L6 w6 HB6.out HA6.out.2)
          have HCN := Lib.hid (alone_cnt HA6.out ht)
          generalize overTo L6 5 = OV at *
          go_wp2_with fail
          refine HTK.out.mono ?_
          rintro e w7 ⟨v, rfl, ⟨A7, c7, rfl, hol7, hc7⟩, hb7, hk7⟩
          have HR7 := Lib.hid (fun (h : OV ≠ []) => hc7.resolve_left h)
          have HB7 := Lib.hid hb7
          have HC7 := Lib.hid (HC6.out.of_block (hk7.block gc HC6.out.lt (fun e => by injection e with e; have := HGC.out; omega)))
          have HW7 := Lib.hid (grown_below HW6.out HG.out hk7)
          have HA7 := Lib.hid (alone_tick HA6.out)
          clear hb7 hk7 hc7 HA6 HB6 HC6 HW6 HTK
          generalize tickL L6 = L7 at *
          go_wp2_with fail
          go_loopw [10, 43] (fun o i wr => ∃ j : Nat, j ≤ OV.length ∧ o = .int .i64 (cntOf (t : Int) (OV.take j) : Nat) ∧ i = .int .i64 (j : Int) ∧ w7 = wr) (fun _ i _ => OV.length - (intOf i).toNat)
          case atStart => exact ⟨0, by omega, rfl, rfl, rfl⟩
          case round =>
            obtain ⟨j, hj, rfl, rfl, rfl⟩ := hrel
            by_cases hjl : j < OV.length
            · obtain ⟨b, off, rfl, hbl, hcc⟩ := HR7.out (by intro e; rw [e] at hjl; simp at hjl)
              have hc := hcc j OV[j] (List.getElem?_eq_getElem hjl)
              have HCT := Lib.hid (cnt_take (t := (t : Int)) hjl)
              have hcl : cntOf (t : Int) (OV.take j) ≤ 1048576 := by
                unfold cntOf
                exact Nat.le_trans (List.length_filter_le _ _) (by rw [List.length_take]; omega)
              clear hcc
              generalize OV[j] = x at *
              have hj0 : (0 : Int) ≤ (j : Int) := by omega
              have hj1 : (j : Int) < (OV.length : Int) := by omega
              by_cases hx : x = (t : Int)
              · have HCT2 := Lib.hid (HCT.out.trans (congrArg (cntOf (t : Int) (OV.take j) + ·) (if_pos hx)))
                have hxd : (x == (t : Int)) = true := by simp [hx]
                clear HCT hx
                generalize cntOf (t : Int) (OV.take j) = cj at *
                go_wp2_with fail
                go_roundw
                case rel => exact ⟨j + 1, by omega, by rw [HCT2.out]; go_num, by go_num, by first | rfl | trivial⟩
                case measure => simp [intOf]; omega
              · have HCT2 := Lib.hid (HCT.out.trans (congrArg (cntOf (t : Int) (OV.take j) + ·) (if_neg hx)))
                have hxd : (x == (t : Int)) = false := by simp [hx]
                clear HCT hx
                generalize cntOf (t : Int) (OV.take j) = cj at *
                go_wp2_with fail
                go_roundw
                case rel => exact ⟨j + 1, by omega, by rw [HCT2.out]; rfl, by go_num, by first | rfl | trivial⟩
                case measure => simp [intOf]; omega
            · have hjj : j = OV.length := by omega
              have hcn : cntOf (t : Int) (OV.take j) = if k + 1 = n then 1 else 0 := by rw [hjj, List.take_length]; exact HCN.out
              have hj1 : ¬ (j : Int) < (OV.length : Int) := by omega
              generalize cntOf (t : Int) (OV.take j) = cj at *
              by_cases hkn1 : k + 1 = n
              · rw [if_pos hkn1] at hcn
                subst hcn
                have hq : ((k : Int) + 1 == (n : Int)) = true := by simp only [beq_iff_eq]; omega
                go_wp2_with fail
                go_roundw
                case rel => exact ⟨k + 1, L7, by omega, by go_num, HA7, HB7, HC7, HW7⟩
                case measure => simp [intOf]; omega
              · rw [if_neg hkn1] at hcn
                subst hcn
                have hq : ((k : Int) + 1 == (n : Int)) = false := by rw [beq_eq_false_iff_ne]; omega
                go_wp2_with fail
                go_roundw
                case rel => exact ⟨k + 1, L7, by omega, by go_num, HA7, HB7, HC7, HW7⟩
                case measure => simp [intOf]; omega
      · have hkk : k = n + 3 := by omega
        subst hkk
        have hd : decide (((n + 3 : Nat) : Int) + 1 ≤ (n : Int) + 3) = false := decide_eq_false (by omega)
        have HL1 : Hid (decide (0 < leftV L' (t : Int)) = false) := by
          show _ = _
          have := HA.out.1
          unfold leftV
          rw [if_pos (by omega), show ((t : Int)).toNat = t by omega, this]
          exact decide_eq_false (by omega)
        have HLC := Lib.hid (tim_left gc (t : Int) L wr HC.out)
        have HRC := Lib.hid (tim_runs g (t : Int) L' wr HB.out)
        rw [HL0.out] at HLC
        rw [HL1.out] at HRC
        go_wp2_with fail
        refine HLC.out.mono ?_
        rintro e w8 ⟨rfl, rfl⟩
        have hnn : ((n : Int) == (n : Int)) = true := by simp
        go_wp2_with fail
        refine HRC.out.mono ?_
        rintro e w9 ⟨rfl, rfl⟩
        go_wp2_with fail
        go_ret
        exact ⟨rfl, HW.out⟩
end Go.Proofs.Ytammcohjddjaeaa
