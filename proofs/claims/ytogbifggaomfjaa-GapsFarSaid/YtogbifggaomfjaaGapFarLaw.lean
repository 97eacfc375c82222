/- The walk of the law GapsFar. Conditions: the numbers fit their kinds. -/
import Derived.Test.YtogbifggaomfjaaGapNamed
import Derived.Test.YtogbifggaomfjaaGapMovesLaw
import Derived.Test.YtogbifggaomfjaaAppendSrcG
import Derived.ArgAppend
namespace Go.Proofs.Ytogbifggaomfjaa
open Go.RowKit Sp
set_option linter.unusedVariables false
set_option linter.unusedSimpArgs false

/-- append where there is no room, guarded: all that lay is as it was. -/
theorem wpList_append_growsG {P : Program} (w : World) {ops : Array Oper} {rest : List Oper} {o : Oper} {a : Act} {Q : Exit → Act → World → Prop}
    (hgd : Region.wanted o (yielded ops a.tmps) = true) (s x : Operand) (t : TypeId) (hop : o.op = Op.call { callee := Callee.builtin Builtin.append, args := #[s, x], argTypes := #[t, t] })
    (e : TypeId) (i : TypeInfo) (z : Value) (size bytes : Nat) (h1 : P.underlying t = some (.slice e)) (h2 : P.info? e = some i) (h3 : i.zero = some z) (h4 : i.size = size) (h5 : i.bytes = bytes) (h6 : z.cells.size = size) (h7 : 0 < size)
    (b : Addr) (n cap : Nat) (olds : List Value) (hs : a.eval s = .slice (some b) n cap) (hlo : olds.length = n * size) (holds : ∀ j u, olds[j]? = some u → w.cell? (b.add j) = some u)
    (ad : Addr) (m c : Nat) (news : List Value) (hx : a.eval x = .slice (some ad) m c) (hn : news.length = m * size) (hc : ∀ j u, news[j]? = some u → w.cell? (ad.add j) = some u)
    (hfull : cap < n + m) (b1 : n + m ≤ maxLen) (b2 : (n + m) * bytes ≤ 140737488355328)
    (hK : ∀ v' w', w'.ownsRow w.heap.size e size v' (n + m) (olds ++ news) → w.grownBy w' none → wpList P ops Q rest (a.put o.dst v') w') :
    wpList P ops Q (o :: rest) a w := by
  obtain ⟨v', w', hrun, r1, r2⟩ := run_append_arg_grows (P := P) w t o.type e i z size bytes h1 h2 h3 h4 h5 h6 h7 b n cap olds hlo holds ad m c news hn hc hfull b1 b2
  unfold wpList
  rw [if_pos hgd]
  refine .inl ?_
  unfold Oper.wp
  simp [execOp, hop, resolve, invoke, builtin, hs, hx, hrun, Result.andThen]
  exact hK v' w' r1 r2

theorem pairNums_bd (a b : Int) : ∀ x, x ∈ pairNums a b → 0 ≤ x ∧ x < 16777216 := by
  intro x hx
  obtain ⟨i, _, rfl⟩ := List.mem_map.1 hx
  omega
theorem pairNums_get (a b : Int) (k : Nat) (h : k < (pairNums a b).length) : (pairNums a b)[k] = (a % 16777216 + (k : Int)) % 16777216 := by
  simp only [pairNums, List.getElem_map, List.getElem_range]
  omega

set_option maxHeartbeats 8000000 in
set_option maxRecDepth 100000 in
theorem walk_GapsFar (a b c : Int) (w : World) (ha : 0 ≤ a ∧ a < 4294967296) (hb : 0 ≤ b ∧ b < 4294967296) (hc : 0 ≤ c ∧ c < 4294967296) :
    Calls Try.prog 4 #[.int .u32 a, .int .u32 b, .int .u32 c] w fun e w' => e = .returned (.bool true) ∧ Below w.heap.size w w' := by
  have hs := sz_bd a b
  have HZ : Hid (sz a b = if (b - a) % 16777216 ≤ 8388608 then (b - a) % 16777216 else 0) := rfl
  have HC2 : Hid (cnt [a, b] = sz a b) := by show _ = _; simp [cnt]
  have HC3 : Hid (cnt [a, b, c] = sz a b) := by show _ = _; simp [cnt]
  have HTO := Lib.hid (fun W => ref_to a b W (by omega) (by omega) (by omega) (by omega))
  have HOF := Lib.hid (fun W => ref_of a W (by omega) (by omega))
  have HPL := Lib.hid (pairNums_len a b)
  have HPB := Lib.hid (pairNums_bd a b)
  have HPG := Lib.hid (pairNums_get a b)
  have HN2 := Lib.hid (named_two a b)
  obtain ⟨i0, hi, hz0, hz1, hz2⟩ := info_parts infoNum2
  have Hi := Lib.hid hi
  have Hz0 := Lib.hid hz0
  have Hz1 := Lib.hid hz1
  have Hz2 := Lib.hid hz2
  have hd0 : 0 ≤ (b - a) % 16777216 ∧ (b - a) % 16777216 < 16777216 := by omega
  clear hi hz0 hz1 hz2
  generalize hS : sz a b = s at *
  have HS := Lib.hid hS
  clear hS
  generalize (b - a) % 16777216 = d at *
  by_cases hd : d ≤ 8388608
  · obtain rfl : s = d := by rw [HZ.out, if_pos hd]
    have hg : decide (8388608 < s) = false := by simp; omega
    go_enter Try.func4, Try.ntmps4
    go_wp2_with fail
    refine (gap_awake _).mono ?_
    rintro e w1 ⟨rfl, hb1⟩
    have HB1 := Lib.hid hb1
    clear hb1
    have HX0 := Lib.hid (numRow_two (w := w1.alloc (.cells #[.int .u32 a, .int .u32 b] 24)) (by simp) (two_new w1 (.int .u32 a) (.int .u32 b) 24).1 (two_new w1 (.int .u32 a) (.int .u32 b) 24).2 2)
    have HO0 : Hid ((w1.alloc (.cells #[.int .u32 a, .int .u32 b] 24)).ownsRow w1.heap.size 24 1 (.slice (some ⟨w1.heap.size, 0, none⟩) 2 2) 2 [.int .u32 a, .int .u32 b]) := World.ownsRow_lit w1 #[.int .u32 a, .int .u32 b] 2 (Nat.le_refl _) (by decide) rfl
    have HB0 := Lib.hid ((Below.refl _ w1).alloc (Nat.le_refl _) (.cells #[.int .u32 a, .int .u32 b] 24))
    have hg0 : w1.heap.size < (w1.alloc (.cells #[.int .u32 a, .int .u32 b] 24)).heap.size := by simp
    go_upto_region 7 with (go_at_call 23; refine (HTO.out _).mono ?_; rintro e w' ⟨rfl, rfl⟩)
    generalize w1.alloc (.cells #[.int .u32 a, .int .u32 b] 24) = W at *
    generalize hgw : w1.heap.size = g at *
    have HGW := Lib.hid hgw
    clear hgw
    have HCA := Lib.hid (g_count [a, b] _ W HX0.out (by intro x hx; simp at hx; omega))
    rw [HC2.out] at HCA
    have hne : (s != s) = false := by simp
    go_wp2_with fail
    refine HCA.out.mono ?_
    rintro e w2 ⟨rfl, hb2⟩
    have HX2 := Lib.hid (HX0.out.below hb2)
    have HB2 := Lib.hid (HB0.out.trans (hb2.mono (Nat.le_of_lt hg0)))
    have HO2 : Hid (w2.ownsRow g 24 1 (.slice (some ⟨g, 0, none⟩) 2 2) 2 [.int .u32 a, .int .u32 b]) := HO0.out.kept (row := none) ⟨hb2.os, hb2.tape, hb2.output, hb2.size, fun k hk _ => hb2.block k hk⟩ (.inr (by simp [Value.ownBlock]))
    have hg2 : g ≤ w2.heap.size := by have := hb2.size; omega
    clear hb2 HCA HO0 HX0
    have hcl : ∀ j u, [Value.int .u32 a, Value.int .u32 b][j]? = some u → (w2.alloc (.cells #[.int .u32 c] 24)).cell? ((⟨g, 0, none⟩ : Addr).add j) = some u := fun j u hj => (HO2.out.alloc (.cells #[.int .u32 c] 24)).cells rfl j u hj
    have HCL := Lib.hid hcl
    clear hcl
    go_wp2_with (at_builtin; refine wpList_append_growsG _ (by first | rfl | simp [Region.wanted, yielded]) (.tmp 29) (.tmp 31) 26 rfl 24 i0 (.int .u32 0) 1 4 Try.underlying26 Hi.out Hz0.out Hz1.out Hz2.out rfl (by decide) ⟨g, 0, none⟩ 2 2 [.int .u32 a, .int .u32 b] rfl rfl HCL.out ⟨w2.heap.size, 0, none⟩ 1 1 [.int .u32 c] rfl rfl (one_src (one_new w2 _ _) ⟨w2.heap.size, 0, none⟩ rfl) (by decide) (by unfold maxLen; omega) (by omega) ?_; intro v5 w5 hown4 hg4; have HO5 := Lib.hid hown4; have HG5 := Lib.hid hg4; clear hown4 hg4)
    have HX5 := Lib.hid (numRow_own (xs := [a, b, c]) HO5.out (by simp))
    have hbn : Below w2.heap.size w2 w5 := ((Below.refl _ w2).alloc (Nat.le_refl _) (.cells #[.int .u32 c] 24)).grown HG5.out (by simp) (fun j hj => by cases hj)
    have HB5 := Lib.hid (HB2.out.trans (hbn.mono hg2))
    have HX6 : Hid (NumRow w5 (.slice (some ⟨g, 0, none⟩) 2 2) [a, b]) := HX2.out.below hbn
    clear hbn HCL
    have HCB := Lib.hid (g_count [a, b, c] v5 w5 HX5.out (by intro x hx; simp at hx; omega))
    rw [HC3.out] at HCB
    go_wp2_with fail
    refine HCB.out.mono ?_
    rintro e w6 ⟨rfl, hb6⟩
    have HX7 := Lib.hid (HX6.out.below hb6)
    have HB6 := Lib.hid (HB5.out.trans (hb6.mono (by have := HB5.out.size; have := HGW.out; omega)))
    clear hb6 HCB HX5 HX6 HB5
    by_cases h2k : 2000 < s
    · have e2 : decide (2000 < s) = true := decide_eq_true h2k
      go_wp2_with fail
      go_ret
      exact ⟨rfl, HB1.out.trans (HB6.out.mono (by have := HB1.out.size; have := HGW.out; omega))⟩
    · have e2 : decide (2000 < s) = false := decide_eq_false h2k
      have HNM := Lib.hid (g_named 12 0 0 0 0 (.slice (some ⟨g, 0, none⟩) 2 2) false ⟨#[]⟩ [a, b] w6 HX7.out (by intro x hx; simp at hx; omega) (by rw [HC2.out]; omega) (.inr rfl))
      rw [HN2.out] at HNM
      go_wp2_with fail
      refine HNM.out.mono ?_
      rintro e w7 ⟨u7, rfl, hr7, hb7⟩
      have HR7 := Lib.hid hr7
      have HB7 := Lib.hid (HB6.out.trans (hb7.mono (by have := HB6.out.size; have := HGW.out; omega)))
      clear hr7 hb7 HNM
      have hpl : (pairNums a b).length ≤ 2000 := by rw [HPL.out]; omega
      have HPE : Hid (((pairNums a b).length : Int) = s) := by show _ = _; have := HPL.out; omega
      generalize pairNums a b = xs at *
      obtain ⟨A7, c7, rfl⟩ := HR7.out.form
      have ham : 0 ≤ a % 16777216 ∧ a % 16777216 < 16777216 := by omega
      generalize a % 16777216 = am at *
      go_wp2_with fail
      go_loopw [44] (fun i wr => ∃ k : Nat, k ≤ xs.length ∧ i = .int .i64 k ∧ wr = w7) (fun i _ => xs.length - (intOf i).toNat)
      case atStart => exact ⟨0, by omega, rfl, rfl⟩
      case round =>
        obtain ⟨k, hk, rfl, rfl⟩ := hrel
        by_cases hlt : k < xs.length
        · have ex := List.getElem?_eq_getElem hlt
          obtain ⟨g', off', rfl, hbl', c0⟩ := HR7.out.get ex
          have hx := HPB.out _ (List.getElem_mem hlt)
          have hxe := HPG.out k hlt
          clear ex
          generalize xs[k] = x at *
          have HO2' := Lib.hid (fun W => ref_of (am + (k : Int)) W (by omega) (by omega))
          rw [← hxe] at HO2'
          have HXE := Lib.hid hxe
          have hbe : (x != x) = false := by simp
          clear hxe
          go_wp2_with (go_at_call 25; first | (with_reducible refine (HOF.out _).mono ?_; rintro e w' ⟨rfl, rfl⟩) | (with_reducible refine (HO2'.out _).mono ?_; rintro e w' ⟨rfl, rfl⟩))
          go_roundw
          case rel => exact ⟨k + 1, by omega, by go_num, by trivial⟩
          case measure => simp [intOf]; omega
        · have hbe : ((xs.length : Int) == s) = true := by rw [beq_iff_eq]; exact HPE.out
          go_wp2_with fail
          go_ret
          exact ⟨rfl, HB1.out.trans (HB7.out.mono (by have := HB1.out.size; have := HGW.out; omega))⟩
  · obtain rfl : s = 0 := by rw [HZ.out, if_neg hd]
    have hg : decide (8388608 < d) = true := by simp; omega
    go_enter Try.func4, Try.ntmps4
    go_wp2_with fail
    refine (gap_awake _).mono ?_
    rintro e w1 ⟨rfl, hb1⟩
    have HB1 := Lib.hid hb1
    clear hb1
    have HX0 := Lib.hid (numRow_two (w := w1.alloc (.cells #[.int .u32 a, .int .u32 b] 24)) (by simp) (two_new w1 (.int .u32 a) (.int .u32 b) 24).1 (two_new w1 (.int .u32 a) (.int .u32 b) 24).2 2)
    have HO0 : Hid ((w1.alloc (.cells #[.int .u32 a, .int .u32 b] 24)).ownsRow w1.heap.size 24 1 (.slice (some ⟨w1.heap.size, 0, none⟩) 2 2) 2 [.int .u32 a, .int .u32 b]) := World.ownsRow_lit w1 #[.int .u32 a, .int .u32 b] 2 (Nat.le_refl _) (by decide) rfl
    have HB0 := Lib.hid ((Below.refl _ w1).alloc (Nat.le_refl _) (.cells #[.int .u32 a, .int .u32 b] 24))
    have hg0 : w1.heap.size < (w1.alloc (.cells #[.int .u32 a, .int .u32 b] 24)).heap.size := by simp
    go_upto_region 7 with (go_at_call 23; refine (HTO.out _).mono ?_; rintro e w' ⟨rfl, rfl⟩)
    generalize w1.alloc (.cells #[.int .u32 a, .int .u32 b] 24) = W at *
    generalize hgw : w1.heap.size = g at *
    have HGW := Lib.hid hgw
    clear hgw
    have HCA := Lib.hid (g_count [a, b] _ W HX0.out (by intro x hx; simp at hx; omega))
    rw [HC2.out] at HCA
    have hne : ((0 : Int) != (0 : Int)) = false := by simp
    go_wp2_with fail
    refine HCA.out.mono ?_
    rintro e w2 ⟨rfl, hb2⟩
    have HX2 := Lib.hid (HX0.out.below hb2)
    have HB2 := Lib.hid (HB0.out.trans (hb2.mono (Nat.le_of_lt hg0)))
    have HO2 : Hid (w2.ownsRow g 24 1 (.slice (some ⟨g, 0, none⟩) 2 2) 2 [.int .u32 a, .int .u32 b]) := HO0.out.kept (row := none) ⟨hb2.os, hb2.tape, hb2.output, hb2.size, fun k hk _ => hb2.block k hk⟩ (.inr (by simp [Value.ownBlock]))
    have hg2 : g ≤ w2.heap.size := by have := hb2.size; omega
    clear hb2 HCA HO0 HX0
    have hcl : ∀ j u, [Value.int .u32 a, Value.int .u32 b][j]? = some u → (w2.alloc (.cells #[.int .u32 c] 24)).cell? ((⟨g, 0, none⟩ : Addr).add j) = some u := fun j u hj => (HO2.out.alloc (.cells #[.int .u32 c] 24)).cells rfl j u hj
    have HCL := Lib.hid hcl
    clear hcl
    go_wp2_with (at_builtin; refine wpList_append_growsG _ (by first | rfl | simp [Region.wanted, yielded]) (.tmp 29) (.tmp 31) 26 rfl 24 i0 (.int .u32 0) 1 4 Try.underlying26 Hi.out Hz0.out Hz1.out Hz2.out rfl (by decide) ⟨g, 0, none⟩ 2 2 [.int .u32 a, .int .u32 b] rfl rfl HCL.out ⟨w2.heap.size, 0, none⟩ 1 1 [.int .u32 c] rfl rfl (one_src (one_new w2 _ _) ⟨w2.heap.size, 0, none⟩ rfl) (by decide) (by unfold maxLen; omega) (by omega) ?_; intro v5 w5 hown4 hg4; have HO5 := Lib.hid hown4; have HG5 := Lib.hid hg4; clear hown4 hg4)
    have HX5 := Lib.hid (numRow_own (xs := [a, b, c]) HO5.out (by simp))
    have hbn : Below w2.heap.size w2 w5 := ((Below.refl _ w2).alloc (Nat.le_refl _) (.cells #[.int .u32 c] 24)).grown HG5.out (by simp) (fun j hj => by cases hj)
    have HB5 := Lib.hid (HB2.out.trans (hbn.mono hg2))
    have HX6 : Hid (NumRow w5 (.slice (some ⟨g, 0, none⟩) 2 2) [a, b]) := HX2.out.below hbn
    clear hbn HCL
    have HCB := Lib.hid (g_count [a, b, c] v5 w5 HX5.out (by intro x hx; simp at hx; omega))
    rw [HC3.out] at HCB
    go_wp2_with fail
    refine HCB.out.mono ?_
    rintro e w6 ⟨rfl, hb6⟩
    have HX7 := Lib.hid (HX6.out.below hb6)
    have HB6 := Lib.hid (HB5.out.trans (hb6.mono (by have := HB5.out.size; have := HGW.out; omega)))
    clear hb6 HCB HX5 HX6 HB5
    by_cases h2k : 2000 < (0 : Int)
    · have e2 : decide (2000 < (0 : Int)) = true := decide_eq_true h2k
      go_wp2_with fail
      go_ret
      exact ⟨rfl, HB1.out.trans (HB6.out.mono (by have := HB1.out.size; have := HGW.out; omega))⟩
    · have e2 : decide (2000 < (0 : Int)) = false := decide_eq_false h2k
      have HNM := Lib.hid (g_named 12 0 0 0 0 (.slice (some ⟨g, 0, none⟩) 2 2) false ⟨#[]⟩ [a, b] w6 HX7.out (by intro x hx; simp at hx; omega) (by rw [HC2.out]; omega) (.inr rfl))
      rw [HN2.out] at HNM
      go_wp2_with fail
      refine HNM.out.mono ?_
      rintro e w7 ⟨u7, rfl, hr7, hb7⟩
      have HR7 := Lib.hid hr7
      have HB7 := Lib.hid (HB6.out.trans (hb7.mono (by have := HB6.out.size; have := HGW.out; omega)))
      clear hr7 hb7 HNM
      have hpl : (pairNums a b).length ≤ 2000 := by rw [HPL.out]; omega
      have HPE : Hid (((pairNums a b).length : Int) = (0 : Int)) := by show _ = _; have := HPL.out; omega
      generalize pairNums a b = xs at *
      obtain ⟨A7, c7, rfl⟩ := HR7.out.form
      have ham : 0 ≤ a % 16777216 ∧ a % 16777216 < 16777216 := by omega
      generalize a % 16777216 = am at *
      go_wp2_with fail
      go_loopw [44] (fun i wr => ∃ k : Nat, k ≤ xs.length ∧ i = .int .i64 k ∧ wr = w7) (fun i _ => xs.length - (intOf i).toNat)
      case atStart => exact ⟨0, by omega, rfl, rfl⟩
      case round =>
        obtain ⟨k, hk, rfl, rfl⟩ := hrel
        by_cases hlt : k < xs.length
        · have ex := List.getElem?_eq_getElem hlt
          obtain ⟨g', off', rfl, hbl', c0⟩ := HR7.out.get ex
          have hx := HPB.out _ (List.getElem_mem hlt)
          have hxe := HPG.out k hlt
          clear ex
          generalize xs[k] = x at *
          have HO2' := Lib.hid (fun W => ref_of (am + (k : Int)) W (by omega) (by omega))
          rw [← hxe] at HO2'
          have HXE := Lib.hid hxe
          have hbe : (x != x) = false := by simp
          clear hxe
          go_wp2_with (go_at_call 25; first | (with_reducible refine (HOF.out _).mono ?_; rintro e w' ⟨rfl, rfl⟩) | (with_reducible refine (HO2'.out _).mono ?_; rintro e w' ⟨rfl, rfl⟩))
          go_roundw
          case rel => exact ⟨k + 1, by omega, by go_num, by trivial⟩
          case measure => simp [intOf]; omega
        · have hbe : ((xs.length : Int) == (0 : Int)) = true := by rw [beq_iff_eq]; exact HPE.out
          go_wp2_with fail
          go_ret
          exact ⟨rfl, HB1.out.trans (HB7.out.mono (by have := HB1.out.size; have := HGW.out; omega))⟩
end Go.Proofs.Ytogbifggaomfjaa
