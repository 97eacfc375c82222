/- The contracts of package gaps' small functions: size, rises. Conditions: the numbers fit their kinds, the rows lie as rows do. -/
import Derived.Test.YtogbifggaomfjaaNumRow
import Derived.Test.YtogbifggaomfjaaSeqFns
import Derived.Test.YtogbifggaomfjaaGapMath
namespace Go.Proofs.Ytogbifggaomfjaa
open Go.RowKit Sp
set_option linter.unusedVariables false

theorem g_size (a b : Int) (w : World) (h1 : 0 ≤ a) (h2 : a < 4294967296) (h3 : 0 ≤ b) (h4 : b < 4294967296) :
    Calls Try.prog 67 #[.int .u32 a, .int .u32 b] w fun e w' => e = .returned (.int .i64 (sz a b)) ∧ w = w' := by
  have HC := Lib.hid (seq_to a b w h1 h2 h3 h4)
  have hz : sz a b = if (b - a) % 16777216 ≤ 8388608 then (b - a) % 16777216 else 0 := rfl
  have HZ := Lib.hid hz
  clear hz
  have hd0 : 0 ≤ (b - a) % 16777216 ∧ (b - a) % 16777216 < 16777216 := by omega
  generalize (b - a) % 16777216 = d at *
  by_cases hd : d ≤ 8388608
  · have hg : decide (8388608 < d) = false := by simp; omega
    go_enter Try.func67, Try.ntmps67
    go_wp2_with (go_at_call 38; refine HC.out.mono ?_; rintro e w' ⟨rfl, rfl⟩)
    go_ret
    exact ⟨retInt (by rw [HZ.out, if_pos hd]), rfl⟩
  · have hg : decide (8388608 < d) = true := by simp; omega
    go_enter Try.func67, Try.ntmps67
    go_wp2_with (go_at_call 38; refine HC.out.mono ?_; rintro e w' ⟨rfl, rfl⟩)
    go_ret
    exact ⟨retInt (by rw [HZ.out, if_neg (by omega)]), rfl⟩

set_option maxHeartbeats 1000000 in
set_option maxRecDepth 100000 in
theorem g_rises (b far : Int) (l : List Int) (v : Value) (w : World) (h : NumRow w v l) (h1 : 0 ≤ b) (h2 : b < 4294967296) (hl : ∀ x, x ∈ l → 0 ≤ x ∧ x < 4294967296) (h3 : 0 ≤ far) (h4 : far < 16777216) :
    Calls Try.prog 63 #[.int .u32 b, .int .i64 far, v] w fun e w' => e = .returned (.bool (riseB b far (-1) l)) ∧ w = w' := by
  obtain ⟨A, cap, rfl⟩ := h.form
  have hsm := h.small
  have HR := Lib.hid h
  have HL := Lib.hid hl
  clear h hl
  go_enter Try.func63, Try.ntmps63
  go_wp2_with fail
  go_loopw [7, 13] (fun n i wr => ∃ k : Nat, k ≤ l.length ∧ i = .int .i64 k ∧ n = .int .i64 (lastAt b l k) ∧ wr = w ∧ Hid (riseB b far (-1) l = riseB b far (lastAt b l k) (l.drop k))) (fun _ i _ => l.length - (intOf i).toNat)
  case atStart => exact ⟨0, by omega, rfl, rfl, rfl, (by show _ = _; rfl)⟩
  case round =>
    obtain ⟨k, hk, rfl, rfl, rfl, HE⟩ := hrel
    have hla := lastAt_bd b l k
    by_cases hlt : k < l.length
    · have ex := List.getElem?_eq_getElem hlt
      obtain ⟨g, off, rfl, hbl, c0⟩ := HR.out.get ex
      have hx := HL.out _ (List.getElem_mem hlt)
      have HN := Lib.hid (lastAt_next b l k hlt)
      have HD := Lib.hid (rise_drop b far l k hlt)
      clear ex
      generalize l[k] = x at *
      have HC := Lib.hid (seq_to b x wr h1 h2 hx.1 hx.2)
      have hd0 : 0 ≤ (x - b) % 16777216 ∧ (x - b) % 16777216 < 16777216 := by omega
      generalize (x - b) % 16777216 = d at *
      generalize hla' : lastAt b l k = la at *
      have HLA := Lib.hid hla'
      clear hla'
      by_cases hc1 : la < d
      · have e1 : decide (d ≤ la) = false := by simp; omega
        by_cases hc2 : d ≤ far
        · have e2 : decide (far < d) = false := by simp; omega
          have HE2 : Hid (riseB b far (-1) l = riseB b far (lastAt b l (k + 1)) (l.drop (k + 1))) := by
            show _ = _
            rw [HE.out, HD.out, decide_eq_true hc1, decide_eq_true hc2]
            rfl
          go_wp2_with (go_at_call 38; refine HC.out.mono ?_; rintro e w' ⟨rfl, rfl⟩)
          go_roundw
          case rel => exact ⟨k + 1, by omega, by go_num, by rw [HN.out], by trivial, HE2⟩
          case measure => simp [intOf]; omega
        · have e2 : decide (far < d) = true := by simp; omega
          have HE2 : Hid (riseB b far (-1) l = false) := by
            show _ = _
            rw [HE.out, HD.out, decide_eq_true hc1, decide_eq_false hc2]
            rfl
          go_wp2_with (go_at_call 38; refine HC.out.mono ?_; rintro e w' ⟨rfl, rfl⟩)
          go_ret
          exact ⟨by first | (rw [HE2.out]; done) | (rw [HE2.out]; rfl), rfl⟩
      · have e1 : decide (d ≤ la) = true := by simp; omega
        have HE2 : Hid (riseB b far (-1) l = false) := by
          show _ = _
          rw [HE.out, HD.out, decide_eq_false hc1]
          rfl
        go_wp2_with (go_at_call 38; refine HC.out.mono ?_; rintro e w' ⟨rfl, rfl⟩)
        go_ret
        exact ⟨by first | (rw [HE2.out]; done) | (rw [HE2.out]; rfl), rfl⟩
    · have hks : k = l.length := by omega
      have HE2 : Hid (riseB b far (-1) l = true) := by
        show _ = _
        rw [HE.out, hks, List.drop_length]
        rfl
      go_wp2_with fail
      go_ret
      exact ⟨by first | (rw [HE2.out]; done) | (rw [HE2.out]; rfl), rfl⟩
end Go.Proofs.Ytogbifggaomfjaa
