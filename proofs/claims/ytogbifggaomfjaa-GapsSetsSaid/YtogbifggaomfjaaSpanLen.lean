/- The document's Has on a list, and span's Len. Conditions: the rows lie as rows do; the set is of numbers that may be. -/
import Derived.Test.YtogbifggaomfjaaSpanTwoSets
import Derived.Test.YtogbifggaomfjaaIntRow
namespace Go.Proofs.Ytogbifggaomfjaa
open Go.RowKit Sp
set_option linter.unusedVariables false

set_option maxRecDepth 100000 in
theorem ref_has (u : Value) (xs : List Int) (x : Int) (w : World) (h : IntRow w u xs) :
    Calls Try.prog 94 #[u, .int .i64 x] w fun e w' => e = .returned (.bool (decide (x ∈ xs))) ∧ w = w' := by
  obtain ⟨A, ca, rfl, hlx, h1⟩ := h
  have H1 := Lib.hid h1
  clear h1
  go_enter Try.func94, Try.ntmps94
  go_wp2_with fail
  go_loopw [9] (fun i wr => ∃ k : Nat, k ≤ xs.length ∧ i = .int .i64 k ∧ wr = w ∧ Hid (x ∉ xs.take k)) (fun i _ => xs.length - (intOf i).toNat)
  case atStart => exact ⟨0, by omega, rfl, rfl, by show _ ∉ _; simp⟩
  case round =>
    obtain ⟨k, hk, rfl, rfl, HT⟩ := hrel
    by_cases hlt : k < xs.length
    · obtain ⟨b, off, rfl, hb, hc1⟩ := H1.out.resolve_left (fun e => by rw [e] at hlt; simp at hlt)
      have ex := List.getElem?_eq_getElem hlt
      have c1 := hc1 k _ ex
      have Hm : Hid (xs[k] ∈ xs) := List.getElem_mem hlt
      have Hn : Hid (xs[k] ≠ x → x ∉ xs.take (k + 1)) := fun hne hmem => by
        rw [List.take_succ_eq_append_getElem hlt, List.mem_append] at hmem
        rcases hmem with hm | hm
        · exact HT.out hm
        · simp at hm; exact hne hm.symm
      clear hc1 ex
      generalize xs[k] = y at *
      by_cases hxy : y = x
      · subst hxy
        have hd : decide (y ∈ xs) = true := by simp; exact Hm.out
        go_wp2_with fail
        go_ret
        exact ⟨by first | (rw [hd]; done) | (rw [hd]; rfl), rfl⟩
      · have hbe : (y == x) = false := by rw [beq_eq_false_iff_ne]; exact hxy
        have HXY := Lib.hid hxy
        clear hxy
        go_wp2_with fail
        go_roundw
        case rel => exact ⟨k + 1, by omega, by go_num, by trivial, Hn.out HXY.out⟩
        case measure => simp [intOf]; omega
    · have hks : k = xs.length := by omega
      subst hks
      rw [List.take_of_length_le (Nat.le_refl _)] at HT
      have hd : decide (x ∈ xs) = false := by simp; exact HT.out
      go_wp2_with fail
      go_ret
      exact ⟨by first | (rw [hd]; done) | (rw [hd]; rfl), rfl⟩

theorem lenOf_snoc (s : List Span) (x : Span) : lenOf (s ++ [x]) = lenOf s + (x.2 - x.1) := by unfold lenOf; simp
theorem lenOf_take {s : List Span} (hc : Canon s) (hw : Within s) : ∀ k, k ≤ s.length → 0 ≤ lenOf (s.take k) ∧ lenOf (s.take k) ≤ (k : Int) * 2199023255554
  | 0, _ => by simp [lenOf]
  | k + 1, hk => by
    obtain ⟨h1, h2⟩ := lenOf_take hc hw k (by omega)
    have hm : s[k] ∈ s := List.getElem_mem _
    have h3 := hc.1 _ hm
    have h4 := hw _ hm
    unfold least behind at h4
    rw [List.take_succ_eq_append_getElem (by omega)]
    rw [lenOf_snoc]
    omega

set_option maxRecDepth 100000 in
theorem len (s : List Span) (v : Value) (w : World) (h : WideAt w v s) :
    Calls Try.prog 21 #[v] w fun e w' => e = .returned (.int .i64 (lenOf s)) ∧ Below w.heap.size w w' := by
  obtain ⟨A, cap, rfl⟩ := h.form
  have hfew := h.few
  have HS := Lib.hid h
  have HL := Lib.hid (lenOf_take h.canon h.within)
  clear h
  go_enter Try.func21, Try.ntmps21
  go_wp2_with fail
  go_loopw [3, 8] (fun n i wr => ∃ (k : Nat) (m : Int), k ≤ s.length ∧ n = .int .i64 m ∧ i = .int .i64 k ∧ Hid (m = lenOf (s.take k)) ∧ Hid (Below w.heap.size w wr)) (fun _ i _ => s.length - (intOf i).toNat)
  case atStart => exact ⟨0, 0, by omega, rfl, rfl, (by show _ = _; simp [lenOf]), Below.refl _ _⟩
  case round =>
    obtain ⟨k, m, hk, rfl, rfl, HM, HW⟩ := hrel
    obtain ⟨hb1, hb2⟩ := HL.out k hk
    rw [← HM.out] at hb1 hb2
    by_cases hlt : k < s.length
    · have ex := List.getElem?_eq_getElem hlt
      obtain ⟨b, off, rfl, hbl, c0, c1⟩ := (HS.out.row.below HW.out).get ex
      have HE := Lib.hid ex
      have hc := HS.out.canon.1 _ (List.getElem_mem hlt)
      have hwi := HS.out.within _ (List.getElem_mem hlt)
      unfold least behind at hwi
      have HM2 : Hid (m + (s[k].2 - s[k].1) = lenOf (s.take (k + 1))) := by
        show _ = _
        rw [List.take_succ_eq_append_getElem hlt, HM.out, lenOf_snoc]
      clear ex HE
      generalize s[k] = x at *
      generalize x.1 = a at *
      generalize x.2 = d at *
      have HWW := Lib.hid (HW.out.alloc HW.out.size (.cells #[.int .i64 a, .int .i64 d] 32))
      have e1 : IntKind.i64.wrap (d - a) = d - a := by rw [IntKind.wrap_i64]; omega
      have e2 : IntKind.i64.wrap (m + (d - a)) = m + (d - a) := by rw [IntKind.wrap_i64]; omega
      go_wp2_with fail
      go_roundw
      case rel => exact ⟨k + 1, m + (d - a), by omega, by first | rfl | (rw [e1, e2]; done) | go_num, by go_num, HM2, HWW⟩
      case measure => simp [intOf]; omega
    · have hks : k = s.length := by omega
      subst hks
      rw [List.take_of_length_le (Nat.le_refl _)] at HM
      go_wp2_with fail
      go_ret
      exact ⟨by first | (rw [HM.out]; done) | (rw [← HM.out]; rfl) | rfl, HW.out⟩
end Go.Proofs.Ytogbifggaomfjaa
