/- The contract of the law's own question whether a set is just some numbers, where it is. Conditions: the set is of numbers that may be, of at most 65536 of them, its row is not long. -/
import Derived.Test.YtimmineopkmdmaaSpanHas
import Derived.Test.YtimmineopkmdmaaSpanSame
import Derived.Test.YtimmineopkmdmaaSpanEnds
namespace Go.Proofs.Ytimmineopkmdmaa
open Go.RowKit Sp Go.Sort
set_option linter.unusedVariables false

theorem flat_length (s : List Span) : (flat s).length = 2 * s.length := by
  induction s with
  | nil => rfl
  | cons x s ih => simp only [flat, List.flatMap_cons, List.length_append, List.length_cons, List.length_nil] at ih ⊢; omega
theorem flat_get : ∀ (s : List Span) (i : Nat) (x : Span), s[i]? = some x → (flat s)[2 * i]? = some x.1 ∧ (flat s)[2 * i + 1]? = some x.2
  | [], i, x, h => by simp at h
  | y :: s, 0, x, h => by simp at h; subst h; exact ⟨rfl, rfl⟩
  | y :: s, i + 1, x, h => by
    have := flat_get s i x (by simpa using h)
    rw [show 2 * (i + 1) = 2 * i + 2 by omega, show 2 * i + 2 + 1 = (2 * i + 1) + 2 by omega]
    exact this
theorem IntRow.get {w : World} {A : Option Addr} {n cap k : Nat} {l : List Int} {x : Int} (h : IntRow w (.slice A n cap) l) (hk : l[k]? = some x) : ∃ b off, A = some ⟨b, off, none⟩ ∧ b < w.heap.size ∧ w.cell? ⟨b, off + k, none⟩ = some (.int .i64 x) := by
  obtain ⟨A', c', e, _, hc⟩ := h
  rw [Value.slice.injEq] at e
  obtain ⟨rfl, rfl, rfl⟩ := e
  rcases hc with hc | ⟨b, off, e, hb, hc⟩
  · rw [hc] at hk; simp at hk
  · exact ⟨b, off, e, hb, hc k x hk⟩
theorem IntRow.form {w : World} {v : Value} {l : List Int} (h : IntRow w v l) : ∃ A cap, v = .slice A l.length cap := by obtain ⟨A, cap, e, _⟩ := h; exact ⟨A, cap, e⟩

set_option maxHeartbeats 1000000 in
set_option maxRecDepth 100000 in
theorem is_ (s : List Span) (v u : Value) (w : World) (h : WideAt w v s) (hl : (nums s).length ≤ 65536) (hu : IntRow w u (nums s)) :
    Calls Try.prog 12 #[v, u] w fun e w' => e = .returned (.bool true) ∧ Below w.heap.size w w' := by
  obtain ⟨A, cap, rfl⟩ := h.form
  obtain ⟨B, cb, rfl⟩ := hu.form
  have hfew := h.few
  have HS := Lib.hid h
  have HU := Lib.hid hu
  have HL := Lib.hid hl
  have HLI := Lib.hid (fun W (hW : WideAt W (.slice A s.length cap) s) => list s _ W hW hl)
  have HLN := Lib.hid (lenOf_nums h.canon)
  have hsb : ∀ x, x ∈ nums s → -1099511627776 ≤ x ∧ x ≤ 1099511627777 := fun x hx => by
    obtain ⟨y, hy, h1, h2⟩ := (mem_nums s x).1 hx
    have := h.within y hy
    unfold least behind at this
    omega
  have HE := Lib.hid (fun W (hW : IntRow W (.slice B (nums s).length cb) (nums s)) => ref_spans _ (nums s) W hW (by omega) hsb)
  have HEE := Lib.hid (ends_set h.canon)
  have HFL := Lib.hid (flat_length s)
  have HFG := Lib.hid (flat_get s)
  clear h hu hsb
  go_enter Try.func12, Try.ntmps12
  go_wp2_with fail
  refine (HE.out w HU.out).mono ?_
  rintro e w1 ⟨v1, rfl, hv1, hb1⟩
  rw [HEE.out] at hv1
  have HV := Lib.hid hv1
  have HB1 := Lib.hid hb1
  obtain ⟨C, cc, rfl⟩ := hv1.form
  clear hv1 hb1
  rw [HFL.out]
  generalize nums s = L at *
  have hbe : (((2 * s.length : Nat) : Int) != 2 * (s.length : Int)) = false := by rw [bne_eq_false_iff_eq]; omega
  have hbl : (lenOf s != (L.length : Int)) = false := by rw [bne_eq_false_iff_eq]; exact HLN.out
  go_wp2_with fail
  refine (len s _ w1 (HS.out.below HB1.out)).mono ?_
  rintro e w2 ⟨rfl, hb2⟩
  have HB2 := Lib.hid (HB1.out.trans (hb2.mono HB1.out.size))
  have HV2 := Lib.hid (HV.out.below hb2)
  clear hb2
  go_wp2_with fail
  refine (HLI.out w2 (HS.out.below HB2.out)).mono ?_
  rintro e w3 ⟨v3, rfl, hv3, hb3⟩
  have HB3 := Lib.hid (HB2.out.trans (hb3.mono HB2.out.size))
  have HV3 := Lib.hid (HV2.out.below hb3)
  have HR3 := Lib.hid hv3
  clear hb3 hv3
  go_wp2_with fail
  refine (ref_same v3 _ L L w3 HR3.out (HU.out.below HB3.out)).mono ?_
  rintro e w4 ⟨rfl, q, rfl⟩
  rw [show sameB L L = true by simp [sameB]]
  have HB4 := Lib.hid (below_drewN' HB3.out q)
  have HV4 := Lib.hid (HV3.out.drewN q)
  generalize w3.drewN q = w4 at *
  go_wp2_with fail
  go_loopw [32] (fun i wr => ∃ (k : Nat), k ≤ s.length ∧ i = .int .i64 k ∧ Hid (Below w.heap.size w wr) ∧ Hid (Below w4.heap.size w4 wr)) (fun i _ => s.length - (intOf i).toNat)
  case atStart => exact ⟨0, by omega, rfl, HB4, Below.refl _ _⟩
  case round =>
    obtain ⟨k, hk, rfl, HW, HW4⟩ := hrel
    by_cases hlt : k < s.length
    · have ex := List.getElem?_eq_getElem hlt
      obtain ⟨b, off, rfl, hbl, c0, c1⟩ := (HS.out.row.below HW.out).get ex
      obtain ⟨e0, e1⟩ := HFG.out k _ ex
      have HV5 := Lib.hid (HV4.out.below HW4.out)
      obtain ⟨b', off', rfl, hbl', d0⟩ := HV5.out.get e0
      obtain ⟨b2, off2, hbe, _, d1⟩ := HV5.out.get e1
      injection hbe with hbe
      injection hbe with hbe1 hbe2
      subst hbe1 hbe2
      generalize s[k] = x at *
      generalize x.1 = a at *
      generalize x.2 = d at *
      have ha : (a != a) = false := by simp
      have hd : (d != d) = false := by simp
      have i1 : (0 : Int) ≤ (k : Int) := by omega
      have i2 : (k : Int) < (s.length : Int) := by omega
      have i3 : 2 * (k : Int) < 2 * (s.length : Int) := by omega
      have i4 : 2 * (k : Int) + 1 < 2 * (s.length : Int) := by omega
      have hbx0 : (wr.alloc (.cells #[.int .i64 a, .int .i64 d] 35)).cell? ⟨wr.heap.size, 0, none⟩ = some (.int .i64 a) := by have h := cells_two_new wr (.int .i64 a) (.int .i64 d) 35 0 _ rfl; rwa [Addr.add_lit, Nat.zero_add] at h
      have hbx1 : (wr.alloc (.cells #[.int .i64 a, .int .i64 d] 35)).cell? ⟨wr.heap.size, 1, none⟩ = some (.int .i64 d) := by have h := cells_two_new wr (.int .i64 a) (.int .i64 d) 35 1 _ rfl; rwa [Addr.add_lit, Nat.zero_add] at h
      have hba := (Below.refl _ wr).alloc (Nat.le_refl _) (.cells #[.int .i64 a, .int .i64 d] 35)
      have d0' : (wr.alloc (.cells #[.int .i64 a, .int .i64 d] 35)).cell? ⟨b', off' + 2 * k, none⟩ = some (.int .i64 a) := by rw [hba.cell (p := ⟨b', off' + 2 * k, none⟩) hbl']; exact d0
      have d1' : (wr.alloc (.cells #[.int .i64 a, .int .i64 d] 35)).cell? ⟨b', off' + (2 * k + 1), none⟩ = some (.int .i64 d) := by rw [hba.cell (p := ⟨b', off' + (2 * k + 1), none⟩) hbl']; exact d1
      have HWW := Lib.hid (HW.out.alloc HW.out.size (.cells #[.int .i64 a, .int .i64 d] 35))
      have HWW4 := Lib.hid (HW4.out.alloc HW4.out.size (.cells #[.int .i64 a, .int .i64 d] 35))
      clear ex e0 e1 d0 d1 hba
      go_upto_region 7 with fail
      generalize wr.alloc (.cells #[.int .i64 a, .int .i64 d] 35) = W at *
      go_quiet (fail)
      go_wp2_with fail
      go_roundw
      case rel => exact ⟨k + 1, by omega, by go_num, below_drewN' HWW.out _, below_drewN' HWW4.out _⟩
      case measure => simp [intOf]; omega
    · go_wp2_with fail
      go_ret
      exact ⟨rfl, HW.out⟩
end Go.Proofs.Ytimmineopkmdmaa
