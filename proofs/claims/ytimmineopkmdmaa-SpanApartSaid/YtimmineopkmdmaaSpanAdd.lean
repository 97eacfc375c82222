/- The contracts of slices.Grow and slices.Concat at sets, and of span's Add. Conditions: the sets are small, the rows are not long. -/
import Derived.Test.YtimmineopkmdmaaSpanOf
import Derived.Test.YtimmineopkmdmaaAppendSrc
namespace Go.Proofs.Ytimmineopkmdmaa
open Go.RowKit Sp
set_option linter.unusedVariables false

set_option maxRecDepth 100000 in
theorem growNil (n : Nat) (w : World) (hn : n ≤ 100000) :
    Calls Try.prog 43 #[.slice none 0 0, .int .i64 (n : Int)] w fun e w' => ∃ v, e = .returned v ∧ w'.ownsRow w.heap.size 35 2 v 0 [] ∧ Below w.heap.size w w' := by
  obtain ⟨i0, hi, hz0, hz1, hz2⟩ := info_parts infoSpan
  have Hi := Lib.hid hi
  have Hz0 := Lib.hid hz0
  have Hz1 := Lib.hid hz1
  have Hz2 := Lib.hid hz2
  clear hi hz0 hz1 hz2
  by_cases h0 : n = 0
  · subst h0
    simp only [Int.ofNat_zero]
    go_enter Try.func43, Try.ntmps43
    go_wp2_with fail
    go_ret
    exact ⟨_, rfl, World.ownsRow_nil w _ _ _, Below.refl _ _⟩
  · have h1 : 0 < (n : Int) := by omega
    go_enter Try.func43, Try.ntmps43
    go_wp2_with (at_builtin; refine wpList_append_zeros _ rfl (.tmp 20) (.tmp 21) 27 3 rfl w.heap.size 35 i0 (.agg #[.int .i64 0, .int .i64 0]) 2 16 .i64 Try.underlying27 Try.underlying3 Hi.out Hz0.out Hz1.out Hz2.out rfl (by decide) n _ (by omega) rfl rfl (by omega) (by omega) (by omega) (Nat.le_refl _) ?_; intro cap w1 hcap hown hg; have HO := Lib.hid hown; have HG := Lib.hid hg; clear hown hg)
    go_ret
    exact ⟨_, rfl, HO.out, (Below.refl _ w).grown HG.out (Nat.le_refl _) (fun j hj => by cases hj)⟩

theorem intCast0 : ((0 : Nat) : Int) = 0 := rfl
/-- What a row of spans hands an append. -/
theorem spRow_src {w : World} {A : Option Addr} {n cap : Nat} {s : List Span} (h : SpRow w (.slice A n cap) s) : n = s.length ∧ (A = none → s.length = 0) ∧ ∀ ad, A = some ad → ∀ j u, (encs s)[j]? = some u → w.cell? (ad.add j) = some u := by
  obtain ⟨A', c', he, _, _, _, hc⟩ := h
  rw [Value.slice.injEq] at he
  obtain ⟨rfl, rfl, rfl⟩ := he
  refine ⟨rfl, fun hA => ?_, fun ad hA j u hu => ?_⟩
  · rcases hc with hc | ⟨b, off, e, _⟩
    · rw [hc]; rfl
    · rw [hA] at e; cases e
  · rcases hc with hc | ⟨b, off, e, _, hc⟩
    · rw [hc] at hu; simp [encs] at hu
    · rw [hA] at e
      injection e with e
      subst e
      have hj : j < s.length * 2 := by rw [← encs_length]; exact (List.getElem?_eq_some_iff.1 hu).1
      have hd : j / 2 < s.length := by omega
      have ex := List.getElem?_eq_getElem hd
      obtain ⟨e1, e2⟩ := encs_get s (j / 2) _ ex
      obtain ⟨g1, g2⟩ := hc (j / 2) _ ex
      generalize s[j / 2] = y at *
      rw [Addr.add_lit]
      rcases Nat.mod_two_eq_zero_or_one j with hm | hm
      · rw [show j / 2 * 2 = j by omega] at e1 g1
        rw [e1] at hu; injection hu with hu; rw [← hu]; exact g1
      · rw [show j / 2 * 2 + 1 = j by omega] at e2
        rw [e2] at hu; injection hu with hu; rw [← hu, show off + j = off + j / 2 * 2 + 1 by omega]; exact g2
theorem encs_one (s : List Span) : ∀ u ∈ encs s, u.oneCell' = true := by
  intro u hu
  unfold encs at hu
  obtain ⟨x, _, hx⟩ := List.mem_flatMap.1 hu
  simp [encS] at hx
  rcases hx with rfl | rfl <;> rfl

set_option maxHeartbeats 1000000 in
set_option maxRecDepth 100000 in
theorem concat2 (s1 s2 : List Span) (A1 A2 : Option Addr) (c1 c2 b : Nat) (w : World) (h1 : SpRow w (.slice A1 s1.length c1) s1) (h2 : SpRow w (.slice A2 s2.length c2) s2) (hl1 : s1.length ≤ 10000) (hl2 : s2.length ≤ 10000)
    (hb : b < w.heap.size) (k0 : w.cell? ⟨b, 0, none⟩ = some (.slice A1 s1.length c1)) (k1 : w.cell? ⟨b, 1, none⟩ = some (.slice A2 s2.length c2)) :
    Calls Try.prog 37 #[.slice (some ⟨b, 0, none⟩) 2 2] w fun e w' => ∃ v, e = .returned v ∧ SpRow w' v (s1 ++ s2) ∧ Below w.heap.size w w' := by
  obtain ⟨i0, hi, hz0, hz1, hz2⟩ := info_parts infoSpan
  have Hi := Lib.hid hi
  have Hz0 := Lib.hid hz0
  have Hz1 := Lib.hid hz1
  have Hz2 := Lib.hid hz2
  have H1 := Lib.hid h1
  have H2 := Lib.hid h2
  have K0 := Lib.hid k0
  have K1 := Lib.hid k1
  clear hi hz0 hz1 hz2 h1 h2
  go_enter Try.func37, Try.ntmps37
  go_wp2_with fail
  go_loop [3, 11] (fun z i => (i = .int .i64 0 ∧ z = .int .i64 0) ∨ (i = .int .i64 1 ∧ z = .int .i64 (s1.length : Int)) ∨ (i = .int .i64 2 ∧ z = .int .i64 ((s1.length + s2.length : Nat) : Int))) (fun _ i => 2 - (intOf i).toNat)
  case atStart => exact .inl ⟨rfl, rfl⟩
  case round =>
    rcases hrel with ⟨rfl, rfl⟩ | ⟨rfl, rfl⟩ | ⟨rfl, rfl⟩
    · go_wp2_with fail
      go_round
      case rel => exact .inr (.inl ⟨rfl, rfl⟩)
      case measure => simp [intOf]
    · go_wp2_with fail
      go_round
      case rel => exact .inr (.inr ⟨rfl, by go_num⟩)
      case measure => simp [intOf]
    · clear k0 k1
      go_wp2_with fail
      refine (growNil (s1.length + s2.length) w (by omega)).mono ?_
      rintro e w1 ⟨v, rfl, hown, hb1⟩
      have HO := Lib.hid hown
      have HB1 := Lib.hid hb1
      clear hown hb1
      go_wp2_with fail
      go_loopw [6, 27] (fun u i wr => Hid (Below w.heap.size w wr) ∧ ((i = .int .i64 0 ∧ Hid (wr.ownsRow w.heap.size 35 2 u 0 [])) ∨ (i = .int .i64 1 ∧ Hid (wr.ownsRow w.heap.size 35 2 u s1.length (encs s1))) ∨ (i = .int .i64 2 ∧ Hid (wr.ownsRow w.heap.size 35 2 u (s1 ++ s2).length (encs (s1 ++ s2)))))) (fun _ i _ => 2 - (intOf i).toNat)
      case atStart => exact ⟨HB1, .inl ⟨rfl, HO⟩⟩
      case round =>
        obtain ⟨HB, hrel⟩ := hrel
        clear HB1 HO
        rcases hrel with ⟨rfl, HO⟩ | ⟨rfl, HO⟩ | ⟨rfl, HO⟩
        · have k0 : wr.cell? ⟨b, 0, none⟩ = some (.slice A1 s1.length c1) := by rw [HB.out.cell (p := ⟨b, 0, none⟩) hb]; exact K0.out
          obtain ⟨_, q0, q1⟩ := spRow_src (H1.out.below HB.out)
          have Q1 := Lib.hid q1
          clear q1
          go_wp2_with (at_builtin; refine wpList_append_src _ rfl (.tmp 31) (.tmp 32) 27 rfl w.heap.size 35 i0 (.agg #[.int .i64 0, .int .i64 0]) 2 16 Try.underlying27 Hi.out Hz0.out Hz1.out Hz2.out rfl (by decide) _ 0 [] rfl HO.out A1 s1.length c1 (encs s1) rfl (encs_length s1) q0 Q1.out (encs_one s1) (by unfold maxLen; omega) (by omega) HB.out.size ?_; intro v' w4 hown4 hg4 _; have HO4 := Lib.hid hown4; have HG4 := Lib.hid hg4; clear hown4 hg4)
          have HB4 := Lib.hid (HB.out.grown HG4.out HB.out.size (fun j hj => (HO.out.lt j hj).1))
          go_roundw
          case rel => exact ⟨HB4, .inr (.inl ⟨rfl, by have h := HO4.out; rw [Nat.zero_add, List.nil_append] at h; exact h⟩)⟩
          case measure => simp [intOf]
        · have k1 : wr.cell? ⟨b, 1, none⟩ = some (.slice A2 s2.length c2) := by rw [HB.out.cell (p := ⟨b, 1, none⟩) hb]; exact K1.out
          obtain ⟨_, q0, q1⟩ := spRow_src (H2.out.below HB.out)
          have Q1 := Lib.hid q1
          clear q1
          go_wp2_with (at_builtin; refine wpList_append_src _ rfl (.tmp 31) (.tmp 32) 27 rfl w.heap.size 35 i0 (.agg #[.int .i64 0, .int .i64 0]) 2 16 Try.underlying27 Hi.out Hz0.out Hz1.out Hz2.out rfl (by decide) _ s1.length (encs s1) rfl HO.out A2 s2.length c2 (encs s2) rfl (encs_length s2) q0 Q1.out (encs_one s2) (by unfold maxLen; omega) (by omega) HB.out.size ?_; intro v' w4 hown4 hg4 _; have HO4 := Lib.hid hown4; have HG4 := Lib.hid hg4; clear hown4 hg4)
          have HB4 := Lib.hid (HB.out.grown HG4.out HB.out.size (fun j hj => (HO.out.lt j hj).1))
          go_roundw
          case rel => exact ⟨HB4, .inr (.inr ⟨rfl, by have h := HO4.out; rw [← List.length_append, ← encs_append] at h; exact h⟩)⟩
          case measure => simp [intOf]
        · go_wp2_with fail
          go_ret
          exact ⟨_, rfl, spRow_own HO.out (by simp; omega), HB.out⟩

theorem spRow_one (w : World) (a d : Int) (t : TypeId) : SpRow (w.alloc (.cells #[.int .i64 a, .int .i64 d] t)) (.slice (some ⟨w.heap.size, 0, none⟩) 1 1) [(a, d)] := by
  refine ⟨_, 1, rfl, by simp, by decide, by simp, .inr ⟨w.heap.size, 0, rfl, by simp, fun i x hx => ?_⟩⟩
  match i with
  | 0 =>
    simp at hx
    subst hx
    have h0 := cells_two_new w (.int .i64 a) (.int .i64 d) t 0 _ rfl
    have h1 := cells_two_new w (.int .i64 a) (.int .i64 d) t 1 _ rfl
    rw [Addr.add_lit] at h0 h1
    exact ⟨h0, h1⟩
  | i + 1 => simp at hx

/-- A set of small numbers, written in one way, in a row. -/
structure SetAt (w : World) (v : Value) (s : List Span) : Prop where
  row : SpRow w v s
  canon : Canon s
  small : ∀ x, x ∈ s → Small x
  few : s.length ≤ 10000
theorem SetAt.below {w w' : World} {v : Value} {s : List Span} (h : SetAt w v s) (hb : Below w.heap.size w w') : SetAt w' v s := ⟨h.row.below hb, h.canon, h.small, h.few⟩
theorem SetAt.form {w : World} {v : Value} {s : List Span} (h : SetAt w v s) : ∃ A cap, v = .slice A s.length cap := by obtain ⟨A, cap, e, _⟩ := h.row; exact ⟨A, cap, e⟩

set_option maxHeartbeats 1000000 in
set_option maxRecDepth 100000 in
theorem add (s : List Span) (x : Span) (v : Value) (w : World) (h : SetAt w v s) (hx : Small x) :
    Calls Try.prog 17 #[v, .agg #[.int .i64 x.1, .int .i64 x.2]] w fun e w' => ∃ u s', e = .returned u ∧ SpRow w' u s' ∧ IsSet s' (s ++ [x]) ∧ Below w.heap.size w w' := by
  obtain ⟨A, cap, rfl⟩ := h.form
  have hfew := h.few
  have HSM := Lib.hid h.small
  have HR := Lib.hid h.row
  have HX := Lib.hid hx
  clear h hx
  obtain ⟨a, ha⟩ : ∃ a, a = x.1 := ⟨_, rfl⟩
  obtain ⟨d, hd⟩ : ∃ d, d = x.2 := ⟨_, rfl⟩
  rw [← ha, ← hd]
  have HA := Lib.hid ha
  have HD := Lib.hid hd
  clear ha hd
  go_enter Try.func17, Try.ntmps17
  go_wp2_with fail
  have e1 : (w.alloc (.cells #[.int .i64 a, .int .i64 d] 35)).heap.size = w.heap.size + 1 := by simp
  have hw1 : Below w.heap.size w ((w.alloc (.cells #[.int .i64 a, .int .i64 d] 35)).alloc (.cells #[.int .i64 a, .int .i64 d] 35)) := ((Below.refl _ w).alloc (Nat.le_refl _) _).alloc (by simp) _
  have hone := spRow_one (w.alloc (.cells #[.int .i64 a, .int .i64 d] 35)) a d 35
  rw [e1] at hone
  have e2 : ((w.alloc (.cells #[.int .i64 a, .int .i64 d] 35)).alloc (.cells #[.int .i64 a, .int .i64 d] 35)).heap.size = w.heap.size + 1 + 1 := by simp
  have hr1 := HR.out.below hw1
  generalize (w.alloc (.cells #[.int .i64 a, .int .i64 d] 35)).alloc (.cells #[.int .i64 a, .int .i64 d] 35) = W1 at *
  rw [← e2]
  have k0 : (W1.alloc (.cells #[.slice A s.length cap, .slice (some ⟨w.heap.size + 1, 0, none⟩) 1 1] 27)).cell? ⟨W1.heap.size, 0, none⟩ = some (.slice A s.length cap) := by
    rw [cell_of_row _ _ 0 _ _ (0, 0) (heap_alloc_new W1 _)]; rfl
  have k1 : (W1.alloc (.cells #[.slice A s.length cap, .slice (some ⟨w.heap.size + 1, 0, none⟩) 1 1] 27)).cell? ⟨W1.heap.size, 1, none⟩ = some (.slice (some ⟨w.heap.size + 1, 0, none⟩) 1 1) := by
    rw [cell_of_row _ _ 1 _ _ (0, 0) (heap_alloc_new W1 _)]; rfl
  have hw2 : Below W1.heap.size W1 (W1.alloc (.cells #[.slice A s.length cap, .slice (some ⟨w.heap.size + 1, 0, none⟩) 1 1] 27)) := (Below.refl _ W1).alloc (Nat.le_refl _) _
  have hlt : W1.heap.size < (W1.alloc (.cells #[.slice A s.length cap, .slice (some ⟨w.heap.size + 1, 0, none⟩) 1 1] 27)).heap.size := by simp
  have hr2 := hr1.below hw2
  have ho2 := hone.below hw2
  have hb2 := hw1.trans (hw2.mono hw1.size)
  generalize W1.alloc (.cells #[.slice A s.length cap, .slice (some ⟨w.heap.size + 1, 0, none⟩) 1 1] 27) = W2 at *
  generalize w.heap.size + 1 = b1 at *
  generalize W1.heap.size = b2 at *
  have HB2 := Lib.hid hb2
  have HC := Lib.hid (concat2 s [(a, d)] A (some ⟨b1, 0, none⟩) cap 1 b2 W2 hr2 ho2 hfew (by simp) hlt k0 k1)
  clear e1 hone e2 hr1 hw1 hw2 hr2 ho2 hb2 k0 k1
  refine HC.out.mono ?_
  rintro e w3 ⟨u, rfl, hu, hb3⟩
  have HU := Lib.hid hu
  have HB3 := Lib.hid (HB2.out.trans (hb3.mono HB2.out.size))
  clear hu hb3
  have hx : Small (a, d) := by have h := HX.out; unfold Small at h ⊢; rw [← HA.out, ← HD.out] at h; exact h
  have HO := Lib.hid (of_ (s ++ [(a, d)]) u w3 HU.out (by simp; omega) (fun y hy => by
    rcases List.mem_append.1 hy with hy | hy
    · exact HSM.out y hy
    · simp at hy; subst hy; exact hx))
  clear hx
  go_wp2_with fail
  refine HO.out.mono ?_
  rintro e w4 ⟨u', s', rfl, hu', hs', hb4⟩
  have HU' := Lib.hid hu'
  have HS' := Lib.hid hs'
  have HB4 := Lib.hid (HB3.out.trans (hb4.mono HB3.out.size))
  clear hu' hs' hb4
  go_wp2_with fail
  go_ret
  refine ⟨_, s', rfl, HU'.out, ?_, HB4.out⟩
  have h := HS'.out
  rw [HA.out, HD.out] at h
  exact h
end Go.Proofs.Ytimmineopkmdmaa
