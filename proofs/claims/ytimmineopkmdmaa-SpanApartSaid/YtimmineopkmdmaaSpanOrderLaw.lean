/- The walk of the law SpanOrder. Conditions: the slices lie as slices do. -/
import Derived.Test.YtimmineopkmdmaaSpanChangesLaw
import Derived.Test.YtimmineopkmdmaaIntIn
namespace Go.Proofs.Ytimmineopkmdmaa
open Go.RowKit Sp Go.Sort
set_option linter.unusedVariables false
set_option linter.unusedSimpArgs false

theorem tmod_small (v : Int) (n : Nat) (hn : 0 < n) : -(n : Int) < v.tmod n ∧ v.tmod n < n := ⟨Int.lt_tmod_of_pos v (by omega), Int.tmod_lt_of_pos v (by omega)⟩
theorem tmod_in (v : Int) (n : Nat) (hn : 0 < n) : 0 ≤ (v.tmod n + n).tmod n ∧ (v.tmod n + n).tmod n < n := by
  obtain ⟨h1, h2⟩ := tmod_small v n hn
  exact ⟨Int.tmod_nonneg _ (by omega), Int.tmod_lt_of_pos _ (by omega)⟩
theorem set_nil {t : List Span} (hc : Canon t) (h : ∀ n, ¬ Mem t n) : t = [] := by
  match t, hc with
  | [], _ => rfl
  | x :: t, hc => exact absurd ⟨x, List.mem_cons_self, Int.le_refl _, hc.1 x List.mem_cons_self⟩ (h x.1)
theorem mem_getElem {out : List Span} {m : Int} : Mem out m ↔ ∃ (j : Nat) (x : Span), out[j]? = some x ∧ x.1 ≤ m ∧ m < x.2 := by
  constructor
  · rintro ⟨x, hx, h⟩
    obtain ⟨j, hj, e⟩ := List.getElem_of_mem hx
    exact ⟨j, x, by rw [← e]; exact List.getElem?_eq_getElem hj, h⟩
  · rintro ⟨j, x, hj, h⟩
    exact ⟨x, List.mem_of_getElem? hj, h⟩

structure OrAt (w : World) (fu fv su : Value) (out s : List Span) (all : List Int) : Prop where
  r : SpRow w fu out
  f : IntRow w fv all
  s : SetAt w su s
theorem OrAt.below {w w' : World} {fu fv su : Value} {out s : List Span} {all : List Int} (h : OrAt w fu fv su out s all) (hb : Below w.heap.size w w') : OrAt w' fu fv su out s all :=
  ⟨h.r.below hb, h.f.below hb, h.s.below hb⟩
theorem setAt_nil (w : World) : SetAt w (.slice none 0 0) [] := ⟨spRow_nil w, canon_nil, by simp, by simp⟩

set_option maxHeartbeats 1000000 in
set_option maxRecDepth 100000 in
theorem walk_SpanOrder (A : Option Addr) (len cap : Nat) (A' : Option Addr) (len' cap' : Nat) (w : World) (ps : Nat → Int × Int) (ord : Nat → Int) (h : PairRow w A len ps) (h' : IntIn w A' len' ord) :
    Calls Try.prog 7 #[.slice A len cap, .slice A' len' cap'] w fun e w' => e = .returned (.bool true) ∧ Below w.heap.size w w' := by
  have HP := Lib.hid h
  have HQ := Lib.hid h'
  have hl' := h'.1
  unfold maxLen at hl'
  clear h h'
  go_enter Try.func7, Try.ntmps7
  go_wp2_with fail
  refine (span_awake _).mono ?_
  rintro e w1 ⟨rfl, hb1⟩
  have HB1 := Lib.hid hb1
  have HP1 := Lib.hid (HP.out.below hb1)
  clear hb1
  go_wp2_with fail
  refine (few ps A len cap _ HP1.out).mono ?_
  rintro e w2 ⟨fu, fv, out, all, rfl, hr, hi, hol, hF, _, hb2⟩
  have HB2 := Lib.hid (HB1.out.trans (hb2.mono HB1.out.size))
  have HF := Lib.hid hF
  have HT2 : Hid (OrAt w2 fu fv (.slice none 0 0) out [] all) := ⟨hr, hi, setAt_nil w2⟩
  have hlo : out.length ≤ 12 := by omega
  have HSM := Lib.hid hF.small
  have HQ2 := Lib.hid (HQ.out.below HB2.out)
  obtain ⟨fa, fc, rfl⟩ : ∃ A cap, fu = .slice A out.length cap := by obtain ⟨A, cap, e, _⟩ := hr; exact ⟨A, cap, e⟩
  clear hr hi hol hF hb2
  obtain ⟨N, hN⟩ : ∃ N, N = out.length := ⟨_, rfl⟩
  have HN := Lib.hid hN
  rw [← hN] at hlo HT2 ⊢
  clear hN
  go_wp2_with fail
  go_loopw [8, 9] (fun a i wr => ∃ (k : Nat) (u : Value) (s : List Span), k ≤ 30 ∧ k ≤ len' ∧ u = a ∧ i = .int .i64 k ∧ Hid (OrAt wr (.slice fa N fc) fv u out s all) ∧ Hid (∀ n, Mem s n → Mem out n) ∧ Hid (Below w2.heap.size w2 wr)) (fun _ i _ => 30 - (intOf i).toNat)
  case atStart => exact ⟨0, _, [], by omega, by omega, rfl, rfl, HT2, fun n h => absurd h (mem_nil n), Below.refl _ _⟩
  case round =>
    obtain ⟨k, u, s, hk, hkl, rfl, rfl, HT, HM, HC⟩ := hrel
    by_cases hgo : k < len' ∧ k < 30 ∧ 0 < N
    · obtain ⟨hg1, hg2, hg3⟩ := hgo
      obtain ⟨qb, qo, rfl, hqb, q0, qv1, qv2⟩ := (HQ2.out.below HC.out).get hg1
      generalize ord k = v at *
      have i1 : decide ((k : Int) < (len' : Int)) = true := by simp only [decide_eq_true_eq]; omega
      have i2 : decide ((k : Int) < 30) = true := by simp only [decide_eq_true_eq]; omega
      have i3 : decide (0 < (N : Int)) = true := by simp only [decide_eq_true_eq]; omega
      obtain ⟨r1, r2⟩ := tmod_small v N hg3
      obtain ⟨r3, r4⟩ := tmod_in v N hg3
      obtain ⟨z, hz⟩ : ∃ z : Nat, (v.tmod N + N).tmod N = (z : Int) := ⟨((v.tmod N + N).tmod N).toNat, by omega⟩
      have hzN : z < out.length := by rw [← HN.out]; omega
      have ex := List.getElem?_eq_getElem hzN
      have hr := HT.out.r
      rw [HN.out] at hr
      obtain ⟨xb, xo, rfl, hxb, x0, x1⟩ := hr.get ex
      have HX := Lib.hid (HSM.out _ (List.getElem_mem hzN))
      have HXM := Lib.hid (List.getElem_mem hzN)
      clear ex hr
      generalize out[z] = x at *
      go_wp2_with fail
      refine (add s x u _ HT.out.s HX.out).mono ?_
      rintro e w4 ⟨u4, s4, rfl, hr4, hs4, hb4⟩
      have HT4 : Hid (OrAt w4 (.slice (some ⟨xb, xo, none⟩) N fc) fv u4 out s4 all) := ⟨HT.out.r.below hb4, HT.out.f.below hb4, setAt_of hr4 hs4.1 hs4.2.2.2⟩
      have HM4 : Hid (∀ n, Mem s4 n → Mem out n) := fun n h => by
        rw [hs4.2.1 n, mem_append, mem_one] at h
        rcases h with h | h
        · exact HM.out n h
        · exact ⟨x, HXM.out, h⟩
      have HC4 := Lib.hid (HC.out.trans (hb4.mono HC.out.size))
      clear hr4 hs4 hb4
      go_wp2_with fail
      go_roundw
      case rel => exact ⟨k + 1, u4, s4, by omega, by omega, rfl, by go_num, HT4, HM4, HC4⟩
      case measure => simp [intOf]; omega
    · go_upto_region 7 with fail
      go_cut [34] (fun b w' => b = .bool false ∧ wr = w')
      case first =>
        by_cases hg1 : k < len'
        · have i1 : decide ((k : Int) < (len' : Int)) = true := by simp only [decide_eq_true_eq]; omega
          by_cases hg2 : k < 30
          · have i2 : decide ((k : Int) < 30) = true := by simp only [decide_eq_true_eq]; omega
            have i3 : decide (0 < (N : Int)) = false := by simp only [decide_eq_false_iff_not]; omega
            go_wp2_with fail
            go_meet
            exact ⟨by first | rfl | (simp; omega), rfl⟩
          · have i2 : decide ((k : Int) < 30) = false := by simp only [decide_eq_false_iff_not]; omega
            go_wp2_with fail
            go_meet
            exact ⟨by first | rfl | (simp; omega), rfl⟩
        · have i1 : decide ((k : Int) < (len' : Int)) = false := by simp only [decide_eq_false_iff_not]; omega
          go_wp2_with fail
          go_meet
          exact ⟨by first | rfl | (simp; omega), rfl⟩
      case rest =>
        obtain ⟨rfl, rfl⟩ := hcut
        obtain ⟨w5, hw5⟩ : ∃ w5, w5 = wr := ⟨_, rfl⟩
        rw [← hw5] at HT HC ⊢
        have HB5 := Lib.hid (HB2.out.trans (HC.out.mono HB2.out.size))
        clear hw5 HC HQ2 HT2 hgo
        go_wp2_with fail
        go_loopw [8, 54] (fun a i wr => ∃ (k : Nat) (u : Value) (s : List Span), k ≤ N ∧ u = a ∧ i = .int .i64 k ∧ Hid (OrAt wr (.slice fa N fc) fv u out s all) ∧ Hid (∀ n, Mem s n → Mem out n) ∧ Hid (∀ (j : Nat) (x : Span), out[j]? = some x → N ≤ j + k → ∀ m, x.1 ≤ m → m < x.2 → Mem s m) ∧ Hid (Below w5.heap.size w5 wr)) (fun _ i _ => N - (intOf i).toNat)
        case atStart => exact ⟨0, _, s, by omega, rfl, rfl, HT, HM, fun j x hj h => by have := (List.getElem?_eq_some_iff.1 hj).1; have := HN.out; omega, Below.refl _ _⟩
        case round =>
          clear HT HM
          obtain ⟨k, u, s, hk, rfl, rfl, HT, HM, HJ, HC⟩ := hrel
          by_cases hlt : k < N
          · obtain ⟨z, hz⟩ : ∃ z : Nat, (N : Int) - 1 - (k : Int) = (z : Int) := ⟨N - 1 - k, by omega⟩
            have hzN : z < out.length := by rw [← HN.out]; omega
            have ex := List.getElem?_eq_getElem hzN
            have hr := HT.out.r
            rw [HN.out] at hr
            obtain ⟨xb, xo, rfl, hxb, x0, x1⟩ := hr.get ex
            have HX := Lib.hid (HSM.out _ (List.getElem_mem hzN))
            have HXM := Lib.hid (List.getElem_mem hzN)
            have HEX := Lib.hid ex
            clear ex hr
            generalize out[z] = x at *
            go_wp2_with fail
            refine (add s x u _ HT.out.s HX.out).mono ?_
            rintro e w6 ⟨u6, s6, rfl, hr6, hs6, hb6⟩
            have HT6 : Hid (OrAt w6 (.slice (some ⟨xb, xo, none⟩) N fc) fv u6 out s6 all) := ⟨HT.out.r.below hb6, HT.out.f.below hb6, setAt_of hr6 hs6.1 hs6.2.2.2⟩
            have HM6 : Hid (∀ n, Mem s6 n → Mem out n) := fun n h => by
              rw [hs6.2.1 n, mem_append, mem_one] at h
              rcases h with h | h
              · exact HM.out n h
              · exact ⟨x, HXM.out, h⟩
            have HJ6 : Hid (∀ (j : Nat) (y : Span), out[j]? = some y → N ≤ j + (k + 1) → ∀ m, y.1 ≤ m → m < y.2 → Mem s6 m) := fun j y hj h m h1 h2 => by
              rw [hs6.2.1 m, mem_append, mem_one]
              by_cases hjz : j = z
              · subst hjz
                rw [HEX.out] at hj
                injection hj with hj
                subst hj
                exact .inr ⟨h1, h2⟩
              · exact .inl (HJ.out j y hj (by omega) m h1 h2)
            have HC6 := Lib.hid (HC.out.trans (hb6.mono HC.out.size))
            clear hr6 hs6 hb6
            go_wp2_with fail
            go_roundw
            case rel => exact ⟨k + 1, u6, s6, by omega, rfl, by go_num, HT6, HM6, HJ6, HC6⟩
            case measure => simp [intOf]; omega
          · have hkN : k = N := by omega
            subst hkN
            have HSO : Hid (∀ m, Mem s m ↔ Mem out m) := fun m => ⟨HM.out m, fun h => by
              obtain ⟨j, x, hj, h1, h2⟩ := mem_getElem.1 h
              exact HJ.out j x hj (by omega) m h1 h2⟩
            have HAL : Hid (all = nums s) := nums_eq HT.out.s.canon HF.out.rise fun n => by rw [HF.out.mem n, HSO.out n]
            obtain ⟨w7, hw7⟩ : ∃ w7, w7 = wr := ⟨_, rfl⟩
            rw [← hw7] at HT HC ⊢
            have HB7 := Lib.hid (HB5.out.trans (HC.out.mono HB5.out.size))
            have hall : all.length ≤ 480 := by have := HF.out.few; have := HN.out; omega
            clear hw7 HC HJ HM HB5 HF
            go_wp2_with fail
            go_loopw [11, 70] (fun a i wr => ∃ (j : Nat) (v : Value) (t : List Span), j ≤ k ∧ v = a ∧ i = .int .i64 j ∧ Hid (SetAt wr v t) ∧ Hid (∀ m, Mem t m ↔ Mem out m ∧ ¬ Mem (out.take j) m) ∧ Hid (Below w7.heap.size w7 wr)) (fun _ i _ => k - (intOf i).toNat)
            case atStart => exact ⟨0, _, s, by omega, rfl, rfl, HT.out.s, fun m => by rw [HSO.out m]; exact ⟨fun h => ⟨h, by rw [List.take_zero]; exact mem_nil m⟩, fun h => h.1⟩, Below.refl _ _⟩
            case round =>
              obtain ⟨j, v, t, hj, rfl, rfl, HTT, HMT, HC⟩ := hrel
              by_cases hlt : j < k
              · have hzN : j < out.length := by rw [← HN.out]; omega
                have ex := List.getElem?_eq_getElem hzN
                have hr := HT.out.r.below HC.out
                rw [HN.out] at hr
                obtain ⟨xb, xo, rfl, hxb, x0, x1⟩ := hr.get ex
                have HX := Lib.hid (HSM.out _ (List.getElem_mem hzN))
                have HTK : Hid (∀ m, Mem (out.take (j + 1)) m ↔ Mem (out.take j) m ∨ Mem [out[j]] m) := fun m => by rw [List.take_succ_eq_append_getElem hzN, mem_append]
                clear ex hr
                generalize out[j] = x at *
                have hba : Below wr.heap.size wr (wr.alloc (.cells #[.int .i64 x.1, .int .i64 x.2] 35)) := (Below.refl _ wr).alloc (Nat.le_refl _) _
                obtain ⟨y0, y1⟩ := two_new wr (.int .i64 x.1) (.int .i64 x.2) 35
                have HTA := Lib.hid (HTT.out.below hba)
                have HCA := Lib.hid (HC.out.trans (hba.mono HC.out.size))
                clear hba
                go_wp2_with fail
                refine (drop t x v _ HTA.out HX.out).mono ?_
                rintro e w8 ⟨u8, t8, rfl, ht8, hm8, hb8⟩
                have HT8 := Lib.hid ht8
                have HM8 : Hid (∀ m, Mem t8 m ↔ Mem out m ∧ ¬ Mem (out.take (j + 1)) m) := fun m => by
                  rw [hm8 m, HMT.out m, HTK.out m]
                  exact ⟨fun h => ⟨h.1.1, fun hh => hh.elim h.1.2 h.2⟩, fun h => ⟨⟨h.1, fun hh => h.2 (.inl hh)⟩, fun hh => h.2 (.inr hh)⟩⟩
                have HC8 := Lib.hid (HCA.out.trans (hb8.mono HCA.out.size))
                clear ht8 hm8 hb8
                go_wp2_with fail
                go_roundw
                case rel => exact ⟨j + 1, u8, t8, by omega, rfl, by go_num, HT8, HM8, HC8⟩
                case measure => simp [intOf]; omega
              · have hjk : j = k := by omega
                subst hjk
                obtain rfl : t = [] := set_nil HTT.out.canon fun m h => by
                  have h2 := (HMT.out m).1 h
                  rw [List.take_of_length_le (by have := HN.out; omega)] at h2
                  exact h2.2 h2.1
                obtain ⟨ta, tc, rfl⟩ := HTT.out.form
                have HT9 := Lib.hid (HT.out.below HC.out)
                have HB9 := Lib.hid (HB7.out.trans (HC.out.mono HB7.out.size))
                clear HTT HMT
                go_wp2_with fail
                refine (is_ s u fv _ HT9.out.s.wide (by rw [← HAL.out]; omega) (by rw [← HAL.out]; exact HT9.out.f)).mono ?_
                rintro e w10 ⟨rfl, hb10⟩
                have HB10 := Lib.hid (HB9.out.trans (hb10.mono HB9.out.size))
                clear hb10
                go_wp2_with fail
                go_ret
                exact ⟨rfl, HB10.out⟩
end Go.Proofs.Ytimmineopkmdmaa
