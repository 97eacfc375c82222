/- The walk of the law PolliwogRound. Conditions: the slice lies as a slice does, the base is a number of 32 bits. -/
import Derived.Test.YtimmineopkmdmaaSpanOrderLaw
import Derived.Test.YtimmineopkmdmaaSeqFns
namespace Go.Proofs.Ytimmineopkmdmaa
open Go.RowKit Sp Go.Sort
set_option linter.unusedVariables false
set_option linter.unusedSimpArgs false

/-- A span that begins at 0 or behind it, ends at 200 or ahead of it. -/
def Near (x : Span) : Prop := 0 ≤ x.1 ∧ x.1 ≤ x.2 ∧ x.2 ≤ 200

theorem rise_len (hi : Int) : ∀ (l : List Int) (lo : Int), lo ≤ hi → l.Pairwise (· < ·) → (∀ n, n ∈ l → lo ≤ n ∧ n < hi) → (l.length : Int) ≤ hi - lo
  | [], lo, h, _, _ => by simp; omega
  | a :: l, lo, h, hp, hm => by
    rw [List.pairwise_cons] at hp
    have ha := hm a List.mem_cons_self
    have := rise_len hi l (a + 1) (by omega) hp.2 fun n hn => by
      have h1 := hp.1 n hn
      have h2 := hm n (List.mem_cons_of_mem _ hn)
      omega
    simp only [List.length_cons]
    omega
theorem same_set {s t : List Span} (hs : Canon s) (ht : Canon t) (h : ∀ m, Mem t m ↔ m ∈ nums s) : t = s := canon_unique t s ht hs fun m => by rw [h m, mem_nums]

set_option maxHeartbeats 1000000 in
set_option maxRecDepth 100000 in
theorem walk_PolliwogRound (base : Int) (A : Option Addr) (len cap : Nat) (w : World) (ps : Nat → Int × Int) (h0 : 0 ≤ base) (h1 : base < 4294967296) (h : PairRow w A len ps) :
    Calls Try.prog 8 #[.int .u32 base, .slice A len cap] w fun e w' => e = .returned (.bool true) ∧ Below w.heap.size w w' := by
  have HP := Lib.hid h
  have hlen := h.1
  unfold maxLen at hlen
  clear h
  obtain ⟨i0, hi, hz0, hz1, hz2⟩ := info_parts infoSpan
  have Hi := Lib.hid hi
  have Hz0 := Lib.hid hz0
  have Hz1 := Lib.hid hz1
  have Hz2 := Lib.hid hz2
  have HBS := Lib.hid (And.intro h0 h1)
  clear hi hz0 hz1 hz2 h0 h1
  go_enter Try.func8, Try.ntmps8
  go_wp2_with fail
  go_loopw [5, 6] (fun a i wr => ∃ (k : Nat) (u : Value) (out : List Span), k ≤ len ∧ k ≤ 8 ∧ u = a ∧ i = .int .i64 k ∧ out.length = k ∧ Hid (∀ x, x ∈ out → Near x) ∧ Hid (wr.ownsRow w.heap.size 35 2 u out.length (encs out)) ∧ Hid (Below w.heap.size w wr)) (fun _ i _ => 8 - (intOf i).toNat)
  case atStart => exact ⟨0, _, [], by omega, by omega, rfl, rfl, rfl, fun x hx => absurd hx (by simp), World.ownsRow_nil _ _ _ _, Below.refl _ _⟩
  case round =>
    obtain ⟨k, u, out, hk, hk8, rfl, rfl, hol, HN, HO, HC⟩ := hrel
    by_cases hgo : k < len ∧ k < 8
    · obtain ⟨hg1, hg2⟩ := hgo
      obtain ⟨b, off, rfl, hbl, c0, c1, ha1, ha2, hd1, hd2⟩ := (HP.out.below HC.out).get hg1
      generalize (ps k).1 = a at *
      generalize (ps k).2 = d at *
      have i1 : decide ((k : Int) < (len : Int)) = true := by simp only [decide_eq_true_eq]; omega
      have i2 : decide ((k : Int) < 8) = true := by simp only [decide_eq_true_eq]; omega
      go_upto_region 5 with fail
      go_cut [7] (fun s7 w' => ∃ F : Int, s7 = .int .i64 F ∧ wr = w' ∧ 0 ≤ F ∧ F ≤ 200)
      case first =>
        go_wp2_with fail
        all_goals go_meet
        all_goals exact ⟨_, rfl, rfl, by omega, by omega⟩
      case rest =>
        obtain ⟨F, rfl, rfl, hF1, hF2⟩ := hcut
        obtain ⟨T, hT⟩ : ∃ T, T = max F (min d 200) := ⟨_, rfl⟩
        have hT1 : F ≤ T ∧ T ≤ 200 := by omega
        have HT := Lib.hid hT
        rw [eq_comm] at hT
        go_wp2_with (at_builtin; refine wpList_append_src _ rfl (.tmp 32) (.tmp 43) 22 rfl w.heap.size 35 i0 (.agg #[.int .i64 0, .int .i64 0]) 2 16 Try.underlying22 Hi.out Hz0.out Hz1.out Hz2.out rfl (by decide) u out.length (encs out) rfl (HO.out.alloc _) (some ⟨wr.heap.size, 0, none⟩) 1 1 [.int .i64 F, .int .i64 T] rfl rfl (fun h => by cases h) (two_src (two_new _ _ _ _).1 (two_new _ _ _ _).2) (fun u hu => by simp at hu; rcases hu with rfl | rfl <;> rfl) (by unfold maxLen; omega) (by omega) (by have := HC.out.size; rw [World.size_alloc]; omega) ?_; intro u' w4 hown4 hg4 hv4; have HO4 := Lib.hid hown4; have HW4 := Lib.hid ((HC.out.alloc HC.out.size _).grown hg4 (by rw [World.size_alloc]; have := HC.out.size; omega) (fun j hj => (HO.out.lt j hj).1)); clear hown4 hg4 hv4)
        have HN2 : Hid (∀ x, x ∈ out ++ [(F, T)] → Near x) := fun x hx => by
          rcases List.mem_append.1 hx with hx | hx
          · exact HN.out x hx
          · simp at hx; subst hx; exact ⟨hF1, hT1.1, hT1.2⟩
        go_roundw
        case rel => exact ⟨k + 1, u', out ++ [(F, T)], by omega, by omega, rfl, by go_num, by simp; omega, HN2, by have h := HO4.out; rw [List.length_append, encs_append]; exact h, HW4⟩
        case measure => simp [intOf]; omega
    · go_upto_region 3 with fail
      go_cut [22] (fun b w' => b = .bool false ∧ wr = w')
      case first =>
        by_cases hg1 : k < len
        · have i1 : decide ((k : Int) < (len : Int)) = true := by simp only [decide_eq_true_eq]; omega
          have i2 : decide ((k : Int) < 8) = false := by simp only [decide_eq_false_iff_not]; omega
          go_wp2_with fail
          go_meet
          exact ⟨by first | rfl | (simp; omega), rfl⟩
        · have i1 : decide ((k : Int) < (len : Int)) = false := by simp only [decide_eq_false_iff_not]; omega
          go_wp2_with fail
          go_meet
          exact ⟨by first | rfl | (simp; omega), rfl⟩
      case rest =>
        obtain ⟨rfl, rfl⟩ := hcut
        have HR := Lib.hid (spRow_own HO.out (by omega))
        have HSM : Hid (∀ x, x ∈ out → Small x) := fun x hx => by have := HN.out x hx; unfold Near at this; unfold Small; omega
        have hb := HBS.out
        go_wp2_with fail
        refine (of_ out u _ HR.out (by omega) HSM.out).mono ?_
        rintro e w2 ⟨su, s, rfl, hsu, hs, hb2⟩
        have HS2 : Hid (SetAt w2 su s) := IsSet.setAt hsu hs (by omega)
        have HCS := Lib.hid hs.1
        have HB2 := Lib.hid (HC.out.trans (hb2.mono HC.out.size))
        have hnb : ∀ n, n ∈ nums s → 0 ≤ n ∧ n < 200 := fun n hn => by
          rw [mem_nums, hs.2.1 n] at hn
          obtain ⟨x, hx, h1, h2⟩ := hn
          have := HN.out x hx
          unfold Near at this
          omega
        have hnl : (nums s).length ≤ 200 := by
          have := rise_len 200 (nums s) 0 (by decide) (nums_rise hs.1) hnb
          omega
        have HNB := Lib.hid hnb
        have HNL := Lib.hid hnl
        clear hsu hs hb2 hnb hnl
        go_wp2_with fail
        refine (seq_low base _ hb.1 hb.2).mono ?_
        rintro e w2' ⟨rfl, rfl⟩
        obtain ⟨B, hB⟩ : ∃ B, B = base % 16777216 := ⟨_, rfl⟩
        rw [← hB]
        have hB2 : 0 ≤ B ∧ B < 16777216 := by omega
        clear hB
        have hba : Below w2.heap.size w2 (w2.alloc (.cells #[] 35)) := (Below.refl _ w2).alloc (Nat.le_refl _) _
        have HSA := Lib.hid (HS2.out.below hba)
        have HBA := Lib.hid (HB2.out.trans (hba.mono HB2.out.size))
        have HEM : Hid (SetAt (w2.alloc (.cells #[] 35)) (.slice (some ⟨w2.heap.size, 0, none⟩) 0 0) []) := ⟨⟨_, 0, rfl, by simp, by decide, by decide, .inl rfl⟩, canon_nil, by simp, by simp⟩
        clear hba HS2 HB2
        go_wp2_with fail
        refine (list s su _ HSA.out.wide (by have := HNL.out; omega)).mono ?_
        rintro e w4 ⟨lv, rfl, hl, hb4⟩
        have HB4 := Lib.hid (HBA.out.trans (hb4.mono HBA.out.size))
        have HL4 := Lib.hid hl
        have HS4 := Lib.hid (HSA.out.below hb4)
        have HE4 := Lib.hid (HEM.out.below hb4)
        obtain ⟨la, lc, rfl⟩ := hl.form
        clear hl hb4 HSA HEM HBA
        obtain ⟨w4', hw4⟩ : ∃ x, x = w4 := ⟨_, rfl⟩
        have hnl := HNL.out
        obtain ⟨L, hL⟩ : ∃ L, L = nums s := ⟨_, rfl⟩
        rw [← hL] at hnl HL4 HNB ⊢
        have HLE := Lib.hid hL
        clear hL hw4
        go_wp2_with fail
        go_loopw [10, 53] (fun a i wr => ∃ (k : Nat) (v : Value) (t : List Span), k ≤ L.length ∧ v = a ∧ i = .int .i64 k ∧ Hid (SetAt wr v t) ∧ Hid (∀ m, Mem t m ↔ m ∈ L.take k) ∧ Hid (Below w4.heap.size w4 wr)) (fun _ i _ => L.length - (intOf i).toNat)
        case atStart => exact ⟨0, _, [], by omega, rfl, rfl, HE4, fun m => ⟨fun h => absurd h (mem_nil m), fun h => absurd h (by simp)⟩, Below.refl _ _⟩
        case round =>
          obtain ⟨k, v, t, hk, rfl, rfl, HT, HM, HCC⟩ := hrel
          by_cases hlt : k < L.length
          · have ex := List.getElem?_eq_getElem hlt
            obtain ⟨lb, loff, rfl, hlb, c0⟩ := (HL4.out.below HCC.out).get ex
            have hy := HNB.out _ (List.getElem_mem hlt)
            have HTK : Hid (∀ m, m ∈ L.take (k + 1) ↔ m ∈ L.take k ∨ m = L[k]) := fun m => by rw [List.take_succ_eq_append_getElem hlt, List.mem_append]; simp
            clear ex
            generalize L[k] = y at *
            go_wp2_with fail
            refine (seq_add B y _ (by omega) (by omega) (by omega) (by omega)).mono ?_
            rintro e wr' ⟨rfl, rfl⟩
            obtain ⟨n, hn⟩ : ∃ n, n = (B + y) % 16777216 := ⟨_, rfl⟩
            rw [← hn]
            have hn1 : 0 ≤ n ∧ n < 16777216 := by omega
            have hn2 : (n - B) % 16777216 = y := by omega
            have hn3 : withinB B n ((B + 200) % 16777216) = true := by unfold withinB; simp only [decide_eq_true_eq]; omega
            have HN2 := Lib.hid hn2
            have HN3 := Lib.hid hn3
            clear hn hn2 hn3
            go_wp2_with fail
            refine (seq_add B 200 _ (by omega) (by omega) (by omega) (by omega)).mono ?_
            rintro e wr' ⟨rfl, rfl⟩
            go_wp2_with fail
            refine (seq_within B n ((B + 200) % 16777216) _ (by omega) (by omega) (by omega) (by omega) (by omega) (by omega)).mono ?_
            rintro e wr' ⟨rfl, rfl⟩
            rw [HN3.out]
            go_wp2_with fail
            refine (seq_to B n _ (by omega) (by omega) (by omega) (by omega)).mono ?_
            rintro e wr' ⟨rfl, rfl⟩
            rw [HN2.out]
            go_wp2_with fail
            refine (add t (y, y + 1) v _ HT.out (by unfold Small; simp only; omega)).mono ?_
            rintro e w6 ⟨u6, t6, rfl, hr6, hs6, hb6⟩
            have HT6 : Hid (SetAt w6 u6 t6) := setAt_of hr6 hs6.1 hs6.2.2.2
            have HM6 : Hid (∀ m, Mem t6 m ↔ m ∈ L.take (k + 1)) := fun m => by
              rw [hs6.2.1 m, mem_append, mem_one, HM.out m, HTK.out m]
              simp only
              constructor
              · rintro (h | h)
                · exact .inl h
                · exact .inr (by omega)
              · rintro (h | h)
                · exact .inl h
                · exact .inr (by omega)
            have HC6 := Lib.hid (HCC.out.trans (hb6.mono HCC.out.size))
            clear hr6 hs6 hb6
            go_wp2_with fail
            go_roundw
            case rel => exact ⟨k + 1, u6, t6, by omega, rfl, by go_num, HT6, HM6, HC6⟩
            case measure => simp [intOf]; omega
          · have hkl : k = L.length := by omega
            subst hkl
            have hm := HM.out
            rw [List.take_of_length_le (Nat.le_refl _), HLE.out] at hm
            obtain rfl := same_set HCS.out HT.out.canon hm
            have HS5 := Lib.hid (HS4.out.below HCC.out)
            have HB5 := Lib.hid (HB4.out.trans (HCC.out.mono HB4.out.size))
            clear hm HM
            go_wp2_with fail
            refine (same _ _ _ _ _ HT.out.row HS5.out.row).mono ?_
            rintro e w7 ⟨rfl, q, rfl⟩
            rw [decide_eq_true rfl]
            have HB7 := Lib.hid (below_drewN' HB5.out q)
            generalize World.drewN _ q = w7 at *
            go_wp2_with fail
            refine (seq_add 16777215 1 _ (by omega) (by omega) (by omega) (by omega)).mono ?_
            rintro e w8 ⟨rfl, rfl⟩
            rw [show ((16777215 : Int) + 1) % 16777216 = 0 by decide]
            go_wp2_with fail
            go_ret
            exact ⟨rfl, HB7.out⟩
end Go.Proofs.Ytimmineopkmdmaa
