/- The walk of the law GapsEmpty. Conditions: the numbers fit their kinds. -/
import Derived.Test.YtogbifggaomfjaaGapMovesLaw
import Derived.Deep.CutBlock
namespace Go.Proofs.Ytogbifggaomfjaa
open Go.RowKit Sp Go.Sort
set_option linter.unusedVariables false
set_option linter.unusedSimpArgs false

theorem one_set {a b : Int} (h : a < b) {s : List Span} (hs : IsSet s [(a, b)]) : s = [(a, b)] := canon_unique s _ hs.1 (canon_one h) hs.2.1
theorem setOut_yes' {w w' : World} {b t : Int} {l : List Int} {e : Ending} (h : SetOut w b t l e w') (hg : l.length % 2 = 0 ∧ (t - b) % 16777216 ≤ 8388608 ∧ riseB b ((t - b) % 16777216) (-1) l = true) : ∃ u, e = .returned (.tuple #[u, .bool true]) ∧ WideAt w' u (spansOf b l) ∧ Below w.heap.size w w' := by
  obtain ⟨h1, h2⟩ := h
  rw [if_pos hg] at h1
  obtain ⟨u, h3, h4⟩ := h1
  exact ⟨u, h3, h4, h2⟩
theorem setOut_no' {w w' : World} {b t : Int} {l : List Int} {e : Ending} (h : SetOut w b t l e w') (hg : ¬ (l.length % 2 = 0 ∧ (t - b) % 16777216 ≤ 8388608 ∧ riseB b ((t - b) % 16777216) (-1) l = true)) : e = .returned (.tuple #[.slice none 0 0, .bool false]) ∧ Below w.heap.size w w' := by
  obtain ⟨h1, h2⟩ := h
  rw [if_neg hg] at h1
  exact ⟨h1, h2⟩

set_option maxHeartbeats 16000000 in
set_option maxRecDepth 100000 in
theorem walk_GapsEmpty (b0 n0 : Int) (w : World) (hb : 0 ≤ b0 ∧ b0 < 4294967296) (hn : -9223372036854775808 ≤ n0 ∧ n0 ≤ 9223372036854775807) :
    Calls Try.prog 3 #[.int .u32 b0, .int .i64 n0] w fun e w' => e = .returned (.bool true) ∧ Below w.heap.size w w' := by
  have HLO := Lib.hid (fun W => seq_low b0 W hb.1 hb.2)
  have hbd : 0 ≤ b0 % 16777216 ∧ b0 % 16777216 < 16777216 := by omega
  generalize b0 % 16777216 = b at *
  obtain ⟨n, hne⟩ : ∃ n, n = max 1 (min n0 300) := ⟨_, rfl⟩
  have hnb : 1 ≤ n ∧ n ≤ 300 := by omega
  have HNE := Lib.hid hne.symm
  clear hne
  have HAD := Lib.hid (fun (x m : Int) (hx : 0 ≤ x ∧ x < 16777216) (hm : -1000 ≤ m ∧ m ≤ 1000) W => seq_add x m W hx.1 (by omega) (by omega) (by omega))
  go_enter Try.func3, Try.ntmps3
  go_wp2_with fail
  refine (gap_awake _).mono ?_
  rintro e w1 ⟨rfl, hb1⟩
  have HB1 := Lib.hid hb1
  clear hb1
  go_upto_region 5 with (go_at_call 16; refine (HLO.out _).mono ?_; rintro e w' ⟨rfl, rfl⟩)
  rw [HNE.out]
  have HO1 := Lib.hid (of_ [(n - 1, n)] (.slice (some ⟨w1.heap.size, 0, none⟩) 1 1) _ (spRow_one w1 (n - 1) n 32) (by simp) (by intro x hx; simp at hx; subst hx; unfold Small; simp only; omega))
  have HA1 := Lib.hid ((Below.refl _ w1).alloc (Nat.le_refl _) (.cells #[.int .i64 (n - 1), .int .i64 n] 32))
  go_wp2_with fail
  refine HO1.out.mono ?_
  rintro e w2 ⟨u2, s2, rfl, hu2, hs2, hb2⟩
  obtain rfl := one_set (by omega) hs2
  have HB2 := Lib.hid (HB1.out.trans ((HA1.out.trans (hb2.mono HA1.out.size)).mono HB1.out.size))
  have HW2 := Lib.hid (IsSet.setAt hu2 hs2 (by simp)).wide
  clear hu2 hs2 hb2 HO1 HA1
  go_wp2_with fail
  refine (g_list b _ u2 w2 HW2.out hbd.1 (by omega) (by simp)).mono ?_
  rintro e w3 ⟨u3, q3, rfl, hq3, hm3, hr3, hb3⟩
  obtain rfl := list_all (canon_one (show (n - 1, n).1 < (n - 1, n).2 by simp only; omega)) hq3 hm3 (fun m hm => by rw [mem_one] at hm; simp only at hm; omega)
  have HB3 := Lib.hid (HB2.out.trans (hb3.mono HB2.out.size))
  have HR3 : Hid (NumRow w3 u3 [(b + (n - 1)) % 16777216, (b + n) % 16777216]) := hr3
  have HO2 := Lib.hid (of_ [(0, n)] (.slice (some ⟨w3.heap.size, 0, none⟩) 1 1) _ (spRow_one w3 0 n 32) (by simp) (by intro x hx; simp at hx; subst hx; unfold Small; simp only; omega))
  have HA2 := Lib.hid ((Below.refl _ w3).alloc (Nat.le_refl _) (.cells #[.int .i64 0, .int .i64 n] 32))
  clear hq3 hm3 hr3 hb3 HW2 HB2
  go_wp2_with fail
  refine HO2.out.mono ?_
  rintro e w4 ⟨u4, s4, rfl, hu4, hs4, hb4⟩
  obtain rfl := one_set (by omega) hs4
  have hb4' := HA2.out.trans (hb4.mono HA2.out.size)
  have HB4 := Lib.hid (HB3.out.trans (hb4'.mono HB3.out.size))
  have HR4 := Lib.hid (HR3.out.below hb4')
  have HW4 := Lib.hid (IsSet.setAt hu4 hs4 (by simp)).wide
  clear hu4 hs4 hb4 hb4' HO2 HA2 HR3 HB3
  go_wp2_with fail
  refine (g_list b _ u4 w4 HW4.out hbd.1 (by omega) (by simp)).mono ?_
  rintro e w5 ⟨u5, q5, rfl, hq5, hm5, hr5, hb5⟩
  obtain rfl := list_all (canon_one (show ((0 : Int), n).1 < (0, n).2 by simp only; omega)) hq5 hm5 (fun m hm => by rw [mem_one] at hm; simp only at hm; omega)
  have HB5 := Lib.hid (HB4.out.trans (hb5.mono HB4.out.size))
  have HR5 := Lib.hid (HR4.out.below hb5)
  have HP5 : Hid (NumRow w5 u5 (prs b [(0, n)])) := hr5
  clear hq5 hm5 hr5 hb5 HW4 HB4 HR4
  have hpb := prs_bd b [(0, n)]
  have HPB := Lib.hid hpb
  have hc5 : Canon [((0 : Int), n)] := canon_one (by simp only; omega)
  have HRI := Lib.hid (fun (far : Int) (hf : n ≤ far ∧ far < 16777216) => rise_prs b far [(0, n)] (-1) hc5 (fun x hx => by simp at hx; subst hx; simp only; omega))
  have HSO := Lib.hid (spansOf_prs b [(0, n)] (fun x hx => by simp at hx; subst hx; simp only; omega))
  have HRF := Lib.hid (fun (far : Int) (hf : far < n) => rise_far b far (prs b [(0, n)]) (-1) ((b + n) % 16777216) (by simp [prs]) (by omega))
  have HCN := Lib.hid (show cnt (prs b [(0, n)]) = n by rw [cnt_prs b _ (fun x hx => by simp at hx; subst hx; simp only; omega)]; simp [lenOf])
  have HPL : Hid ((prs b [(0, n)]).length = 2) := by show _ = _; rw [prs_length]; rfl
  clear hpb hc5
  generalize prs b [(0, n)] = P2 at *
  have HSA := Lib.hid ((g_set b ((b + n) % 16777216) P2 u5 w5 HP5.out hbd.1 (by omega) (by omega) (by omega) (fun x hx => by have := HPB.out x hx; omega) (by rw [HPL.out]; omega)).mono fun e w' h => setOut_yes' h ⟨by rw [HPL.out], by omega, HRI.out _ (by omega)⟩)
  rw [HSO.out] at HSA
  go_wp2_with (go_at_call 20; refine (HAD.out b n hbd (by omega) _).mono ?_; rintro e w' ⟨rfl, rfl⟩)
  refine HSA.out.mono ?_
  rintro e w6 ⟨u6, rfl, hw6, hb6⟩
  have HB6 := Lib.hid (HB5.out.trans (hb6.mono HB5.out.size))
  have HR6 := Lib.hid (HR5.out.below hb6)
  have HP6 := Lib.hid (HP5.out.below hb6)
  have HW6 := Lib.hid hw6
  clear hw6 hb6 HSA HB5 HR5 HP5
  have HSB := Lib.hid ((g_set b ((b + (n - 1)) % 16777216) P2 u5 w6 HP6.out hbd.1 (by omega) (by omega) (by omega) (fun x hx => by have := HPB.out x hx; omega) (by rw [HPL.out]; omega)).mono fun e w' h => setOut_no' h (fun hg => by rw [HRF.out _ (by omega)] at hg; cases hg.2.2))
  go_wp2_with (go_at_call 20; refine (HAD.out b (n - 1) hbd (by omega) _).mono ?_; rintro e w' ⟨rfl, rfl⟩)
  refine HSB.out.mono ?_
  rintro e w7 ⟨rfl, hb7⟩
  have HB7 := Lib.hid (HB6.out.trans (hb7.mono HB6.out.size))
  have HR7 := Lib.hid (HR6.out.below hb7)
  have HP7 := Lib.hid (HP6.out.below hb7)
  have HW7 := Lib.hid (HW6.out.below hb7)
  clear hb7 HSB HB6 HR6 HP6 HW6
  have HSC := Lib.hid ((g_set b b [] (.slice none 0 0) w7 (numRow_nil w7) hbd.1 (by omega) hbd.1 (by omega) (by simp) (by simp)).mono fun e w' h => setOut_yes' h ⟨rfl, by omega, rfl⟩)
  go_wp2_with fail
  refine HSC.out.mono ?_
  rintro e w8 ⟨u8, rfl, hw8, hb8⟩
  have HB8 := Lib.hid (HB7.out.trans (hb8.mono HB7.out.size))
  have HR8 := Lib.hid (HR7.out.below hb8)
  have HP8 := Lib.hid (HP7.out.below hb8)
  have HW8 := Lib.hid (HW7.out.below hb8)
  have HN8 : Hid (WideAt w8 u8 []) := hw8
  clear hw8 hb8 HSC HB7 HR7 HP7 HW7
  have hy1 : (b + (n - 1)) % 16777216 + 1 = (b + (n - 1)) % 16777216 + 1 := rfl
  have hp1 : 0 ≤ (b + (n - 1)) % 16777216 ∧ (b + (n - 1)) % 16777216 < 16777216 := by omega
  have hq1 : ((b + (n - 1)) % 16777216 + 1) % 16777216 = (b + n) % 16777216 := by omega
  have HA1 := Lib.hid (fun W => HAD.out ((b + (n - 1)) % 16777216) 1 hp1 (by omega) W)
  have HA2 := Lib.hid (fun W => HAD.out b (n - 1) hbd (by omega) W)
  rw [hq1] at HA1
  clear hy1 hq1
  generalize (b + (n - 1)) % 16777216 = c1 at *
  generalize (b + n) % 16777216 = c2 at *
  obtain ⟨A3, k3, rfl⟩ := HR8.out.form
  obtain ⟨g3, o3, e3, hl3, d0⟩ := HR8.out.get (k := 0) (x := c1) rfl
  subst e3
  obtain ⟨g4, o4, e4, hl4, d1⟩ := HR8.out.get (k := 1) (x := c2) rfl
  injection e4 with e4
  rw [Addr.mk.injEq] at e4
  obtain ⟨rfl, rfl, _⟩ := e4
  rw [Nat.add_zero] at d0
  obtain ⟨A5, k5, rfl⟩ := HP8.out.form
  rw [HPL.out]
  have HP9 : Hid (NumRow w8 (.slice A5 2 k5) P2) := by have h := HP8.out; rw [HPL.out] at h; exact h
  have hb0 := Below.refl w8.heap.size w8
  have HL3 := Lib.hid hl3
  have HCA : Hid (∀ W, Below w8.heap.size w8 W → Calls Try.prog 22 #[.slice A5 2 k5] W fun e w' => e = .returned (.int .i64 n) ∧ Below W.heap.size W w') := fun W hW => by have h := g_count P2 _ W (HP9.out.below hW) (fun x hx => by have := HPB.out x hx; omega); rw [HCN.out] at h; exact h
  have HLA : Hid (∀ W, Below w8.heap.size w8 W → Calls Try.prog 21 #[u6] W fun e w' => e = .returned (.int .i64 n) ∧ Below W.heap.size W w') := fun W hW => by have h := len [(0, n)] u6 W (HW8.out.below hW); rw [show lenOf [((0 : Int), n)] = n by simp [lenOf]] at h; exact h
  have HLB : Hid (∀ W, Below w8.heap.size w8 W → Calls Try.prog 21 #[u8] W fun e w' => e = .returned (.int .i64 0) ∧ Below W.heap.size W w') := fun W hW => by have h := len [] u8 W (HN8.out.below hW); exact h
  have HGL : Hid (∀ W, Calls Try.prog 17 #[.int .u32 b, .slice none 0 0] W fun e w' => ∃ A c, e = .returned (.slice A 0 c) ∧ Below W.heap.size W w') := fun W => (g_list b [] (.slice none 0 0) W ⟨spRow_nil W, canon_nil, (fun x hx => by cases hx), by simp⟩ hbd.1 (by omega) (by simp)).mono fun e w' ⟨u, q, h1, h2, h3, h4, h5⟩ => by
    obtain rfl : q = [] := canon_unique _ _ h2 canon_nil fun m => by rw [h3 m]; exact ⟨fun h => h.1, fun h => absurd h (mem_nil m)⟩
    obtain ⟨A, c, rfl⟩ := h4.form
    exact ⟨A, c, h1, h5⟩
  have HBB := Lib.hid (fun (W W' : World) (h1 : Below w8.heap.size w8 W) (h2 : Below W.heap.size W W') => h1.trans (h2.mono h1.size))
  have hwn : IntKind.i64.wrap (n - 1) = n - 1 := by simp [IntKind.wrap, IntKind.bits, IntKind.signed]; omega
  have hcc : (c1 == c1) = true := by simp
  have hcd : (c2 == c2) = true := by simp
  have hnn : (n == n) = true := by simp
  clear HR8 HP8 HN8 HW8 HP9 HPB HRI HSO HRF HCN HAD hl4 hl3
  go_upto_region 10 with fail
  go_region_held3 (fun W => W.cell? ⟨g3, o3, none⟩ = some (.int .u32 c1) ∧ W.cell? ⟨g3, o3 + 1, none⟩ = some (.int .u32 c2) ∧ Below w8.heap.size w8 W) (first | exact ⟨by assumption, by assumption, by assumption⟩ | exact ⟨d0, d1, hb0.drew⟩ | assumption | exact hb0.drew | exact d0 | exact d1) (first
    | (go_at_call 17
       refine (HGL.out _).mono ?_
       rintro e wl ⟨ul, cl, rfl, hbl⟩
       have hB1 := HBB.out _ _ (by first | assumption | exact hb0.drew) hbl
       have k0 := (hB1.cell (p := ⟨g3, o3, none⟩) HL3.out).trans d0
       have k1 := (hB1.cell (p := ⟨g3, o3 + 1, none⟩) HL3.out).trans d1
       clear hbl)
    | (go_at_call 20
       first | (with_reducible refine (HA1.out _).mono ?_; rintro e w' ⟨rfl, rfl⟩) | (with_reducible refine (HA2.out _).mono ?_; rintro e w' ⟨rfl, rfl⟩))
    | (go_at_call 21
       first | (with_reducible refine (HLA.out _ (by first | assumption | exact hb0.drew)).mono ?_) | (with_reducible refine (HLB.out _ (by first | assumption | exact hb0.drew)).mono ?_)
       rintro e wn ⟨rfl, hbn⟩
       have hB2 := HBB.out _ _ (by first | assumption | exact hb0.drew) hbn
       have m0 := (hB2.cell (p := ⟨g3, o3, none⟩) HL3.out).trans d0
       have m1 := (hB2.cell (p := ⟨g3, o3 + 1, none⟩) HL3.out).trans d1
       clear hbn)
    | (go_at_call 22
       (with_reducible refine (HCA.out _ (by first | assumption | exact hb0.drew)).mono ?_)
       rintro e wc ⟨rfl, hbc⟩
       have hB3 := HBB.out _ _ (by first | assumption | exact hb0.drew) hbc
       have n0 := (hB3.cell (p := ⟨g3, o3, none⟩) HL3.out).trans d0
       have n1 := (hB3.cell (p := ⟨g3, o3 + 1, none⟩) HL3.out).trans d1
       clear hbc))
  all_goals go_wp2_with fail
  all_goals go_ret
  all_goals exact ⟨rfl, HB8.out.trans (hB3.mono HB8.out.size)⟩
end Go.Proofs.Ytogbifggaomfjaa
