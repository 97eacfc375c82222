/- The walk of the law GapsNamed. Conditions: the slice lies as slices do, the numbers fit their kinds. -/
import Derived.Test.YtogbifggaomfjaaGapRefNamed
import Derived.Test.YtogbifggaomfjaaGapSetsLaw
namespace Go.Proofs.Ytogbifggaomfjaa
open Go.RowKit Sp Go.Sort
set_option linter.unusedVariables false
set_option linter.unusedSimpArgs false

/-- What the law makes of the i-th number that came in: an odd one is near the one ahead of it. -/
def ownV (f : Nat → Int) (i : Nat) : Int := if i % 2 = 1 then (f (i - 1) % 16777216 + f i % 16777216 % 64) % 16777216 else f i % 16777216
def ownsV (f : Nat → Int) (n : Nat) : List Int := (List.range n).map (ownV f)
theorem ownV_bd (f : Nat → Int) (i : Nat) : 0 ≤ ownV f i ∧ ownV f i < 16777216 := by unfold ownV; split <;> omega
theorem ownsV_succ (f : Nat → Int) (n : Nat) : ownsV f (n + 1) = ownsV f n ++ [ownV f n] := by simp [ownsV, List.range_succ]
theorem ownsV_len (f : Nat → Int) (n : Nat) : (ownsV f n).length = n := by simp [ownsV]
theorem ownsV_get (f : Nat → Int) (n i : Nat) (h : i < n) : (ownsV f n)[i]? = some (ownV f i) := by
  unfold ownsV
  rw [List.getElem?_map, List.getElem?_range h]
  rfl
theorem ownsV_bd (f : Nat → Int) (n : Nat) : ∀ x, x ∈ ownsV f n → 0 ≤ x ∧ x < 16777216 := by
  intro x hx
  obtain ⟨i, _, rfl⟩ := List.mem_map.1 hx
  exact ownV_bd f i
theorem ownsV_cnt (f : Nat → Int) (n : Nat) : cnt (ownsV f n) ≤ 64 * n := by
  have step : ∀ k, 2 * k ≤ n → cnt ((ownsV f n).take (2 * k)) ≤ 64 * k := by
    intro k
    induction k with
    | zero => intro _; simp [cnt]
    | succ k ih =>
      intro hk
      have hl : 2 * k + 1 < (ownsV f n).length := by rw [ownsV_len]; omega
      rw [cnt_take hl]
      have e0 : (ownsV f n)[2 * k] = ownV f (2 * k) := by have := ownsV_get f n (2 * k) (by omega); rw [List.getElem?_eq_getElem (by omega)] at this; exact Option.some.inj this
      have e1 : (ownsV f n)[2 * k + 1] = ownV f (2 * k + 1) := by have := ownsV_get f n (2 * k + 1) (by omega); rw [List.getElem?_eq_getElem hl] at this; exact Option.some.inj this
      rw [e0, e1]
      have ih := ih (by omega)
      have h2 : sz (ownV f (2 * k)) (ownV f (2 * k + 1)) ≤ 64 := by
        unfold sz ownV
        rw [if_neg (show ¬ (2 * k) % 2 = 1 by omega), if_pos (show (2 * k + 1) % 2 = 1 by omega), show 2 * k + 1 - 1 = 2 * k by omega]
        split <;> omega
      omega
  have h := step (n / 2) (by omega)
  rw [cnt_full (by rw [ownsV_len]; omega) (by rw [ownsV_len]; omega)] at h
  omega

theorem pairNums_bdN (a b : Int) : ∀ x, x ∈ pairNums a b → 0 ≤ x ∧ x < 16777216 := by
  intro x hx
  obtain ⟨i, _, rfl⟩ := List.mem_map.1 hx
  omega
theorem named_bd : ∀ (l out : List Int), (∀ y, y ∈ out → 0 ≤ y ∧ y < 16777216) → ∀ y, y ∈ named out l → 0 ≤ y ∧ y < 16777216
  | [], out, h => h
  | [_], out, h => h
  | a :: b :: r, out, h => by
    refine named_bd r _ ?_
    have : ∀ (xs out : List Int), (∀ x, x ∈ xs → 0 ≤ x ∧ x < 16777216) → (∀ y, y ∈ out → 0 ≤ y ∧ y < 16777216) → ∀ y, y ∈ xs.foldl ins out → 0 ≤ y ∧ y < 16777216 := by
      intro xs
      induction xs with
      | nil => intro out _ h; exact h
      | cons x xs ih => intro out hx h; exact ih _ (fun y hy => hx y (List.mem_cons_of_mem _ hy)) (ins_bd h (hx x List.mem_cons_self))
    exact this _ _ (pairNums_bdN a b) h

set_option maxHeartbeats 16000000 in
set_option maxRecDepth 100000 in
theorem named_walk (kd : Int) (A : Option Addr) (ln cap : Nat) (w : World) (fi : Nat → Int) (N : Nat) (h : IntIn w A ln fi) (hc : ln ≤ cap ∧ cap ≤ maxLen) (hN : (20 < ln ∧ N = 20) ∨ (ln ≤ 20 ∧ N = ln)) :
    Calls Try.prog 7 #[.int .i64 kd, .slice A ln cap] w fun e w' => e = .returned (.bool true) ∧ Below w.heap.size w w' := by
  have HP := Lib.hid h
  unfold maxLen at hc
  clear h
  obtain ⟨i0', hi, hz0, hz1, hz2⟩ := info_parts infoInt0
  have Hi := Lib.hid hi
  have Hz0 := Lib.hid hz0
  have Hz1 := Lib.hid hz1
  have Hz2 := Lib.hid hz2
  clear hi hz0 hz1 hz2
  have hN20 : N ≤ 20 ∧ N ≤ ln ∧ N ≤ cap := by omega
  have HL : Hid (∀ k, k < N → k < ln) := fun k hk => by omega
  rcases hN with ⟨hlen, hNe⟩ | ⟨hlen, hNe⟩
  · have hg : decide ((20 : Int) < (ln : Int)) = true := by simp; omega
    have hg2 : (20 : Int) ≤ (cap : Int) := by omega
    subst hNe
    go_enter Try.func7, Try.ntmps7
    go_wp2_with fail
    refine (gap_awake _).mono ?_
    rintro e w1 ⟨rfl, hb1⟩
    have HB1 := Lib.hid hb1
    have HP1 := Lib.hid (HP.out.below hb1)
    clear hb1
    go_upto_region 5 with fail
    go_wp2_with fail
    go_loopw [5, 19] (fun a i wr => ∃ (k : Nat) (v : Value), k ≤ 20 ∧ v = a ∧ i = .int .i64 k ∧ Hid (wr.ownsRow w1.heap.size 3 1 v k ((ownsV fi k).map (Value.int .i64))) ∧ Hid (Below w1.heap.size w1 wr)) (fun _ i _ => 20 - (intOf i).toNat)
    case atStart => exact ⟨0, _, by omega, rfl, rfl, World.ownsRow_nil _ _ _ _, Below.refl _ _⟩
    case round =>
      obtain ⟨k, v, hk, rfl, rfl, HO, HC⟩ := hrel
      by_cases hlt : k < 20
      · obtain ⟨g, off, rfl, hbl, c0, hx1, hx2⟩ := (HP1.out.below HC.out).get (HL.out k hlt)
        have HS := Lib.hid (ownsV_succ fi k)
        have HIO : Hid (IntRow wr v (ownsV fi k)) := intRow_own (by rw [ownsV_len]; exact HO.out) (by rw [ownsV_len]; omega)
        have HGT := Lib.hid (ownsV_get fi k)
        obtain ⟨va, vc, rfl⟩ : ∃ A c, v = .slice A k c := by
          rcases HO.out.2 with ⟨e, h0⟩ | ⟨g, cap, cur, e, _⟩
          · exact ⟨none, 0, by rw [e, h0]⟩
          · exact ⟨_, _, e⟩
        have HOV : Hid (ownV fi k = if k % 2 = 1 then (fi (k - 1) % 16777216 + fi k % 16777216 % 64) % 16777216 else fi k % 16777216) := rfl
        have HEV : Hid (k % 2 = 1 → ownV fi (k - 1) = fi (k - 1) % 16777216) := fun h => by unfold ownV; rw [if_neg (by omega)]
        generalize fi k = x at *
        have i1 : decide ((k : Int) < (20 : Int)) = true := by simp only [decide_eq_true_eq]; omega
        have ii0 : (0 : Int) ≤ (k : Int) := by omega
        have ii2 : (k : Int) < (20 : Int) := by omega
        have HA := Lib.hid (fun W => ref_of x W hx1 hx2)
        have hxm : 0 ≤ x % 16777216 ∧ x % 16777216 < 16777216 := by omega
        generalize x % 16777216 = xm at *
        by_cases hpar : k % 2 = 1
        · have hp2 : (k : Int).tmod 2 = 1 := by rw [Int.tmod_eq_emod_of_nonneg (by omega)]; omega
          have eg := HGT.out (k - 1) (by omega)
          obtain ⟨g2, off2, rfl, hbl2, cg⟩ := HIO.out.get eg
          rw [HEV.out hpar] at cg
          have hpm : 0 ≤ fi (k - 1) % 16777216 ∧ fi (k - 1) % 16777216 < 16777216 := by omega
          have HOE : Hid (ownV fi k = (fi (k - 1) % 16777216 + xm % 64) % 16777216) := by show _ = _; rw [HOV.out, if_pos hpar]
          generalize fi (k - 1) % 16777216 = pm at *
          have ha := and63 xm
          have hr := show 0 ≤ xm % 64 ∧ xm % 64 < 64 by omega
          generalize xm % 64 = r at *
          have HB := Lib.hid (fun W => ref_of (pm + r) W (by omega) (by omega))
          generalize (pm + r) % 16777216 = y at *
          have j1 : (0 : Int) ≤ (k : Int) - 1 := by omega
          have j2 : (k : Int) - 1 < (k : Int) := by omega
          have HPA := Lib.hid hpar
          rw [HOE.out] at HS
          clear eg hpar
          go_wp2_with (first | (go_at_call 25; first | (with_reducible refine (HA.out _).mono ?_; rintro e w' ⟨rfl, rfl⟩) | (with_reducible refine (HB.out _).mono ?_; rintro e w' ⟨rfl, rfl⟩)) | (at_builtin; refine wpList_append_src _ rfl (.tmp 38) (.tmp 40) 45 rfl w1.heap.size 3 i0' (.int .i64 0) 1 8 Try.underlying45 Hi.out Hz0.out Hz1.out Hz2.out rfl (by decide) _ k ((ownsV fi k).map (Value.int .i64)) rfl (World.ownsRow.alloc HO.out _) (some ⟨_, 0, none⟩) 1 1 [.int .i64 y] rfl rfl (fun h => by cases h) (one_src (one_new _ _ _)) (fun u hu => by simp at hu; subst hu; rfl) (by unfold maxLen; omega) (by omega) (by have := HC.out.size; rw [World.size_alloc]; omega) ?_; intro v5 w6 hown4 hg4 _; have HO5 := Lib.hid hown4; have HC5 := Lib.hid ((HC.out.alloc HC.out.size _).grown hg4 (by rw [World.size_alloc]; have := HC.out.size; omega) (fun j hj => (HO.out.lt j hj).1)); clear hown4 hg4))
          go_roundw
          case rel => exact ⟨k + 1, v5, by omega, rfl, by go_num, by have h := HO5.out; show World.ownsRow _ _ _ _ _ _ _; rw [HS.out, List.map_append]; exact h, HC5⟩
          case measure => simp [intOf]; omega
        · have hp2 : (k : Int).tmod 2 = 0 := by rw [Int.tmod_eq_emod_of_nonneg (by omega)]; omega
          have HOE : Hid (ownV fi k = xm) := by show _ = _; rw [HOV.out, if_neg hpar]
          rw [HOE.out] at HS
          have HPA := Lib.hid hpar
          clear hpar
          go_wp2_with (first | (go_at_call 25; (with_reducible refine (HA.out _).mono ?_); rintro e w' ⟨rfl, rfl⟩) | (at_builtin; refine wpList_append_src _ rfl (.tmp 38) (.tmp 40) 45 rfl w1.heap.size 3 i0' (.int .i64 0) 1 8 Try.underlying45 Hi.out Hz0.out Hz1.out Hz2.out rfl (by decide) _ k ((ownsV fi k).map (Value.int .i64)) rfl (World.ownsRow.alloc HO.out _) (some ⟨_, 0, none⟩) 1 1 [.int .i64 xm] rfl rfl (fun h => by cases h) (one_src (one_new _ _ _)) (fun u hu => by simp at hu; subst hu; rfl) (by unfold maxLen; omega) (by omega) (by have := HC.out.size; rw [World.size_alloc]; omega) ?_; intro v5 w6 hown4 hg4 _; have HO5 := Lib.hid hown4; have HC5 := Lib.hid ((HC.out.alloc HC.out.size _).grown hg4 (by rw [World.size_alloc]; have := HC.out.size; omega) (fun j hj => (HO.out.lt j hj).1)); clear hown4 hg4))
          go_roundw
          case rel => exact ⟨k + 1, v5, by omega, rfl, by go_num, by have h := HO5.out; show World.ownsRow _ _ _ _ _ _ _; rw [HS.out, List.map_append]; exact h, HC5⟩
          case measure => simp [intOf]; omega
      · have hks : k = 20 := by omega
        have i1 : decide ((k : Int) < (20 : Int)) = false := by simp only [decide_eq_false_iff_not]; omega
        have HO1 : Hid (wr.ownsRow w1.heap.size 3 1 v 20 ((ownsV fi 20).map (Value.int .i64))) := by have h := HO.out; rw [hks] at h; exact h
        have HLE := Lib.hid (ownsV_len fi 20)
        have HBD := Lib.hid (ownsV_bd fi 20)
        have HCT := Lib.hid (ownsV_cnt fi 20)
        have HO' : Hid (wr.ownsRow w1.heap.size 3 1 v (ownsV fi 20).length ((ownsV fi 20).map (Value.int .i64))) := by rw [HLE.out]; exact HO1.out
        have hol : (ownsV fi 20).length ≤ 20 := by rw [HLE.out]; omega
        have hct : cnt (ownsV fi 20) ≤ 1280 := by have := HCT.out; omega
        generalize ownsV fi 20 = o at *
        have HIO := Lib.hid (intRow_own HO'.out (by omega))
        have HB := Lib.hid (HB1.out.trans (HC.out.mono HB1.out.size))
        clear HO HO1 HO' HC HB1
        go_wp2_with fail
        refine (nums_ v o wr HIO.out HBD.out (by omega)).mono ?_
        rintro e w3 ⟨un, rfl, hnr, hb3⟩
        have HB3 := Lib.hid (HB.out.trans (hb3.mono HB.out.size))
        have HIO3 := Lib.hid (HIO.out.below hb3)
        have HNR := Lib.hid hnr
        clear hnr hb3 HIO HB
        obtain ⟨ua, uc, rfl⟩ := HNR.out.form
        have HX3 := Lib.hid (HNR.out.below ((Below.refl _ w3).alloc (Nat.le_refl _) (.cells #[.int .i64 kd, .int .i64 0, .int .u32 0, .int .u32 0, .int .u32 0, .slice ua o.length uc, .bool false, .string ⟨#[]⟩] 42)))
        have HBX := Lib.hid (HB3.out.alloc HB3.out.size (.cells #[.int .i64 kd, .int .i64 0, .int .u32 0, .int .u32 0, .int .u32 0, .slice ua o.length uc, .bool false, .string ⟨#[]⟩] 42))
        have HIO4 := Lib.hid (HIO3.out.below ((Below.refl _ w3).alloc (Nat.le_refl _) (.cells #[.int .i64 kd, .int .i64 0, .int .u32 0, .int .u32 0, .int .u32 0, .slice ua o.length uc, .bool false, .string ⟨#[]⟩] 42)))
        have hn := heap_alloc_new w3 (.cells #[.int .i64 kd, .int .i64 0, .int .u32 0, .int .u32 0, .int .u32 0, .slice ua o.length uc, .bool false, .string ⟨#[]⟩] 42)
        have hsz : w3.heap.size < (w3.alloc (.cells #[.int .i64 kd, .int .i64 0, .int .u32 0, .int .u32 0, .int .u32 0, .slice ua o.length uc, .bool false, .string ⟨#[]⟩] 42)).heap.size := by simp
        go_upto_region 15 with fail
        generalize w3.alloc (.cells #[.int .i64 kd, .int .i64 0, .int .u32 0, .int .u32 0, .int .u32 0, .slice ua o.length uc, .bool false, .string ⟨#[]⟩] 42) = W at *
        generalize w3.heap.size = bx at *
        have d0 : W.cell? ⟨bx, 0, none⟩ = some (.int .i64 kd) := by rw [cell_of_row _ _ 0 _ _ (0, 0) hn]; rfl
        have d1 : W.cell? ⟨bx, 1, none⟩ = some (.int .i64 0) := by rw [cell_of_row _ _ 1 _ _ (0, 0) hn]; rfl
        have d2 : W.cell? ⟨bx, 2, none⟩ = some (.int .u32 0) := by rw [cell_of_row _ _ 2 _ _ (0, 0) hn]; rfl
        have d3 : W.cell? ⟨bx, 3, none⟩ = some (.int .u32 0) := by rw [cell_of_row _ _ 3 _ _ (0, 0) hn]; rfl
        have d4 : W.cell? ⟨bx, 4, none⟩ = some (.int .u32 0) := by rw [cell_of_row _ _ 4 _ _ (0, 0) hn]; rfl
        have d5 : W.cell? ⟨bx, 5, none⟩ = some (.slice ua o.length uc) := by rw [cell_of_row _ _ 5 _ _ (0, 0) hn]; rfl
        have d6 : W.cell? ⟨bx, 6, none⟩ = some (.bool false) := by rw [cell_of_row _ _ 6 _ _ (0, 0) hn]; rfl
        have d7 : W.cell? ⟨bx, 7, none⟩ = some (.string ⟨#[]⟩) := by rw [cell_of_row _ _ 7 _ _ (0, 0) hn]; rfl
        have HD5 := Lib.hid d5
        clear hn HB3 HIO3
        have HNU : Hid (∀ x, x ∈ o → 0 ≤ x ∧ x < 4294967296) := fun x hx => by have := HBD.out x hx; omega
        by_cases hk : kd = 11 ∨ kd = 12
        · have hkd : (kd != 11) = false ∨ ((kd != 11) = true ∧ (kd != 12) = false) := by rcases hk with rfl | rfl; exact .inl rfl; exact .inr ⟨rfl, rfl⟩
          have HNM := Lib.hid (g_named kd 0 0 0 0 (.slice ua o.length uc) false ⟨#[]⟩ o W HX3.out HNU.out (by omega) hk)
          clear hk
          go_wp2_with fail
          refine HNM.out.mono ?_
          rintro e w4 ⟨u4, rfl, hr4, hb4⟩
          have HB4 := Lib.hid (HBX.out.trans (hb4.mono HBX.out.size))
          have HR4 := Lib.hid hr4
          have HX4 := Lib.hid (HX3.out.below hb4)
          have HIO5 := Lib.hid (HIO4.out.below hb4)
          have d5' := (hb4.cell (p := ⟨bx, 5, none⟩) hsz).trans d5
          have HRN := Lib.hid (ref_named v o w4 HIO5.out HBD.out (by omega) (by omega))
          have HNB : Hid (∀ x, x ∈ named [] o → 0 ≤ x ∧ x < 4294967296) := fun x hx => by have := named_bd o [] (by simp) x hx; omega
          have HNL : Hid (((named [] o).length : Int) ≤ cnt o) := by show _ ≤ _; have := named_len o []; simpa using this
          obtain ⟨A4, c4, rfl⟩ := HR4.out.form
          have HD6 := Lib.hid d5'
          clear hr4 hb4 HNM d0 d1 d2 d3 d4 d5 d5' d6 d7
          generalize named [] o = z at *
          rcases hkd with e1 | ⟨e1, e2⟩
          all_goals
            go_wp2_with fail
            refine HRN.out.mono ?_
            rintro e w5 ⟨u5, rfl, hi5, hb5⟩
            have HB5 := Lib.hid (HB4.out.trans (hb5.mono HB4.out.size))
            have HR5 := Lib.hid (HR4.out.below hb5)
            have HX5 := Lib.hid (HX4.out.below hb5)
            have HSM := Lib.hid (num_same _ u5 z w5 HR5.out hi5 HNB.out)
            have hs5 : bx < w5.heap.size := Nat.lt_of_lt_of_le (World.block_lt_of_cell? w4 _ HD6.out) hb5.size
            have d8 := (hb5.cell (p := ⟨bx, 5, none⟩) (World.block_lt_of_cell? w4 _ HD6.out)).trans HD6.out
            clear hi5 hb5
            go_wp2_with fail
            refine HSM.out.mono ?_
            rintro e w6 ⟨rfl, nq, rfl⟩
            have HB6 := Lib.hid (below_drewN' HB5.out nq)
            have HX6 := Lib.hid (HX5.out.drewN nq)
            have d9 : (w5.drewN nq).cell? ⟨bx, 5, none⟩ = some (.slice ua o.length uc) := d8
            clear d8
            generalize w5.drewN nq = w6 at *
            have HCC := Lib.hid (g_count o _ w6 HX6.out HNU.out)
            have hge : decide ((z.length : Int) ≤ cnt o) = true := decide_eq_true HNL.out
            go_wp2_with fail
            refine HCC.out.mono ?_
            rintro e w7 ⟨rfl, hb7⟩
            go_wp2_with fail
            go_ret
            exact ⟨rfl, HB6.out.trans (hb7.mono HB6.out.size)⟩
        · have e1 : (kd != 11) = true := by rw [bne_iff_ne]; exact fun h => hk (.inl h)
          have e2 : (kd != 12) = true := by rw [bne_iff_ne]; exact fun h => hk (.inr h)
          have HNM := Lib.hid (g_named_not kd 0 0 0 0 (.slice ua o.length uc) false ⟨#[]⟩ W ⟨fun h => hk (.inl h), fun h => hk (.inr h)⟩)
          clear hk
          go_wp2_with fail
          refine HNM.out.mono ?_
          rintro e w4 ⟨rfl, hb4⟩
          clear d0 d1 d2 d3 d4 d5 d6 d7
          go_wp2_with fail
          go_ret
          exact ⟨rfl, HBX.out.trans (hb4.mono HBX.out.size)⟩
  · have hg : decide ((20 : Int) < (ln : Int)) = false := by simp; omega
    have hNe2 : ln = N := hNe.symm
    clear hNe
    subst hNe2
    go_enter Try.func7, Try.ntmps7
    go_wp2_with fail
    refine (gap_awake _).mono ?_
    rintro e w1 ⟨rfl, hb1⟩
    have HB1 := Lib.hid hb1
    have HP1 := Lib.hid (HP.out.below hb1)
    clear hb1
    go_upto_region 5 with fail
    go_wp2_with fail
    go_loopw [5, 19] (fun a i wr => ∃ (k : Nat) (v : Value), k ≤ ln ∧ v = a ∧ i = .int .i64 k ∧ Hid (wr.ownsRow w1.heap.size 3 1 v k ((ownsV fi k).map (Value.int .i64))) ∧ Hid (Below w1.heap.size w1 wr)) (fun _ i _ => ln - (intOf i).toNat)
    case atStart => exact ⟨0, _, by omega, rfl, rfl, World.ownsRow_nil _ _ _ _, Below.refl _ _⟩
    case round =>
      obtain ⟨k, v, hk, rfl, rfl, HO, HC⟩ := hrel
      by_cases hlt : k < ln
      · obtain ⟨g, off, rfl, hbl, c0, hx1, hx2⟩ := (HP1.out.below HC.out).get (HL.out k hlt)
        have HS := Lib.hid (ownsV_succ fi k)
        have HIO : Hid (IntRow wr v (ownsV fi k)) := intRow_own (by rw [ownsV_len]; exact HO.out) (by rw [ownsV_len]; omega)
        have HGT := Lib.hid (ownsV_get fi k)
        obtain ⟨va, vc, rfl⟩ : ∃ A c, v = .slice A k c := by
          rcases HO.out.2 with ⟨e, h0⟩ | ⟨g, cap, cur, e, _⟩
          · exact ⟨none, 0, by rw [e, h0]⟩
          · exact ⟨_, _, e⟩
        have HOV : Hid (ownV fi k = if k % 2 = 1 then (fi (k - 1) % 16777216 + fi k % 16777216 % 64) % 16777216 else fi k % 16777216) := rfl
        have HEV : Hid (k % 2 = 1 → ownV fi (k - 1) = fi (k - 1) % 16777216) := fun h => by unfold ownV; rw [if_neg (by omega)]
        generalize fi k = x at *
        have i1 : decide ((k : Int) < (ln : Int)) = true := by simp only [decide_eq_true_eq]; omega
        have ii0 : (0 : Int) ≤ (k : Int) := by omega
        have ii2 : (k : Int) < (ln : Int) := by omega
        have HA := Lib.hid (fun W => ref_of x W hx1 hx2)
        have hxm : 0 ≤ x % 16777216 ∧ x % 16777216 < 16777216 := by omega
        generalize x % 16777216 = xm at *
        by_cases hpar : k % 2 = 1
        · have hp2 : (k : Int).tmod 2 = 1 := by rw [Int.tmod_eq_emod_of_nonneg (by omega)]; omega
          have eg := HGT.out (k - 1) (by omega)
          obtain ⟨g2, off2, rfl, hbl2, cg⟩ := HIO.out.get eg
          rw [HEV.out hpar] at cg
          have hpm : 0 ≤ fi (k - 1) % 16777216 ∧ fi (k - 1) % 16777216 < 16777216 := by omega
          have HOE : Hid (ownV fi k = (fi (k - 1) % 16777216 + xm % 64) % 16777216) := by show _ = _; rw [HOV.out, if_pos hpar]
          generalize fi (k - 1) % 16777216 = pm at *
          have ha := and63 xm
          have hr := show 0 ≤ xm % 64 ∧ xm % 64 < 64 by omega
          generalize xm % 64 = r at *
          have HB := Lib.hid (fun W => ref_of (pm + r) W (by omega) (by omega))
          generalize (pm + r) % 16777216 = y at *
          have j1 : (0 : Int) ≤ (k : Int) - 1 := by omega
          have j2 : (k : Int) - 1 < (k : Int) := by omega
          have HPA := Lib.hid hpar
          rw [HOE.out] at HS
          clear eg hpar
          go_wp2_with (first | (go_at_call 25; first | (with_reducible refine (HA.out _).mono ?_; rintro e w' ⟨rfl, rfl⟩) | (with_reducible refine (HB.out _).mono ?_; rintro e w' ⟨rfl, rfl⟩)) | (at_builtin; refine wpList_append_src _ rfl (.tmp 38) (.tmp 40) 45 rfl w1.heap.size 3 i0' (.int .i64 0) 1 8 Try.underlying45 Hi.out Hz0.out Hz1.out Hz2.out rfl (by decide) _ k ((ownsV fi k).map (Value.int .i64)) rfl (World.ownsRow.alloc HO.out _) (some ⟨_, 0, none⟩) 1 1 [.int .i64 y] rfl rfl (fun h => by cases h) (one_src (one_new _ _ _)) (fun u hu => by simp at hu; subst hu; rfl) (by unfold maxLen; omega) (by omega) (by have := HC.out.size; rw [World.size_alloc]; omega) ?_; intro v5 w6 hown4 hg4 _; have HO5 := Lib.hid hown4; have HC5 := Lib.hid ((HC.out.alloc HC.out.size _).grown hg4 (by rw [World.size_alloc]; have := HC.out.size; omega) (fun j hj => (HO.out.lt j hj).1)); clear hown4 hg4))
          go_roundw
          case rel => exact ⟨k + 1, v5, by omega, rfl, by go_num, by have h := HO5.out; show World.ownsRow _ _ _ _ _ _ _; rw [HS.out, List.map_append]; exact h, HC5⟩
          case measure => simp [intOf]; omega
        · have hp2 : (k : Int).tmod 2 = 0 := by rw [Int.tmod_eq_emod_of_nonneg (by omega)]; omega
          have HOE : Hid (ownV fi k = xm) := by show _ = _; rw [HOV.out, if_neg hpar]
          rw [HOE.out] at HS
          have HPA := Lib.hid hpar
          clear hpar
          go_wp2_with (first | (go_at_call 25; (with_reducible refine (HA.out _).mono ?_); rintro e w' ⟨rfl, rfl⟩) | (at_builtin; refine wpList_append_src _ rfl (.tmp 38) (.tmp 40) 45 rfl w1.heap.size 3 i0' (.int .i64 0) 1 8 Try.underlying45 Hi.out Hz0.out Hz1.out Hz2.out rfl (by decide) _ k ((ownsV fi k).map (Value.int .i64)) rfl (World.ownsRow.alloc HO.out _) (some ⟨_, 0, none⟩) 1 1 [.int .i64 xm] rfl rfl (fun h => by cases h) (one_src (one_new _ _ _)) (fun u hu => by simp at hu; subst hu; rfl) (by unfold maxLen; omega) (by omega) (by have := HC.out.size; rw [World.size_alloc]; omega) ?_; intro v5 w6 hown4 hg4 _; have HO5 := Lib.hid hown4; have HC5 := Lib.hid ((HC.out.alloc HC.out.size _).grown hg4 (by rw [World.size_alloc]; have := HC.out.size; omega) (fun j hj => (HO.out.lt j hj).1)); clear hown4 hg4))
          go_roundw
          case rel => exact ⟨k + 1, v5, by omega, rfl, by go_num, by have h := HO5.out; show World.ownsRow _ _ _ _ _ _ _; rw [HS.out, List.map_append]; exact h, HC5⟩
          case measure => simp [intOf]; omega
      · have hks : k = ln := by omega
        have i1 : decide ((k : Int) < (ln : Int)) = false := by simp only [decide_eq_false_iff_not]; omega
        have HO1 : Hid (wr.ownsRow w1.heap.size 3 1 v ln ((ownsV fi ln).map (Value.int .i64))) := by have h := HO.out; rw [hks] at h; exact h
        have HLE := Lib.hid (ownsV_len fi ln)
        have HBD := Lib.hid (ownsV_bd fi ln)
        have HCT := Lib.hid (ownsV_cnt fi ln)
        have HO' : Hid (wr.ownsRow w1.heap.size 3 1 v (ownsV fi ln).length ((ownsV fi ln).map (Value.int .i64))) := by rw [HLE.out]; exact HO1.out
        have hol : (ownsV fi ln).length ≤ 20 := by rw [HLE.out]; omega
        have hct : cnt (ownsV fi ln) ≤ 1280 := by have := HCT.out; omega
        generalize ownsV fi ln = o at *
        have HIO := Lib.hid (intRow_own HO'.out (by omega))
        have HB := Lib.hid (HB1.out.trans (HC.out.mono HB1.out.size))
        clear HO HO1 HO' HC HB1
        go_wp2_with fail
        refine (nums_ v o wr HIO.out HBD.out (by omega)).mono ?_
        rintro e w3 ⟨un, rfl, hnr, hb3⟩
        have HB3 := Lib.hid (HB.out.trans (hb3.mono HB.out.size))
        have HIO3 := Lib.hid (HIO.out.below hb3)
        have HNR := Lib.hid hnr
        clear hnr hb3 HIO HB
        obtain ⟨ua, uc, rfl⟩ := HNR.out.form
        have HX3 := Lib.hid (HNR.out.below ((Below.refl _ w3).alloc (Nat.le_refl _) (.cells #[.int .i64 kd, .int .i64 0, .int .u32 0, .int .u32 0, .int .u32 0, .slice ua o.length uc, .bool false, .string ⟨#[]⟩] 42)))
        have HBX := Lib.hid (HB3.out.alloc HB3.out.size (.cells #[.int .i64 kd, .int .i64 0, .int .u32 0, .int .u32 0, .int .u32 0, .slice ua o.length uc, .bool false, .string ⟨#[]⟩] 42))
        have HIO4 := Lib.hid (HIO3.out.below ((Below.refl _ w3).alloc (Nat.le_refl _) (.cells #[.int .i64 kd, .int .i64 0, .int .u32 0, .int .u32 0, .int .u32 0, .slice ua o.length uc, .bool false, .string ⟨#[]⟩] 42)))
        have hn := heap_alloc_new w3 (.cells #[.int .i64 kd, .int .i64 0, .int .u32 0, .int .u32 0, .int .u32 0, .slice ua o.length uc, .bool false, .string ⟨#[]⟩] 42)
        have hsz : w3.heap.size < (w3.alloc (.cells #[.int .i64 kd, .int .i64 0, .int .u32 0, .int .u32 0, .int .u32 0, .slice ua o.length uc, .bool false, .string ⟨#[]⟩] 42)).heap.size := by simp
        go_upto_region 15 with fail
        generalize w3.alloc (.cells #[.int .i64 kd, .int .i64 0, .int .u32 0, .int .u32 0, .int .u32 0, .slice ua o.length uc, .bool false, .string ⟨#[]⟩] 42) = W at *
        generalize w3.heap.size = bx at *
        have d0 : W.cell? ⟨bx, 0, none⟩ = some (.int .i64 kd) := by rw [cell_of_row _ _ 0 _ _ (0, 0) hn]; rfl
        have d1 : W.cell? ⟨bx, 1, none⟩ = some (.int .i64 0) := by rw [cell_of_row _ _ 1 _ _ (0, 0) hn]; rfl
        have d2 : W.cell? ⟨bx, 2, none⟩ = some (.int .u32 0) := by rw [cell_of_row _ _ 2 _ _ (0, 0) hn]; rfl
        have d3 : W.cell? ⟨bx, 3, none⟩ = some (.int .u32 0) := by rw [cell_of_row _ _ 3 _ _ (0, 0) hn]; rfl
        have d4 : W.cell? ⟨bx, 4, none⟩ = some (.int .u32 0) := by rw [cell_of_row _ _ 4 _ _ (0, 0) hn]; rfl
        have d5 : W.cell? ⟨bx, 5, none⟩ = some (.slice ua o.length uc) := by rw [cell_of_row _ _ 5 _ _ (0, 0) hn]; rfl
        have d6 : W.cell? ⟨bx, 6, none⟩ = some (.bool false) := by rw [cell_of_row _ _ 6 _ _ (0, 0) hn]; rfl
        have d7 : W.cell? ⟨bx, 7, none⟩ = some (.string ⟨#[]⟩) := by rw [cell_of_row _ _ 7 _ _ (0, 0) hn]; rfl
        have HD5 := Lib.hid d5
        clear hn HB3 HIO3
        have HNU : Hid (∀ x, x ∈ o → 0 ≤ x ∧ x < 4294967296) := fun x hx => by have := HBD.out x hx; omega
        by_cases hk : kd = 11 ∨ kd = 12
        · have hkd : (kd != 11) = false ∨ ((kd != 11) = true ∧ (kd != 12) = false) := by rcases hk with rfl | rfl; exact .inl rfl; exact .inr ⟨rfl, rfl⟩
          have HNM := Lib.hid (g_named kd 0 0 0 0 (.slice ua o.length uc) false ⟨#[]⟩ o W HX3.out HNU.out (by omega) hk)
          clear hk
          go_wp2_with fail
          refine HNM.out.mono ?_
          rintro e w4 ⟨u4, rfl, hr4, hb4⟩
          have HB4 := Lib.hid (HBX.out.trans (hb4.mono HBX.out.size))
          have HR4 := Lib.hid hr4
          have HX4 := Lib.hid (HX3.out.below hb4)
          have HIO5 := Lib.hid (HIO4.out.below hb4)
          have d5' := (hb4.cell (p := ⟨bx, 5, none⟩) hsz).trans d5
          have HRN := Lib.hid (ref_named v o w4 HIO5.out HBD.out (by omega) (by omega))
          have HNB : Hid (∀ x, x ∈ named [] o → 0 ≤ x ∧ x < 4294967296) := fun x hx => by have := named_bd o [] (by simp) x hx; omega
          have HNL : Hid (((named [] o).length : Int) ≤ cnt o) := by show _ ≤ _; have := named_len o []; simpa using this
          obtain ⟨A4, c4, rfl⟩ := HR4.out.form
          have HD6 := Lib.hid d5'
          clear hr4 hb4 HNM d0 d1 d2 d3 d4 d5 d5' d6 d7
          generalize named [] o = z at *
          rcases hkd with e1 | ⟨e1, e2⟩
          all_goals
            go_wp2_with fail
            refine HRN.out.mono ?_
            rintro e w5 ⟨u5, rfl, hi5, hb5⟩
            have HB5 := Lib.hid (HB4.out.trans (hb5.mono HB4.out.size))
            have HR5 := Lib.hid (HR4.out.below hb5)
            have HX5 := Lib.hid (HX4.out.below hb5)
            have HSM := Lib.hid (num_same _ u5 z w5 HR5.out hi5 HNB.out)
            have hs5 : bx < w5.heap.size := Nat.lt_of_lt_of_le (World.block_lt_of_cell? w4 _ HD6.out) hb5.size
            have d8 := (hb5.cell (p := ⟨bx, 5, none⟩) (World.block_lt_of_cell? w4 _ HD6.out)).trans HD6.out
            clear hi5 hb5
            go_wp2_with fail
            refine HSM.out.mono ?_
            rintro e w6 ⟨rfl, nq, rfl⟩
            have HB6 := Lib.hid (below_drewN' HB5.out nq)
            have HX6 := Lib.hid (HX5.out.drewN nq)
            have d9 : (w5.drewN nq).cell? ⟨bx, 5, none⟩ = some (.slice ua o.length uc) := d8
            clear d8
            generalize w5.drewN nq = w6 at *
            have HCC := Lib.hid (g_count o _ w6 HX6.out HNU.out)
            have hge : decide ((z.length : Int) ≤ cnt o) = true := decide_eq_true HNL.out
            go_wp2_with fail
            refine HCC.out.mono ?_
            rintro e w7 ⟨rfl, hb7⟩
            go_wp2_with fail
            go_ret
            exact ⟨rfl, HB6.out.trans (hb7.mono HB6.out.size)⟩
        · have e1 : (kd != 11) = true := by rw [bne_iff_ne]; exact fun h => hk (.inl h)
          have e2 : (kd != 12) = true := by rw [bne_iff_ne]; exact fun h => hk (.inr h)
          have HNM := Lib.hid (g_named_not kd 0 0 0 0 (.slice ua o.length uc) false ⟨#[]⟩ W ⟨fun h => hk (.inl h), fun h => hk (.inr h)⟩)
          clear hk
          go_wp2_with fail
          refine HNM.out.mono ?_
          rintro e w4 ⟨rfl, hb4⟩
          clear d0 d1 d2 d3 d4 d5 d6 d7
          go_wp2_with fail
          go_ret
          exact ⟨rfl, HBX.out.trans (hb4.mono HBX.out.size)⟩
end Go.Proofs.Ytogbifggaomfjaa
