/- The law's own cut of spans: at most twelve small ones, and their numbers. Conditions: the slice lies as a slice does. -/
import Derived.Test.YtogbifggaomfjaaSpanIs
import Derived.Test.YtogbifggaomfjaaPairRow
namespace Go.Proofs.Ytogbifggaomfjaa
open Go.RowKit Sp Go.Sort
set_option linter.unusedVariables false

/-- At most twelve spans of at most forty small numbers, and these, rising. -/
structure FewOut (out : List Span) (all : List Int) : Prop where
  tiny : ∀ x, x ∈ out → -100 ≤ x.1 ∧ x.1 ≤ 100 ∧ -100 ≤ x.2 ∧ x.2 ≤ 100 ∧ x.2 ≤ x.1 + 40
  rise : all.Pairwise (· < ·)
  mem : ∀ n, n ∈ all ↔ Mem out n
  few : all.length ≤ 40 * out.length
theorem IntRow.kept {w w' : World} {v : Value} {l : List Int} (h : IntRow w v l) (hs : w.heap.size ≤ w'.heap.size) (hk : ∀ b i x, v.ownBlock = some b → w.cell? ⟨b, i, none⟩ = some x → w'.cell? ⟨b, i, none⟩ = some x) : IntRow w' v l := by
  obtain ⟨A, cap, rfl, hl, hc⟩ := h
  exact ⟨A, cap, rfl, hl, hc.imp id fun ⟨b, off, e, hbl, hc⟩ => ⟨b, off, e, Nat.lt_of_lt_of_le hbl hs, fun i x hx => hk b _ _ (by rw [e]; rfl) (hc i x hx)⟩⟩

theorem few_next {out : List Span} {all all' : List Int} {F T m : Int} (h : FewOut out all) (hr : all'.Pairwise (· < ·)) (hm : ∀ n, n ∈ all' ↔ Mem out n ∨ (F ≤ n ∧ n < m)) (h1 : T ≤ m) (h2 : m ≤ T ∨ m = F)
    (hF1 : -100 ≤ F) (hF2 : F ≤ 100) (hT1 : -100 ≤ T) (hT2 : T ≤ 100) (hT3 : T ≤ F + 40) (hl : (all'.length : Int) ≤ all.length + (m - F)) : FewOut (out ++ [(F, T)]) all' := by
  refine ⟨fun x hx => ?_, hr, fun n => ?_, ?_⟩
  · rcases List.mem_append.1 hx with hx | hx
    · exact h.tiny x hx
    · simp at hx; subst hx; exact ⟨hF1, hF2, hT1, hT2, hT3⟩
  · rw [hm n, mem_append, mem_one]
    simp only
    constructor
    · rintro (h | h)
      · exact .inl h
      · exact .inr (by omega)
    · rintro (h | h)
      · exact .inl h
      · exact .inr (by omega)
  · have := h.few
    simp only [List.length_append, List.length_cons, List.length_nil]
    omega
theorem mem_put_next {out : List Span} {all : List Int} {F m : Int} (h : ∀ n, n ∈ all ↔ Mem out n ∨ (F ≤ n ∧ n < m)) (hF : F ≤ m) : ∀ n, n ∈ put all m ↔ Mem out n ∨ (F ≤ n ∧ n < m + 1) := by
  intro n
  rw [mem_put, h n]
  constructor
  · rintro (h | h | h)
    · exact .inr (by omega)
    · exact .inl h
    · exact .inr (by omega)
  · rintro (h | h)
    · exact .inr (.inl h)
    · by_cases e : n = m
      · exact .inl e
      · exact .inr (.inr (by omega))

set_option maxHeartbeats 1000000 in
set_option maxRecDepth 100000 in
theorem fewN (ps : Nat → Int × Int) (A : Option Addr) (len cap : Nat) (w : World) (h : PairRow w A len ps) :
    Calls Try.prog 26 #[.slice A len cap] w fun e w' => ∃ u v out all, e = .returned (.tuple #[u, v]) ∧ SpRow w' u out ∧ IntRow w' v all ∧ out.length = min len 12 ∧ FewOut out all ∧ w'.ownsRow w.heap.size 32 2 u out.length (encs out) ∧ Below w.heap.size w w' ∧ ∀ j, v.ownBlock = some j → j < w'.heap.size := by
  have HS := Lib.hid h
  have hlen := h.1
  unfold maxLen at hlen
  clear h
  obtain ⟨i0, hi, hz0, hz1, hz2⟩ := info_parts infoSpan
  have Hi := Lib.hid hi
  have Hz0 := Lib.hid hz0
  have Hz1 := Lib.hid hz1
  have Hz2 := Lib.hid hz2
  clear hi hz0 hz1 hz2
  go_enter Try.func26, Try.ntmps26
  go_wp2_with fail
  go_loopw [4, 5, 6] (fun a b i wr => ∃ (k : Nat) (u v : Value) (out : List Span) (all : List Int), k ≤ min len 12 ∧ u = a ∧ v = b ∧ i = .int .i64 k ∧ out.length = k ∧ Hid (FewOut out all) ∧ Hid (wr.ownsRow w.heap.size 32 2 u out.length (encs out)) ∧ Hid (IntRow wr v all) ∧ Hid (∀ g, v.ownBlock = some g → g < wr.heap.size ∧ u.ownBlock ≠ some g) ∧ Hid (Below w.heap.size w wr)) (fun _ _ i _ => 12 - (intOf i).toNat)
  case atStart => exact ⟨0, _, _, [], [], by omega, rfl, rfl, rfl, rfl, ⟨by simp, .nil, fun n => ⟨fun h => absurd h (by simp), fun h => absurd h (mem_nil n)⟩, by simp⟩, World.ownsRow_nil w _ _ _, intRow_nil w, fun g h => by simp [Value.ownBlock] at h, Below.refl _ _⟩
  case round =>
    obtain ⟨k, u, v, out, all, hk, rfl, rfl, rfl, hol, HF, HO, HI, HD, HW⟩ := hrel
    by_cases hlt : k < len
    · by_cases h12 : k < 12
      · obtain ⟨b, off, rfl, hbl, c0, c1, ha1, ha2, hd1, hd2⟩ := (HS.out.below HW.out).get hlt
        generalize (ps k).1 = a at *
        generalize (ps k).2 = d at *
        have i1 : (0 : Int) ≤ (k : Int) := by omega
        have i2 : (k : Int) < (len : Int) := by omega
        have i3 : decide ((k : Int) < (len : Int)) = true := by simp only [decide_eq_true_eq]; omega
        have i4 : decide ((k : Int) < 12) = true := by simp only [decide_eq_true_eq]; omega
        go_upto_region 6 with fail
        go_cut [7] (fun s7 w' => ∃ (wg : World) (g : Nat) (F T : Int), wg = w' ∧ s7 = .pointer (some ⟨g, 0, none⟩) ∧ wr.heap.size ≤ g ∧ g < w'.heap.size ∧ w'.cell? ⟨g, 0, none⟩ = some (.int .i64 F) ∧ w'.cell? ⟨g, 1, none⟩ = some (.int .i64 T) ∧ w'.frozen? ⟨g, 1, none⟩ = false ∧ -100 ≤ F ∧ F ≤ 100 ∧ -100 ≤ T ∧ T ≤ 100 ∧ Hid (Below wr.heap.size wr w'))
        case first =>
          go_region
          all_goals go_wp2_with fail
          all_goals go_meet
          all_goals exact ⟨_, _, _, _, rfl, rfl, Nat.le_refl _, by simp, by rw [World.cell?_drew, cell_of_row _ _ 0 _ _ (0, 0) (heap_alloc_new wr _)]; rfl, by rw [World.cell?_drew, cell_of_row _ _ 1 _ _ (0, 0) (heap_alloc_new wr _)]; rfl, frozen_of_row _ wr.heap.size 1 _ _ (heap_alloc_new wr _), by omega, by omega, by omega, by omega, ((Below.refl _ wr).alloc (Nat.le_refl _) _).drew⟩
        case rest =>
          obtain ⟨wg, g, F, T, rfl, rfl, hg1, hg2, hc0, hc1, hfz, hF1, hF2, hT1, hT2, HWg⟩ := hcut
          have HO1 := Lib.hid (HO.out.kept (row := none) ⟨HWg.out.os, HWg.out.tape, HWg.out.output, HWg.out.size, fun k hk _ => HWg.out.block k hk⟩ (Classical.em _))
          have HI1 := Lib.hid (HI.out.below HWg.out)
          have HW1 := Lib.hid (HW.out.trans (HWg.out.mono HW.out.size))
          have hgw : w.heap.size ≤ g := by have := HW.out.size; omega
          have HNU : Hid (∀ j, u.ownBlock = some j → j < g) := fun j hj => Nat.lt_of_lt_of_le (HO.out.lt j hj).2 hg1
          have HNV : Hid (∀ j, v.ownBlock = some j → j < g) := fun j hj => Nat.lt_of_lt_of_le (HD.out j hj).1 hg1
          have HDD : Hid (∀ j, v.ownBlock = some j → j < g ∧ u.ownBlock ≠ some j) := fun j hj => ⟨HNV.out j hj, (HD.out j hj).2⟩
          clear c0 c1 HO HI HW
          go_upto_region 7 with fail
          go_cut [7] (fun s7 w' => ∃ T' : Int, s7 = .pointer (some ⟨g, 0, none⟩) ∧ w' = wg.setCell ⟨g, 1, none⟩ (.int .i64 T') ∧ -100 ≤ T' ∧ T' ≤ 100 ∧ T' ≤ F + 40)
          case first =>
            go_wp2_with fail
            all_goals go_meet
            all_goals refine ⟨_, rfl, rfl, ?_, ?_, ?_⟩
            all_goals omega
          case rest =>
            obtain ⟨T', rfl, rfl, hT3, hT4, hT5⟩ := hcut
            have HO2 := Lib.hid (ownsRow_setCell_other HO1.out (a := ⟨g, 1, none⟩) (fun h => Nat.lt_irrefl _ (HNU.out _ h)) (.int .i64 T'))
            have HW2 := Lib.hid (HW1.out.setCell (p := ⟨g, 1, none⟩) hgw (.int .i64 T'))
            have HI2 : Hid (IntRow (wg.setCell ⟨g, 1, none⟩ (.int .i64 T')) v all) := HI1.out.kept (by simp [World.setCell]) (fun b i x hb hx => by
              have hlt := HNV.out b hb
              rw [((Below.refl g wg).setCell (p := ⟨g, 1, none⟩) (Nat.le_refl g) (.int .i64 T')).cell (p := ⟨b, i, none⟩) hlt]
              exact hx)
            have hb0 : (wg.setCell ⟨g, 1, none⟩ (.int .i64 T')).cell? ⟨g, 0, none⟩ = some (.int .i64 F) := by go_simp
            have hb1 : (wg.setCell ⟨g, 1, none⟩ (.int .i64 T')).cell? ⟨g, 1, none⟩ = some (.int .i64 T') := by go_simp
            have hgs : g < (wg.setCell ⟨g, 1, none⟩ (.int .i64 T')).heap.size := by simpa [World.setCell] using hg2
            clear hc0 hc1 HO1 HI1 HW1 HWg hfz HD hg1 hg2
            go_upto_region 8 with fail
            generalize wg.setCell ⟨g, 1, none⟩ (.int .i64 T') = W at *
            have HB0 := Lib.hid hb0
            have HB1 := Lib.hid hb1
            have HNG : Hid (∀ j, u.ownBlock = some j → j ≠ g) := fun j hj => Nat.ne_of_lt (HNU.out j hj)
            have HAL := Lib.hid ((Below.refl _ W).alloc (Nat.le_refl _) (.cells #[.int .i64 F, .int .i64 T'] 32))
            have HA0 : Hid ((W.alloc (.cells #[.int .i64 F, .int .i64 T'] 32)).cell? ⟨g, 0, none⟩ = some (.int .i64 F)) := by show _ = _; rw [HAL.out.cell (p := ⟨g, 0, none⟩) hgs]; exact hb0
            have HA1 : Hid ((W.alloc (.cells #[.int .i64 F, .int .i64 T'] 32)).cell? ⟨g, 1, none⟩ = some (.int .i64 T')) := by show _ = _; rw [HAL.out.cell (p := ⟨g, 1, none⟩) hgs]; exact hb1
            have HIA := Lib.hid (HI2.out.below HAL.out)
            have HWA := Lib.hid (HW2.out.alloc HW2.out.size (.cells #[.int .i64 F, .int .i64 T'] 32))
            go_wp2_with (at_builtin; refine wpList_append_src _ rfl (.tmp 41) (.tmp 43) 28 rfl w.heap.size 32 i0 (.agg #[.int .i64 0, .int .i64 0]) 2 16 Try.underlying28 Hi.out Hz0.out Hz1.out Hz2.out rfl (by decide) u out.length (encs out) rfl (HO2.out.alloc _) (some ⟨W.heap.size, 0, none⟩) 1 1 [.int .i64 F, .int .i64 T'] rfl rfl (fun h => by cases h) (two_src (two_new _ _ _ _).1 (two_new _ _ _ _).2) (fun u hu => by simp at hu; rcases hu with rfl | rfl <;> rfl) (by unfold maxLen; omega) (by omega) (by have := HW2.out.size; rw [World.size_alloc]; omega) ?_; intro u' w4 hown4 hg4 hv4; have HO4 := Lib.hid hown4; have HW4 := Lib.hid (HWA.out.grown hg4 HWA.out.size (fun j hj => (HO2.out.lt j hj).1)); have k0 := hg4.cell HA0.out (fun h => HNG.out _ h.symm rfl); have k1 := hg4.cell HA1.out (fun h => HNG.out _ h.symm rfl); have HI4 : Hid (IntRow w4 v all) := HIA.out.kept hg4.size (fun b i x hb hx => hg4.cell hx (fun h => (HDD.out b hb).2 h.symm)); have HV4 := Lib.hid hv4; have hs4 := hg4.size; clear hown4 hg4 hv4)
            have HU4 : Hid (∀ j, v.ownBlock = some j → j < w4.heap.size ∧ u'.ownBlock ≠ some j) := fun j hj => by
              obtain ⟨q1, q2⟩ := HDD.out j hj
              refine ⟨by rw [World.size_alloc] at hs4; omega, fun h => ?_⟩
              rcases HV4.out with e | e
              · exact q2 (by rw [← e]; exact h)
              · rw [e, World.size_alloc] at h; injection h with h; omega
            have hg4 : g < w4.heap.size := by rw [World.size_alloc] at hs4; omega
            have hall : (all.length : Int) ≤ 480 := by have := HF.out.few; omega
            have HK1 := Lib.hid k1
            have HM0 : Hid (∀ n, n ∈ all ↔ Mem out n ∨ (F ≤ n ∧ n < F)) := fun n => by rw [HF.out.mem n]; exact ⟨.inl, fun h => h.elim id fun h => by omega⟩
            clear HI2 HO2 HW2 HNU HNV HNG HAL HA0 HA1 HIA HWA hb0 hb1 HB0 HB1 hs4 HV4 HDD hgs k1
            go_loopw [5, 8] (fun b n w2 => ∃ (v2 : Value) (al2 : List Int) (m : Int), v2 = b ∧ n = .int .i64 m ∧ F ≤ m ∧ (m ≤ T' ∨ m = F) ∧ (al2.length : Int) ≤ all.length + (m - F) ∧ Hid (al2.Pairwise (· < ·)) ∧ Hid (∀ n, n ∈ al2 ↔ Mem out n ∨ (F ≤ n ∧ n < m)) ∧ Hid (IntRow w2 v2 al2) ∧ Hid (Below w4.heap.size w4 w2) ∧ Hid (∀ j, v2.ownBlock = some j → j < w2.heap.size ∧ u'.ownBlock ≠ some j)) (fun _ n _ => (T' - intOf n).toNat)
            case atStart => exact ⟨_, all, F, rfl, rfl, Int.le_refl _, .inr rfl, by omega, HF.out.rise, HM0, HI4, Below.refl _ _, HU4⟩
            case round =>
              obtain ⟨v2, al2, m, rfl, rfl, hm1, hm2, hal, HR2, HM2, HI2, HW2, HU2⟩ := hrel
              clear k0
              have hk1 := HK1.out
              rw [← HW2.out.cell (p := ⟨g, 1, none⟩) hg4] at hk1
              by_cases hmT : m < T'
              · have hd : decide (m < T') = true := by simp only [decide_eq_true_eq]; exact hmT
                have HPN := Lib.hid (mem_put_next HM2.out hm1)
                have HPR := Lib.hid (put_rise HR2.out m)
                have hpl := length_put al2 m
                go_wp2_with fail
                refine (ref_put v2 al2 m _ HI2.out HR2.out (by omega)).mono ?_
                rintro e w3 ⟨v3, rfl, hi3, hb3, ho3⟩
                have HI3 := Lib.hid hi3
                have HW3 := Lib.hid (HW2.out.trans (hb3.mono HW2.out.size))
                have HU3 : Hid (∀ j, v3.ownBlock = some j → j < w3.heap.size ∧ u'.ownBlock ≠ some j) := fun j hj => by
                  rcases ho3 j hj with h | ⟨h1, h2⟩
                  · obtain ⟨q1, q2⟩ := HU2.out j h
                    exact ⟨Nat.lt_of_lt_of_le q1 hb3.size, q2⟩
                  · refine ⟨h2, fun h => ?_⟩
                    have := (HO4.out.lt j h).2
                    have := HW2.out.size
                    omega
                clear hi3 hb3 ho3
                generalize put al2 m = al3 at *
                go_wp2_with fail
                go_roundw
                case rel => exact ⟨v3, al3, m + 1, rfl, by go_num, by omega, by omega, by omega, HPR, HPN, HI3, HW3, HU3⟩
                case measure => simp [intOf]; omega
              · have hd : decide (m < T') = false := by simp only [decide_eq_false_iff_not]; exact hmT
                have HF3 := Lib.hid (few_next HF.out HR2.out HM2.out (by omega) hm2 ‹_› ‹_› hT3 hT4 hT5 hal)
                have HO5 : Hid (wr.ownsRow w.heap.size 32 2 u' (out ++ [(F, T')]).length (encs (out ++ [(F, T')]))) := by
                  have h := HO4.out.kept (row := none) ⟨HW2.out.os, HW2.out.tape, HW2.out.output, HW2.out.size, fun k hk _ => HW2.out.block k hk⟩ (Classical.em _)
                  rw [List.length_append, encs_append]
                  exact h
                have HW5 := Lib.hid (HW4.out.trans (HW2.out.mono HW4.out.size))
                go_wp2_with fail
                go_roundw
                case rel => exact ⟨k + 1, u', v2, out ++ [(F, T')], al2, by omega, rfl, rfl, by go_num, by simp; omega, HF3, HO5, HI2, HU2, HW5⟩
                case measure => simp [intOf]; omega
      · have hk12 : k = 12 := by omega
        have i3 : decide ((k : Int) < (len : Int)) = true := by simp only [decide_eq_true_eq]; omega
        have i4 : decide ((k : Int) < 12) = false := by simp only [decide_eq_false_iff_not]; omega
        have HK := Lib.hid hk12
        clear hk12
        go_wp2_with fail
        exact bodyPost_ret (v := .tuple #[u, v]) (by simp [results, Try.results26, go_sem]) rfl ⟨u, v, out, all, rfl, spRow_own HO.out (by omega), HI.out, by omega, HF.out, HO.out, HW.out, fun j hj => (HD.out j hj).1⟩
    · have hkl : k = len := by omega
      have i3 : decide ((k : Int) < (len : Int)) = false := by simp only [decide_eq_false_iff_not]; omega
      have HK := Lib.hid hkl
      clear hkl
      go_wp2_with fail
      exact bodyPost_ret (v := .tuple #[u, v]) (by simp [results, Try.results26, go_sem]) rfl ⟨u, v, out, all, rfl, spRow_own HO.out (by omega), HI.out, by omega, HF.out, HO.out, HW.out, fun j hj => (HD.out j hj).1⟩

theorem few (ps : Nat → Int × Int) (A : Option Addr) (len cap : Nat) (w : World) (h : PairRow w A len ps) :
    Calls Try.prog 26 #[.slice A len cap] w fun e w' => ∃ u v out all, e = .returned (.tuple #[u, v]) ∧ SpRow w' u out ∧ IntRow w' v all ∧ out.length = min len 12 ∧ FewOut out all ∧ w'.ownsRow w.heap.size 32 2 u out.length (encs out) ∧ Below w.heap.size w w' :=
  (fewN ps A len cap w h).mono fun e w' ⟨u, v, out, all, h1, h2, h3, h4, h5, h6, h7, _⟩ => ⟨u, v, out, all, h1, h2, h3, h4, h5, h6, h7⟩
end Go.Proofs.Ytogbifggaomfjaa
