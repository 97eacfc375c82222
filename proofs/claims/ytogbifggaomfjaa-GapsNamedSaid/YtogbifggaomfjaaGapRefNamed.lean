/- The document's own Named. Conditions: the row lies as a row does, its numbers are of 24 bits, the pairs have not too many numbers. -/
import Derived.Test.YtogbifggaomfjaaGapNamed
import Derived.Test.YtogbifggaomfjaaGapListsLaw
namespace Go.Proofs.Ytogbifggaomfjaa
open Go.RowKit Sp
set_option linter.unusedVariables false
set_option linter.unusedSimpArgs false

theorem pairNums_none {a b : Int} (h : 8388608 < (b - a) % 16777216) : pairNums a b = [] := by
  unfold pairNums sz
  rw [if_neg (by omega)]
  rfl
theorem named_none {l : List Int} {k : Nat} (h : 2 * k + 1 < l.length) (hf : 8388608 < (l[2 * k + 1] - l[2 * k]) % 16777216) : named [] (l.take (2 * (k + 1))) = named [] (l.take (2 * k)) := by
  rw [named_take h, pairNums_none hf]; rfl

set_option maxHeartbeats 8000000 in
set_option maxRecDepth 100000 in
theorem ref_named (v : Value) (l : List Int) (w : World) (h : IntRow w v l) (hl : ∀ x, x ∈ l → 0 ≤ x ∧ x < 16777216) (hc : cnt l ≤ 60000) (hn : l.length ≤ 10000) :
    Calls Try.prog 34 #[v, .int .i64 65536] w fun e w' => ∃ u, e = .returned u ∧ IntRow w' u (named [] l) ∧ Below w.heap.size w w' := by
  obtain ⟨A, cap, rfl⟩ := h.form
  have HR := Lib.hid h
  have HL := Lib.hid hl
  have HC := Lib.hid hc
  obtain ⟨i0, hi, hz0, hz1, hz2⟩ := info_parts infoInt0
  have Hi := Lib.hid hi
  have Hz0 := Lib.hid hz0
  have Hz1 := Lib.hid hz1
  have Hz2 := Lib.hid hz2
  have HO0 : Hid ((w.alloc (.cells #[] 3)).ownsRow w.heap.size 3 1 (.slice (some ⟨w.heap.size, 0, none⟩) 0 0) 0 []) := World.ownsRow_made w #[] 0 (Nat.le_refl _) (by decide) rfl
  have HB0 := Lib.hid ((Below.refl _ w).alloc (Nat.le_refl _) (.cells #[] 3))
  clear h hl hc hi hz0 hz1 hz2
  go_enter Try.func34, Try.ntmps34
  go_wp2_with fail
  go_loopw [5, 6] (fun a i wr => ∃ (k m : Nat) (v : Value) (o : List Int), m ≤ l.length ∧ v = a ∧ i = .int .i64 (m : Int) ∧ o.length ≤ 60000 ∧ Hid (m = 2 * k ∧ o = named [] (l.take (2 * k))) ∧ Hid (wr.ownsRow w.heap.size 3 1 v o.length (o.map (Value.int .i64))) ∧ Hid (Below w.heap.size w wr)) (fun _ i _ => l.length + 1 - (intOf i).toNat)
  case atStart => exact ⟨0, 0, _, [], by omega, rfl, rfl, by simp, ⟨rfl, by simp [named]⟩, HO0, HB0⟩
  case round =>
    obtain ⟨k, m, v, o, hm, rfl, rfl, hol, HK, HO, HW⟩ := hrel
    clear HO0 HB0
    by_cases hlt : m + 1 < l.length
    · have HKM := Lib.hid HK.out.1
      have hlt' : 2 * k + 1 < l.length := by have := HKM.out; omega
      have ex := List.getElem?_eq_getElem (show 2 * k < l.length by omega)
      have ey := List.getElem?_eq_getElem hlt'
      obtain ⟨g, off, rfl, hbl, c0w⟩ := HR.out.get ex
      obtain ⟨g', off', e', _, c1w⟩ := HR.out.get ey
      injection e' with e'
      rw [Addr.mk.injEq] at e'
      obtain ⟨rfl, rfl, _⟩ := e'
      have HCW := Lib.hid c0w
      have c0 := (HW.out.cell (p := ⟨g, off + 2 * k, none⟩) hbl).trans c0w
      have c1 := (HW.out.cell (p := ⟨g, off + (2 * k + 1), none⟩) hbl).trans c1w
      have HBL := Lib.hid hbl
      clear c0w c1w hbl
      have hx := HL.out _ (List.getElem_mem (show 2 * k < l.length by omega))
      have hy := HL.out _ (List.getElem_mem hlt')
      have HNT := Lib.hid (named_take hlt')
      have HNN := Lib.hid (fun hf => named_none hlt' hf)
      have HCT := Lib.hid (show cnt (l.take (2 * k)) + sz l[2 * k] l[2 * k + 1] ≤ 60000 by have := cnt_take hlt'; have := cnt_take_le l (2 * (k + 1)); have := HC.out; omega)
      clear ex ey
      generalize l[2 * k] = x at *
      generalize l[2 * k + 1] = y at *
      rw [← HKM.out] at c0 c1 HCW
      clear hlt'
      have HOL : Hid ((o.length : Int) ≤ cnt (l.take (2 * k))) := by show _ ≤ _; have := named_len (l.take (2 * k)) []; rw [← HK.out.2] at this; simpa using this
      have HSZ : Hid (sz x y = if (y - x) % 16777216 ≤ 8388608 then (y - x) % 16777216 else 0) := rfl
      have HTO := Lib.hid (fun W => (ref_to x y W (by omega) (by omega) (by omega) (by omega)).mono (fun e w' (hh : e = _ ∧ W = w') => (⟨hh.1, hh.2.symm⟩ : e = .returned (.int .i64 ((y - x) % 16777216)) ∧ w' = W)))
      have hd0 : 0 ≤ (y - x) % 16777216 ∧ (y - x) % 16777216 < 16777216 := by omega
      have c1' := c1
      have j1 : off + ((m : Int) + 1).toNat = off + (m + 1) := by omega
      rw [← j1] at c1'
      have j3 : IntKind.i64.wrap (m : Int) = (m : Int) := by simp [IntKind.wrap, IntKind.bits, IntKind.signed]; omega
      have j4 : IntKind.i64.wrap ((m : Int) + 1) = (m : Int) + 1 := by simp [IntKind.wrap, IntKind.bits, IntKind.signed]; omega
      have ii0 : (0 : Int) ≤ (m : Int) := by omega
      have ii1 : (m : Int) < (l.length : Int) := by omega
      have ii2 : (0 : Int) ≤ (m : Int) + 1 := by omega
      have ii3 : (m : Int) + 1 < (l.length : Int) := by omega
      have hll : (l.length : Int) ≤ 10000 := by omega
      generalize hd : (y - x) % 16777216 = d at *
      by_cases hfar : d ≤ 8388608
      · have e1 : decide (8388608 < d) = false := decide_eq_false (by omega)
        have hsd : sz x y = d := by rw [HSZ.out, if_pos hfar]
        have HSD := Lib.hid hsd
        have HD := Lib.hid hd
        have hd6 : d + o.length ≤ 60000 := by have h1 := HCT.out; rw [hsd] at h1; have h2 := HOL.out; omega
        have HPT := Lib.hid (pairNums_take x y)
        have HPL := Lib.hid (pairNums_len x y)
        rw [hsd] at HPT HPL
        have HOX := Lib.hid (fun W => ref_of x W (by omega) (by omega))
        rw [show x % 16777216 = x by omega] at HOX
        clear hsd hd
        generalize hPN : pairNums x y = PN at *
        have HPN := Lib.hid hPN
        clear hPN
        go_wp2_with fail
        go_quiet ((go_at_call 23; exact Calls.quiet_of_same (HTO.out _)))
        have HOQ : Hid ((wr.drewN nq).ownsRow w.heap.size 3 1 v o.length (o.map (Value.int .i64))) := HO.out
        have HWQ := Lib.hid (below_drewN' HW.out nq)
        clear c0 c1 c1' HO HW
        generalize wr.drewN nq = W1 at *
        go_wp2_with fail
        go_loopw [5, 8] (fun a kk w2 => ∃ (j : Nat) (v2 : Value) (o2 : List Int), v2 = a ∧ kk = .int .i64 (j : Int) ∧ (j : Int) ≤ d ∧ o2.length ≤ o.length + j ∧ Hid (o2 = (PN.take j).foldl ins o) ∧ Hid (w2.ownsRow w.heap.size 3 1 v2 o2.length (o2.map (Value.int .i64))) ∧ Hid (Below w.heap.size w w2)) (fun _ kk _ => (d - intOf kk).toNat)
        case atStart => exact ⟨0, v, o, rfl, rfl, by omega, by omega, (by show _ = _; simp), HOQ, HWQ⟩
        case round =>
          obtain ⟨j, v2, o2, rfl, rfl, hj, ho2, HP2, HO2, HW2⟩ := hrel
          have cx := (HW2.out.cell (p := ⟨g, off + m, none⟩) HBL.out).trans HCW.out
          obtain ⟨A2, c2, rfl⟩ : ∃ A c, v2 = .slice A o2.length c := by
            rcases HO2.out.2 with ⟨e, h0⟩ | ⟨g, cap, cur, e, _⟩
            · exact ⟨none, 0, by rw [e, h0]⟩
            · exact ⟨_, _, e⟩
          by_cases hjd : (j : Int) < d
          · have e2 : decide ((j : Int) < d) = true := decide_eq_true hjd
            have e3 : decide ((o2.length : Int) < 65536) = true := decide_eq_true (by omega)
            have HZ := Lib.hid (fun W => ref_of (x + (j : Int)) W (by omega) (by omega))
            have HT : Hid ((PN.take (j + 1)).foldl ins o = ins o2 ((x + (j : Int)) % 16777216)) := by show _ = _; rw [HPT.out j hjd, List.foldl_append, ← HP2.out]; rfl
            generalize (x + (j : Int)) % 16777216 = z at *
            have HIO2 := Lib.hid (intRow_own HO2.out (by omega))
            go_wp2_with (go_at_call 25; first | (with_reducible refine (HOX.out _).mono ?_; rintro e w' ⟨rfl, rfl⟩) | (with_reducible refine (HZ.out _).mono ?_; rintro e w' ⟨rfl, rfl⟩))
            go_loopw [10, 54] (fun hv i w3 => ∃ q : Nat, q ≤ o2.length ∧ i = .int .i64 (q : Int) ∧ hv = .bool (decide (z ∈ o2.take q)) ∧ w3 = wr) (fun _ i _ => o2.length - (intOf i).toNat)
            case atStart => exact ⟨0, by omega, rfl, by simp, rfl⟩
            case round =>
              obtain ⟨q, hq, rfl, rfl, rfl⟩ := hrel
              by_cases hql : q < o2.length
              · have ez := List.getElem?_eq_getElem hql
                obtain ⟨g2, off2, rfl, hbl2, cz⟩ := HIO2.out.get ez
                have hnx : Hid (decide (z ∈ o2.take (q + 1)) = (decide (z ∈ o2.take q) || (z == o2[q]))) := by
                  show _ = _
                  rw [Bool.eq_iff_iff, decide_eq_true_eq, List.take_succ_eq_append_getElem hql, List.mem_append]
                  simp
                clear ez
                generalize o2[q] = y2 at *
                generalize decide (z ∈ o2.take q) = hb at *
                have k0 : (0 : Int) ≤ (q : Int) := by omega
                have k1 : (q : Int) < (o2.length : Int) := by omega
                cases hb
                · go_wp2_with fail
                  go_roundw
                  case rel => exact ⟨q + 1, by omega, by go_num, by rw [hnx.out]; rfl, by trivial⟩
                  case measure => simp [intOf]; omega
                · go_wp2_with fail
                  go_roundw
                  case rel => exact ⟨q + 1, by omega, by go_num, by rw [hnx.out]; rfl, by trivial⟩
                  case measure => simp [intOf]; omega
              · have hqe : q = o2.length := by omega
                have htk : o2.take q = o2 := List.take_of_length_le (by omega)
                rw [htk]
                by_cases hzm : z ∈ o2
                · have ed : decide (z ∈ o2) = true := decide_eq_true hzm
                  rw [ed]
                  have HT2 : Hid (o2 = (PN.take (j + 1)).foldl ins o) := by show _ = _; rw [HT.out]; unfold ins; rw [if_pos hzm]
                  clear hqe htk ed hzm
                  go_wp2_with fail
                  go_roundw
                  case rel => exact ⟨j + 1, _, o2, rfl, by go_num, by omega, by omega, HT2, HO2, HW2⟩
                  case measure => simp [intOf]; omega
                · have ed : decide (z ∈ o2) = false := decide_eq_false hzm
                  rw [ed]
                  have HT2 : Hid (o2 ++ [z] = (PN.take (j + 1)).foldl ins o) := by show _ = _; rw [HT.out]; unfold ins; rw [if_neg hzm]
                  clear hqe htk ed hzm
                  go_wp2_with (at_builtin; refine wpList_append_src _ rfl (.tmp 67) (.tmp 69) 45 rfl w.heap.size 3 i0 (.int .i64 0) 1 8 Try.underlying45 Hi.out Hz0.out Hz1.out Hz2.out rfl (by decide) (.slice A2 o2.length c2) o2.length (o2.map (Value.int .i64)) rfl (World.ownsRow.alloc HO2.out _) (some ⟨_, 0, none⟩) 1 1 [.int .i64 z] rfl rfl (fun h => by cases h) (one_src (one_new _ _ _)) (fun u hu => by simp at hu; subst hu; rfl) (by unfold maxLen; omega) (by omega) (by have := HW2.out.size; rw [World.size_alloc]; omega) ?_; intro v5 w6 hown4 hg4 _; have HO5 := Lib.hid hown4; have HC5 := Lib.hid ((HW2.out.alloc HW2.out.size _).grown hg4 (by rw [World.size_alloc]; have := HW2.out.size; omega) (fun j hj => (HO2.out.lt j hj).1)); clear hown4 hg4)
                  go_roundw
                  case rel => exact ⟨j + 1, v5, o2 ++ [z], rfl, by go_num, by omega, by simp; omega, HT2, by have h := HO5.out; show World.ownsRow _ _ _ _ _ _ _; rw [List.length_append, List.map_append]; exact h, HC5⟩
                  case measure => simp [intOf]; omega
          · have e2 : decide ((j : Int) < d) = false := decide_eq_false hjd
            have HNE : Hid (o2 = named [] (l.take (2 * (k + 1)))) := by
              show _ = _
              rw [HNT.out, ← HK.out.2, HP2.out, List.take_of_length_le (by rw [HPL.out]; omega)]
            go_wp2_with fail
            go_roundw
            case rel => exact ⟨k + 1, m + 2, _, o2, by omega, rfl, by go_num, by omega, ⟨by have := HKM.out; omega, HNE.out⟩, HO2, HW2⟩
            case measure => simp [intOf]; omega
      · have e1 : decide (8388608 < d) = true := decide_eq_true (by omega)
        have HNE : Hid (o = named [] (l.take (2 * (k + 1)))) := by show _ = _; rw [HNN.out (by omega)]; exact HK.out.2
        have HD := Lib.hid hd
        clear hd
        go_wp2_with fail
        go_quiet ((go_at_call 23; exact Calls.quiet_of_same (HTO.out _)))
        have HOQ : Hid ((wr.drewN nq).ownsRow w.heap.size 3 1 v o.length (o.map (Value.int .i64))) := HO.out
        have HWQ := Lib.hid (below_drewN' HW.out nq)
        generalize wr.drewN nq = W1 at *
        go_wp2_with fail
        go_roundw
        case rel => exact ⟨k + 1, m + 2, v, o, by omega, rfl, by go_num, hol, ⟨by have := HKM.out; omega, HNE.out⟩, HOQ, HWQ⟩
        case measure => simp [intOf]; omega
    · have HF : Hid (o = named [] l) := by show _ = _; rw [HK.out.2]; have := HK.out.1; exact named_full (by omega) (by omega)
      have HIO := Lib.hid (intRow_own HO.out (by omega))
      rw [HF.out] at HIO
      go_wp2_with fail
      go_ret
      exact ⟨_, rfl, HIO.out, HW.out⟩
end Go.Proofs.Ytogbifggaomfjaa
