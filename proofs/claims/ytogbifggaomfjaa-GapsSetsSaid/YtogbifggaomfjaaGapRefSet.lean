/- The document's own Set of pairs. Conditions: the row lies as a row does, its numbers are of 24 bits, each near the base or too far. -/
import Derived.Test.YtogbifggaomfjaaGapListsLaw
namespace Go.Proofs.Ytogbifggaomfjaa
open Go.RowKit Sp Go.Sort
set_option linter.unusedVariables false

theorem spansOf_odd (b : Int) : ∀ (l : List Int) (x : Int), l.length % 2 = 0 → spansOf b (l ++ [x]) = spansOf b l
  | [], x, _ => by simp [spansOf]
  | [c], x, h => by simp at h
  | c :: d :: r, x, h => by
    have := spansOf_odd b r x (by simp at h; omega)
    simp only [List.cons_append, spansOf]
    rw [this]
theorem spansOf_even {b : Int} {l : List Int} {k : Nat} (h : k < l.length) (hk : k % 2 = 0) : spansOf b (l.take (k + 1)) = spansOf b (l.take k) := by
  rw [List.take_succ_eq_append_getElem h]
  exact spansOf_odd b _ _ (by rw [List.length_take]; omega)
theorem spansOf_next {b : Int} {l : List Int} {k : Nat} (h : k < l.length) (hk : k % 2 = 1) : spansOf b (l.take (k + 1)) = spansOf b (l.take k) ++ [(lastAt b l k, (l[k] - b) % 16777216)] := by
  obtain ⟨m, rfl⟩ : ∃ m, k = 2 * m + 1 := ⟨k / 2, by omega⟩
  have h1 := spansOf_take b (l := l) (k := m) h
  rw [show 2 * m + 1 + 1 = 2 * (m + 1) by omega, h1, spansOf_even (k := 2 * m) (by omega) (by omega), lastAt_next b l (2 * m) (by omega)]

/-- What the document's Set answers. -/
def RefSetOut (w : World) (b t : Int) (l : List Int) (e : Ending) (w' : World) : Prop :=
  (if l.length % 2 = 0 ∧ (t - b) % 16777216 ≤ 8388608 ∧ riseB b ((t - b) % 16777216) (-1) l = true then ∃ u, e = .returned (.tuple #[u, .bool true]) ∧ IntRow w' u (nums (spansOf b l)) ∧ ∀ x, x ∈ spansOf b l → 0 ≤ x.1 ∧ x.1 < x.2 ∧ x.2 ≤ 4096
   else e = .returned (.tuple #[.slice none 0 0, .bool false])) ∧ Below w.heap.size w w'
theorem refSet_no {w w' : World} {b t : Int} {l : List Int} {e : Ending} (h : ¬ (l.length % 2 = 0 ∧ (t - b) % 16777216 ≤ 8388608 ∧ riseB b ((t - b) % 16777216) (-1) l = true)) (he : e = .returned (.tuple #[.slice none 0 0, .bool false])) (hb : Below w.heap.size w w') : RefSetOut w b t l e w' := ⟨by rw [if_neg h]; exact he, hb⟩
theorem refSet_yes {w w' : World} {b t : Int} {l : List Int} {e : Ending} (h : l.length % 2 = 0 ∧ (t - b) % 16777216 ≤ 8388608 ∧ riseB b ((t - b) % 16777216) (-1) l = true) {u : Value} (he : e = .returned (.tuple #[u, .bool true])) (hu : IntRow w' u (nums (spansOf b l))) (hx : ∀ x, x ∈ spansOf b l → 0 ≤ x.1 ∧ x.1 < x.2 ∧ x.2 ≤ 4096) (hb : Below w.heap.size w w') : RefSetOut w b t l e w' := ⟨by rw [if_pos h]; exact ⟨u, he, hu, hx⟩, hb⟩

theorem spansOf_near {b f : Int} : ∀ {l : List Int} (last : Int), riseB b f last l = true → f ≤ 8388608 → (∀ x, x ∈ l → (x - b) % 16777216 ≤ 4096 ∨ 8388608 < (x - b) % 16777216) → ∀ x, x ∈ spansOf b l → 0 ≤ x.1 ∧ x.1 < x.2 ∧ x.2 ≤ 4096
  | [], _, _, _, _, x, hx => by simp [spansOf] at hx
  | [a], _, _, _, _, x, hx => by simp [spansOf] at hx
  | p :: q :: r, last, h, hf, hn, x, hx => by
    simp only [riseB, Bool.and_eq_true, decide_eq_true_eq] at h
    simp only [spansOf, List.mem_cons] at hx
    have hq := hn q (by simp)
    rcases hx with rfl | hx
    · simp only; omega
    · exact spansOf_near _ h.2.2.2.2 hf (fun y hy => hn y (by simp [hy])) x hx

set_option maxHeartbeats 8000000 in
set_option maxRecDepth 100000 in
theorem ref_set (b t : Int) (l : List Int) (v : Value) (w : World) (h : IntRow w v l) (h1 : 0 ≤ b ∧ b < 16777216) (h2 : 0 ≤ t ∧ t < 16777216) (hl : ∀ x, x ∈ l → 0 ≤ x ∧ x < 16777216) (hn : l.length ≤ 10000)
    (hnr : ∀ x, x ∈ l → (x - b) % 16777216 ≤ 4096 ∨ 8388608 < (x - b) % 16777216) :
    Calls Try.prog 33 #[.int .i64 b, .int .i64 t, v] w (RefSetOut w b t l) := by
  obtain ⟨A, cap, rfl⟩ := h.form
  have HR := Lib.hid h
  have HL := Lib.hid hl
  have HNR := Lib.hid hnr
  have HTO := Lib.hid (fun W => ref_to b t W (by omega) (by omega) (by omega) (by omega))
  have hd : 0 ≤ (t - b) % 16777216 ∧ (t - b) % 16777216 < 16777216 := by omega
  generalize hPO : RefSetOut w b t l = PO
  have HPO := Lib.hid hPO
  obtain ⟨f, hf⟩ : ∃ f, f = (t - b) % 16777216 := ⟨_, rfl⟩
  have HF := Lib.hid hf
  rw [← hf] at HTO hd
  obtain ⟨i0, hi, hz0, hz1, hz2⟩ := info_parts infoInt0
  have Hi := Lib.hid hi
  have Hz0 := Lib.hid hz0
  have Hz1 := Lib.hid hz1
  have Hz2 := Lib.hid hz2
  clear h hl hnr hPO hf hi hz0 hz1 hz2
  have HBR := Lib.hid (Below.refl w.heap.size w)
  by_cases hm : l.length % 2 = 0
  · have hm2 : (l.length : Int).tmod 2 = 0 := by rw [Int.tmod_eq_emod_of_nonneg (by omega)]; omega
    have HM := Lib.hid hm
    clear hm
    by_cases hfar : f ≤ 8388608
    · have e1 : decide (8388608 < f) = false := by simp; omega
      have HO0 : Hid ((w.alloc (.cells #[] 3)).ownsRow w.heap.size 3 1 (.slice (some ⟨w.heap.size, 0, none⟩) 0 0) 0 []) := World.ownsRow_made w #[] 0 (Nat.le_refl _) (by decide) rfl
      have HB0 := Lib.hid ((Below.refl _ w).alloc (Nat.le_refl _) (.cells #[] 3))
      go_enter Try.func33, Try.ntmps33
      go_wp2_with (go_at_call 23; refine (HTO.out _).mono ?_; rintro e w' ⟨rfl, rfl⟩)
      go_loopw [9, 10, 29] (fun a la i wr => ∃ (k : Nat) (v : Value) (out : List Int) (z : Int), k ≤ l.length ∧ v = a ∧ la = .int .i64 z ∧ i = .int .i64 k ∧ (-1 ≤ z ∧ z ≤ 4096) ∧ (out.length : Int) ≤ z + 1 ∧ Hid (z = lastAt b l k ∧ out = nums (spansOf b (l.take k)) ∧ riseB b f (-1) l = riseB b f (lastAt b l k) (l.drop k)) ∧ Hid (wr.ownsRow w.heap.size 3 1 v out.length (out.map (Value.int .i64))) ∧ Hid (Below w.heap.size w wr)) (fun _ _ i _ => l.length - (intOf i).toNat)
      case atStart => exact ⟨0, _, [], -1, by omega, rfl, rfl, rfl, by omega, by simp, ⟨rfl, by simp [spansOf, nums], rfl⟩, HO0, HB0⟩
      case round =>
        obtain ⟨k, v, out, z, hk, rfl, rfl, rfl, hz, hol, HI, HO, HW⟩ := hrel
        clear HO0 HB0
        by_cases hlt : k < l.length
        · have ex := List.getElem?_eq_getElem hlt
          obtain ⟨g, off, rfl, hbl, c0⟩ := (HR.out.below HW.out).get ex
          have hx := HL.out _ (List.getElem_mem hlt)
          have hxn := HNR.out _ (List.getElem_mem hlt)
          have HN := Lib.hid (lastAt_next b l k hlt)
          have HD := Lib.hid (rise_drop b f l k hlt)
          have HEV := Lib.hid (spansOf_even (b := b) hlt)
          have HOD := Lib.hid (spansOf_next (b := b) hlt)
          clear ex
          generalize l[k] = x at *
          have HC := Lib.hid (fun W => ref_to b x W (by omega) (by omega) (by omega) (by omega))
          have hd0 : 0 ≤ (x - b) % 16777216 ∧ (x - b) % 16777216 < 16777216 := by omega
          generalize (x - b) % 16777216 = d at *
          by_cases hc1 : z < d
          · have e1 : decide (d ≤ z) = false := by simp; omega
            by_cases hc2 : d ≤ f
            · have e2 : decide (f < d) = false := by simp; omega
              have hd4 : d ≤ 4096 := by omega
              have HE2 : Hid (riseB b f (-1) l = riseB b f (lastAt b l (k + 1)) (l.drop (k + 1))) := by
                show _ = _
                rw [HI.out.2.2, HD.out, ← HI.out.1, decide_eq_true hc1, decide_eq_true hc2]
                rfl
              by_cases hpar : k % 2 = 1
              · have hp2 : (k : Int).tmod 2 = 1 := by rw [Int.tmod_eq_emod_of_nonneg (by omega)]; omega
                have HPA := Lib.hid hpar
                clear hpar
                go_wp2_with (go_at_call 23; refine (HC.out _).mono ?_; rintro e w' ⟨rfl, rfl⟩)
                have HRG : Hid (nums (spansOf b (l.take (k + 1))) = out ++ range z d) := by
                  show _ = _
                  rw [HOD.out HPA.out, nums_append, ← HI.out.2.1, ← HI.out.1]
                  simp [nums]
                go_loopw [9, 14] (fun a n w2 => ∃ (j : Nat) (v2 : Value), v2 = a ∧ n = .int .i64 (z + j) ∧ z + j ≤ d ∧ Hid (w2.ownsRow w.heap.size 3 1 v2 (out.length + j) ((out ++ range z (z + j)).map (Value.int .i64))) ∧ Hid (Below w.heap.size w w2)) (fun _ n _ => (d - intOf n).toNat)
                case atStart => exact ⟨0, _, rfl, by simp, by omega, (by show World.ownsRow _ _ _ _ _ _ _; rw [show z + ((0 : Nat) : Int) = z by omega, range_empty (Int.le_refl z), List.append_nil]; exact HO.out), HW⟩
                case round =>
                  obtain ⟨j, v2, rfl, rfl, hj, HO2, HW2⟩ := hrel
                  by_cases hjd : z + (j : Int) < d
                  · have HS : Hid (range z (z + ((j + 1 : Nat) : Int)) = range z (z + j) ++ [z + (j : Int)]) := by show _ = _; rw [show z + ((j + 1 : Nat) : Int) = z + (j : Int) + 1 by omega]; exact range_snoc (by omega)
                    have e3 : decide (z + (j : Int) < d) = true := by simp; omega
                    obtain ⟨y, hy⟩ : ∃ y, y = z + (j : Int) := ⟨_, rfl⟩
                    have HY := Lib.hid hy
                    go_wp2_with (at_builtin; refine wpList_append_src _ rfl (.tmp 56) (.tmp 58) 45 rfl w.heap.size 3 i0 (.int .i64 0) 1 8 Try.underlying45 Hi.out Hz0.out Hz1.out Hz2.out rfl (by decide) v2 (out.length + j) ((out ++ range z (z + j)).map (Value.int .i64)) rfl (World.ownsRow.alloc HO2.out _) (some ⟨_, 0, none⟩) 1 1 [.int .i64 (z + (j : Int))] rfl rfl (fun h => by cases h) (one_src (one_new _ _ _)) (fun u hu => by simp at hu; subst hu; rfl) (by unfold maxLen; omega) (by omega) (by have := HW2.out.size; rw [World.size_alloc]; omega) ?_; intro v5 w6 hown4 hg4 _; have HO5 := Lib.hid hown4; have HC5 := Lib.hid ((HW2.out.alloc HW2.out.size _).grown hg4 (by rw [World.size_alloc]; have := HW2.out.size; omega) (fun j hj => (HO2.out.lt j hj).1)); clear hown4 hg4)
                    go_roundw
                    case rel => exact ⟨j + 1, v5, rfl, (by rw [show z + ((j + 1 : Nat) : Int) = z + (j : Int) + 1 by omega]), by omega, (by show World.ownsRow _ _ _ _ _ _ _; rw [HS.out, ← List.append_assoc, List.map_append]; exact HO5.out), HC5⟩
                    case measure => simp [intOf]; omega
                  · have hje : z + (j : Int) = d := by omega
                    have e3 : decide (z + (j : Int) < d) = false := by simp; omega
                    have HO6 : Hid (wr.ownsRow w.heap.size 3 1 v2 (out ++ range z d).length ((out ++ range z d).map (Value.int .i64))) := by
                      have h := HO2.out
                      rw [hje] at h
                      rw [List.length_append, length_range, show (d - z).toNat = j by omega]
                      exact h
                    have hlen : ((out ++ range z d).length : Int) ≤ d + 1 := by rw [List.length_append, length_range]; omega
                    clear hje
                    go_wp2_with fail
                    go_roundw
                    case rel => exact ⟨k + 1, v2, out ++ range z d, d, by omega, rfl, rfl, by go_num, by omega, hlen, ⟨by rw [HN.out], by rw [HRG.out], HE2.out⟩, HO6, HW2⟩
                    case measure => simp [intOf]; omega
              · have hp2 : (k : Int).tmod 2 = 0 := by rw [Int.tmod_eq_emod_of_nonneg (by omega)]; omega
                have HPA : Hid (k % 2 = 0) := by show _ = _; omega
                clear hpar
                go_wp2_with (go_at_call 23; refine (HC.out _).mono ?_; rintro e w' ⟨rfl, rfl⟩)
                go_loopw [9, 14] (fun a n w2 => v = a ∧ n = .int .i64 z ∧ w2 = wr) (fun _ n _ => (d - intOf n).toNat)
                case atStart => exact ⟨rfl, rfl, rfl⟩
                case round =>
                  obtain ⟨rfl, rfl, rfl⟩ := hrel
                  go_wp2_with fail
                  go_roundw
                  case rel => exact ⟨k + 1, _, out, d, by omega, rfl, rfl, by go_num, by omega, by omega, ⟨by rw [HN.out], by rw [HEV.out HPA.out]; exact HI.out.2.1, HE2.out⟩, HO, HW⟩
                  case measure => simp [intOf]; omega
            · have e2 : decide (f < d) = true := by simp; omega
              have HE2 : Hid (riseB b f (-1) l = false) := by
                show _ = _
                rw [HI.out.2.2, HD.out, ← HI.out.1, decide_eq_true hc1, decide_eq_false hc2]
                rfl
              go_wp2_with (go_at_call 23; refine (HC.out _).mono ?_; rintro e w' ⟨rfl, rfl⟩)
              rw [← HPO.out]
              exact refSet_no (fun h => by have := h.2.2; rw [← HF.out, HE2.out] at this; cases this) rfl HW.out
          · have e1 : decide (d ≤ z) = true := by simp; omega
            have HE2 : Hid (riseB b f (-1) l = false) := by
              show _ = _
              rw [HI.out.2.2, HD.out, ← HI.out.1, decide_eq_false hc1]
              rfl
            go_wp2_with (go_at_call 23; refine (HC.out _).mono ?_; rintro e w' ⟨rfl, rfl⟩)
            rw [← HPO.out]
            exact refSet_no (fun h => by have := h.2.2; rw [← HF.out, HE2.out] at this; cases this) rfl HW.out
        · have hks : k = l.length := by omega
          have HE2 : Hid (riseB b f (-1) l = true) := by
            show _ = _
            rw [HI.out.2.2, hks, List.drop_length]
            rfl
          have HO2 : Hid (out = nums (spansOf b l)) := by have h := HI.out.2.1; rw [hks, List.take_of_length_le (Nat.le_refl _)] at h; exact h
          have HIO := Lib.hid (intRow_own HO.out (by omega))
          rw [HO2.out] at HIO
          go_wp2_with fail
          rw [← HPO.out]
          exact refSet_yes ⟨HM.out, by rw [← HF.out]; exact hfar, by rw [← HF.out]; exact HE2.out⟩ rfl HIO.out (spansOf_near _ HE2.out hfar HNR.out) HW.out
    · have e1 : decide (8388608 < f) = true := by simp; omega
      go_enter Try.func33, Try.ntmps33
      go_wp2_with (go_at_call 23; refine (HTO.out _).mono ?_; rintro e w' ⟨rfl, rfl⟩)
      rw [← HPO.out]
      exact refSet_no (fun h => by have := h.2.1; rw [← HF.out] at this; omega) rfl HBR.out
  · have hm2 : (l.length : Int).tmod 2 = 1 := by rw [Int.tmod_eq_emod_of_nonneg (by omega)]; omega
    have HM := Lib.hid hm
    clear hm
    go_enter Try.func33, Try.ntmps33
    go_wp2_with (go_at_call 23; refine (HTO.out _).mono ?_; rintro e w' ⟨rfl, rfl⟩)
    rw [← HPO.out]
    exact refSet_no (fun h => HM.out h.1) rfl HBR.out
end Go.Proofs.Ytogbifggaomfjaa
