/- gaps.Set. Conditions: the row lies as a row does, its numbers fit their kind, it is not long. -/
import Derived.Test.YtogbifggaomfjaaGapSet1
namespace Go.Proofs.Ytogbifggaomfjaa
open Go.RowKit Sp
set_option linter.unusedVariables false

/-- What Set answers. -/
def SetOut (w : World) (b t : Int) (l : List Int) (e : Ending) (w' : World) : Prop :=
  (if l.length % 2 = 0 ∧ (t - b) % 16777216 ≤ 8388608 ∧ riseB b ((t - b) % 16777216) (-1) l = true then ∃ u, e = .returned (.tuple #[u, .bool true]) ∧ WideAt w' u (spansOf b l)
   else e = .returned (.tuple #[.slice none 0 0, .bool false])) ∧ Below w.heap.size w w'
theorem setOut_no {w w' : World} {b t : Int} {l : List Int} {e : Ending} (h : ¬ (l.length % 2 = 0 ∧ (t - b) % 16777216 ≤ 8388608 ∧ riseB b ((t - b) % 16777216) (-1) l = true)) (he : e = .returned (.tuple #[.slice none 0 0, .bool false])) (hb : Below w.heap.size w w') : SetOut w b t l e w' := ⟨by rw [if_neg h]; exact he, hb⟩
theorem setOut_yes {w w' : World} {b t : Int} {l : List Int} {e : Ending} (h : l.length % 2 = 0 ∧ (t - b) % 16777216 ≤ 8388608 ∧ riseB b ((t - b) % 16777216) (-1) l = true) {u : Value} (he : e = .returned (.tuple #[u, .bool true])) (hu : WideAt w' u (spansOf b l)) (hb : Below w.heap.size w w') : SetOut w b t l e w' := ⟨by rw [if_pos h]; exact ⟨u, he, hu⟩, hb⟩

theorem mids {b : Int} : ∀ {l : List Int} {x : Span}, x ∈ spansOf b l → Mid x
  | [], x, h => by simp [spansOf] at h
  | [a], x, h => by simp [spansOf] at h
  | p :: q :: r, x, h => by
    simp only [spansOf, List.mem_cons] at h
    rcases h with rfl | h
    · unfold Mid; simp only; omega
    · exact mids h

set_option maxHeartbeats 4000000 in
set_option maxRecDepth 100000 in
theorem g_set (b t : Int) (l : List Int) (v : Value) (w : World) (h : NumRow w v l) (h1 : 0 ≤ b) (h2 : b < 4294967296) (h3 : 0 ≤ t) (h4 : t < 4294967296) (hl : ∀ x, x ∈ l → 0 ≤ x ∧ x < 4294967296) (hn : l.length ≤ 10000) :
    Calls Try.prog 19 #[.int .u32 b, .int .u32 t, v] w (SetOut w b t l) := by
  obtain ⟨A, cap, rfl⟩ := h.form
  have HR := Lib.hid h
  have HL := Lib.hid hl
  have HB0 := Lib.hid ((Below.refl _ w).alloc (Nat.le_refl _) (.cells #[.int .u32 b] 24))
  have hcb : (w.alloc (.cells #[.int .u32 b] 24)).cell? ⟨w.heap.size, 0, none⟩ = some (.int .u32 b) := cell_of_one (heap_alloc_new w _)
  have HHB := Lib.hid (heap_alloc_new w (.cells #[.int .u32 b] 24))
  have HTO := Lib.hid (fun W => seq_to b t W h1 h2 h3 h4)
  have hd : 0 ≤ (t - b) % 16777216 ∧ (t - b) % 16777216 < 16777216 := by omega
  have HRI := Lib.hid (fun W (hW : NumRow W (.slice A l.length cap) l) => g_rises b ((t - b) % 16777216) l _ W hW h1 h2 hl hd.1 hd.2)
  have HR1 := Lib.hid (HR.out.below HB0.out)
  generalize hPO : SetOut w b t l = PO
  have HPO := Lib.hid hPO
  have HFAR : Hid (∃ f, f = (t - b) % 16777216) := ⟨_, rfl⟩
  obtain ⟨f, hf⟩ := HFAR.out
  have HF := Lib.hid hf
  rw [← hf] at HTO HRI hd
  have HB1 := Lib.hid (HB0.out.alloc (by simp) (.cells #[.slice none 0 0] 28))
  have HE := Lib.hid (each_set l (.slice A l.length cap) (.pointer (some ⟨w.heap.size + 1, 0, none⟩)) (.pointer (some ⟨w.heap.size, 0, none⟩)) ((w.alloc (.cells #[.int .u32 b] 24)).alloc (.cells #[.slice none 0 0] 28))
    (fun k W => ∃ u, W.heap[w.heap.size + 1]? = some (.cells #[u] 28 (0, 0)) ∧ W.heap[w.heap.size]? = some (.cells #[.int .u32 b] 24 (0, 0)) ∧ W.ownsRow (w.heap.size + 2) 32 2 u (spansOf b (l.take (2 * k))).length (encs (spansOf b (l.take (2 * k)))) ∧ Below w.heap.size w W ∧ w.heap.size + 2 ≤ W.heap.size) hl h.small
    ⟨.slice none 0 0, by have h := heap_alloc_new (w.alloc (.cells #[.int .u32 b] 24)) (.cells #[.slice none 0 0] 28); rwa [World.size_alloc] at h, by rw [((Below.refl _ (w.alloc (.cells #[.int .u32 b] 24))).alloc (Nat.le_refl _) _).block _ (by simp)]; exact HHB.out, World.ownsRow_nil _ _ _ _, HB1.out, by simp⟩
    (fun k W ⟨u, _, _, _, hW, _⟩ => h.below hW) (fun k W n ⟨u, g1, g2, g3, g4, g5⟩ => ⟨u, g1, g2, g3, below_drewN' g4 n, g5⟩)
    (fun k W hk ⟨u, g1, g2, g3, g4, g5⟩ => by
      have hlt := spansOf_length b (l.take (2 * k))
      have hlt2 := List.length_take_le (2 * k) l
      refine (set1 _ _ b w.heap.size (w.heap.size + 2) (w.heap.size + 1) w.heap.size W _ u h1 h2 (hl _ (List.getElem_mem _)).1 (hl _ (List.getElem_mem _)).2 (hl _ (List.getElem_mem _)).1 (hl _ (List.getElem_mem _)).2 (by omega) (by omega) (by omega) (by omega) g5 g1 g2 g3).mono ?_
      rintro e w' ⟨rfl, u', k1, k2, k3, k4⟩
      exact ⟨rfl, u', k1, k2, by rw [spansOf_take b hk]; exact k3, g4.trans k4, Nat.le_trans g5 (by have := k4.size; omega)⟩))
  clear h hl hPO hf HFAR
  by_cases hm : l.length % 2 = 0
  · have hm2 : (l.length : Int).tmod 2 = 0 := by rw [Int.tmod_eq_emod_of_nonneg (by omega)]; omega
    have HM := Lib.hid hm
    clear hm
    by_cases hfar : f ≤ 8388608
    · have e1 : decide (8388608 < f) = false := by simp; omega
      by_cases hr : riseB b f (-1) l = true
      · have HRI2 := Lib.hid (fun W hW => (by have h := HRI.out W hW; rw [hr] at h; exact h : Calls Try.prog 63 #[.int .u32 b, .int .i64 f, .slice A l.length cap] W fun e w' => e = .returned (.bool true) ∧ W = w'))
        have HRT := Lib.hid hr
        clear hr HRI
        go_enter Try.func19, Try.ntmps19
        go_wp2_with (first | (go_at_call 38; refine (HTO.out _).mono ?_; rintro e w' ⟨rfl, rfl⟩) | (go_at_call 63; refine (HRI2.out _ HR1.out).mono ?_; rintro e w' ⟨rfl, rfl⟩))
        refine HE.out.mono ?_
        rintro e w1 ⟨rfl, k, hk1, hk2, u, hs, hb, ho, hB, hsz⟩
        have hkl : 2 * k = l.length := by have := HM.out; omega
        rw [hkl, List.take_of_length_le (Nat.le_refl _)] at ho
        have c0 := cell_of_one hs
        have HB1 := Lib.hid hB
        have hln := spansOf_length b l
        have HOF := Lib.hid (ofNewM (spansOf b l) u w1 (spRow_own ho (by omega)) (by omega) (fun x hx => mids hx))
        clear hs hb ho hB HE
        go_wp2_with fail
        refine HOF.out.mono ?_
        rintro e w2 ⟨u2, s, rfl, hu, hset, hb2, _⟩
        have hcan := rise_canon b f l (-1) HRT.out
        obtain rfl : s = spansOf b l := canon_unique _ _ hset.1 hcan hset.2.1
        have HW2 : Hid (WideAt w2 u2 (spansOf b l)) := ⟨hu, hcan, fun x hx => by have := rise_bd b f l (-1) HRT.out x hx; unfold least behind; omega, by omega⟩
        have HB2 := Lib.hid (HB1.out.trans (hb2.mono HB1.out.size))
        clear hu hset hb2 hcan
        go_wp2_with fail
        rw [← HPO.out]
        exact setOut_yes ⟨HM.out, by rw [← HF.out]; exact hfar, by rw [← HF.out]; exact HRT.out⟩ rfl HW2.out HB2.out
      · have hr' : riseB b f (-1) l = false := by simpa using hr
        have HRI2 := Lib.hid (fun W hW => (by have h := HRI.out W hW; rw [hr'] at h; exact h : Calls Try.prog 63 #[.int .u32 b, .int .i64 f, .slice A l.length cap] W fun e w' => e = .returned (.bool false) ∧ W = w'))
        have HRF := Lib.hid hr
        clear hr hr' HRI
        go_enter Try.func19, Try.ntmps19
        go_wp2_with (first | (go_at_call 38; refine (HTO.out _).mono ?_; rintro e w' ⟨rfl, rfl⟩) | (go_at_call 63; refine (HRI2.out _ HR1.out).mono ?_; rintro e w' ⟨rfl, rfl⟩))
        rw [← HPO.out]
        exact setOut_no (fun h => HRF.out (by rw [HF.out]; exact h.2.2)) rfl HB0.out
    · have e1 : decide (8388608 < f) = true := by simp; omega
      go_enter Try.func19, Try.ntmps19
      go_wp2_with (go_at_call 38; refine (HTO.out _).mono ?_; rintro e w' ⟨rfl, rfl⟩)
      rw [← HPO.out]
      exact setOut_no (fun h => by have := h.2.1; rw [← HF.out] at this; omega) rfl HB0.out
  · have hm2 : (l.length : Int).tmod 2 = 1 := by rw [Int.tmod_eq_emod_of_nonneg (by omega)]; omega
    have HM := Lib.hid hm
    clear hm
    go_enter Try.func19, Try.ntmps19
    go_wp2_with (go_at_call 38; refine (HTO.out _).mono ?_; rintro e w' ⟨rfl, rfl⟩)
    rw [← HPO.out]
    exact setOut_no (fun h => HM.out h.1) rfl HB0.out
end Go.Proofs.Ytogbifggaomfjaa
