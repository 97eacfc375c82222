/- The contracts of package span's makers for spans within 2^24. Conditions: the rows are not long. -/
import Derived.Test.YtgfdgcpbmjhmmaaSpanOf
namespace Go.Proofs.Ytgfdgcpbmjhmmaa
open Go.RowKit Sp Go.Sort
set_option linter.unusedVariables false
set_option linter.unusedSimpArgs false

/-- Both ends are within 2^24. -/
def Mid (x : Span) : Prop := -16777216 ≤ x.1 ∧ x.1 ≤ 16777216 ∧ -16777216 ≤ x.2 ∧ x.2 ≤ 16777216

theorem nearM (x : Span) (w : World) (h : Mid x) :
    Calls Try.prog 36 #[.agg #[.int .i64 x.1, .int .i64 x.2]] w fun e w' => e = .returned (.agg #[.int .i64 x.1, .int .i64 x.2]) ∧ Below w.heap.size w w' := by
  obtain ⟨h1, h2, h3, h4⟩ := h
  generalize x.1 = a at *
  generalize x.2 = b at *
  have E1 := Lib.hid (show min (max a (-1099511627776)) 1099511627776 = a by omega)
  have E2 := Lib.hid (show min (max b (-1099511627776)) 1099511627777 = b by omega)
  go_enter Try.func36, Try.ntmps36
  go_wp2
  rw [E1.out, E2.out]
  exact bodyPost_ret (v := .agg #[.int .i64 a, .int .i64 b]) (by simp [results, Try.results36, go_sem]) rfl ⟨rfl, ((Below.refl _ _).alloc (Nat.le_refl _) _).alloc (by simp) _⟩

set_option maxHeartbeats 1000000 in
set_option maxRecDepth 100000 in
theorem joinedM (l : List Span) (v : Value) (w : World) (hv : SpRow w v l) (hl : l.length ≤ 50000) (hb : ∀ x, x ∈ l → Mid x) :
    Calls Try.prog 40 #[v] w fun e w' => ∃ u, e = .returned u ∧ SpRow w' u (l.foldl joinStep []) ∧ Below w.heap.size w w' ∧ ∀ g, u.ownBlock = some g → w.heap.size ≤ g := by
  obtain ⟨A, cap, rfl, h1, h2, h3, hc⟩ := hv
  unfold maxLen at h2
  obtain ⟨i0, hi, hz0, hz1, hz2⟩ := info_parts infoSpan
  have Hi := Lib.hid hi
  have Hz0 := Lib.hid hz0
  have Hz1 := Lib.hid hz1
  have Hz2 := Lib.hid hz2
  have HC := Lib.hid hc
  have HB := Lib.hid hb
  clear hi hz0 hz1 hz2 hc hb
  go_enter Try.func40, Try.ntmps40
  go_wp2_with fail
  go_loopw [3, 9] (fun u i wr => ∃ (k : Nat) (acc : List Span), k ≤ l.length ∧ i = .int .i64 k ∧ Hid (acc = (l.take k).foldl joinStep []) ∧ acc.length ≤ k ∧ (∀ x, x ∈ acc → Mid x) ∧ Hid (acc = [] → u = .slice none 0 0) ∧ Hid (wr.ownsRow w.heap.size 59 2 u acc.length (encs acc)) ∧ Hid (Below w.heap.size w wr)) (fun _ i _ => l.length - (intOf i).toNat)
  case atStart => exact ⟨0, [], by omega, rfl, rfl, by simp, by simp, fun _ => rfl, (World.ownsRow_nil w _ _ _), Below.refl _ _⟩
  case round =>
    obtain ⟨k, acc, hk, rfl, HA, hacc, hsm, HE, HO, HW⟩ := hrel
    by_cases hlt : k < l.length
    · obtain ⟨b, off, rfl, hbl, hcc⟩ := HC.out.resolve_left (fun e => by rw [e] at hlt; simp at hlt)
      have ex := List.getElem?_eq_getElem hlt
      have hx := HB.out _ (List.getElem_mem hlt)
      obtain ⟨c0, c1⟩ := hcc k _ ex
      have Hstep : Hid (joinStep acc (l[k]) = (l.take (k + 1)).foldl joinStep []) := by
        show _ = _
        rw [List.take_succ_eq_append_getElem hlt, List.foldl_append, ← HA.out]; rfl
      generalize l[k] = x at *
      have HX := Lib.hid ex
      clear ex hcc
      have hc0 : wr.cell? ⟨b, off + k * 2, none⟩ = some (.int .i64 x.1) := by rw [HW.out.cell (p := ⟨b, off + k * 2, none⟩) hbl]; exact c0
      have hc1 : wr.cell? ⟨b, off + k * 2 + 1, none⟩ = some (.int .i64 x.2) := by rw [HW.out.cell (p := ⟨b, off + k * 2 + 1, none⟩) hbl]; exact c1
      clear c0 c1
      have HSX := Lib.hid hx
      have HSM := Lib.hid hsm
      obtain ⟨a, hae⟩ : ∃ a, a = x.1 := ⟨_, rfl⟩
      obtain ⟨d, hde⟩ : ∃ d, d = x.2 := ⟨_, rfl⟩
      rw [← hae] at hc0
      rw [← hde] at hc1
      have hxa := hx
      unfold Mid at hxa
      rw [← hae, ← hde] at hxa
      obtain ⟨ha1, ha2, hd1, hd2⟩ := hxa
      have HAE := Lib.hid hae
      have HDE := Lib.hid hde
      clear hx hsm hae hde
      by_cases hnew : acc = [] ∨ ∃ init z, acc = init ++ [z] ∧ z.2 < x.1
      · have HJ := Lib.hid (joinStep_new acc x hnew)
        rcases hnew with he | ⟨init, z, he, hz⟩
        · subst he
          obtain rfl := HE.out rfl
          obtain ⟨XS, hXS⟩ : ∃ XS, XS = encs [] := ⟨_, rfl⟩
          have HO : Hid (wr.ownsRow w.heap.size 59 2 (.slice none 0 0) 0 XS) := by rw [hXS]; exact HO.out
          have HXS := Lib.hid hXS
          clear hXS
          go_wp2_with fail
          have hbx0 : (wr.alloc (.cells #[.int .i64 a, .int .i64 d] 59)).cell? ⟨wr.heap.size, 0, none⟩ = some (.int .i64 a) := by have h := cells_two_new wr (.int .i64 a) (.int .i64 d) 59 0 _ rfl; rwa [Addr.add_lit, Nat.zero_add] at h
          have hbx1 : (wr.alloc (.cells #[.int .i64 a, .int .i64 d] 59)).cell? ⟨wr.heap.size, 1, none⟩ = some (.int .i64 d) := by have h := cells_two_new wr (.int .i64 a) (.int .i64 d) 59 1 _ rfl; rwa [Addr.add_lit, Nat.zero_add] at h
          have HOW := Lib.hid (HO.out.alloc (.cells #[.int .i64 a, .int .i64 d] 59))
          have HWW := Lib.hid (HW.out.alloc HW.out.size (.cells #[.int .i64 a, .int .i64 d] 59))
          have hsz : wr.heap.size < (wr.alloc (.cells #[.int .i64 a, .int .i64 d] 59)).heap.size := by simp
          clear hc0 hc1
          generalize wr.alloc (.cells #[.int .i64 a, .int .i64 d] 59) = W at *
          generalize wr.heap.size = bx at *
          go_quiet (fail)
          have hbx0 : (W.drewN nq).cell? ⟨bx, 0, none⟩ = some (.int .i64 a) := hbx0
          have hbx1 : (W.drewN nq).cell? ⟨bx, 1, none⟩ = some (.int .i64 d) := hbx1
          have HOW : Hid ((W.drewN nq).ownsRow w.heap.size 59 2 (.slice none 0 0) 0 XS) := HOW
          have HWW := Lib.hid (below_drewN' HWW.out nq)
          generalize W.drewN nq = W2 at *
          go_wp2_with (at_builtin; refine wpList_append_own _ rfl (.tmp 28) (.tmp 30) 63 rfl w.heap.size 59 i0 (.agg #[.int .i64 0, .int .i64 0]) 2 16 Try.underlying63 Hi.out Hz0.out Hz1.out Hz2.out rfl (by decide) (.slice none 0 0) 0 XS (by rfl) (HOW.out.alloc _) ⟨W2.heap.size, 0, none⟩ 1 1 [.int .i64 a, .int .i64 d] rfl rfl (cells_two_new _ _ _ _) (fun u hu => by simp at hu; rcases hu with rfl | rfl <;> rfl) (by unfold maxLen; omega) (by omega) (by have := HWW.out.size; simp; omega) ?_; intro v' w4 hown4 hg4 _; have HO4 := Lib.hid hown4; have HG4 := Lib.hid hg4; clear hown4 hg4)
          have HN4 : Hid (w4.ownsRow w.heap.size 59 2 v' (([] : List Span) ++ [x]).length (encs (([] : List Span) ++ [x]))) := by
            have h := HO4.out
            rw [HAE.out, HDE.out, HXS.out] at h
            rw [List.length_append, encs_append]
            exact h
          have HB4 := Lib.hid ((HWW.out.alloc HWW.out.size _).grown HG4.out (by have := HWW.out.size; simp; omega) (fun j hj => by simp [Value.ownBlock] at hj))
          go_roundw
          case rel => exact ⟨k + 1, ([] : List Span) ++ [x], by omega, by go_num, by show _ = _; rw [← Hstep.out, HJ.out], by simp <;> omega, (fun y hy => by simp at hy; subst hy; exact HSX.out), fun h => (by simp at h), HN4, HB4⟩
          case measure => simp [intOf]; omega
        · subst he
          obtain ⟨g, gc, hu, hg1, hg2, hg3, hg4⟩ := own_form HO.out (by simp)
          have hNN : (init ++ [z]).length = init.length + 1 := by simp
          have ho := HO.out
          have hget := (encs_get (init ++ [z]) init.length z (by simp)).2
          rw [hNN] at hu hg3 ho hacc
          subst hu
          generalize hXS : encs (init ++ [z]) = XS at *
          generalize hni : init.length = n at *
          rw [← HAE.out] at hz
          generalize hzt : z.2 = zt at *
          have HZT := Lib.hid hzt
          have HXS := Lib.hid hXS.symm
          have HNN := Lib.hid hNN.symm
          have HNI := Lib.hid hni
          have HXZ := Lib.hid hget
          have HO := Lib.hid ho
          have i5 : (0 : Int) ≤ (n : Int) := by omega
          have i6 : (n : Int) < (n : Int) + 1 := by omega
          have i8 : decide ((n : Int) < 0) = false := by simp
          clear hzt hXS hNN hget ho hni
          unfold maxLen at hg4
          go_wp2_with fail
          have hbx0 : (wr.alloc (.cells #[.int .i64 a, .int .i64 d] 59)).cell? ⟨wr.heap.size, 0, none⟩ = some (.int .i64 a) := by have h := cells_two_new wr (.int .i64 a) (.int .i64 d) 59 0 _ rfl; rwa [Addr.add_lit, Nat.zero_add] at h
          have hbx1 : (wr.alloc (.cells #[.int .i64 a, .int .i64 d] 59)).cell? ⟨wr.heap.size, 1, none⟩ = some (.int .i64 d) := by have h := cells_two_new wr (.int .i64 a) (.int .i64 d) 59 1 _ rfl; rwa [Addr.add_lit, Nat.zero_add] at h
          have HOW := Lib.hid (HO.out.alloc (.cells #[.int .i64 a, .int .i64 d] 59))
          have HWW := Lib.hid (HW.out.alloc HW.out.size (.cells #[.int .i64 a, .int .i64 d] 59))
          have hsz : wr.heap.size < (wr.alloc (.cells #[.int .i64 a, .int .i64 d] 59)).heap.size := by simp
          clear hc0 hc1
          generalize wr.alloc (.cells #[.int .i64 a, .int .i64 d] 59) = W at *
          generalize wr.heap.size = bx at *
          have hcz : W.cell? ⟨g, n * 2 + 1, none⟩ = some (.int .i64 zt) := by rw [HOW.out.cellAt _ (by omega)]; exact HXZ.out
          have hdz : decide (zt < a) = true := by simp; exact hz
          go_quiet (fail)
          have hbx0 : (W.drewN nq).cell? ⟨bx, 0, none⟩ = some (.int .i64 a) := hbx0
          have hbx1 : (W.drewN nq).cell? ⟨bx, 1, none⟩ = some (.int .i64 d) := hbx1
          have HOW : Hid ((W.drewN nq).ownsRow w.heap.size 59 2 (.slice (some ⟨g, 0, none⟩) (n + 1) gc) (n + 1) XS) := HOW
          have HWW := Lib.hid (below_drewN' HWW.out nq)
          generalize W.drewN nq = W2 at *
          go_wp2_with (at_builtin; refine wpList_append_own _ rfl (.tmp 28) (.tmp 30) 63 rfl w.heap.size 59 i0 (.agg #[.int .i64 0, .int .i64 0]) 2 16 Try.underlying63 Hi.out Hz0.out Hz1.out Hz2.out rfl (by decide) (.slice (some ⟨g, 0, none⟩) (n + 1) gc) (n + 1) XS (by rfl) (HOW.out.alloc _) ⟨W2.heap.size, 0, none⟩ 1 1 [.int .i64 a, .int .i64 d] rfl rfl (cells_two_new _ _ _ _) (fun u hu => by simp at hu; rcases hu with rfl | rfl <;> rfl) (by unfold maxLen; omega) (by omega) (by have := HWW.out.size; simp; omega) ?_; intro v' w4 hown4 hg4 _; have HO4 := Lib.hid hown4; have HG4 := Lib.hid hg4; clear hown4 hg4)
          have HN4 : Hid (w4.ownsRow w.heap.size 59 2 v' ((init ++ [z]) ++ [x]).length (encs ((init ++ [z]) ++ [x]))) := by
            have h := HO4.out
            rw [HAE.out, HDE.out, HXS.out, HNN.out] at h
            rw [List.length_append, encs_append]
            exact h
          have HB4 := Lib.hid ((HWW.out.alloc HWW.out.size _).grown HG4.out (by have := HWW.out.size; simp; omega) (fun j hj => (by simp [Value.ownBlock] at hj; omega)))
          go_roundw
          case rel => exact ⟨k + 1, (init ++ [z]) ++ [x], by omega, by go_num, by show _ = _; rw [← Hstep.out, HJ.out], by have := HNI.out; simp; omega, (fun y hy => by rcases List.mem_append.1 hy with hy | hy; exact HSM.out y hy; simp at hy; subst hy; exact HSX.out), fun h => (by simp at h), HN4, HB4⟩
          case measure => simp [intOf]; omega
      · have hold : ∃ init z, acc = init ++ [z] ∧ ¬ z.2 < x.1 := by
          rcases List.eq_nil_or_concat acc with rfl | ⟨init, z, rfl⟩
          · exact absurd (.inl rfl) hnew
          · rw [List.concat_eq_append] at hnew ⊢
            exact ⟨init, z, rfl, fun h => hnew (.inr ⟨init, z, rfl, h⟩)⟩
        clear hnew
        obtain ⟨init, z, he, hz⟩ := hold
        subst he
        have HJ := Lib.hid (joinStep_old init z x hz)
        obtain ⟨g, gc, hu, hg1, hg2, hg3, hg4⟩ := own_form HO.out (by simp)
        have hNN : (init ++ [z]).length = init.length + 1 := by simp
        have ho := HO.out
        have hget := (encs_get (init ++ [z]) init.length z (by simp)).2
        have hset : (encs (init ++ [z])).set (init.length * 2 + 1) (.int .i64 (max z.2 x.2)) = encs (init ++ [(z.1, max z.2 x.2)]) := encs_set init z _
        rw [hNN] at hu hg3 ho hacc
        subst hu
        have HZS := Lib.hid (HSM.out z (by simp))
        generalize hXS : encs (init ++ [z]) = XS at *
        generalize hni : init.length = n at *
        rw [← HAE.out] at hz
        rw [← HDE.out] at hset
        generalize hzt : z.2 = zt at *
        have HZT := Lib.hid hzt
        have HXS := Lib.hid hXS.symm
        have HNN := Lib.hid hNN.symm
        have HNI := Lib.hid hni
        have HXZ := Lib.hid hget
        have HO := Lib.hid ho
        have HSET := Lib.hid hset
        have i5 : (0 : Int) ≤ (n : Int) := by omega
        have i6 : (n : Int) < (n : Int) + 1 := by omega
        have i8 : decide ((n : Int) < 0) = false := by simp
        clear hzt hXS hNN hget ho hni hset
        unfold maxLen at hg4
        go_wp2_with fail
        have hbx0 : (wr.alloc (.cells #[.int .i64 a, .int .i64 d] 59)).cell? ⟨wr.heap.size, 0, none⟩ = some (.int .i64 a) := by have h := cells_two_new wr (.int .i64 a) (.int .i64 d) 59 0 _ rfl; rwa [Addr.add_lit, Nat.zero_add] at h
        have hbx1 : (wr.alloc (.cells #[.int .i64 a, .int .i64 d] 59)).cell? ⟨wr.heap.size, 1, none⟩ = some (.int .i64 d) := by have h := cells_two_new wr (.int .i64 a) (.int .i64 d) 59 1 _ rfl; rwa [Addr.add_lit, Nat.zero_add] at h
        have HOW := Lib.hid (HO.out.alloc (.cells #[.int .i64 a, .int .i64 d] 59))
        have HWW := Lib.hid (HW.out.alloc HW.out.size (.cells #[.int .i64 a, .int .i64 d] 59))
        have hsz : wr.heap.size < (wr.alloc (.cells #[.int .i64 a, .int .i64 d] 59)).heap.size := by simp
        clear hc0 hc1
        generalize wr.alloc (.cells #[.int .i64 a, .int .i64 d] 59) = W at *
        generalize wr.heap.size = bx at *
        have hcz : W.cell? ⟨g, n * 2 + 1, none⟩ = some (.int .i64 zt) := by rw [HOW.out.cellAt _ (by omega)]; exact HXZ.out
        have hdz : decide (zt < a) = false := by simp; omega
        go_quiet (fail)
        have hbx1 : (W.drewN nq).cell? ⟨bx, 1, none⟩ = some (.int .i64 d) := hbx1
        have hcz : (W.drewN nq).cell? ⟨g, n * 2 + 1, none⟩ = some (.int .i64 zt) := hcz
        have HOW : Hid ((W.drewN nq).ownsRow w.heap.size 59 2 (.slice (some ⟨g, 0, none⟩) (n + 1) gc) (n + 1) XS) := HOW
        have HWW := Lib.hid (below_drewN' HWW.out nq)
        clear hbx0
        generalize W.drewN nq = W2 at *
        have hfz := HOW.out.frozenAt (n * 2 + 1)
        have hmx : max zt d = max zt d := rfl
        go_wp2_with fail
        go_region
        all_goals
          go_wp2_with fail
          have hst := HOW.out.stored (n * 2 + 1) (.int .i64 (max zt d))
          have hown : (W2.setCell ⟨g, n * 2 + 1, none⟩ (.int .i64 (max zt d))).drew.ownsRow w.heap.size 59 2 (.slice (some ⟨g, 0, none⟩) (n + 1) gc) (init ++ [(z.1, max zt d)]).length (encs (init ++ [(z.1, max zt d)])) := by
            have h := hst.1
            rw [HSET.out] at h
            rw [List.length_append, HNI.out]
            exact h
          have hbel : Below w.heap.size w (W2.setCell ⟨g, n * 2 + 1, none⟩ (.int .i64 (max zt d))).drew := (HWW.out.setCell (p := ⟨g, n * 2 + 1, none⟩) hg1 _).drew
          have HJ2 : Hid (init ++ [(z.1, max zt d)] = (l.take (k + 1)).foldl joinStep []) := by
            show _ = _
            rw [← Hstep.out, HJ.out, HDE.out]
          have hzs := HZS.out
          have hsx := HSX.out
          unfold Mid at hzs hsx
          rw [HZT.out] at hzs
          rw [← HDE.out, ← HAE.out] at hsx
          go_roundw
          case rel => exact ⟨k + 1, init ++ [(z.1, max zt d)], by omega, by go_num, HJ2, by have := HNI.out; simp; omega, fun y hy => by
            rcases List.mem_append.1 hy with hy | hy
            · exact HSM.out y (List.mem_append_left _ hy)
            · simp at hy; subst hy; unfold Mid; simp only; omega, fun h => by simp at h, hown, hbel⟩
          case measure => simp [intOf]; omega
    · go_wp2_with fail
      go_ret
      have hkl : k = l.length := by omega
      subst hkl
      refine ⟨_, rfl, ?_, HW.out, fun g hg => (HO.out.lt g hg).1⟩
      have h := spRow_own HO.out (by omega)
      rw [HA.out, List.take_of_length_le (Nat.le_refl _)] at h
      exact h

/-- Of: a set, of just these numbers. -/
def IsSetM (s : List Span) (l : List Span) : Prop := Canon s ∧ (∀ n, Mem s n ↔ Mem l n) ∧ s.length ≤ l.length ∧ ∀ x, x ∈ s → Mid x

theorem join_smallM : ∀ (r acc : List Span), (∀ x, x ∈ acc → Mid x) → (∀ x, x ∈ r → Mid x) → ∀ x, x ∈ r.foldl joinStep acc → Mid x
  | [], acc, h, _ => h
  | y :: r, acc, h, h1 => by
    refine join_smallM r (joinStep acc y) (fun x hx => ?_) (fun x hx => h1 x (List.mem_cons_of_mem _ hx))
    have hy := h1 y List.mem_cons_self
    rcases List.eq_nil_or_concat acc with rfl | ⟨init, z, rfl⟩
    · rw [joinStep_nil] at hx; simp at hx; subst hx; exact hy
    · rw [List.concat_eq_append] at h hx
      rw [joinStep_snoc] at hx
      have hz := h z (by simp)
      split at hx
      · rcases List.mem_append.1 hx with hx | hx
        · exact h x hx
        · simp at hx; subst hx; exact hy
      · rcases List.mem_append.1 hx with hx | hx
        · exact h x (List.mem_append_left _ hx)
        · simp at hx; subst hx; unfold Mid at hz hy ⊢; simp only; omega
theorem isSet_ofM {l r : List Span} (hr : r.Perm (full l)) (hs : r.Pairwise (fun x y => x.1 ≤ y.1)) (hb : ∀ x, x ∈ l → Mid x) : IsSetM (r.foldl joinStep []) l := by
  have hr2 : ∀ x, x ∈ r → x ∈ l ∧ x.1 < x.2 := fun x hx => by have := List.mem_filter.1 (hr.mem_iff.1 hx); exact ⟨this.1, by simpa using this.2⟩
  obtain ⟨k1, k2, k3⟩ := join_all r [] canon_nil (fun x hx => (hr2 x hx).2) hs (by simp)
  refine ⟨k1, fun n => ?_, ?_, join_smallM r [] (by simp) (fun x hx => hb x (hr2 x hx).1)⟩
  · rw [k2 n, mem_perm hr, mem_full]
    exact ⟨fun h => h.elim (fun h => absurd h (mem_nil n)) id, .inr⟩
  · have := List.length_filter_le (fun x : Span => decide (x.1 < x.2)) l
    have := hr.length_eq
    unfold full at this
    simp at k3
    omega

set_option maxHeartbeats 1000000 in
set_option maxRecDepth 100000 in
theorem ofNewM (l : List Span) (v : Value) (w : World) (hv : SpRow w v l) (hl : l.length ≤ 50000) (hb : ∀ x, x ∈ l → Mid x) :
    Calls Try.prog 33 #[v] w fun e w' => ∃ u s, e = .returned u ∧ SpRow w' u s ∧ IsSetM s l ∧ Below w.heap.size w w' ∧ ∀ g, u.ownBlock = some g → w.heap.size ≤ g := by
  obtain ⟨A, cap, rfl, h1, h2, h3, hc⟩ := hv
  unfold maxLen at h2
  obtain ⟨i0, hi, hz0, hz1, hz2⟩ := info_parts infoSpan
  have Hi := Lib.hid hi
  have Hz0 := Lib.hid hz0
  have Hz1 := Lib.hid hz1
  have Hz2 := Lib.hid hz2
  have HC := Lib.hid hc
  have HB := Lib.hid hb
  clear hi hz0 hz1 hz2 hc hb
  go_enter Try.func33, Try.ntmps33
  go_wp2_with (refine wpList_make_own _ rfl _ _ 52 rfl w.heap.size 59 i0 (.agg #[.int .i64 0, .int .i64 0]) 2 Try.underlying52 Hi.out Hz0.out Hz1.out .i64 .i64 (l.length : Int) l.length rfl rfl rfl (by rw [Hz2.out]; omega) (by unfold maxLen; omega) (Nat.le_refl _) ?_; intro w1 hown1 hg1; have HO1 := Lib.hid hown1; have HG1 := Lib.hid hg1; clear hown1 hg1)
  have HB1 := Lib.hid ((Below.refl w.heap.size w).grown HG1.out (Nat.le_refl _) (fun j hj => by cases hj))
  obtain ⟨g, hg⟩ : ∃ g, g = w.heap.size := ⟨_, rfl⟩
  rw [← hg]
  have hg' : w.heap.size ≤ g := by omega
  have HO1 : Hid (w1.ownsRow w.heap.size 59 2 (.slice (some ⟨g, 0, none⟩) 0 l.length) 0 []) := by rw [hg]; exact HO1.out
  have HGE := Lib.hid hg
  clear hg HG1
  go_wp2_with fail
  go_loopw [3, 11] (fun u i wr => ∃ (k : Nat) (acc : List Span), k ≤ l.length ∧ i = .int .i64 k ∧ Hid (acc = full (l.take k)) ∧ acc.length ≤ k ∧ u = .slice (some ⟨g, 0, none⟩) acc.length l.length ∧ Hid (wr.ownsRow w.heap.size 59 2 (.slice (some ⟨g, 0, none⟩) acc.length l.length) acc.length (encs acc)) ∧ Hid (Below w.heap.size w wr)) (fun _ i _ => l.length - (intOf i).toNat)
  case atStart => exact ⟨0, [], by omega, rfl, rfl, by simp, rfl, HO1, HB1⟩
  case round =>
    obtain ⟨k, acc, hk, rfl, HA, hacc, rfl, HO, HW⟩ := hrel
    by_cases hlt : k < l.length
    · obtain ⟨b, off, rfl, hbl, hcc⟩ := HC.out.resolve_left (fun e => by rw [e] at hlt; simp at hlt)
      have ex := List.getElem?_eq_getElem hlt
      have hx := HB.out _ (List.getElem_mem hlt)
      obtain ⟨c0, c1⟩ := hcc k _ ex
      have HF := Lib.hid (full_snoc l k hlt)
      generalize l[k] = x at *
      have hc0 : wr.cell? ⟨b, off + k * 2, none⟩ = some (.int .i64 x.1) := by rw [HW.out.cell (p := ⟨b, off + k * 2, none⟩) hbl]; exact c0
      have hc1 : wr.cell? ⟨b, off + k * 2 + 1, none⟩ = some (.int .i64 x.2) := by rw [HW.out.cell (p := ⟨b, off + k * 2 + 1, none⟩) hbl]; exact c1
      clear c0 c1 ex hcc
      have HN := Lib.hid (fun W => nearM x W hx)
      have hbx0 : (wr.alloc (.cells #[.int .i64 x.1, .int .i64 x.2] 59)).cell? ⟨wr.heap.size, 0, none⟩ = some (.int .i64 x.1) := by have h := cells_two_new wr (.int .i64 x.1) (.int .i64 x.2) 59 0 _ rfl; rwa [Addr.add_lit, Nat.zero_add] at h
      have hbx1 : (wr.alloc (.cells #[.int .i64 x.1, .int .i64 x.2] 59)).cell? ⟨wr.heap.size, 1, none⟩ = some (.int .i64 x.2) := by have h := cells_two_new wr (.int .i64 x.1) (.int .i64 x.2) 59 1 _ rfl; rwa [Addr.add_lit, Nat.zero_add] at h
      have hsz : (wr.alloc (.cells #[.int .i64 x.1, .int .i64 x.2] 59)).heap.size = wr.heap.size + 1 := by simp
      go_wp2_with fail
      refine (HN.out _).mono ?_
      rintro e w3 ⟨rfl, hb3⟩
      have hb3' := hb3
      have k0 : w3.cell? ⟨wr.heap.size, 0, none⟩ = some (.int .i64 x.1) := by rw [hb3.cell (p := ⟨wr.heap.size, 0, none⟩) (show wr.heap.size < _ by rw [hsz]; omega)]; exact hbx0
      have k1 : w3.cell? ⟨wr.heap.size, 1, none⟩ = some (.int .i64 x.2) := by rw [hb3.cell (p := ⟨wr.heap.size, 1, none⟩) (show wr.heap.size < _ by rw [hsz]; omega)]; exact hbx1
      have HB3 := Lib.hid ((HW.out.alloc HW.out.size (.cells #[.int .i64 x.1, .int .i64 x.2] 59)).trans (hb3.mono (by have := HW.out.size; rw [hsz]; omega)))
      have hfr : ∀ j, (wr.alloc (.cells #[.int .i64 x.1, .int .i64 x.2] 59)).frozen? ⟨wr.heap.size, j, none⟩ = false := fun j => frozen_of_row _ wr.heap.size j _ _ (heap_alloc_new wr _)
      have f0 : w3.frozen? ⟨wr.heap.size, 0, none⟩ = false := by rw [hb3.frozen (p := ⟨wr.heap.size, 0, none⟩) (show wr.heap.size < _ by rw [hsz]; omega)]; exact hfr 0
      have f1 : w3.frozen? ⟨wr.heap.size, 1, none⟩ = false := by rw [hb3.frozen (p := ⟨wr.heap.size, 1, none⟩) (show wr.heap.size < _ by rw [hsz]; omega)]; exact hfr 1
      have hgl := (HO.out.lt g rfl).2
      have hne : (Value.slice (some ⟨g, 0, none⟩) acc.length l.length).ownBlock ≠ some wr.heap.size := by simp [Value.ownBlock]; omega
      have HO3 := Lib.hid ((HO.out.alloc (.cells #[.int .i64 x.1, .int .i64 x.2] 59)).kept (row := none) ⟨hb3.os, hb3.tape, hb3.output, hb3.size, fun k hk _ => hb3.block k hk⟩ (by simp [Value.ownBlock]))
      have hbxB : w.heap.size ≤ wr.heap.size := HW.out.size
      clear hbx0 hbx1 hb3 hb3' hfr
      generalize wr.heap.size = bx at *
      by_cases hxx : x.1 < x.2
      · have hF := HF.out
        rw [if_pos hxx, ← HA.out] at hF
        have HF2 := Lib.hid hF
        clear hF
        have hdx : decide (x.1 < x.2) = true := by simp; exact hxx
        have HX1 := Lib.hid (show encS x = [.int .i64 x.1, .int .i64 x.2] from rfl)
        generalize x.1 = a at *
        generalize x.2 = d at *
        have hown := ownsRow_setCell_other (ownsRow_setCell_other HO3.out (a := ⟨bx, 0, none⟩) hne (.int .i64 a)) (a := ⟨bx, 1, none⟩) hne (.int .i64 d)
        have hbel := (HB3.out.setCell (p := ⟨bx, 0, none⟩) hbxB (.int .i64 a)).setCell (p := ⟨bx, 1, none⟩) hbxB (.int .i64 d)
        have HOW := Lib.hid hown
        have HBW := Lib.hid hbel
        have hsw : ((w3.setCell ⟨bx, 0, none⟩ (.int .i64 a)).setCell ⟨bx, 1, none⟩ (.int .i64 d)).heap.size = w3.heap.size := by simp [World.setCell]
        have HSW := Lib.hid hsw
        clear hown hbel hsw
        go_wp2_with (at_builtin; refine wpList_append_fits _ rfl (.tmp 22) (.tmp 24) 52 rfl w.heap.size 59 i0 2 Try.underlying52 Hi.out Hz1.out g acc.length l.length (encs acc) (by rfl) (HOW.out.alloc _) ⟨w3.heap.size, 0, none⟩ 1 1 [.int .i64 a, .int .i64 d] (by rfl) rfl (cells_two_at _ _ _ _ _ HSW.out) (fun u hu => by simp at hu; rcases hu with rfl | rfl <;> rfl) (by omega) ?_; intro w4 hown4 hg4; have HO4 := Lib.hid hown4; have HG4 := Lib.hid hg4; clear hown4 hg4)
        have HN4 : Hid (w4.ownsRow w.heap.size 59 2 (.slice (some ⟨g, 0, none⟩) (acc ++ [x]).length l.length) (acc ++ [x]).length (encs (acc ++ [x]))) := by
          have h := HO4.out
          rw [← HX1.out] at h
          rw [List.length_append, encs_append, show encs [x] = encS x by simp [encs]]
          exact h
        have HB4 := Lib.hid ((HBW.out.alloc HBW.out.size _).grown HG4.out (by have h1 := HBW.out.size; rw [HSW.out] at h1; rw [World.size_alloc, HSW.out]; omega) (fun j hj => by injection hj with hj; omega))
        go_roundw
        case rel => exact ⟨k + 1, acc ++ [x], by omega, by go_num, HF2.out.symm, by simp; omega, by rw [List.length_append]; rfl, HN4, HB4⟩
        case measure => simp [intOf]; omega
      · have hF := HF.out
        rw [if_neg hxx, ← HA.out] at hF
        have HF2 := Lib.hid hF
        clear hF
        have hdx : decide (x.1 < x.2) = false := by simp; omega
        go_wp2_with fail
        have hown := ownsRow_setCell_other (ownsRow_setCell_other HO3.out (a := ⟨bx, 0, none⟩) hne (.int .i64 x.1)) (a := ⟨bx, 1, none⟩) hne (.int .i64 x.2)
        have hbel := (HB3.out.setCell (p := ⟨bx, 0, none⟩) hbxB (.int .i64 x.1)).setCell (p := ⟨bx, 1, none⟩) hbxB (.int .i64 x.2)
        go_roundw
        case rel => exact ⟨k + 1, acc, by omega, by go_num, HF2.out.symm, by omega, rfl, hown, hbel⟩
        case measure => simp [intOf]; omega
    · have hkl : k = l.length := by omega
      have hA := HA.out
      rw [hkl, List.take_of_length_le (Nat.le_refl _)] at hA
      have HA2 := Lib.hid hA
      clear hkl hA
      have eg : ∀ args w, (callFunc 38 args).run Try.prog w = .ok (.enter 38 args) w := enters_of Try.func38 (by kernel_rfl) rfl
      have hgl := (HO.out.lt g rfl).2
      have hcon := AnyQ.slices_SortFunc Try.laySort 2 Try.isAgg59 Try.sizeOf59 encS (fun _ => rfl) (fun x v hv => by simp [encS] at hv; rcases hv with rfl | rfl <;> rfl) (fun x y : Span => Lib.compareInt x.1 y.1) swoFrom 38 #[] g 0 l.length acc.toArray wr eg (fun _ _ _ _ x y => cmpFrom x y _) (holds_own HO.out) hgl (by simp; omega)
      change Calls Try.prog 37 _ _ _ at hcon
      rw [List.size_toArray] at hcon
      have HCON := Lib.hid hcon
      clear hcon eg
      go_wp2_with fail
      refine HCON.out.mono ?_
      rintro e w' ⟨rfl, d', n, os, hp, hs, rfl⟩
      obtain ⟨p1, p2⟩ := perm_of (d := acc.toArray) (by rw [List.size_toArray]; exact hp)
      have p1 : d'.size = acc.length := by simpa using p1
      have hs2 := sorted_of (d := d') (by rw [p1]; simpa using hs)
      have hh := Go.Proofs.holdsK_sortWorldK_c (enc := encS) (k := 2) (w := wr) (blk := g) (off := 0) acc.toArray d' n os (holds_own HO.out) hgl (by simpa using p1)
      have hbw := below_sortWorld (B := w.heap.size) encS 2 wr g 0 n d' os hg' HW.out.size
      have hbW := HW.out.trans hbw
      have hgl2 : g < (sortWorldK encS 2 wr g 0 n d' os).heap.size := Nat.lt_of_lt_of_le hgl hbw.size
      generalize sortWorldK encS 2 wr g 0 n d' os = W at *
      have hrow := row_holds (cap := l.length) hh hgl2 (by omega) (by unfold maxLen; omega) (by omega)
      rw [p1] at hrow
      have HROW := Lib.hid hrow
      have HBW := Lib.hid hbW
      have HP := Lib.hid p2
      have HS := Lib.hid hs2
      have HL := Lib.hid (show d'.toList.length ≤ 50000 by simp; omega)
      have HSM : Hid (∀ x, x ∈ d'.toList → Mid x) := fun x hx => HB.out x (by
        have h1 := p2.mem_iff.1 hx
        rw [HA2.out] at h1
        have h2 : x ∈ full l := by simpa using h1
        exact (List.mem_filter.1 h2).1)
      clear hp hs p1 p2 hs2 hh hbw hbW hrow
      go_wp2_with fail
      refine (joinedM d'.toList _ W HROW.out HL.out HSM.out).mono ?_
      rintro e w3 ⟨u, rfl, hu, hb3, hnew⟩
      have HNEW : Hid (∀ g, u.ownBlock = some g → w.heap.size ≤ g) := fun g hg => Nat.le_trans HBW.out.size (hnew g hg)
      have HU := Lib.hid hu
      have HB3 := Lib.hid (HBW.out.trans (hb3.mono HBW.out.size))
      clear hu hb3 hnew
      go_wp2_with fail
      go_ret
      exact ⟨_, _, rfl, HU.out, isSet_ofM (by rw [← HA2.out]; simpa using HP.out) HS.out HB.out, HB3.out, HNEW.out⟩

end Go.Proofs.Ytgfdgcpbmjhmmaa
