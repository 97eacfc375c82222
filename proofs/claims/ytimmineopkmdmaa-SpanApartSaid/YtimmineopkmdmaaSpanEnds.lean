/- The document's spans of a rising list, two ends a span. Conditions: the list lies as a row does, its numbers are small, it is not long. -/
import Derived.Test.YtimmineopkmdmaaIntRow
import Derived.Test.YtimmineopkmdmaaAppendSrc
import Derived.Test.YtimmineopkmdmaaSpanMath
import Derived.Deep.OwnRows
import Derived.IntWalk
import Derived.RegionTactic
namespace Go.Proofs.Ytimmineopkmdmaa
open Go.RowKit Sp
set_option linter.unusedVariables false

theorem ends_snoc : ∀ (l out : List Int) (prev : Option Int) (x : Int), ends out prev (l ++ [x]) = endStep (ends out prev l) (l.getLast?.or prev) x
  | [], out, prev, x => by simp [ends]
  | a :: l, out, prev, x => by
    rw [List.cons_append]
    show ends (endStep out prev a) (some a) (l ++ [x]) = endStep (ends (endStep out prev a) (some a) l) _ x
    rw [ends_snoc l, List.getLast?_cons]
    cases l.getLast? <;> rfl
theorem ends_take {l : List Int} {k : Nat} (hk : k < l.length) : ends [] none (l.take (k + 1)) = endStep (ends [] none (l.take k)) (if k = 0 then none else l[k - 1]?) l[k] := by
  rw [List.take_succ_eq_append_getElem hk, ends_snoc]
  congr 1
  rw [Option.or_none]
  split
  · subst k; rfl
  · rw [List.getLast?_take]
    rename_i h0
    rw [if_neg h0, List.getElem?_eq_getElem (by omega)]
    rfl
theorem endStep_len (out : List Int) (prev : Option Int) (x : Int) : 1 ≤ (endStep out prev x).length ∧ (endStep out prev x).length ≤ out.length + 2 := by
  unfold endStep; split <;> simp <;> omega
theorem set_last2 (out : List Int) (x : Int) : ((out.map (Value.int .i64)) ++ [Value.int .i64 x, Value.int .i64 x]).set (out.length + 1) (.int .i64 (x + 1)) = (out ++ [x, x + 1]).map (Value.int .i64) := by
  rw [List.set_append_right _ _ (by simp)]
  simp
theorem set_last1 (out : List Int) (x : Int) (n : Nat) (h : out.length = n + 1) : (out.map (Value.int .i64)).set n (.int .i64 (x + 1)) = (out.dropLast ++ [x + 1]).map (Value.int .i64) := by
  rcases List.eq_nil_or_concat out with rfl | ⟨init, z, rfl⟩
  · simp at h
  · rw [List.concat_eq_append] at h ⊢
    simp at h
    subst h
    rw [List.dropLast_concat, List.map_append, List.set_append_right _ _ (by simp)]
    simp
theorem ownFormS {w : World} {base : Nat} {e : TypeId} {size : Nat} {v : Value} {n : Nat} {xs : List Value} (h : w.ownsRow base e size v n xs) (hn : 0 < n) : ∃ g cap, v = .slice (some ⟨g, 0, none⟩) n cap ∧ base ≤ g ∧ g < w.heap.size ∧ n ≤ cap ∧ cap ≤ maxLen := by
  rcases h.2 with ⟨_, h0⟩ | ⟨g, cap, cur, rfl, hb, hg, hnc, hcm, _⟩
  · omega
  · exact ⟨g, cap, rfl, hb, (Array.getElem?_eq_some_iff.1 hg).1, hnc, hcm⟩
theorem two_src {w : World} {b : Nat} {x y : Value} (h0 : w.cell? ⟨b, 0, none⟩ = some x) (h1 : w.cell? ⟨b, 1, none⟩ = some y) : ∀ ad, some (⟨b, 0, none⟩ : Addr) = some ad → ∀ j u, [x, y][j]? = some u → w.cell? (ad.add j) = some u := by
  intro ad he j u hj
  injection he with he
  subst he
  match j with
  | 0 => simp at hj; subst hj; rw [Addr.add_lit]; exact h0
  | 1 => simp at hj; subst hj; rw [Addr.add_lit]; exact h1
  | j + 2 => simp at hj
theorem two_new (w : World) (x y : Value) (t : TypeId) : (w.alloc (.cells #[x, y] t)).cell? ⟨w.heap.size, 0, none⟩ = some x ∧ (w.alloc (.cells #[x, y] t)).cell? ⟨w.heap.size, 1, none⟩ = some y := by
  constructor
  · rw [cell_of_row _ _ 0 _ _ (0, 0) (heap_alloc_new w _)]; rfl
  · rw [cell_of_row _ _ 1 _ _ (0, 0) (heap_alloc_new w _)]; rfl
theorem infoIntS : (Try.prog.info? 3).map (fun i => (i.zero, i.size, i.bytes)) = some (some (.int .i64 0), 1, 8) := by kernel_rfl

set_option maxHeartbeats 1000000 in
set_option maxRecDepth 100000 in
theorem ref_spans (u : Value) (l : List Int) (w : World) (h : IntRow w u l) (hl : l.length ≤ 100000) (hb : ∀ x, x ∈ l → -1099511627776 ≤ x ∧ x ≤ 1099511627777) :
    Calls Try.prog 33 #[u] w fun e w' => ∃ v, e = .returned v ∧ IntRow w' v (ends [] none l) ∧ Below w.heap.size w w' := by
  obtain ⟨A, ca, rfl, hlx, h1⟩ := h
  have H1 := Lib.hid h1
  have HB := Lib.hid hb
  clear h1 hb
  obtain ⟨i0, hi, hz0, hz1, hz2⟩ := info_parts infoIntS
  have Hi := Lib.hid hi
  have Hz0 := Lib.hid hz0
  have Hz1 := Lib.hid hz1
  have Hz2 := Lib.hid hz2
  clear hi hz0 hz1 hz2
  go_enter Try.func33, Try.ntmps33
  go_wp2_with fail
  have HO0 : Hid ((w.alloc (.cells #[] 3)).ownsRow w.heap.size 3 1 (.slice (some ⟨w.heap.size, 0, none⟩) 0 0) 0 []) := World.ownsRow_made w #[] 0 (Nat.le_refl _) (by decide) rfl
  have HB0 := Lib.hid ((Below.refl _ w).alloc (Nat.le_refl _) (.cells #[] 3))
  go_loopw [3, 9] (fun a i wr => ∃ (k : Nat) (v : Value) (out : List Int), k ≤ l.length ∧ v = a ∧ i = .int .i64 k ∧ out.length ≤ 2 * k ∧ (k = 0 ∨ 1 ≤ out.length) ∧ Hid (out = ends [] none (l.take k)) ∧ Hid (wr.ownsRow w.heap.size 3 1 v out.length (out.map (Value.int .i64))) ∧ Hid (Below w.heap.size w wr)) (fun _ i _ => l.length - (intOf i).toNat)
  case atStart => exact ⟨0, _, [], by omega, rfl, rfl, by simp, .inl rfl, rfl, HO0, HB0⟩
  case round =>
    obtain ⟨k, v, out, hk, rfl, rfl, hol, ho1, HP, HO, HW⟩ := hrel
    clear HO0 HB0
    by_cases hlt : k < l.length
    · obtain ⟨b, off, rfl, hbl, hc1⟩ := (H1.out.resolve_left (fun e => by rw [e] at hlt; simp at hlt))
      have ex := List.getElem?_eq_getElem hlt
      have c1 : wr.cell? ⟨b, off + k, none⟩ = some (.int .i64 l[k]) := by rw [HW.out.cell (p := ⟨b, off + k, none⟩) hbl]; exact hc1 k _ ex
      have hbx := HB.out _ (List.getElem_mem hlt)
      have HT := Lib.hid (ends_take hlt)
      obtain ⟨hol1, hol2⟩ := endStep_len out (if k = 0 then none else l[k - 1]?) l[k]
      have HOL := Lib.hid (show (ends [] none (l.take (k + 1))).length ≤ 2 * (k + 1) ∧ 1 ≤ (ends [] none (l.take (k + 1))).length by rw [HT.out, ← HP.out]; omega)
      clear hol1 hol2
      by_cases hnew : k = 0 ∨ ∃ p, l[k - 1]? = some p ∧ p + 1 ≠ l[k]
      · have HE : Hid (out ++ [l[k], l[k] + 1] = ends [] none (l.take (k + 1))) := by
          show _ = _
          rw [HT.out, ← HP.out]
          unfold endStep
          rw [if_neg]
          rcases hnew with e | ⟨p, hp, hne⟩
          · rw [if_pos e]; simp
          · split
            · simp
            · rw [hp]; intro h; injection h with h; omega
        have HOL2 := Lib.hid (show (out ++ [l[k], l[k] + 1]).length ≤ 2 * (k + 1) by rw [HE.out]; exact HOL.out.1)
        clear HT HOL ex
        have hcp : k = 0 ∨ ∃ p, wr.cell? ⟨b, off + (k - 1), none⟩ = some (.int .i64 p) ∧ p + 1 ≠ l[k] ∧ (-1099511627776 ≤ p ∧ p ≤ 1099511627777) := hnew.imp id fun ⟨p, hp, hne⟩ => ⟨p, by rw [HW.out.cell (p := ⟨b, off + (k - 1), none⟩) hbl]; exact hc1 _ _ hp, hne, HB.out p (List.mem_of_getElem? hp)⟩
        clear hnew hc1
        generalize l[k] = x at *
        have HCP := Lib.hid hcp
        clear hcp
        by_cases hk0 : k = 0
        · have hd0 : ((k : Int) == 0) = true := by rw [beq_iff_eq]; omega
          have HK0 := Lib.hid hk0
          clear HCP hk0
          go_wp2_with (at_builtin; refine wpList_append_src _ rfl (.tmp 26) (.tmp 29) 24 rfl w.heap.size 3 i0 (.int .i64 0) 1 8 Try.underlying24 Hi.out Hz0.out Hz1.out Hz2.out rfl (by decide) v out.length (out.map (Value.int .i64)) rfl (World.ownsRow.alloc HO.out _) (some ⟨_, 0, none⟩) 2 2 [.int .i64 x, .int .i64 x] rfl rfl (fun h => by cases h) (two_src (two_new _ _ _ _).1 (two_new _ _ _ _).2) (fun u hu => by simp at hu; subst hu; rfl) (by unfold maxLen; omega) (by omega) (by have := HW.out.size; rw [World.size_alloc]; omega) ?_; intro v5 w5 hown4 hg4 _; obtain ⟨g, gc, rfl, hg1, hg2, hg3, hg5⟩ := ownFormS hown4 (by omega); have HO5 := Lib.hid hown4; have HW5 := Lib.hid ((HW.out.alloc HW.out.size _).grown hg4 (by rw [World.size_alloc]; have := HW.out.size; omega) (fun j hj => (HO.out.lt j hj).1)); have hfz := hown4.frozenAt (out.length + 1); have hcl : w5.cell? ⟨g, out.length + 1, none⟩ = some (.int .i64 x) := (by rw [hown4.cellAt _ (by omega)]; simp); clear hown4 hg4; unfold maxLen at hg5)
          go_roundw
          case rel => exact ⟨k + 1, _, out ++ [x, x + 1], by omega, rfl, by go_num, HOL2.out, .inr (by simp), HE, by have h := (HO5.out.stored (out.length + 1) (.int .i64 (x + 1))).1; rw [set_last2] at h; simp only [List.length_append, List.length_cons, List.length_nil]; exact h, HW5.out.setCell (p := ⟨g, out.length + 1, none⟩) hg1 _⟩
          case measure => simp [intOf]; omega
        · obtain ⟨p, cp, hpx, hp1, hp2⟩ := HCP.out.resolve_left hk0
          have hd0 : ((k : Int) == 0) = false := by rw [beq_eq_false_iff_ne]; omega
          have hdp : (p + 1 != x) = true := by rw [bne_iff_ne]; exact hpx
          have HPX := Lib.hid hpx
          have i1 : (0 : Int) ≤ (k : Int) - 1 := by omega
          have i2 : (k : Int) - 1 < (l.length : Int) := by omega
          clear hpx HCP
          go_wp2_with (at_builtin; refine wpList_append_src _ rfl (.tmp 26) (.tmp 29) 24 rfl w.heap.size 3 i0 (.int .i64 0) 1 8 Try.underlying24 Hi.out Hz0.out Hz1.out Hz2.out rfl (by decide) v out.length (out.map (Value.int .i64)) rfl (World.ownsRow.alloc HO.out _) (some ⟨_, 0, none⟩) 2 2 [.int .i64 x, .int .i64 x] rfl rfl (fun h => by cases h) (two_src (two_new _ _ _ _).1 (two_new _ _ _ _).2) (fun u hu => by simp at hu; subst hu; rfl) (by unfold maxLen; omega) (by omega) (by have := HW.out.size; rw [World.size_alloc]; omega) ?_; intro v5 w5 hown4 hg4 _; obtain ⟨g, gc, rfl, hg1, hg2, hg3, hg5⟩ := ownFormS hown4 (by omega); have HO5 := Lib.hid hown4; have HW5 := Lib.hid ((HW.out.alloc HW.out.size _).grown hg4 (by rw [World.size_alloc]; have := HW.out.size; omega) (fun j hj => (HO.out.lt j hj).1)); have hfz := hown4.frozenAt (out.length + 1); have hcl : w5.cell? ⟨g, out.length + 1, none⟩ = some (.int .i64 x) := (by rw [hown4.cellAt _ (by omega)]; simp); clear hown4 hg4; unfold maxLen at hg5)
          go_roundw
          case rel => exact ⟨k + 1, _, out ++ [x, x + 1], by omega, rfl, by go_num, HOL2.out, .inr (by simp), HE, by have h := (HO5.out.stored (out.length + 1) (.int .i64 (x + 1))).1; rw [set_last2] at h; simp only [List.length_append, List.length_cons, List.length_nil]; exact h, HW5.out.setCell (p := ⟨g, out.length + 1, none⟩) hg1 _⟩
          case measure => simp [intOf]; omega
      · have hk0 : k ≠ 0 := fun e => hnew (.inl e)
        obtain ⟨p, hp⟩ : ∃ p, l[k - 1]? = some p := ⟨l[k - 1], List.getElem?_eq_getElem (by omega)⟩
        have hpx : p + 1 = l[k] := by
          by_cases h : p + 1 = l[k]
          · exact h
          · exact absurd (.inr ⟨p, hp, h⟩) hnew
        have HE : Hid (out.dropLast ++ [l[k] + 1] = ends [] none (l.take (k + 1))) := by
          show _ = _
          rw [HT.out, ← HP.out]
          unfold endStep
          rw [if_pos]
          rw [if_neg hk0, hp]
          congr 1
          omega
        obtain ⟨n, hn⟩ : ∃ n, out.length = n + 1 := ⟨out.length - 1, by omega⟩
        have HOL2 := Lib.hid (show (out.dropLast ++ [l[k] + 1]).length = n + 1 by simp; omega)
        have hbp := HB.out p (List.mem_of_getElem? hp)
        have cp : wr.cell? ⟨b, off + (k - 1), none⟩ = some (.int .i64 p) := by rw [HW.out.cell (p := ⟨b, off + (k - 1), none⟩) hbl]; exact hc1 _ _ hp
        clear HT HOL ex hnew hc1 hp
        generalize l[k] = x at *
        have hd0 : ((k : Int) == 0) = false := by rw [beq_eq_false_iff_ne]; omega
        have hdp : (p + 1 != x) = false := by rw [bne_eq_false_iff_eq]; exact hpx
        have HPX := Lib.hid hpx
        have i1 : (0 : Int) ≤ (k : Int) - 1 := by omega
        have i2 : (k : Int) - 1 < (l.length : Int) := by omega
        clear hpx
        have ho := HO.out
        rw [hn] at ho
        obtain ⟨g, gc, rfl, hg1, hg2, hg3, hg5⟩ := ownFormS ho (by omega)
        unfold maxLen at hg5
        have HO5 := Lib.hid ho
        have HN := Lib.hid hn
        have hfz := ho.frozenAt n
        obtain ⟨zl, hcl⟩ : ∃ z, wr.cell? ⟨g, n, none⟩ = some z := ⟨(out.map (Value.int .i64))[n]'(by simp; omega), by rw [ho.cellAt _ (by omega)]; exact List.getElem?_eq_getElem (by simp; omega)⟩
        have j1 : (0 : Int) ≤ (n : Int) := by omega
        clear ho
        go_wp2_with fail
        go_roundw
        case rel => exact ⟨k + 1, _, out.dropLast ++ [x + 1], by omega, rfl, by go_num, by rw [HOL2.out]; omega, .inr (by rw [HOL2.out]; omega), HE, by have h := (HO5.out.stored n (.int .i64 (x + 1))).1; rw [set_last1 _ _ _ HN.out] at h; rw [HOL2.out]; exact h, HW.out.setCell (p := ⟨g, n, none⟩) hg1 _⟩
        case measure => simp [intOf]; omega
    · have hks : k = l.length := by omega
      subst hks
      rw [List.take_of_length_le (Nat.le_refl _)] at HP
      go_wp2_with fail
      go_ret
      exact ⟨_, rfl, by rw [← HP.out]; exact intRow_own HO.out (by omega), HW.out⟩
end Go.Proofs.Ytimmineopkmdmaa
