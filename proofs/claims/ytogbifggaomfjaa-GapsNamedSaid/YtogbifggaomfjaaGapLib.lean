/- The law's own small functions: numbers as the program's, same; the document's pairs. Conditions: the rows lie as rows do. -/
import Derived.Test.YtogbifggaomfjaaGapList
namespace Go.Proofs.Ytogbifggaomfjaa
open Go.RowKit Sp
set_option linter.unusedVariables false

theorem num_same (u v : Value) (xs : List Int) (w : World) (h1 : NumRow w u xs) (h2 : IntRow w v xs) (hb : ∀ x, x ∈ xs → 0 ≤ x ∧ x < 4294967296) :
    Calls Try.prog 28 #[u, v] w fun e w' => e = .returned (.bool true) ∧ ∃ q, w' = w.drewN q := by
  obtain ⟨A, ca, rfl⟩ := h1.form
  obtain ⟨B, cb, rfl⟩ := h2.form
  have hsm := h1.small
  have H1 := Lib.hid h1
  have H2 := Lib.hid h2
  have HB := Lib.hid hb
  clear h1 h2 hb
  go_enter Try.func28, Try.ntmps28
  go_wp2_with fail
  go_loopw [13] (fun i wr => ∃ k q : Nat, k ≤ xs.length ∧ i = .int .i64 k ∧ wr = w.drewN q) (fun i _ => xs.length - (intOf i).toNat)
  case atStart => exact ⟨0, 0, by omega, rfl, rfl⟩
  case round =>
    obtain ⟨k, q, hk, rfl, rfl⟩ := hrel
    by_cases hlt : k < xs.length
    · have ex := List.getElem?_eq_getElem hlt
      obtain ⟨b, off, rfl, hb, c1⟩ := H1.out.get ex
      obtain ⟨b', off', rfl, hb', c2⟩ := H2.out.get ex
      have hx := HB.out _ (List.getElem_mem hlt)
      clear ex
      generalize hX : xs[k] = X at *
      clear hX
      have i1 : (0 : Int) ≤ (k : Int) := by omega
      have i2 : (k : Int) < (xs.length : Int) := by omega
      have hbe : (X != X) = false := by simp
      have hwx : IntKind.i64.wrap X = X := by simp [IntKind.wrap, IntKind.bits, IntKind.signed]; omega
      go_wp2_with fail
      go_quiet (fail)
      go_wp2_with fail
      go_roundw
      case rel => exact ⟨k + 1, _, by omega, by go_num, rfl⟩
      case measure => simp [intOf]; omega
    · go_wp2_with fail
      go_ret
      exact ⟨rfl, _, rfl⟩

set_option maxHeartbeats 1000000 in
set_option maxRecDepth 100000 in
theorem nums_ (v : Value) (xs : List Int) (w : World) (h : IntRow w v xs) (hb : ∀ x, x ∈ xs → 0 ≤ x ∧ x < 16777216) (hl : xs.length ≤ 100000) :
    Calls Try.prog 32 #[v] w fun e w' => ∃ u, e = .returned u ∧ NumRow w' u xs ∧ Below w.heap.size w w' := by
  obtain ⟨A, ca, rfl⟩ := h.form
  have H1 := Lib.hid h
  have HB := Lib.hid hb
  obtain ⟨i0, hi, hz0, hz1, hz2⟩ := info_parts infoNum
  have Hi := Lib.hid hi
  have Hz0 := Lib.hid hz0
  have Hz1 := Lib.hid hz1
  have Hz2 := Lib.hid hz2
  clear h hb hi hz0 hz1 hz2
  go_enter Try.func32, Try.ntmps32
  go_wp2_with fail
  go_loopw [3, 8] (fun a i wr => ∃ (k : Nat) (v' : Value), k ≤ xs.length ∧ v' = a ∧ i = .int .i64 k ∧ Hid (wr.ownsRow w.heap.size 24 1 v' k ((xs.take k).map (Value.int .u32))) ∧ Hid (Below w.heap.size w wr)) (fun _ i _ => xs.length - (intOf i).toNat)
  case atStart => exact ⟨0, _, by omega, rfl, rfl, (by show World.ownsRow _ _ _ _ _ _ _; exact World.ownsRow_nil _ _ _ _), Below.refl _ _⟩
  case round =>
    obtain ⟨k, v', hk, rfl, rfl, HO, HW⟩ := hrel
    by_cases hlt : k < xs.length
    · have ex := List.getElem?_eq_getElem hlt
      obtain ⟨b, off, rfl, hbl, c1⟩ := (H1.out.below HW.out).get ex
      have hx := HB.out _ (List.getElem_mem hlt)
      have HP : Hid (xs.take (k + 1) = xs.take k ++ [xs[k]]) := List.take_succ_eq_append_getElem hlt
      clear ex
      generalize xs[k] = x at *
      have hxe : x % 16777216 = x := by omega
      have HC : Hid (∀ W, Calls Try.prog 27 #[.int .i64 x] W fun e w' => e = .returned (.int .u32 x) ∧ W = w') := fun W => by have h := seq_of x W (by omega) (by omega); rw [hxe] at h; exact h
      clear hxe
      go_wp2_with (first
        | (go_at_call 27; refine (HC.out _).mono ?_; rintro e w' ⟨rfl, rfl⟩)
        | (at_builtin; refine wpList_append_src _ rfl (.tmp 12) (.tmp 15) 26 rfl w.heap.size 24 i0 (.int .u32 0) 1 4 Try.underlying26 Hi.out Hz0.out Hz1.out Hz2.out rfl (by decide) v' k ((xs.take k).map (Value.int .u32)) rfl (World.ownsRow.alloc HO.out _) (some ⟨_, 0, none⟩) 1 1 [.int .u32 x] rfl rfl (fun h => by cases h) (one_src (one_new _ _ _)) (fun u hu => by simp at hu; subst hu; rfl) (by unfold maxLen; omega) (by omega) (by have := HW.out.size; rw [World.size_alloc]; omega) ?_; intro v5 w5 hown4 hg4 _; have HO5 := Lib.hid hown4; have HW5 := Lib.hid ((HW.out.alloc HW.out.size _).grown hg4 (by rw [World.size_alloc]; have := HW.out.size; omega) (fun j hj => (HO.out.lt j hj).1)); clear hown4 hg4))
      go_roundw
      case rel => exact ⟨k + 1, v5, by omega, rfl, by go_num, by have h := HO5.out; rw [HP.out, List.map_append]; exact h, HW5⟩
      case measure => simp [intOf]; omega
    · have hkq : k = xs.length := by omega
      have HO5 : Hid (wr.ownsRow w.heap.size 24 1 v' xs.length (xs.map (Value.int .u32))) := by
        have h := HO.out
        rw [hkq, List.take_of_length_le (Nat.le_refl _)] at h
        exact h
      go_wp2_with fail
      go_ret
      exact ⟨_, rfl, numRow_own HO5.out (by omega), HW.out⟩

theorem set_last3 (out : List Int) (y z : Int) : ((out.map (Value.int .i64)) ++ [Value.int .i64 y, Value.int .i64 0]).set (out.length + 1) (.int .i64 z) = (out ++ [y, z]).map (Value.int .i64) := by
  rw [List.set_append_right _ _ (by simp)]
  simp
theorem set_last4 (out : List Int) (z : Int) (n : Nat) (h : out.length = n + 1) : (out.map (Value.int .i64)).set n (.int .i64 z) = (out.dropLast ++ [z]).map (Value.int .i64) := by
  rcases List.eq_nil_or_concat out with rfl | ⟨init, z, rfl⟩
  · simp at h
  · rw [List.concat_eq_append] at h ⊢
    simp at h
    subst h
    rw [List.dropLast_concat, List.map_append, List.set_append_right _ _ (by simp)]
    simp

set_option maxHeartbeats 2000000 in
set_option maxRecDepth 100000 in
theorem ref_pairs (bs : Int) (u : Value) (l : List Int) (w : World) (h : IntRow w u l) (hl : l.length ≤ 100000) (hb : ∀ x, x ∈ l → -1099511627776 ≤ x ∧ x ≤ 1099511627777) (hbs : 0 ≤ bs ∧ bs < 16777216) :
    Calls Try.prog 29 #[.int .i64 bs, u] w fun e w' => ∃ v, e = .returned v ∧ IntRow w' v (pairs bs [] none l) ∧ Below w.heap.size w w' := by
  obtain ⟨A, ca, rfl, hlx, h1⟩ := h
  have H1 := Lib.hid h1
  have HB := Lib.hid hb
  clear h1 hb
  obtain ⟨i0, hi, hz0, hz1, hz2⟩ := info_parts infoIntS
  have Hi := Lib.hid hi
  have Hz0 := Lib.hid hz0
  have Hz1 := Lib.hid hz1
  have Hz2 := Lib.hid hz2
  clear hi hz0 hz1 hz2
  go_enter Try.func29, Try.ntmps29
  go_wp2_with fail
  have HO0 : Hid ((w.alloc (.cells #[] 3)).ownsRow w.heap.size 3 1 (.slice (some ⟨w.heap.size, 0, none⟩) 0 0) 0 []) := World.ownsRow_made w #[] 0 (Nat.le_refl _) (by decide) rfl
  have HB0 := Lib.hid ((Below.refl _ w).alloc (Nat.le_refl _) (.cells #[] 3))
  go_loopw [5, 11] (fun a i wr => ∃ (k : Nat) (v : Value) (out : List Int), k ≤ l.length ∧ v = a ∧ i = .int .i64 k ∧ out.length ≤ 2 * k ∧ (k = 0 ∨ 1 ≤ out.length) ∧ Hid (out = pairs bs [] none (l.take k)) ∧ Hid (wr.ownsRow w.heap.size 3 1 v out.length (out.map (Value.int .i64))) ∧ Hid (Below w.heap.size w wr)) (fun _ i _ => l.length - (intOf i).toNat)
  case atStart => exact ⟨0, _, [], by omega, rfl, rfl, by simp, .inl rfl, rfl, HO0, HB0⟩
  case round =>
    obtain ⟨k, v, out, hk, rfl, rfl, hol, ho1, HP, HO, HW⟩ := hrel
    clear HO0 HB0
    by_cases hlt : k < l.length
    · obtain ⟨b, off, rfl, hbl, hc1⟩ := (H1.out.resolve_left (fun e => by rw [e] at hlt; simp at hlt))
      have ex := List.getElem?_eq_getElem hlt
      have c1 : wr.cell? ⟨b, off + k, none⟩ = some (.int .i64 l[k]) := by rw [HW.out.cell (p := ⟨b, off + k, none⟩) hbl]; exact hc1 k _ ex
      have hbx := HB.out _ (List.getElem_mem hlt)
      have HT := Lib.hid (pairs_take bs hlt)
      obtain ⟨hol1, hol2⟩ := pairStep_len bs out (if k = 0 then none else l[k - 1]?) l[k]
      have HOL := Lib.hid (show (pairs bs [] none (l.take (k + 1))).length ≤ 2 * (k + 1) ∧ 1 ≤ (pairs bs [] none (l.take (k + 1))).length by rw [HT.out, ← HP.out]; omega)
      have HY := Lib.hid (fun W => ref_of (bs + l[k]) W (by omega) (by omega))
      have HZ := Lib.hid (fun W => ref_of (bs + l[k] + 1) W (by omega) (by omega))
      clear hol1 hol2
      by_cases hnew : k = 0 ∨ ∃ p, l[k - 1]? = some p ∧ p + 1 ≠ l[k]
      · have HE : Hid (out ++ [(bs + l[k]) % 16777216, (bs + l[k] + 1) % 16777216] = pairs bs [] none (l.take (k + 1))) := by
          show _ = _
          rw [HT.out, ← HP.out]
          unfold pairStep
          rw [if_neg]
          rcases hnew with e | ⟨p, hp, hne⟩
          · rw [if_pos e]; simp
          · split
            · simp
            · rw [hp]; intro h; injection h with h; omega
        have HOL2 := Lib.hid (show (out ++ [(bs + l[k]) % 16777216, (bs + l[k] + 1) % 16777216]).length ≤ 2 * (k + 1) by rw [HE.out]; exact HOL.out.1)
        clear HT HOL ex
        have hcp : k = 0 ∨ ∃ p, wr.cell? ⟨b, off + (k - 1), none⟩ = some (.int .i64 p) ∧ p + 1 ≠ l[k] ∧ (-1099511627776 ≤ p ∧ p ≤ 1099511627777) := hnew.imp id fun ⟨p, hp, hne⟩ => ⟨p, by rw [HW.out.cell (p := ⟨b, off + (k - 1), none⟩) hbl]; exact hc1 _ _ hp, hne, HB.out p (List.mem_of_getElem? hp)⟩
        clear hnew hc1
        generalize l[k] = x at *
        generalize (bs + x) % 16777216 = y at *
        generalize (bs + x + 1) % 16777216 = z at *
        have HCP := Lib.hid hcp
        clear hcp
        by_cases hk0 : k = 0
        · have hd0 : ((k : Int) == 0) = true := by rw [beq_iff_eq]; omega
          have HK0 := Lib.hid hk0
          clear HCP hk0
          go_wp2_with (first | (at_builtin; refine wpList_append_src _ rfl (.tmp 28) (.tmp 33) 45 rfl w.heap.size 3 i0 (.int .i64 0) 1 8 Try.underlying45 Hi.out Hz0.out Hz1.out Hz2.out rfl (by decide) v out.length (out.map (Value.int .i64)) rfl (World.ownsRow.alloc HO.out _) (some ⟨_, 0, none⟩) 2 2 [.int .i64 y, .int .i64 0] rfl rfl (fun h => by cases h) (two_src (two_new _ _ _ _).1 (two_new _ _ _ _).2) (fun u hu => by simp at hu; rcases hu with rfl | rfl <;> rfl) (by unfold maxLen; omega) (by omega) (by have := HW.out.size; rw [World.size_alloc]; omega) ?_; intro v5 w5 hown4 hg4 _; obtain ⟨g, gc, rfl, hg1, hg2, hg3, hg5⟩ := ownFormS hown4 (by omega); have HO5 := Lib.hid hown4; have HW5 := Lib.hid ((HW.out.alloc HW.out.size _).grown hg4 (by rw [World.size_alloc]; have := HW.out.size; omega) (fun j hj => (HO.out.lt j hj).1)); have hfz := hown4.frozenAt (out.length + 1); have hcl : w5.cell? ⟨g, out.length + 1, none⟩ = some (.int .i64 0) := (by rw [hown4.cellAt _ (by omega)]; simp); clear hown4 hg4; unfold maxLen at hg5) | (go_at_call 25; first | (with_reducible refine (HY.out _).mono ?_; rintro e w' ⟨rfl, rfl⟩) | (with_reducible refine (HZ.out _).mono ?_; rintro e w' ⟨rfl, rfl⟩)))
          go_roundw
          case rel => exact ⟨k + 1, _, out ++ [y, z], by omega, rfl, by go_num, HOL2.out, .inr (by simp), HE, by have h := (HO5.out.stored (out.length + 1) (.int .i64 z)).1; rw [set_last3] at h; simp only [List.length_append, List.length_cons, List.length_nil]; exact h, HW5.out.setCell (p := ⟨g, out.length + 1, none⟩) hg1 _⟩
          case measure => simp [intOf]; omega
        · obtain ⟨p, cp, hpx, hp1, hp2⟩ := HCP.out.resolve_left hk0
          have hd0 : ((k : Int) == 0) = false := by rw [beq_eq_false_iff_ne]; omega
          have hdp : (p + 1 != x) = true := by rw [bne_iff_ne]; exact hpx
          have HPX := Lib.hid hpx
          have i1 : (0 : Int) ≤ (k : Int) - 1 := by omega
          have i2 : (k : Int) - 1 < (l.length : Int) := by omega
          clear hpx HCP
          go_wp2_with (first | (at_builtin; refine wpList_append_src _ rfl (.tmp 28) (.tmp 33) 45 rfl w.heap.size 3 i0 (.int .i64 0) 1 8 Try.underlying45 Hi.out Hz0.out Hz1.out Hz2.out rfl (by decide) v out.length (out.map (Value.int .i64)) rfl (World.ownsRow.alloc HO.out _) (some ⟨_, 0, none⟩) 2 2 [.int .i64 y, .int .i64 0] rfl rfl (fun h => by cases h) (two_src (two_new _ _ _ _).1 (two_new _ _ _ _).2) (fun u hu => by simp at hu; rcases hu with rfl | rfl <;> rfl) (by unfold maxLen; omega) (by omega) (by have := HW.out.size; rw [World.size_alloc]; omega) ?_; intro v5 w5 hown4 hg4 _; obtain ⟨g, gc, rfl, hg1, hg2, hg3, hg5⟩ := ownFormS hown4 (by omega); have HO5 := Lib.hid hown4; have HW5 := Lib.hid ((HW.out.alloc HW.out.size _).grown hg4 (by rw [World.size_alloc]; have := HW.out.size; omega) (fun j hj => (HO.out.lt j hj).1)); have hfz := hown4.frozenAt (out.length + 1); have hcl : w5.cell? ⟨g, out.length + 1, none⟩ = some (.int .i64 0) := (by rw [hown4.cellAt _ (by omega)]; simp); clear hown4 hg4; unfold maxLen at hg5) | (go_at_call 25; first | (with_reducible refine (HY.out _).mono ?_; rintro e w' ⟨rfl, rfl⟩) | (with_reducible refine (HZ.out _).mono ?_; rintro e w' ⟨rfl, rfl⟩)))
          go_roundw
          case rel => exact ⟨k + 1, _, out ++ [y, z], by omega, rfl, by go_num, HOL2.out, .inr (by simp), HE, by have h := (HO5.out.stored (out.length + 1) (.int .i64 z)).1; rw [set_last3] at h; simp only [List.length_append, List.length_cons, List.length_nil]; exact h, HW5.out.setCell (p := ⟨g, out.length + 1, none⟩) hg1 _⟩
          case measure => simp [intOf]; omega
      · have hk0 : k ≠ 0 := fun e => hnew (.inl e)
        obtain ⟨p, hp⟩ : ∃ p, l[k - 1]? = some p := ⟨l[k - 1], List.getElem?_eq_getElem (by omega)⟩
        have hpx : p + 1 = l[k] := by
          by_cases h : p + 1 = l[k]
          · exact h
          · exact absurd (.inr ⟨p, hp, h⟩) hnew
        have HE : Hid (out.dropLast ++ [(bs + l[k] + 1) % 16777216] = pairs bs [] none (l.take (k + 1))) := by
          show _ = _
          rw [HT.out, ← HP.out]
          unfold pairStep
          rw [if_pos]
          rw [if_neg hk0, hp]
          congr 1
          omega
        obtain ⟨n, hn⟩ : ∃ n, out.length = n + 1 := ⟨out.length - 1, by omega⟩
        have HOL2 := Lib.hid (show (out.dropLast ++ [(bs + l[k] + 1) % 16777216]).length = n + 1 by simp; omega)
        have hbp := HB.out p (List.mem_of_getElem? hp)
        have cp : wr.cell? ⟨b, off + (k - 1), none⟩ = some (.int .i64 p) := by rw [HW.out.cell (p := ⟨b, off + (k - 1), none⟩) hbl]; exact hc1 _ _ hp
        clear HT HOL ex hnew hc1 hp
        generalize l[k] = x at *
        generalize (bs + x + 1) % 16777216 = z at *
        have hd0 : ((k : Int) == 0) = false := by rw [beq_eq_false_iff_ne]; omega
        have hdp : (p + 1 != x) = false := by rw [bne_eq_false_iff_eq]; exact hpx
        have HPX := Lib.hid hpx
        have i1 : (0 : Int) ≤ (k : Int) - 1 := by omega
        have i2 : (k : Int) - 1 < (l.length : Int) := by omega
        clear hpx
        have ho := HO.out
        rw [hn] at ho
        obtain ⟨g, gc, rfl, hg1, hg2, hg3, hg5⟩ := ownFormS ho (by omega)
        unfold maxLen at hg5
        have HO5 := Lib.hid ho
        have HN := Lib.hid hn
        have hfz := ho.frozenAt n
        obtain ⟨zl, hcl⟩ : ∃ z, wr.cell? ⟨g, n, none⟩ = some z := ⟨(out.map (Value.int .i64))[n]'(by simp; omega), by rw [ho.cellAt _ (by omega)]; exact List.getElem?_eq_getElem (by simp; omega)⟩
        have j1 : (0 : Int) ≤ (n : Int) := by omega
        clear ho HY
        go_wp2_with (go_at_call 25; refine (HZ.out _).mono ?_; rintro e w' ⟨rfl, rfl⟩)
        go_roundw
        case rel => exact ⟨k + 1, _, out.dropLast ++ [z], by omega, rfl, by go_num, by rw [HOL2.out]; omega, .inr (by rw [HOL2.out]; omega), HE, by have h := (HO5.out.stored n (.int .i64 z)).1; rw [set_last4 _ _ _ HN.out] at h; rw [HOL2.out]; exact h, HW.out.setCell (p := ⟨g, n, none⟩) hg1 _⟩
        case measure => simp [intOf]; omega
    · have hks : k = l.length := by omega
      subst hks
      rw [List.take_of_length_le (Nat.le_refl _)] at HP
      go_wp2_with fail
      go_ret
      exact ⟨_, rfl, by rw [← HP.out]; exact intRow_own HO.out (by omega), HW.out⟩
end Go.Proofs.Ytogbifggaomfjaa
