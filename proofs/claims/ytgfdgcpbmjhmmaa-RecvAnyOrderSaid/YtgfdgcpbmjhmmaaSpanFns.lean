/- The contracts of package span's makers: near, Of's comparison, joined, Of. Conditions: the spans' ends are small numbers, the rows are not long. -/
import Derived.Test.YtgfdgcpbmjhmmaaRows
import Derived.Test.YtgfdgcpbmjhmmaaShelf
import Derived.Test.YtgfdgcpbmjhmmaaSpanMath
import Derived.WalkKit
import Derived.Lib.Hide
import Derived.Below
import Derived.Laws.AppendOwn
import Derived.Deep.OwnRows
import Derived.Deep.QuietTactic
import Derived.BigQuiet
import Derived.Deep.RegionHeld3
import Derived.IntWalk
import Derived.RegionTactic
namespace Go.Proofs.Ytgfdgcpbmjhmmaa
open Go.RowKit Sp Go.Sort
set_option linter.unusedVariables false
set_option linter.unusedSimpArgs false

/-- The cells of spans, one behind the other. -/
def encS (x : Span) : List Value := [.int .i64 x.1, .int .i64 x.2]
def encs (s : List Span) : List Value := s.flatMap encS
theorem encs_length (s : List Span) : (encs s).length = s.length * 2 := by
  induction s with
  | nil => rfl
  | cons x s ih => simp only [encs, List.flatMap_cons, List.length_append, List.length_cons] at ih ⊢; simp only [encS, List.length_cons, List.length_nil]; omega
theorem encs_append (s t : List Span) : encs (s ++ t) = encs s ++ encs t := by simp [encs]
theorem encs_get : ∀ (s : List Span) (i : Nat) (x : Span), s[i]? = some x → (encs s)[i * 2]? = some (.int .i64 x.1) ∧ (encs s)[i * 2 + 1]? = some (.int .i64 x.2)
  | [], i, x, h => by simp at h
  | y :: s, 0, x, h => by simp at h; subst h; exact ⟨rfl, rfl⟩
  | y :: s, i + 1, x, h => by
    have := encs_get s i x (by simpa using h)
    rw [show (i + 1) * 2 = i * 2 + 2 by omega, show i * 2 + 2 + 1 = (i * 2 + 1) + 2 by omega]
    exact this

/-- v is a row of the spans s. -/
def SpRow (w : World) (v : Value) (s : List Span) : Prop :=
  ∃ (A : Option Addr) (cap : Nat), v = .slice A s.length cap ∧ s.length ≤ cap ∧ cap ≤ maxLen ∧ s.length ≤ 100000 ∧ (s = [] ∨ ∃ b off, A = some ⟨b, off, none⟩ ∧ b < w.heap.size ∧ ∀ i x, s[i]? = some x → w.cell? ⟨b, off + i * 2, none⟩ = some (.int .i64 x.1) ∧ w.cell? ⟨b, off + i * 2 + 1, none⟩ = some (.int .i64 x.2))
theorem spRow_nil (w : World) : SpRow w (.slice none 0 0) [] := ⟨none, 0, rfl, Nat.le_refl _, by decide, by decide, .inl rfl⟩
theorem SpRow.below {w w' : World} {v : Value} {s : List Span} (h : SpRow w v s) (hb : Below w.heap.size w w') : SpRow w' v s := by
  obtain ⟨A, cap, rfl, h1, h2, h3, hc⟩ := h
  refine ⟨A, cap, rfl, h1, h2, h3, hc.imp id fun ⟨b, off, e, hbl, hc⟩ => ⟨b, off, e, Nat.lt_of_lt_of_le hbl hb.size, fun i x hx => ?_⟩⟩
  rw [hb.cell (p := ⟨b, off + i * 2, none⟩) hbl, hb.cell (p := ⟨b, off + i * 2 + 1, none⟩) hbl]
  exact hc i x hx
theorem SpRow.drewN {w : World} {v : Value} {s : List Span} (h : SpRow w v s) (n : Nat) : SpRow (w.drewN n) v s := h.below ⟨rfl, rfl, rfl, Nat.le_refl _, fun _ _ => rfl⟩
/-- A row that was appended to. -/
theorem spRow_own {w : World} {base : Nat} {e : TypeId} {v : Value} {s : List Span} (h : w.ownsRow base e 2 v s.length (encs s)) (hl : s.length ≤ 100000) : SpRow w v s := by
  rcases h.2 with ⟨rfl, h0⟩ | ⟨g, cap, cur, rfl, _, hg, hnc, hcm, _⟩
  · rw [List.eq_nil_of_length_eq_zero h0]; exact spRow_nil w
  · refine ⟨_, cap, rfl, hnc, hcm, hl, .inr ⟨g, 0, rfl, (Array.getElem?_eq_some_iff.1 hg).1, fun i x hx => ?_⟩⟩
    obtain ⟨e1, e2⟩ := encs_get s i x hx
    have c1 := h.cells (g := g) rfl _ _ e1
    have c2 := h.cells (g := g) rfl _ _ e2
    rw [Addr.add_lit] at c1 c2
    exact ⟨c1, by rw [Nat.add_assoc]; exact c2⟩

/-- Both ends are small numbers. -/
def Small (x : Span) : Prop := -4096 ≤ x.1 ∧ x.1 ≤ 4096 ∧ -4096 ≤ x.2 ∧ x.2 ≤ 4096

theorem near (x : Span) (w : World) (h : Small x) :
    Calls Try.prog 36 #[.agg #[.int .i64 x.1, .int .i64 x.2]] w fun e w' => e = .returned (.agg #[.int .i64 x.1, .int .i64 x.2]) ∧ Below w.heap.size w w' := by
  obtain ⟨h1, h2, h3, h4⟩ := h
  generalize x.1 = a at *
  generalize x.2 = b at *
  have E1 := Lib.hid (show min (max a (-1099511627776)) 1099511627776 = a by omega)
  have E2 := Lib.hid (show min (max b (-1099511627776)) 1099511627777 = b by omega)
  go_enter Try.func36, Try.ntmps36
  go_wp2
  rw [E1.out, E2.out]
  exact bodyPost_ret (v := .agg #[.int .i64 a, .int .i64 b]) (by simp [results, Try.results36, go_sem]) rfl ⟨rfl, ((Below.refl _ _).alloc (Nat.le_refl _) _).alloc (by simp) _⟩

/-- The comparison of Of's sort. -/
theorem cmpFrom (x y : Span) (W : World) : Calls Try.prog 38 #[.agg #[.int .i64 x.1, .int .i64 x.2], .agg #[.int .i64 y.1, .int .i64 y.2]] W fun e w' => e = .returned (.int .i64 (Lib.compareInt x.1 y.1)) ∧ ∃ q os', w' = grow (W.drewN q) os' := by
  have hcon := fun W' => AnyG.cmp_Compare_int Try.layCmp x.1 y.1 W'
  change ∀ W', Calls Try.prog 39 _ _ _ at hcon
  generalize Lib.compareInt x.1 y.1 = r at hcon ⊢
  go_enter Try.func38, Try.ntmps38
  go_wp2_with (go_at_call 39; refine (hcon _).mono ?_; rintro e w' ⟨rfl, rfl⟩)
  go_ret
  exact ⟨rfl, 0, _, by rw [alloc_eq_grow, alloc_eq_grow, grow_grow]; rfl⟩

theorem infoSpan : (Try.prog.info? 59).map (fun i => (i.zero, i.size, i.bytes)) = some (some (.agg #[.int .i64 0, .int .i64 0]), 2, 16) := by kernel_rfl

theorem own_form {w : World} {base : Nat} {e : TypeId} {size : Nat} {v : Value} {n : Nat} {xs : List Value} (h : w.ownsRow base e size v n xs) (hn : 0 < n) : ∃ g cap, v = .slice (some ⟨g, 0, none⟩) n cap ∧ base ≤ g ∧ g < w.heap.size ∧ n ≤ cap ∧ cap ≤ maxLen := by
  rcases h.2 with ⟨_, h0⟩ | ⟨g, cap, cur, rfl, hb, hg, hnc, hcm, _⟩
  · omega
  · exact ⟨g, cap, rfl, hb, (Array.getElem?_eq_some_iff.1 hg).1, hnc, hcm⟩
theorem ownsRow_drewN' {w : World} {base : Nat} {e : TypeId} {size : Nat} {v : Value} {n : Nat} {xs : List Value} (h : w.ownsRow base e size v n xs) (k : Nat) : (w.drewN k).ownsRow base e size v n xs := h
theorem below_drewN' {B : Nat} {a w : World} (h : Below B a w) (n : Nat) : Below B a (w.drewN n) := ⟨h.os, h.tape, h.output, h.size, h.block⟩
/-- The cells of a struct just laid. -/
theorem cells_two_new (w : World) (a b : Value) (t : TypeId) : ∀ (j : Nat) (u : Value), [a, b][j]? = some u → (w.alloc (.cells #[a, b] t)).cell? ((⟨w.heap.size, 0, none⟩ : Addr).add j) = some u := by
  intro j u hj
  have hn := heap_alloc_new w (.cells #[a, b] t)
  rw [Addr.add_lit, Nat.zero_add, cell_of_row _ _ j _ t (0, 0) hn]
  simpa using hj

theorem encs_set : ∀ (init : List Span) (z : Span) (y : Int), (encs (init ++ [z])).set (init.length * 2 + 1) (.int .i64 y) = encs (init ++ [(z.1, y)])
  | [], z, y => rfl
  | u :: init, z, y => by
    have ih := encs_set init z y
    simp only [List.cons_append, encs, List.flatMap_cons, encS, List.length_cons] at ih ⊢
    rw [show (init.length + 1) * 2 + 1 = (init.length * 2 + 1) + 1 + 1 by omega]
    simp only [List.nil_append, List.set_cons_succ]
    rw [ih]

theorem joinStep_new (acc : List Span) (x : Span) (h : acc = [] ∨ ∃ init z, acc = init ++ [z] ∧ z.2 < x.1) : joinStep acc x = acc ++ [x] := by
  rcases h with rfl | ⟨init, z, rfl, h⟩
  · rfl
  · rw [joinStep_snoc, if_pos h]
theorem joinStep_old (init : List Span) (z x : Span) (h : ¬ z.2 < x.1) : joinStep (init ++ [z]) x = init ++ [(z.1, max z.2 x.2)] := by rw [joinStep_snoc, if_neg h]
theorem joinStep_len (acc : List Span) (x : Span) : (joinStep acc x).length ≤ acc.length + 1 := by
  rcases List.eq_nil_or_concat acc with rfl | ⟨init, z, rfl⟩
  · simp [joinStep]
  · rw [List.concat_eq_append, joinStep_snoc]; split <;> simp

set_option maxHeartbeats 1000000 in
set_option maxRecDepth 100000 in
theorem joined (l : List Span) (v : Value) (w : World) (hv : SpRow w v l) (hl : l.length ≤ 50000) (hb : ∀ x, x ∈ l → Small x) :
    Calls Try.prog 40 #[v] w fun e w' => ∃ u, e = .returned u ∧ SpRow w' u (l.foldl joinStep []) ∧ Below w.heap.size w w' ∧ ∀ g, u.ownBlock = some g → w.heap.size ≤ g := by
  obtain ⟨A, cap, rfl, h1, h2, h3, hc⟩ := hv
  unfold maxLen at h2
  obtain ⟨i0, hi, hz0, hz1, hz2⟩ := info_parts infoSpan
  have Hi := Lib.hid hi
  have Hz0 := Lib.hid hz0
  have Hz1 := Lib.hid hz1
  have Hz2 := Lib.hid hz2
  have HC := Lib.hid hc
  have HB := Lib.hid hb
  clear hi hz0 hz1 hz2 hc hb
  go_enter Try.func40, Try.ntmps40
  go_wp2_with fail
  go_loopw [3, 9] (fun u i wr => ∃ (k : Nat) (acc : List Span), k ≤ l.length ∧ i = .int .i64 k ∧ Hid (acc = (l.take k).foldl joinStep []) ∧ acc.length ≤ k ∧ (∀ x, x ∈ acc → Small x) ∧ Hid (acc = [] → u = .slice none 0 0) ∧ Hid (wr.ownsRow w.heap.size 59 2 u acc.length (encs acc)) ∧ Hid (Below w.heap.size w wr)) (fun _ i _ => l.length - (intOf i).toNat)
  case atStart => exact ⟨0, [], by omega, rfl, rfl, by simp, by simp, fun _ => rfl, (World.ownsRow_nil w _ _ _), Below.refl _ _⟩
  case round =>
    obtain ⟨k, acc, hk, rfl, HA, hacc, hsm, HE, HO, HW⟩ := hrel
    by_cases hlt : k < l.length
    · obtain ⟨b, off, rfl, hbl, hcc⟩ := HC.out.resolve_left (fun e => by rw [e] at hlt; simp at hlt)
      have ex := List.getElem?_eq_getElem hlt
      have hx := HB.out _ (List.getElem_mem hlt)
      obtain ⟨c0, c1⟩ := hcc k _ ex
      have Hstep : Hid (joinStep acc (l[k]) = (l.take (k + 1)).foldl joinStep []) := by
        show _ = _
        rw [List.take_succ_eq_append_getElem hlt, List.foldl_append, ← HA.out]; rfl
      generalize l[k] = x at *
      have HX := Lib.hid ex
      clear ex hcc
      have hc0 : wr.cell? ⟨b, off + k * 2, none⟩ = some (.int .i64 x.1) := by rw [HW.out.cell (p := ⟨b, off + k * 2, none⟩) hbl]; exact c0
      have hc1 : wr.cell? ⟨b, off + k * 2 + 1, none⟩ = some (.int .i64 x.2) := by rw [HW.out.cell (p := ⟨b, off + k * 2 + 1, none⟩) hbl]; exact c1
      clear c0 c1
      have HSX := Lib.hid hx
      have HSM := Lib.hid hsm
      obtain ⟨a, hae⟩ : ∃ a, a = x.1 := ⟨_, rfl⟩
      obtain ⟨d, hde⟩ : ∃ d, d = x.2 := ⟨_, rfl⟩
      rw [← hae] at hc0
      rw [← hde] at hc1
      have hxa := hx
      unfold Small at hxa
      rw [← hae, ← hde] at hxa
      obtain ⟨ha1, ha2, hd1, hd2⟩ := hxa
      have HAE := Lib.hid hae
      have HDE := Lib.hid hde
      clear hx hsm hae hde
      by_cases hnew : acc = [] ∨ ∃ init z, acc = init ++ [z] ∧ z.2 < x.1
      · have HJ := Lib.hid (joinStep_new acc x hnew)
        rcases hnew with he | ⟨init, z, he, hz⟩
        · subst he
          obtain rfl := HE.out rfl
          obtain ⟨XS, hXS⟩ : ∃ XS, XS = encs [] := ⟨_, rfl⟩
          have HO : Hid (wr.ownsRow w.heap.size 59 2 (.slice none 0 0) 0 XS) := by rw [hXS]; exact HO.out
          have HXS := Lib.hid hXS
          clear hXS
          go_wp2_with fail
          have hbx0 : (wr.alloc (.cells #[.int .i64 a, .int .i64 d] 59)).cell? ⟨wr.heap.size, 0, none⟩ = some (.int .i64 a) := by have h := cells_two_new wr (.int .i64 a) (.int .i64 d) 59 0 _ rfl; rwa [Addr.add_lit, Nat.zero_add] at h
          have hbx1 : (wr.alloc (.cells #[.int .i64 a, .int .i64 d] 59)).cell? ⟨wr.heap.size, 1, none⟩ = some (.int .i64 d) := by have h := cells_two_new wr (.int .i64 a) (.int .i64 d) 59 1 _ rfl; rwa [Addr.add_lit, Nat.zero_add] at h
          have HOW := Lib.hid (HO.out.alloc (.cells #[.int .i64 a, .int .i64 d] 59))
          have HWW := Lib.hid (HW.out.alloc HW.out.size (.cells #[.int .i64 a, .int .i64 d] 59))
          have hsz : wr.heap.size < (wr.alloc (.cells #[.int .i64 a, .int .i64 d] 59)).heap.size := by simp
          clear hc0 hc1
          generalize wr.alloc (.cells #[.int .i64 a, .int .i64 d] 59) = W at *
          generalize wr.heap.size = bx at *
          go_quiet (fail)
          have hbx0 : (W.drewN nq).cell? ⟨bx, 0, none⟩ = some (.int .i64 a) := hbx0
          have hbx1 : (W.drewN nq).cell? ⟨bx, 1, none⟩ = some (.int .i64 d) := hbx1
          have HOW : Hid ((W.drewN nq).ownsRow w.heap.size 59 2 (.slice none 0 0) 0 XS) := HOW
          have HWW := Lib.hid (below_drewN' HWW.out nq)
          generalize W.drewN nq = W2 at *
          go_wp2_with (at_builtin; refine wpList_append_own _ rfl (.tmp 28) (.tmp 30) 63 rfl w.heap.size 59 i0 (.agg #[.int .i64 0, .int .i64 0]) 2 16 Try.underlying63 Hi.out Hz0.out Hz1.out Hz2.out rfl (by decide) (.slice none 0 0) 0 XS (by rfl) (HOW.out.alloc _) ⟨W2.heap.size, 0, none⟩ 1 1 [.int .i64 a, .int .i64 d] rfl rfl (cells_two_new _ _ _ _) (fun u hu => by simp at hu; rcases hu with rfl | rfl <;> rfl) (by unfold maxLen; omega) (by omega) (by have := HWW.out.size; simp; omega) ?_; intro v' w4 hown4 hg4 _; have HO4 := Lib.hid hown4; have HG4 := Lib.hid hg4; clear hown4 hg4)
          have HN4 : Hid (w4.ownsRow w.heap.size 59 2 v' (([] : List Span) ++ [x]).length (encs (([] : List Span) ++ [x]))) := by
            have h := HO4.out
            rw [HAE.out, HDE.out, HXS.out] at h
            rw [List.length_append, encs_append]
            exact h
          have HB4 := Lib.hid ((HWW.out.alloc HWW.out.size _).grown HG4.out (by have := HWW.out.size; simp; omega) (fun j hj => by simp [Value.ownBlock] at hj))
          go_roundw
          case rel => exact ⟨k + 1, ([] : List Span) ++ [x], by omega, by go_num, by show _ = _; rw [← Hstep.out, HJ.out], by simp <;> omega, (fun y hy => by simp at hy; subst hy; exact HSX.out), fun h => (by simp at h), HN4, HB4⟩
          case measure => simp [intOf]; omega
        · subst he
          obtain ⟨g, gc, hu, hg1, hg2, hg3, hg4⟩ := own_form HO.out (by simp)
          have hNN : (init ++ [z]).length = init.length + 1 := by simp
          have ho := HO.out
          have hget := (encs_get (init ++ [z]) init.length z (by simp)).2
          rw [hNN] at hu hg3 ho hacc
          subst hu
          generalize hXS : encs (init ++ [z]) = XS at *
          generalize hni : init.length = n at *
          rw [← HAE.out] at hz
          generalize hzt : z.2 = zt at *
          have HZT := Lib.hid hzt
          have HXS := Lib.hid hXS.symm
          have HNN := Lib.hid hNN.symm
          have HNI := Lib.hid hni
          have HXZ := Lib.hid hget
          have HO := Lib.hid ho
          have i5 : (0 : Int) ≤ (n : Int) := by omega
          have i6 : (n : Int) < (n : Int) + 1 := by omega
          have i8 : decide ((n : Int) < 0) = false := by simp
          clear hzt hXS hNN hget ho hni
          unfold maxLen at hg4
          go_wp2_with fail
          have hbx0 : (wr.alloc (.cells #[.int .i64 a, .int .i64 d] 59)).cell? ⟨wr.heap.size, 0, none⟩ = some (.int .i64 a) := by have h := cells_two_new wr (.int .i64 a) (.int .i64 d) 59 0 _ rfl; rwa [Addr.add_lit, Nat.zero_add] at h
          have hbx1 : (wr.alloc (.cells #[.int .i64 a, .int .i64 d] 59)).cell? ⟨wr.heap.size, 1, none⟩ = some (.int .i64 d) := by have h := cells_two_new wr (.int .i64 a) (.int .i64 d) 59 1 _ rfl; rwa [Addr.add_lit, Nat.zero_add] at h
          have HOW := Lib.hid (HO.out.alloc (.cells #[.int .i64 a, .int .i64 d] 59))
          have HWW := Lib.hid (HW.out.alloc HW.out.size (.cells #[.int .i64 a, .int .i64 d] 59))
          have hsz : wr.heap.size < (wr.alloc (.cells #[.int .i64 a, .int .i64 d] 59)).heap.size := by simp
          clear hc0 hc1
          generalize wr.alloc (.cells #[.int .i64 a, .int .i64 d] 59) = W at *
          generalize wr.heap.size = bx at *
          have hcz : W.cell? ⟨g, n * 2 + 1, none⟩ = some (.int .i64 zt) := by rw [HOW.out.cellAt _ (by omega)]; exact HXZ.out
          have hdz : decide (zt < a) = true := by simp; exact hz
          go_quiet (fail)
          have hbx0 : (W.drewN nq).cell? ⟨bx, 0, none⟩ = some (.int .i64 a) := hbx0
          have hbx1 : (W.drewN nq).cell? ⟨bx, 1, none⟩ = some (.int .i64 d) := hbx1
          have HOW : Hid ((W.drewN nq).ownsRow w.heap.size 59 2 (.slice (some ⟨g, 0, none⟩) (n + 1) gc) (n + 1) XS) := HOW
          have HWW := Lib.hid (below_drewN' HWW.out nq)
          generalize W.drewN nq = W2 at *
          go_wp2_with (at_builtin; refine wpList_append_own _ rfl (.tmp 28) (.tmp 30) 63 rfl w.heap.size 59 i0 (.agg #[.int .i64 0, .int .i64 0]) 2 16 Try.underlying63 Hi.out Hz0.out Hz1.out Hz2.out rfl (by decide) (.slice (some ⟨g, 0, none⟩) (n + 1) gc) (n + 1) XS (by rfl) (HOW.out.alloc _) ⟨W2.heap.size, 0, none⟩ 1 1 [.int .i64 a, .int .i64 d] rfl rfl (cells_two_new _ _ _ _) (fun u hu => by simp at hu; rcases hu with rfl | rfl <;> rfl) (by unfold maxLen; omega) (by omega) (by have := HWW.out.size; simp; omega) ?_; intro v' w4 hown4 hg4 _; have HO4 := Lib.hid hown4; have HG4 := Lib.hid hg4; clear hown4 hg4)
          have HN4 : Hid (w4.ownsRow w.heap.size 59 2 v' ((init ++ [z]) ++ [x]).length (encs ((init ++ [z]) ++ [x]))) := by
            have h := HO4.out
            rw [HAE.out, HDE.out, HXS.out, HNN.out] at h
            rw [List.length_append, encs_append]
            exact h
          have HB4 := Lib.hid ((HWW.out.alloc HWW.out.size _).grown HG4.out (by have := HWW.out.size; simp; omega) (fun j hj => (by simp [Value.ownBlock] at hj; omega)))
          go_roundw
          case rel => exact ⟨k + 1, (init ++ [z]) ++ [x], by omega, by go_num, by show _ = _; rw [← Hstep.out, HJ.out], by have := HNI.out; simp; omega, (fun y hy => by rcases List.mem_append.1 hy with hy | hy; exact HSM.out y hy; simp at hy; subst hy; exact HSX.out), fun h => (by simp at h), HN4, HB4⟩
          case measure => simp [intOf]; omega
      · have hold : ∃ init z, acc = init ++ [z] ∧ ¬ z.2 < x.1 := by
          rcases List.eq_nil_or_concat acc with rfl | ⟨init, z, rfl⟩
          · exact absurd (.inl rfl) hnew
          · rw [List.concat_eq_append] at hnew ⊢
            exact ⟨init, z, rfl, fun h => hnew (.inr ⟨init, z, rfl, h⟩)⟩
        clear hnew
        obtain ⟨init, z, he, hz⟩ := hold
        subst he
        have HJ := Lib.hid (joinStep_old init z x hz)
        obtain ⟨g, gc, hu, hg1, hg2, hg3, hg4⟩ := own_form HO.out (by simp)
        have hNN : (init ++ [z]).length = init.length + 1 := by simp
        have ho := HO.out
        have hget := (encs_get (init ++ [z]) init.length z (by simp)).2
        have hset : (encs (init ++ [z])).set (init.length * 2 + 1) (.int .i64 (max z.2 x.2)) = encs (init ++ [(z.1, max z.2 x.2)]) := encs_set init z _
        rw [hNN] at hu hg3 ho hacc
        subst hu
        have HZS := Lib.hid (HSM.out z (by simp))
        generalize hXS : encs (init ++ [z]) = XS at *
        generalize hni : init.length = n at *
        rw [← HAE.out] at hz
        rw [← HDE.out] at hset
        generalize hzt : z.2 = zt at *
        have HZT := Lib.hid hzt
        have HXS := Lib.hid hXS.symm
        have HNN := Lib.hid hNN.symm
        have HNI := Lib.hid hni
        have HXZ := Lib.hid hget
        have HO := Lib.hid ho
        have HSET := Lib.hid hset
        have i5 : (0 : Int) ≤ (n : Int) := by omega
        have i6 : (n : Int) < (n : Int) + 1 := by omega
        have i8 : decide ((n : Int) < 0) = false := by simp
        clear hzt hXS hNN hget ho hni hset
        unfold maxLen at hg4
        go_wp2_with fail
        have hbx0 : (wr.alloc (.cells #[.int .i64 a, .int .i64 d] 59)).cell? ⟨wr.heap.size, 0, none⟩ = some (.int .i64 a) := by have h := cells_two_new wr (.int .i64 a) (.int .i64 d) 59 0 _ rfl; rwa [Addr.add_lit, Nat.zero_add] at h
        have hbx1 : (wr.alloc (.cells #[.int .i64 a, .int .i64 d] 59)).cell? ⟨wr.heap.size, 1, none⟩ = some (.int .i64 d) := by have h := cells_two_new wr (.int .i64 a) (.int .i64 d) 59 1 _ rfl; rwa [Addr.add_lit, Nat.zero_add] at h
        have HOW := Lib.hid (HO.out.alloc (.cells #[.int .i64 a, .int .i64 d] 59))
        have HWW := Lib.hid (HW.out.alloc HW.out.size (.cells #[.int .i64 a, .int .i64 d] 59))
        have hsz : wr.heap.size < (wr.alloc (.cells #[.int .i64 a, .int .i64 d] 59)).heap.size := by simp
        clear hc0 hc1
        generalize wr.alloc (.cells #[.int .i64 a, .int .i64 d] 59) = W at *
        generalize wr.heap.size = bx at *
        have hcz : W.cell? ⟨g, n * 2 + 1, none⟩ = some (.int .i64 zt) := by rw [HOW.out.cellAt _ (by omega)]; exact HXZ.out
        have hdz : decide (zt < a) = false := by simp; omega
        go_quiet (fail)
        have hbx1 : (W.drewN nq).cell? ⟨bx, 1, none⟩ = some (.int .i64 d) := hbx1
        have hcz : (W.drewN nq).cell? ⟨g, n * 2 + 1, none⟩ = some (.int .i64 zt) := hcz
        have HOW : Hid ((W.drewN nq).ownsRow w.heap.size 59 2 (.slice (some ⟨g, 0, none⟩) (n + 1) gc) (n + 1) XS) := HOW
        have HWW := Lib.hid (below_drewN' HWW.out nq)
        clear hbx0
        generalize W.drewN nq = W2 at *
        have hfz := HOW.out.frozenAt (n * 2 + 1)
        have hmx : max zt d = max zt d := rfl
        go_wp2_with fail
        go_region
        all_goals
          go_wp2_with fail
          have hst := HOW.out.stored (n * 2 + 1) (.int .i64 (max zt d))
          have hown : (W2.setCell ⟨g, n * 2 + 1, none⟩ (.int .i64 (max zt d))).drew.ownsRow w.heap.size 59 2 (.slice (some ⟨g, 0, none⟩) (n + 1) gc) (init ++ [(z.1, max zt d)]).length (encs (init ++ [(z.1, max zt d)])) := by
            have h := hst.1
            rw [HSET.out] at h
            rw [List.length_append, HNI.out]
            exact h
          have hbel : Below w.heap.size w (W2.setCell ⟨g, n * 2 + 1, none⟩ (.int .i64 (max zt d))).drew := (HWW.out.setCell (p := ⟨g, n * 2 + 1, none⟩) hg1 _).drew
          have HJ2 : Hid (init ++ [(z.1, max zt d)] = (l.take (k + 1)).foldl joinStep []) := by
            show _ = _
            rw [← Hstep.out, HJ.out, HDE.out]
          have hzs := HZS.out
          have hsx := HSX.out
          unfold Small at hzs hsx
          rw [HZT.out] at hzs
          rw [← HDE.out, ← HAE.out] at hsx
          go_roundw
          case rel => exact ⟨k + 1, init ++ [(z.1, max zt d)], by omega, by go_num, HJ2, by have := HNI.out; simp; omega, fun y hy => by
            rcases List.mem_append.1 hy with hy | hy
            · exact HSM.out y (List.mem_append_left _ hy)
            · simp at hy; subst hy; unfold Small; simp only; omega, fun h => by simp at h, hown, hbel⟩
          case measure => simp [intOf]; omega
    · go_wp2_with fail
      go_ret
      have hkl : k = l.length := by omega
      subst hkl
      refine ⟨_, rfl, ?_, HW.out, fun g hg => (HO.out.lt g hg).1⟩
      have h := spRow_own HO.out (by omega)
      rw [HA.out, List.take_of_length_le (Nat.le_refl _)] at h
      exact h

/-- Of: a set, of just these numbers. -/
def IsSet (s : List Span) (l : List Span) : Prop := Canon s ∧ (∀ n, Mem s n ↔ Mem l n) ∧ s.length ≤ l.length ∧ ∀ x, x ∈ s → Small x

theorem join_all : ∀ (r acc : List Span), Canon acc → (∀ x, x ∈ r → x.1 < x.2) → r.Pairwise (fun x y => x.1 ≤ y.1) → (∀ z, z ∈ acc → ∀ x, x ∈ r → z.1 ≤ x.1) →
    Canon (r.foldl joinStep acc) ∧ (∀ n, Mem (r.foldl joinStep acc) n ↔ Mem acc n ∨ Mem r n) ∧ (r.foldl joinStep acc).length ≤ acc.length + r.length
  | [], acc, h, _, _, _ => ⟨h, fun n => ⟨.inl, fun h => h.elim id fun h => absurd h (mem_nil n)⟩, by simp⟩
  | x :: r, acc, h, h1, h2, h3 => by
    rw [List.pairwise_cons] at h2
    obtain ⟨g1, g2, g3, g4⟩ := join_ok h (h1 x List.mem_cons_self) (fun z hz => h3 z hz x List.mem_cons_self)
    obtain ⟨k1, k2, k3⟩ := join_all r (joinStep acc x) g1 (fun y hy => h1 y (List.mem_cons_of_mem _ hy)) h2.2 (fun z hz y hy => Int.le_trans (g2 z hz) (h2.1 y hy))
    refine ⟨k1, fun n => ?_, by simp only [List.foldl_cons, List.length_cons]; omega⟩
    show Mem (r.foldl joinStep (joinStep acc x)) n ↔ _
    rw [k2 n, g3 n, mem_cons]
    constructor
    · rintro ((h | h) | h)
      · exact .inl h
      · exact .inr (.inl h)
      · exact .inr (.inr h)
    · rintro (h | h | h)
      · exact .inl (.inl h)
      · exact .inl (.inr h)
      · exact .inr h
theorem join_small : ∀ (r acc : List Span), (∀ x, x ∈ acc → Small x) → (∀ x, x ∈ r → Small x) → ∀ x, x ∈ r.foldl joinStep acc → Small x
  | [], acc, h, _ => h
  | y :: r, acc, h, h1 => by
    refine join_small r (joinStep acc y) (fun x hx => ?_) (fun x hx => h1 x (List.mem_cons_of_mem _ hx))
    have hy := h1 y List.mem_cons_self
    rcases List.eq_nil_or_concat acc with rfl | ⟨init, z, rfl⟩
    · rw [joinStep_nil] at hx; simp at hx; subst hx; exact hy
    · rw [List.concat_eq_append] at h hx
      rw [joinStep_snoc] at hx
      have hz := h z (by simp)
      split at hx
      · rcases List.mem_append.1 hx with hx | hx
        · exact h x hx
        · simp at hx; subst hx; exact hy
      · rcases List.mem_append.1 hx with hx | hx
        · exact h x (List.mem_append_left _ hx)
        · simp at hx; subst hx; unfold Small at hz hy ⊢; simp only; omega
/-- The spans that aren't empty. -/
def full (l : List Span) : List Span := l.filter fun x => decide (x.1 < x.2)
theorem mem_full (l : List Span) (n : Int) : Mem (full l) n ↔ Mem l n := by
  constructor
  · rintro ⟨x, hx, h⟩; exact ⟨x, (List.mem_filter.1 hx).1, h⟩
  · rintro ⟨x, hx, h⟩; exact ⟨x, List.mem_filter.2 ⟨hx, by simp; omega⟩, h⟩
theorem isSet_of {l r : List Span} (hr : r.Perm (full l)) (hs : r.Pairwise (fun x y => x.1 ≤ y.1)) (hb : ∀ x, x ∈ l → Small x) : IsSet (r.foldl joinStep []) l := by
  have hr2 : ∀ x, x ∈ r → x ∈ l ∧ x.1 < x.2 := fun x hx => by have := List.mem_filter.1 (hr.mem_iff.1 hx); exact ⟨this.1, by simpa using this.2⟩
  obtain ⟨k1, k2, k3⟩ := join_all r [] canon_nil (fun x hx => (hr2 x hx).2) hs (by simp)
  refine ⟨k1, fun n => ?_, ?_, join_small r [] (by simp) (fun x hx => hb x (hr2 x hx).1)⟩
  · rw [k2 n, mem_perm hr, mem_full]
    exact ⟨fun h => h.elim (fun h => absurd h (mem_nil n)) id, .inr⟩
  · have := List.length_filter_le (fun x : Span => decide (x.1 < x.2)) l
    have := hr.length_eq
    unfold full at this
    simp at k3
    omega
end Go.Proofs.Ytgfdgcpbmjhmmaa
