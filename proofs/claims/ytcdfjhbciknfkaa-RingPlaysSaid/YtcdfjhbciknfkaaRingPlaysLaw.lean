/- The walk of RingPlays: behind any calls what stands in a row is what the document says. Condition: the list reads as a row of calls. -/
import Derived.Test.YtcdfjhbciknfkaaRingTwo
import Derived.Test.YtcdfjhbciknfkaaPairRow
import Derived.Deep.DeepCutAuto
import Derived.Deep.CutBlock
import Derived.Outline
import Derived.Deep.RegionHeld3
import Derived.Test.YtcdfjhbciknfkaaAppendSrc
namespace Go.Proofs.Ytcdfjhbciknfkaa.int
open Go.RowKit
set_option linter.unusedVariables false

theorem infoInt : (Try.prog.info? 3).map (fun i => (i.zero, i.size, i.bytes)) = some (some (.int .i64 0), 1, 8) := by kernel_rfl
theorem own_lit0 (w : World) (base b : Nat) (e : TypeId) (hb : base ≤ w.heap.size) (h : b = w.heap.size) : (w.alloc (.cells #[] e)).ownsRow base e 1 (.slice (some ⟨b, 0, none⟩) 0 0) 0 [] := by
  subst h
  exact World.ownsRow_made w #[] 0 hb (by decide) rfl
theorem one_src {w : World} {b : Nat} {x : Value} (h : w.cell? ⟨b, 0, none⟩ = some x) : ∀ ad, some (⟨b, 0, none⟩ : Addr) = some ad → ∀ j u, [x][j]? = some u → w.cell? (ad.add j) = some u := by
  intro ad he j u hj
  injection he with he
  subst he
  match j with
  | 0 => simp at hj; subst hj; rw [Addr.add_lit]; exact h
  | j + 1 => simp at hj
theorem row_src {w : World} {A : Option Addr} {xs : List Int} (h : xs = [] ∨ ∃ b off, A = some ⟨b, off, none⟩ ∧ ∀ i x, xs[i]? = some x → w.cell? ⟨b, off + i, none⟩ = some (.int .i64 x)) : ∀ ad, A = some ad → ∀ j u, (VI xs)[j]? = some u → w.cell? (ad.add j) = some u := by
  intro ad he j u hj
  rw [List.getElem?_map] at hj
  rcases h with rfl | ⟨b, off, e, hc⟩
  · simp at hj
  · rw [he] at e
    injection e with e
    subst e
    cases hx : xs[j]? with
    | none => rw [hx] at hj; simp at hj
    | some x => rw [hx] at hj; simp at hj; subst hj; rw [Addr.add_lit]; exact hc j x hx
theorem row_srcs {w : World} {A : Option Addr} {xs : List Int} (h : xs = [] ∨ ∃ b off, A = some ⟨b, off, none⟩ ∧ ∀ i x, xs[i]? = some x → w.cell? ⟨b, off + i, none⟩ = some (.int .i64 x)) : (A = none → xs.length = 0) ∧ ∀ w', Below w.heap.size w w' → ∀ ad, A = some ad → ∀ j u, (VI xs)[j]? = some u → w'.cell? (ad.add j) = some u := by
  refine ⟨fun ha => ?_, fun w' hb ad he j u hj => ?_⟩
  · rcases h with rfl | ⟨b, off, e, _⟩
    · rfl
    · rw [ha] at e; cases e
  · have h1 := row_src h ad he j u hj
    rw [hb.cell (p := ad.add j) (World.block_lt_of_cell? w _ h1)]
    exact h1
theorem rowOut_own {w : World} {base n : Nat} {e : TypeId} {v : Value} {ys : List Int} (h : w.ownsRow base e 1 v n (VI ys)) (hn : n = ys.length) : RowOut (fun k => k < base) w v ys := by
  subst hn
  rcases h.2 with ⟨rfl, hx⟩ | ⟨g, cap, cur, rfl, hg, hcell, hnc, hcm, hs, htk⟩
  · have : ys = [] := by simpa using hx
    subst this
    exact rowOut_nil _ _
  · refine ⟨_, cap, rfl, hnc, hcm, .inr ⟨g, 0, rfl, (Array.getElem?_eq_some_iff.1 hcell).1, by omega, fun i x hx => ?_⟩⟩
    have c1 := h.cells (g := g) rfl i (.int .i64 x) (by rw [List.getElem?_map, hx]; rfl)
    rw [Addr.add_lit] at c1
    exact c1

set_option maxHeartbeats 16000000 in
set_option maxRecDepth 100000 in
theorem walk_RingPlays (m : Int) (A : Option Addr) (len cap : Nat) (ps : Nat → Int × Int) (w : World) (m1 : -9223372036854775808 ≤ m) (m2 : m ≤ 9223372036854775807) (h : PairRow w A len ps) :
    Calls Try.prog 8 #[.int .i64 m, .slice A len cap] w fun e w' => e = .returned (.bool true) ∧ Below w.heap.size w w' := by
  have hlen := h.1
  unfold maxLen at hlen
  have H := Lib.hid h
  clear h
  go_enter Try.func8, Try.ntmps8
  go_upto_region 3 with (go_at_call 28; refine (ring_awake _).mono ?_; rintro e w1 ⟨rfl, hb1⟩; have HB1 := Lib.hid hb1; clear hb1)
  go_cut [0] (fun s0 w => ∃ a : Int, -2 ≤ a ∧ a ≤ 5000 ∧ s0 = .int .i64 a ∧ w = w1)
  case first =>
    go_wp2_with fail
    all_goals (go_meet; exact ⟨_, by omega, by omega, rfl, rfl⟩)
  case rest =>
    obtain ⟨a, ha1, ha2, rfl, rfl⟩ := hcut
    obtain ⟨M, hM1, hM⟩ : ∃ M : Nat, M ≤ 4096 ∧ ((a < 0 ∧ M = 0) ∨ (4096 < a ∧ M = 4096) ∨ (a = M ∧ M ≤ 4096)) := by
      by_cases h1 : a < 0
      · exact ⟨0, by omega, .inl ⟨h1, rfl⟩⟩
      · by_cases h2 : 4096 < a
        · exact ⟨4096, by omega, .inr (.inl ⟨h2, rfl⟩)⟩
        · exact ⟨a.toNat, by omega, .inr (.inr ⟨by omega, by omega⟩)⟩
    have HM := Lib.hid hM
    clear hM
    obtain ⟨wa, rfl⟩ : ∃ wa, wa = wc := ⟨_, rfl⟩
    go_upto_region 7 with (go_at_call 29; refine (s_new wa a M HM.out (by omega) (by omega)).mono ?_; rintro e w2 ⟨r, rfl, hs⟩; have HS := Lib.hid hs; clear hs)
    go_cut [0] (fun s0 w => s0 = .int .i64 (M : Int) ∧ w = w2)
    case first =>
      go_wp2_with fail
      all_goals (go_meet; have hM := HM.out; exact ⟨by congr 1; omega, rfl⟩)
    case rest =>
      obtain ⟨rfl, hw⟩ := hcut
      subst hw
      have HT0 := Lib.hid (Two.start (xs := []) HS.out)
      clear HS HM
      go_wp2_with fail
      go_loopw [6, 7] (fun v i wr => ∃ (k : Nat) (xs : List Int), k ≤ 120 ∧ i = .int .i64 k ∧ Hid (Two wa wr r M xs [(v, xs)])) (fun _ i _ => 120 - (intOf i).toNat)
      case atStart => exact ⟨0, [], by omega, rfl, HT0⟩
      case round =>
        obtain ⟨k, xs, hk, rfl, HT⟩ := hrel
        by_cases hlt : k < len ∧ k < 120
        · obtain ⟨hlt, hlt2⟩ := hlt
          have hd120 : decide ((k : Int) < 120) = true := by simp; omega
          obtain ⟨b, off, rfl, hbl, hc0, hc1, hb0, hb1, hb2, hb3⟩ := (H.out.below (HB1.out.trans (HT.out.bel.mono HB1.out.size))).get hlt
          generalize hkind : (ps k).1 = kind at *
          generalize hnum : (ps k).2 = num at *
          obtain ⟨A', cap', hv, hv1, hv2, hv3⟩ := HT.out.form (ys := xs) List.mem_cons_self
          subst hv
          clear hkind hnum HT0
          obtain ⟨wo, rfl⟩ : ∃ wo, wo = wr := ⟨_, rfl⟩
          have HTL := Lib.hid (HT.out.add (outs := [(.slice A' xs.length cap', xs)]) ((Below.refl _ wo).alloc (Nat.le_refl _) _) (pairOut (t := 49) (x := kind) (y := num)))
          have hxs := HT.out.le
          have HV3 := Lib.hid hv3
          unfold maxLen at hv2
          clear HT hv3
          go_upto_block 2 with fail
          clear hc0 hc1
          generalize wo.alloc (.cells #[.int .i64 kind, .int .i64 num] 49) = W at *
          generalize wo.heap.size = g at *
          obtain ⟨hl0, hl1⟩ := HTL.out.pair (g := g) List.mem_cons_self
          have HB0 := Lib.hid (HB1.out.trans (HTL.out.bel.mono HB1.out.size))
          go_cut [6] (fun s6 w' => ∃ ys, Hid (Two wa w' r M ys [(s6, ys)]))
          case first =>
            by_cases hk1 : kind = 1
            · subst hk1
              as_aux_lemma =>
                cases xs with
                | nil =>
                  go_wp2_with fail
                  refine (s_firstNo HTL.out.sess).mono ?_
                  rintro e w3 ⟨rfl, rfl⟩
                  go_wp2_with fail
                  refine (s_takeNo HTL.out.sess).mono ?_
                  rintro e w4 ⟨rfl, rfl⟩
                  go_wp2_with fail
                  exact ⟨⟨k + 1, [], by omega, by go_num, HTL.out.sub (by simp)⟩, by simp [intOf]; omega⟩
                | cons x xs =>
                  rw [List.length_cons] at *
                  go_wp2_with fail
                  refine (s_firstYes HTL.out.sess).mono ?_
                  rintro e w3 ⟨rfl, q, rfl⟩
                  have H3 := Lib.hid (HTL.out.drewN q)
                  clear hl0 hl1
                  obtain ⟨hl0, hl1⟩ := H3.out.pair (g := g) List.mem_cons_self
                  go_wp2_with fail
                  refine (t_takeYes H3.out).mono ?_
                  rintro e w4 ⟨rfl, h4⟩
                  have H4 := Lib.hid h4
                  clear h4 hl0 hl1
                  obtain ⟨hl0, hl1⟩ := H4.out.pair (g := g) List.mem_cons_self
                  obtain ⟨A9, cap9, hv9, _, _, hc9⟩ := H4.out.form (v := .slice A' (xs.length + 1) cap') (ys := x :: xs) (by simp)
                  obtain ⟨bx, ox, hA9, c0⟩ : ∃ bx ox, A' = some ⟨bx, ox, none⟩ ∧ w4.cell? ⟨bx, ox, none⟩ = some (.int .i64 x) := by
                    rw [Value.slice.injEq] at hv9
                    obtain ⟨rfl, _, _⟩ := hv9
                    rcases hc9 with h | ⟨b, o, e, h⟩
                    · cases h
                    · exact ⟨b, o, e, h 0 x rfl⟩
                  subst hA9
                  clear hv9 hc9
                  go_wp2_with fail
                  all_goals go_meet
                  all_goals first | exact ⟨xs, two_tail H4.out (List.mem_cons_of_mem _ List.mem_cons_self) bx ox rfl (some ⟨bx, ox + 1, none⟩) (.inr rfl)⟩ | (obtain rfl : cap' = 1 := (by omega); exact ⟨xs, two_tail H4.out (List.mem_cons_of_mem _ List.mem_cons_self) bx ox rfl (some ⟨bx, ox, none⟩) (.inl (List.eq_nil_of_length_eq_zero (by omega)))⟩)
            · have hq1 : (kind == 1) = false := by rw [beq_eq_false_iff_ne]; exact hk1
              by_cases hk2 : kind = 2
              · subst hk2
                as_aux_lemma =>
                  cases xs with
                  | nil =>
                    go_wp2_with fail
                    refine (s_firstNo HTL.out.sess).mono ?_
                    rintro e w3 ⟨rfl, rfl⟩
                    go_wp2_with fail
                    exact ⟨⟨k + 1, [], by omega, by go_num, HTL.out.sub (by simp)⟩, by simp [intOf]; omega⟩
                  | cons x xs =>
                    rw [List.length_cons] at *
                    go_wp2_with fail
                    refine (s_firstYes HTL.out.sess).mono ?_
                    rintro e w3 ⟨rfl, q, rfl⟩
                    have H3 := Lib.hid (HTL.out.drewN q)
                    clear hl0 hl1
                    obtain ⟨hl0, hl1⟩ := H3.out.pair (g := g) List.mem_cons_self
                    obtain ⟨A9, cap9, hv9, _, _, hc9⟩ := H3.out.form (v := .slice A' (xs.length + 1) cap') (ys := x :: xs) (by simp)
                    obtain ⟨bx, ox, hA9, c0⟩ : ∃ bx ox, A' = some ⟨bx, ox, none⟩ ∧ (W.drewN q).cell? ⟨bx, ox, none⟩ = some (.int .i64 x) := by
                      rw [Value.slice.injEq] at hv9
                      obtain ⟨rfl, _, _⟩ := hv9
                      rcases hc9 with h | ⟨b, o, e, h⟩
                      · cases h
                      · exact ⟨b, o, e, h 0 x rfl⟩
                    subst hA9
                    clear hv9 hc9
                    go_wp2_with fail
                    go_meet
                    exact ⟨x :: xs, H3.out.sub (by simp)⟩
              · have hq2 : (kind == 2) = false := by rw [beq_eq_false_iff_ne]; exact hk2
                by_cases hk3 : kind = 3
                · subst hk3
                  as_aux_lemma =>
                    by_cases hin : 0 ≤ num ∧ num < (xs.length : Int)
                    · obtain ⟨n, rfl⟩ : ∃ n : Nat, num = n := ⟨num.toNat, by omega⟩
                      have hn : n < xs.length := by omega
                      have ex := List.getElem?_eq_getElem hn
                      generalize xs[n] = x at *
                      have hv0 : (VI xs)[n]? = some (.int .i64 x) := by rw [List.getElem?_map, ex]; rfl
                      go_wp2_with fail
                      refine (s_atYes HTL.out.sess hv0).mono ?_
                      rintro e w3 ⟨rfl, q, rfl⟩
                      have H3 := Lib.hid (HTL.out.drewN q)
                      clear hl0 hl1 hv0
                      obtain ⟨hl0, hl1⟩ := H3.out.pair (g := g) List.mem_cons_self
                      obtain ⟨A9, cap9, hv9, _, _, hc9⟩ := H3.out.form (v := .slice A' xs.length cap') (ys := xs) (by simp)
                      obtain ⟨bx, ox, hA9, c0⟩ : ∃ bx ox, A' = some ⟨bx, ox, none⟩ ∧ (W.drewN q).cell? ⟨bx, ox + n, none⟩ = some (.int .i64 x) := by
                        rw [Value.slice.injEq] at hv9
                        obtain ⟨rfl, _, _⟩ := hv9
                        rcases hc9 with h | ⟨b, o, e, h⟩
                        · rw [h] at hn; simp at hn
                        · exact ⟨b, o, e, h n x ex⟩
                      subst hA9
                      clear hv9 hc9 ex
                      have hn2 : (n : Int) < (xs.length : Int) := by omega
                      have hn3 : (0 : Int) ≤ (n : Int) := by omega
                      go_wp2_with fail
                      all_goals go_meet
                      all_goals exact ⟨xs, H3.out.sub (by simp)⟩
                    · have hin2 : num < 0 ∨ (xs.length : Int) ≤ num := by omega
                      have hdin : (decide (0 ≤ num) && decide (num < (xs.length : Int))) = false := by simp; omega
                      go_wp2_with fail
                      refine (s_atNo HTL.out.sess num (by rw [List.length_map]; exact hin2) hb2 hb3).mono ?_
                      rintro e w3 ⟨rfl, rfl⟩
                      go_wp2_with fail
                      all_goals go_meet
                      all_goals exact ⟨xs, HTL.out.sub (by simp)⟩
                · have hq3 : (kind == 3) = false := by rw [beq_eq_false_iff_ne]; exact hk3
                  by_cases hk4 : kind = 4
                  · subst hk4
                    as_aux_lemma =>
                      clear hk1 hk2 hk3 hq1 hq2 hq3
                      go_wp2_with fail
                      refine (t_clear HTL.out (by omega)).mono ?_
                      rintro e w3 ⟨u, rfl, hu, h3⟩
                      have HU := Lib.hid hu
                      have H3 := Lib.hid h3
                      clear hu h3
                      go_wp2_with fail
                      refine (ref_same u _ xs xs w3 HU.out (H3.out.row (by simp) (by omega))).mono ?_
                      rintro e w4 ⟨rfl, q, rfl⟩
                      rw [show sameB xs xs = true by simp [sameB]]
                      have H4 := Lib.hid (H3.out.drewN q).nil
                      go_wp2_with fail
                      go_meet
                      exact ⟨[], H4⟩
                  · have hq4 : (kind == 4) = false := by rw [beq_eq_false_iff_ne]; exact hk4
                    by_cases hk5 : kind = 5
                    · subst hk5
                      as_aux_lemma =>
                        go_wp2_with fail
                        refine (s_clone HTL.out.sess).mono ?_
                        rintro e w3 ⟨c, rfl, hc⟩
                        have HC := Lib.hid hc
                        have H3 := Lib.hid (HTL.out.below hc.bel)
                        clear hc hl0 hl1
                        go_wp2_with fail
                        refine (t_all HC.out (by omega)).mono ?_
                        rintro e w4 ⟨u, rfl, hu, hb4⟩
                        have HU := Lib.hid hu
                        have HC4 := Lib.hid (HC.out.below hb4)
                        have H4 := Lib.hid (H3.out.below hb4)
                        clear hu hb4 H3 HC
                        go_wp2_with fail
                        refine (ref_same u _ xs xs w4 HU.out (H4.out.row (by simp) (by omega))).mono ?_
                        rintro e w5 ⟨rfl, q, rfl⟩
                        rw [show sameB xs xs = true by simp [sameB]]
                        have HC5 := Lib.hid (HC4.out.drewN q)
                        clear HC4 H4 HU
                        generalize w4.drewN q = w5 at *
                        go_wp2_with fail
                        refine (s_most HC5.out).mono ?_
                        rintro e w6 ⟨rfl, rfl⟩
                        cases xs with
                        | nil =>
                          go_wp2_with fail
                          refine (s_takeNo HC5.out).mono ?_
                          rintro e w6 ⟨rfl, rfl⟩
                          by_cases hM0 : M = 0
                          · subst hM0
                            go_wp2_with fail
                            refine (s_putNo HC5.out rfl 9).mono ?_
                            rintro e w7 ⟨rfl, h7⟩
                            have H7 := Lib.hid h7
                            clear h7
                            go_wp2_with fail
                            go_meet
                            exact ⟨[], (HTL.out.below H7.out.bel).sub (by simp)⟩
                          · go_wp2_with fail
                            refine (s_putYes HC5.out (by show 0 < M; omega) 9).mono ?_
                            rintro e w7 ⟨rfl, h7⟩
                            have H7 := Lib.hid h7
                            clear h7
                            go_wp2_with fail
                            go_meet
                            exact ⟨[], (HTL.out.below H7.out.bel).sub (by simp)⟩
                        | cons x xs =>
                          rw [List.length_cons] at *
                          go_wp2_with fail
                          refine (s_takeYes HC5.out).mono ?_
                          rintro e w6 ⟨rfl, h6⟩
                          have H6 := Lib.hid h6
                          clear h6
                          go_wp2_with fail
                          refine (s_putYes H6.out (by rw [List.length_map]; omega) 9).mono ?_
                          rintro e w7 ⟨rfl, h7⟩
                          have H7 := Lib.hid h7
                          clear h7
                          go_wp2_with fail
                          go_meet
                          exact ⟨x :: xs, (HTL.out.below H7.out.bel).sub (by simp)⟩
                    · have hq5 : (kind == 5) = false := by rw [beq_eq_false_iff_ne]; exact hk5
                      by_cases hroom : xs.length < M
                      · have hri : (xs.length : Int) < (M : Int) := by omega
                        as_aux_lemma =>
                          go_wp2_with fail
                          refine (t_putYes HTL.out hroom num).mono ?_
                          rintro e w3 ⟨rfl, h3⟩
                          have H3 := Lib.hid h3
                          clear hl0 hl1 h3
                          obtain ⟨hl0, hl1⟩ := H3.out.pair (g := g) List.mem_cons_self
                          go_wp2_with fail
                          obtain ⟨i0, hi, hz0, hz1, hz2⟩ := info_parts infoInt
                          have Hi := Lib.hid hi
                          have Hz0 := Lib.hid hz0
                          have Hz1 := Lib.hid hz1
                          have Hz2 := Lib.hid hz2
                          clear hi hz0 hz1 hz2 hl0
                          have hxl := H3.out.le
                          rw [List.length_append, List.length_singleton] at hxl
                          obtain ⟨A9, cap9, hv9, _, _, hc9⟩ := H3.out.form (v := .slice A' xs.length cap') (ys := xs) (by simp)
                          rw [Value.slice.injEq] at hv9
                          obtain ⟨rfl, _, rfl⟩ := hv9
                          have HC9 := Lib.hid hc9
                          clear hc9
                          obtain ⟨h0n, hsrc⟩ := row_srcs HC9.out
                          have hgl : g < w3.heap.size := World.block_lt_of_cell? w3 ⟨g, 1, none⟩ hl1
                          have HSRC := Lib.hid hsrc
                          have H0N := Lib.hid h0n
                          have hb0 := Below.refl w3.heap.size w3
                          clear hsrc h0n
                          go_region_held3 (fun w' => w'.cell? ⟨g, 1, none⟩ = some (.int .i64 num))
                            (first | go_keep | (rw [HB5.out.cell (p := ⟨g, 1, none⟩) hgl]; exact hl1) | (rw [HB6.out.cell (p := ⟨g, 1, none⟩) hgl]; exact hl1))
                            (first
                              | (refine step_append_src _ rfl (.tmp 67) (.tmp 70) 24 rfl w3.heap.size 3 i0 (.int .i64 0) 1 8 Try.underlying24 Hi.out Hz0.out Hz1.out Hz2.out rfl (by decide) v5 (0 + xs.length) ([] ++ VI xs) (by rfl) (by repeat (with_reducible first | exact HO5.out | refine World.ownsRow.drew ?_ | refine World.ownsRow.alloc ?_ _)) (some ⟨_, 0, none⟩) 1 1 [.int .i64 num] (by rfl) rfl (fun h => by cases h) (one_src (by first | (simp; done) | (exact HG5.out.cell (by simp; done) (by simp [Value.ownBlock])))) (fun u hu => by simp at hu; subst hu; rfl) (by unfold maxLen; omega) (by omega) (by first | omega | (simp; omega)) ?_
                                 intro v6 w6 hown6 hg6 _
                                 have HO6 := Lib.hid hown6
                                 have HB6 := Lib.hid (Below.grown (show Below w3.heap.size w3 _ by repeat (with_reducible first | exact HB5.out | refine Below.drew ?_ | refine Below.alloc ?_ (by first | (simp; done) | omega | (simp; omega)) _)) hg6 (by first | omega | (simp; omega)) (fun j hj => (HO5.out.lt j hj).1))
                                 clear hown6 hg6)
                              | (refine step_append_src _ rfl (.tmp 65) (.tmp 66) 24 rfl w3.heap.size 3 i0 (.int .i64 0) 1 8 Try.underlying24 Hi.out Hz0.out Hz1.out Hz2.out rfl (by decide) (.slice (some ⟨w3.heap.size, 0, none⟩) 0 0) 0 [] (by rfl) (by repeat (with_reducible first | exact own_lit0 _ _ _ _ (by first | (simp; done) | (simp; omega)) (by first | rfl | (simp; done)) | refine World.ownsRow.drew ?_ | refine World.ownsRow.alloc ?_ _)) A' xs.length cap' (VI xs) rfl (by simp) H0N.out (HSRC.out _ (by repeat (with_reducible first | exact hb0 | refine Below.drew ?_ | refine Below.alloc ?_ (by first | (simp; done) | (simp; omega)) _))) (fun u hu => by rw [List.mem_map] at hu; obtain ⟨_, _, rfl⟩ := hu; rfl) (by unfold maxLen; omega) (by omega) (by first | (simp; done) | (simp; omega)) ?_
                                 intro v5 w5 hown5 hg5 _
                                 have HB5 := Lib.hid (Below.grown (show Below w3.heap.size w3 _ by repeat (with_reducible first | exact hb0 | refine Below.drew ?_ | refine Below.alloc ?_ (by first | (simp; done) | (simp; omega)) _)) hg5 (by first | (simp; done) | (simp; omega)) (fun j hj => by simp [Value.ownBlock] at hj; first | omega | (subst hj; simp; done) | omega))
                                 have HO5 := Lib.hid hown5
                                 have HS5 := HB5.out.size
                                 have HG5 := Lib.hid hg5
                                 clear hown5 hg5)
                              | (refine step_append_src _ rfl (.tmp 65) (.tmp 66) 24 rfl w3.heap.size 3 i0 (.int .i64 0) 1 8 Try.underlying24 Hi.out Hz0.out Hz1.out Hz2.out rfl (by decide) (.slice (some ⟨w3.heap.size + 1, 0, none⟩) 0 0) 0 [] (by first | rfl | (simp [Act.eval, Act.put]; done)) (by repeat (with_reducible first | exact own_lit0 _ _ _ _ (by first | (simp; done) | (simp; omega)) (by first | rfl | (simp; done)) | refine World.ownsRow.drew ?_ | refine World.ownsRow.alloc ?_ _)) A' xs.length cap' (VI xs) rfl (by simp) H0N.out (HSRC.out _ (by repeat (with_reducible first | exact hb0 | refine Below.drew ?_ | refine Below.alloc ?_ (by first | (simp; done) | (simp; omega)) _))) (fun u hu => by rw [List.mem_map] at hu; obtain ⟨_, _, rfl⟩ := hu; rfl) (by unfold maxLen; omega) (by omega) (by first | (simp; done) | (simp; omega)) ?_
                                 intro v5 w5 hown5 hg5 _
                                 have HB5 := Lib.hid (Below.grown (show Below w3.heap.size w3 _ by repeat (with_reducible first | exact hb0 | refine Below.drew ?_ | refine Below.alloc ?_ (by first | (simp; done) | (simp; omega)) _)) hg5 (by first | (simp; done) | (simp; omega)) (fun j hj => by simp [Value.ownBlock] at hj; first | omega | (subst hj; simp; done) | omega))
                                 have HO5 := Lib.hid hown5
                                 have HS5 := HB5.out.size
                                 have HG5 := Lib.hid hg5
                                 clear hown5 hg5))
                          all_goals go_wp2_with fail
                          all_goals go_meet
                          all_goals exact ⟨xs ++ [num], (H3.out.add HB6.out (u := v6) (zs := xs ++ [num]) (rowOut_own (ys := xs ++ [num]) (by simpa using HO6.out) (by simp))).sub (by simp)⟩
                      · have hri : ¬ (xs.length : Int) < (M : Int) := by omega
                        as_aux_lemma =>
                          go_wp2_with fail
                          refine (t_putNo HTL.out (by omega) num).mono ?_
                          rintro e w3 ⟨rfl, h3⟩
                          have H3 := Lib.hid h3
                          clear h3
                          go_wp2_with fail
                          go_meet
                          exact ⟨xs, H3.out.sub (by simp)⟩
          case rest =>
            as_aux_lemma =>
              obtain ⟨ys, HTY⟩ := hcut
              clear HTL
              obtain ⟨w2, rfl⟩ : ∃ w2, w2 = wc := ⟨_, rfl⟩
              obtain ⟨A2, cap2, hv, hy1, hy2, hy3⟩ := HTY.out.form (ys := ys) List.mem_cons_self
              subst hv
              have hys := HTY.out.le
              clear hy3
              go_wp2_with fail
              refine (t_all HTY.out.sess (by omega)).mono ?_
              rintro e w3 ⟨u, rfl, hu, hb3⟩
              have HU := Lib.hid hu
              have H3 := Lib.hid (HTY.out.below hb3)
              clear hu hb3
              go_wp2_with fail
              refine (ref_same u _ ys ys w3 HU.out (H3.out.row (by simp) (by omega))).mono ?_
              rintro e w4 ⟨rfl, q, rfl⟩
              rw [show sameB ys ys = true by simp [sameB]]
              have H4 := Lib.hid (H3.out.drewN q)
              clear H3 HU
              generalize w3.drewN q = w4 at *
              go_wp2_with fail
              refine (s_len H4.out.sess).mono ?_
              rintro e w5 ⟨rfl, rfl⟩
              rw [List.length_map]
              go_wp2_with fail
              refine (s_room H4.out.sess).mono ?_
              rintro e w5 ⟨rfl, q5, rfl⟩
              rw [List.length_map, show (((M - ys.length : Nat)) : Int) = (M : Int) - (ys.length : Int) by omega]
              have H5 := Lib.hid (H4.out.drewN q5)
              clear H4
              generalize w4.drewN q5 = w5 at *
              go_wp2_with fail
              refine (s_most H5.out.sess).mono ?_
              rintro e w6 ⟨rfl, rfl⟩
              go_wp2_with fail
              go_roundw
              case rel => exact ⟨k + 1, ys, by omega, by go_num, H5⟩
              case measure => simp [intOf]; omega
        · by_cases hl1 : k < len
          · have hl2 : ¬ k < 120 := fun h => hlt ⟨hl1, h⟩
            clear hlt
            go_wp2_with fail
            go_ret
            exact ⟨rfl, HB1.out.trans (HT.out.bel.mono HB1.out.size)⟩
          · clear hlt
            go_wp2_with fail
            go_ret
            exact ⟨rfl, HB1.out.trans (HT.out.bel.mono HB1.out.size)⟩
end Go.Proofs.Ytcdfjhbciknfkaa.int
