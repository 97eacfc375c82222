/- Package recv's Data. Conditions: the receiver is the law's own, its numbers are small. -/
import Derived.Test.YtgfdgcpbmjhmmaaRecvDlv
namespace Go.Proofs.Ytgfdgcpbmjhmmaa
open Go.RowKit Go.Maps Sp
set_option linter.unusedVariables false
variable {w0 w w' : World} {gr mb nb : Nat} {st window next behind most : Int} {bs : List (Int × ByteArray)} {inV unV : Value} {ib : List ByteArray} {un : List Span}

theorem infoGap : (Try.prog.info? 59).map (fun i => (i.zero, i.size, i.bytes)) = some (some (.agg #[.int .i64 0, .int .i64 0]), 2, 16) := by kernel_rfl
theorem two_srcR {w : World} {b : Nat} {x y : Value} (h : w.cell? ⟨b, 0, none⟩ = some x ∧ w.cell? ⟨b, 1, none⟩ = some y) : ∀ ad, some (⟨b, 0, none⟩ : Addr) = some ad → ∀ j u, [x, y][j]? = some u → w.cell? (ad.add j) = some u := by
  intro ad e j u hj
  injection e with e
  subst e
  match j, hj with
  | 0, hj => simp at hj; subst hj; exact h.1
  | 1, hj => simp at hj; subst hj; exact h.2
theorem two_newR (w : World) (x y : Value) (t : TypeId) : (w.alloc (.cells #[x, y] t)).cell? ⟨w.heap.size, 0, none⟩ = some x ∧ (w.alloc (.cells #[x, y] t)).cell? ⟨w.heap.size, 1, none⟩ = some y := by
  constructor
  · rw [rblk_cell (heap_alloc_new w (.cells #[x, y] t)) 0]; rfl
  · rw [rblk_cell (heap_alloc_new w (.cells #[x, y] t)) 1]; rfl
theorem gapCells_len (s : List Span) : (gapCells s).length = s.length * 2 := by
  unfold gapCells
  induction s with
  | nil => rfl
  | cons a r ih => rw [List.flatMap_cons, List.length_append, ih]; simp; omega
theorem gapCells_snoc (s : List Span) (a b : Int) : gapCells (s ++ [(a, b)]) = gapCells s ++ [.int .i64 a, .int .i64 b] := by simp [gapCells]
/-- The place of a number. -/
def placeOf (st next x : Int) : Int := next + (x - (st + next) % 16777216) % 16777216

set_option maxHeartbeats 4000000 in
set_option maxRecDepth 100000 in
theorem rcv_dataNo (h : RcvAt w0 w gr mb st window next behind most bs nb inV ib unV un) (hs : 0 ≤ st ∧ st < 4294967296) (hn : 0 ≤ next ∧ next ≤ 1000000) (x : Int) (hx : 0 ≤ x ∧ x < 4294967296) (m : ByteArray) (hno : placeOf st next x ∈ bs.map (·.1) ∨ most ≤ placeOf st next x) :
    Calls Try.prog 11 #[.pointer (some ⟨gr, 0, none⟩), .int .u32 x, .string m] w fun e w' => e = .returned (.slice none 0 0) ∧ RcvAt w0 w' gr mb st window next behind most bs nb inV ib unV un ∧ Below w.heap.size w w' := by
  have HP := Lib.hid (rcv_place h.cells hs (by omega) x hx)
  have H := Lib.hid h
  have hat : 0 ≤ placeOf st next x ∧ placeOf st next x ≤ 17777216 := by unfold placeOf; omega
  change Hid (Calls Try.prog 21 #[.pointer (some ⟨gr, 0, none⟩), .int .u32 x] w fun e w' => e = .returned (.int .i64 (placeOf st next x)) ∧ ∃ q, w' = w.drewN q) at HP
  generalize placeOf st next x = p at *
  clear h
  go_enter Try.func11, Try.ntmps11
  go_wp2_with fail
  refine HP.out.mono ?_
  rintro e w1 ⟨rfl, qq, rfl⟩
  have H1 := Lib.hid (H.out.drewN qq)
  have HB1 : Hid (Below w.heap.size w (w.drewN qq)) := ⟨rfl, rfl, rfl, Nat.le_refl _, fun _ _ => rfl⟩
  clear H HP
  generalize w.drewN qq = w1 at *
  have c5 := H1.out.cells.c5
  have l1 := H1.out.buf.look p (by omega)
  go_upto_region 3 with fail
  have hb2 := (Below.refl w1.heap.size w1).alloc (Nat.le_refl _) (.cells #[.string (pick bs p)] 56)
  have H2 := Lib.hid (H1.out.below hb2)
  have HB2 := Lib.hid (HB1.out.trans (hb2.mono HB1.out.size))
  clear hb2 H1 HB1 c5 l1
  generalize w1.alloc (.cells #[.string (pick bs p)] 56) = w2 at *
  have c4 := H2.out.cells.c4
  by_cases hin : p ∈ bs.map (·.1)
  · have d1 : decide (p ∈ bs.map (·.1)) = true := decide_eq_true hin
    clear hin hno
    go_wp2_with fail
    go_ret
    exact ⟨rfl, H2.out, HB2.out⟩
  · have d1 : decide (p ∈ bs.map (·.1)) = false := decide_eq_false hin
    have d2 : decide (most ≤ p) = true := decide_eq_true (hno.resolve_left hin)
    have hle := hno.resolve_left hin
    clear hin hno
    go_wp2_with fail
    go_ret
    exact ⟨rfl, H2.out, HB2.out⟩

theorem rrow_base {w : World} {base base' size n : Nat} {e : TypeId} {v : Value} {xs : List Value} (h : w.ownsRow base e size v n xs) (hb : base' ≤ base) : w.ownsRow base' e size v n xs := by
  refine ⟨h.1, ?_⟩
  rcases h.2 with hn | ⟨g, cap, cur, rfl, hb', rest⟩
  · exact .inl hn
  · exact .inr ⟨g, cap, cur, rfl, Nat.le_trans hb hb', rest⟩
def unNext (un : List Span) (behind p : Int) : List Span := if behind < p ∧ un.length < 8 then un ++ [(behind, p)] else un
set_option maxHeartbeats 8000000 in
set_option maxRecDepth 100000 in
theorem rcv_dataYes (h : RcvAt w0 w gr mb st window next behind most bs nb inV ib unV un) (hs : 0 ≤ st ∧ st < 4294967296) (hn : 0 ≤ next ∧ next ≤ 1000000) (x : Int) (hx : 0 ≤ x ∧ x < 4294967296) (m : ByteArray) (hl : bs.length ≤ 900) (hi : ib.length ≤ 1000) (hu : un.length ≤ 100) (hbh : 0 ≤ behind ∧ behind ≤ 17777216) (hnb : nb ≤ 1000000)
    (h1 : ¬ placeOf st next x ∈ bs.map (·.1)) (h2 : placeOf st next x < most) :
    Calls Try.prog 11 #[.pointer (some ⟨gr, 0, none⟩), .int .u32 x, .string m] w fun e w' => ∃ v bs' next' out inV' unV', e = .returned v ∧ w'.ownsRow w0.heap.size 9 1 v out.length (out.map Value.string) ∧ DlvTo (bs ++ [(placeOf st next x, m)]) next bs' next' out ∧ ¬ next' ∈ bs'.map (·.1) ∧ RcvAt w0 w' gr mb st window next' (max behind (placeOf st next x + 1)) most bs' (nb + 1) inV' (ib ++ out) unV' (unNext un behind (placeOf st next x)) ∧ RCh w w' (Mine gr mb inV unV) (Mine gr mb inV' unV') := by
  obtain ⟨Au, cu, rfl⟩ := ownForm h.unt
  obtain ⟨i1, hi1, hg0, hg1, hg2⟩ := rinfo_parts infoGap
  have Hi1 := Lib.hid hi1
  have Hg0 := Lib.hid hg0
  have Hg1 := Lib.hid hg1
  have Hg2 := Lib.hid hg2
  clear hi1 hg0 hg1 hg2
  have HP := Lib.hid (rcv_place h.cells hs (by omega) x hx)
  have H := Lib.hid h
  have hat : 0 ≤ placeOf st next x ∧ placeOf st next x ≤ 17777216 := by unfold placeOf; omega
  change Hid (Calls Try.prog 21 #[.pointer (some ⟨gr, 0, none⟩), .int .u32 x] w fun e w' => e = .returned (.int .i64 (placeOf st next x)) ∧ ∃ q, w' = w.drewN q) at HP
  generalize placeOf st next x = p at *
  clear h
  go_enter Try.func11, Try.ntmps11
  go_wp2_with fail
  refine HP.out.mono ?_
  rintro e w1 ⟨rfl, qq, rfl⟩
  have H1 := Lib.hid (H.out.drewN qq)
  have HC1 : Hid (RCh w (w.drewN qq) (Mine gr mb inV (.slice Au un.length cu)) (Mine gr mb inV (.slice Au un.length cu))) := (RCh.refl _ _).below ⟨rfl, rfl, rfl, Nat.le_refl _, fun _ _ => rfl⟩
  clear HP
  generalize w.drewN qq = w1 at *
  have c5 := H1.out.cells.c5
  have l1 := H1.out.buf.look p (by omega)
  go_upto_region 3 with fail
  have hb2 := (Below.refl w1.heap.size w1).alloc (Nat.le_refl _) (.cells #[.string (pick bs p)] 56)
  have H2 := Lib.hid (H1.out.below hb2)
  have HC2 := Lib.hid (HC1.out.below hb2)
  clear hb2 H1 HC1 c5 l1
  generalize w1.alloc (.cells #[.string (pick bs p)] 56) = w2 at *
  have c4 := H2.out.cells.c4
  have c5 := H2.out.cells.c5
  have d1 : decide (p ∈ bs.map (·.1)) = false := decide_eq_false h1
  have d2 : decide (most ≤ p) = false := decide_eq_false (by omega)
  have HKEY : Hid (keyOf Try.prog 3 (.int .i64 p) = some (.int .i64 p)) := keyOf_int_mk Try.underlying3 (WalkArith.wf_i64 (by omega))
  have HNO := Lib.hid h1
  obtain ⟨D, hD1, hD2⟩ := H2.out.buf
  have HD1 := Lib.hid hD1
  have HD2 := Lib.hid hD2
  clear hD1 hD2 h1
  have hlt2 : ¬ most ≤ p := by omega
  go_upto_region 6 with (at_mapUpdate; refine wpList_mapUpdate_own _ rfl _ _ _ 51 rfl 3 56 rcvKey Try.underlying51 ML.msgElem mb nb _ rfl HD1.out (by unfold maxLen; omega) _ _ _ rfl rfl HKEY.out (ML.msgDat m) [] (ML.msgElem_mk m) ?_; intro w3 hown hgrow; have H3 := Lib.hid (H2.out.mapped (bs' := bs ++ [(p, m)]) ⟨_, hown, HD2.out.put HD1.out.isMap p m HNO.out⟩ (by rw [List.map_append]; exact List.nodup_append.2 ⟨H2.out.nod, by simp, by intro a ha b hb e; simp at hb; subst hb; exact HNO.out (e ▸ ha)⟩) hgrow); have HC3 := Lib.hid (HC2.out.grown hgrow (fun k e => by cases e; exact .inl (.inr (.inl rfl)))); clear hown hgrow)
  clear HD1 HD2 HC2 H2 c4 c5 d1 d2 HKEY hlt2 HNO
  have c3 := H3.out.cells.c3
  have c7 := H3.out.cells.c7
  by_cases hb : behind < p
  · have e1 : decide (behind < p) = true := decide_eq_true hb
    by_cases h8 : un.length < 8
    · have e2 : decide ((un.length : Int) < 8) = true := decide_eq_true (by omega)
      have HUN : Hid (unNext un behind p = un ++ [(behind, p)]) := if_pos ⟨hb, h8⟩
      clear hb
      go_upto_region 7 with fail
      go_cut [64] (fun s64 w' => ∃ (W : World) (unX : Value), W = w' ∧ Hid (RcvAt w0 W gr mb st window next behind most (bs ++ [(p, m)]) (nb + 1) inV ib unX (un ++ [(behind, p)])) ∧ Hid (RCh w W (Mine gr mb inV (.slice Au un.length cu)) (Mine gr mb inV unX)))
      case first =>
        have f7 := H3.out.cells.f 7
        have hlow := H3.out.lts
        have d3 := (H3.out.alloc (.cells #[.int .i64 behind, .int .i64 p] 59)).cells.c3
        have d7 := (H3.out.alloc (.cells #[.int .i64 behind, .int .i64 p] 59)).cells.c7
        go_region_law (first
          | (refine step_append_src _ rfl (.tmp 56) (.tmp 63) 52 rfl w0.heap.size 59 i1 (.agg #[.int .i64 0, .int .i64 0]) 2 16 Try.underlying52 Hi1.out Hg0.out Hg1.out Hg2.out rfl (by decide) (.slice Au un.length cu) un.length (gapCells un) (by rfl) (by repeat (with_reducible first | exact H3.out.unt | refine World.ownsRow.drew ?_ | refine World.ownsRow.alloc ?_ _)) (some ⟨w3.heap.size, 0, none⟩) 1 1 [.int .i64 behind, .int .i64 p] (by rfl) rfl (fun h => by cases h) (by first | exact two_srcR (two_newR w3 _ _ _) | exact two_srcR (two_newR w3.drew _ _ _)) (fun u hu => by simp at hu; rcases hu with rfl | rfl <;> rfl) (by unfold maxLen; omega) (by omega) (by simp; omega) ?_
             intro v5 w5 hown4 hg4 hv5
             obtain ⟨A5, c5, rfl⟩ := ownForm hown4
             have HO5 := Lib.hid hown4
             have HK5 : Hid (w3.grownBy w5 (Value.slice Au un.length cu).ownBlock) := ⟨hg4.os, hg4.tape, hg4.output, Nat.le_trans (by simp) hg4.size, fun k hk hne => (hg4.block k (by simp; omega) hne).trans (by first | exact heap_alloc_old w3 _ k hk | exact heap_alloc_old w3.drew _ k hk)⟩
             have HV5 : Hid ((Value.slice A5 (un.length + 1) c5).ownBlock = (Value.slice Au un.length cu).ownBlock ∨ ∃ b, (Value.slice A5 (un.length + 1) c5).ownBlock = some b ∧ w3.heap.size ≤ b) := hv5.imp id fun e => ⟨_, e, by simp⟩
             have e7 := HK5.out.block gr H3.out.lt (fun e => H3.out.sep.2.2.2.1 e.symm)
             have k7 : w5.cell? ⟨gr, 7, none⟩ = some (.slice Au un.length cu) := (World.cell?_of_block (w := w3) (a := ⟨gr, 7, none⟩) e7).trans c7
             have k8 : w5.frozen? ⟨gr, 7, none⟩ = false := (World.frozen?_of_block (w := w3) (a := ⟨gr, 7, none⟩) e7).trans f7
             clear hown4 hg4 hv5 e7))
        all_goals go_wp2_with fail
        all_goals go_meet
        all_goals
          refine ⟨_, _, rfl, H3.out.gaps (un' := un ++ [(behind, p)]) (by rw [gapCells_snoc, List.length_append]; exact HO5.out) HK5.out HV5.out, ((HC3.out.grown HK5.out (fun k e => .inl (.inr (.inr (.inr e))))).set ⟨gr, 7, none⟩ _ (.inl (.inl rfl))).to fun k hk => ?_⟩
          rcases hk with hk | hk | hk | hk
          · exact .inl (.inl hk)
          · exact .inl (.inr (.inl hk))
          · exact .inl (.inr (.inr (.inl hk)))
          · rcases HV5.out with e | ⟨b, e, hb⟩
            · rw [e] at hk; exact .inl (.inr (.inr (.inr hk)))
            · rw [e] at hk; injection hk with hk; subst hk; exact .inr (Nat.le_trans HC3.out.size hb)
      case rest =>
        obtain ⟨wX, unX, rfl, HX, HCX⟩ := hcut
        obtain ⟨unY, hunY⟩ : ∃ y, y = un ++ [(behind, p)] := ⟨_, rfl⟩
        rw [← hunY] at HX HUN
        clear hunY c3 c7 H3 HC3
        have c3 := HX.out.cells.c3
        have f3 := HX.out.cells.f 3
        have HDL := Lib.hid (fun (bh : Int) W (hW : RcvAt w0 W gr mb st window next bh most (bs ++ [(p, m)]) (nb + 1) inV ib unX unY) => rcv_deliver hW hn (by simp; omega) hi)
        by_cases hmx : behind < p + 1
        · have hm2 : ¬ p + 1 ≤ behind := by omega
          have HMX := Lib.hid (show max behind (p + 1) = p + 1 by omega)
          go_upto_region 9 with fail
          have HY := Lib.hid (HX.out.store 3 (.int .i64 (p + 1)) (behind' := p + 1) rfl)
          have HCY := Lib.hid (HCX.out.set ⟨gr, 3, none⟩ (.int .i64 (p + 1)) (.inl (.inl rfl)))
          clear HX HCX c3 f3 hmx hm2
          generalize wX.setCell ⟨gr, 3, none⟩ (.int .i64 (p + 1)) = wY at *
          go_wp2_with fail
          refine (HDL.out _ _ HY.out).mono ?_
          rintro e wZ ⟨v, bs', next', out, inV', rfl, hov, hdl, hnin, hrz, hcz⟩
          have HOV := Lib.hid (rrow_base hov HY.out.lts)
          have HDZ := Lib.hid hdl
          have HNI := Lib.hid hnin
          have HRZ := Lib.hid hrz
          have HCZ := Lib.hid (HCY.out.trans hcz)
          clear hov hdl hnin hrz hcz
          go_wp2_with fail
          go_ret
          exact ⟨v, bs', next', out, inV', unX, rfl, HOV.out, HDZ.out, HNI.out, by rw [HMX.out, HUN.out]; exact HRZ.out, HCZ.out⟩
        · have hm2 : p + 1 ≤ behind := by omega
          have HMX := Lib.hid (show max behind (p + 1) = behind by omega)
          go_upto_region 9 with fail
          have HY := Lib.hid (HX.out.store 3 (.int .i64 behind) (behind' := behind) rfl)
          have HCY := Lib.hid (HCX.out.set ⟨gr, 3, none⟩ (.int .i64 behind) (.inl (.inl rfl)))
          clear HX HCX c3 f3 hmx hm2
          generalize wX.setCell ⟨gr, 3, none⟩ (.int .i64 behind) = wY at *
          go_wp2_with fail
          refine (HDL.out _ _ HY.out).mono ?_
          rintro e wZ ⟨v, bs', next', out, inV', rfl, hov, hdl, hnin, hrz, hcz⟩
          have HOV := Lib.hid (rrow_base hov HY.out.lts)
          have HDZ := Lib.hid hdl
          have HNI := Lib.hid hnin
          have HRZ := Lib.hid hrz
          have HCZ := Lib.hid (HCY.out.trans hcz)
          clear hov hdl hnin hrz hcz
          go_wp2_with fail
          go_ret
          exact ⟨v, bs', next', out, inV', unX, rfl, HOV.out, HDZ.out, HNI.out, by rw [HMX.out, HUN.out]; exact HRZ.out, HCZ.out⟩
    · have e2 : decide ((un.length : Int) < 8) = false := decide_eq_false (by omega)
      have HUN : Hid (unNext un behind p = un) := if_neg (fun h => h8 h.2)
      clear hb
      have c3 := H3.out.cells.c3
      have f3 := H3.out.cells.f 3
      have HDL := Lib.hid (fun (bh : Int) W (hW : RcvAt w0 W gr mb st window next bh most (bs ++ [(p, m)]) (nb + 1) inV ib (.slice Au un.length cu) un) => rcv_deliver hW hn (by simp; omega) hi)
      by_cases hmx : behind < p + 1
      · have hm2 : ¬ p + 1 ≤ behind := by omega
        have HMX := Lib.hid (show max behind (p + 1) = p + 1 by omega)
        go_upto_region 9 with fail
        have HY := Lib.hid (H3.out.store 3 (.int .i64 (p + 1)) (behind' := p + 1) rfl)
        have HCY := Lib.hid (HC3.out.set ⟨gr, 3, none⟩ (.int .i64 (p + 1)) (.inl (.inl rfl)))
        clear H3 HC3 c3 f3 hmx hm2
        generalize w3.setCell ⟨gr, 3, none⟩ (.int .i64 (p + 1)) = wY at *
        go_wp2_with fail
        refine (HDL.out _ _ HY.out).mono ?_
        rintro e wZ ⟨v, bs', next', out, inV', rfl, hov, hdl, hnin, hrz, hcz⟩
        have HOV := Lib.hid (rrow_base hov HY.out.lts)
        have HDZ := Lib.hid hdl
        have HNI := Lib.hid hnin
        have HRZ := Lib.hid hrz
        have HCZ := Lib.hid (HCY.out.trans hcz)
        clear hov hdl hnin hrz hcz
        go_wp2_with fail
        go_ret
        exact ⟨v, bs', next', out, inV', (.slice Au un.length cu), rfl, HOV.out, HDZ.out, HNI.out, by rw [HMX.out, HUN.out]; exact HRZ.out, HCZ.out⟩
      · have hm2 : p + 1 ≤ behind := by omega
        have HMX := Lib.hid (show max behind (p + 1) = behind by omega)
        go_upto_region 9 with fail
        have HY := Lib.hid (H3.out.store 3 (.int .i64 behind) (behind' := behind) rfl)
        have HCY := Lib.hid (HC3.out.set ⟨gr, 3, none⟩ (.int .i64 behind) (.inl (.inl rfl)))
        clear H3 HC3 c3 f3 hmx hm2
        generalize w3.setCell ⟨gr, 3, none⟩ (.int .i64 behind) = wY at *
        go_wp2_with fail
        refine (HDL.out _ _ HY.out).mono ?_
        rintro e wZ ⟨v, bs', next', out, inV', rfl, hov, hdl, hnin, hrz, hcz⟩
        have HOV := Lib.hid (rrow_base hov HY.out.lts)
        have HDZ := Lib.hid hdl
        have HNI := Lib.hid hnin
        have HRZ := Lib.hid hrz
        have HCZ := Lib.hid (HCY.out.trans hcz)
        clear hov hdl hnin hrz hcz
        go_wp2_with fail
        go_ret
        exact ⟨v, bs', next', out, inV', (.slice Au un.length cu), rfl, HOV.out, HDZ.out, HNI.out, by rw [HMX.out, HUN.out]; exact HRZ.out, HCZ.out⟩
  · have e1 : decide (behind < p) = false := decide_eq_false hb
    have HUN : Hid (unNext un behind p = un) := if_neg (fun h => hb h.1)
    clear hb
    have c3 := H3.out.cells.c3
    have f3 := H3.out.cells.f 3
    have HDL := Lib.hid (fun (bh : Int) W (hW : RcvAt w0 W gr mb st window next bh most (bs ++ [(p, m)]) (nb + 1) inV ib (.slice Au un.length cu) un) => rcv_deliver hW hn (by simp; omega) hi)
    by_cases hmx : behind < p + 1
    · have hm2 : ¬ p + 1 ≤ behind := by omega
      have HMX := Lib.hid (show max behind (p + 1) = p + 1 by omega)
      go_upto_region 9 with fail
      have HY := Lib.hid (H3.out.store 3 (.int .i64 (p + 1)) (behind' := p + 1) rfl)
      have HCY := Lib.hid (HC3.out.set ⟨gr, 3, none⟩ (.int .i64 (p + 1)) (.inl (.inl rfl)))
      clear H3 HC3 c3 f3 hmx hm2
      generalize w3.setCell ⟨gr, 3, none⟩ (.int .i64 (p + 1)) = wY at *
      go_wp2_with fail
      refine (HDL.out _ _ HY.out).mono ?_
      rintro e wZ ⟨v, bs', next', out, inV', rfl, hov, hdl, hnin, hrz, hcz⟩
      have HOV := Lib.hid (rrow_base hov HY.out.lts)
      have HDZ := Lib.hid hdl
      have HNI := Lib.hid hnin
      have HRZ := Lib.hid hrz
      have HCZ := Lib.hid (HCY.out.trans hcz)
      clear hov hdl hnin hrz hcz
      go_wp2_with fail
      go_ret
      exact ⟨v, bs', next', out, inV', (.slice Au un.length cu), rfl, HOV.out, HDZ.out, HNI.out, by rw [HMX.out, HUN.out]; exact HRZ.out, HCZ.out⟩
    · have hm2 : p + 1 ≤ behind := by omega
      have HMX := Lib.hid (show max behind (p + 1) = behind by omega)
      go_upto_region 9 with fail
      have HY := Lib.hid (H3.out.store 3 (.int .i64 behind) (behind' := behind) rfl)
      have HCY := Lib.hid (HC3.out.set ⟨gr, 3, none⟩ (.int .i64 behind) (.inl (.inl rfl)))
      clear H3 HC3 c3 f3 hmx hm2
      generalize w3.setCell ⟨gr, 3, none⟩ (.int .i64 behind) = wY at *
      go_wp2_with fail
      refine (HDL.out _ _ HY.out).mono ?_
      rintro e wZ ⟨v, bs', next', out, inV', rfl, hov, hdl, hnin, hrz, hcz⟩
      have HOV := Lib.hid (rrow_base hov HY.out.lts)
      have HDZ := Lib.hid hdl
      have HNI := Lib.hid hnin
      have HRZ := Lib.hid hrz
      have HCZ := Lib.hid (HCY.out.trans hcz)
      clear hov hdl hnin hrz hcz
      go_wp2_with fail
      go_ret
      exact ⟨v, bs', next', out, inV', (.slice Au un.length cu), rfl, HOV.out, HDZ.out, HNI.out, by rw [HMX.out, HUN.out]; exact HRZ.out, HCZ.out⟩
end Go.Proofs.Ytgfdgcpbmjhmmaa
