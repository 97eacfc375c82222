/- The walk of EventUnlike. Conditions: event's variables and the library's table lie as their initialisers leave them; the data is no longer than texts may be, the numbers of 64 bits, the code a byte. -/
import Derived.Test.YtnocckgbcjienaaDoorEvBare
import Derived.Deep.RegionLaw
namespace Go.Proofs.YtnocckgbcjienaaDoor
open Go.RowKit
set_option linter.unusedVariables false
set_option linter.unusedSimpArgs false

theorem step_store_row {P : Program} {ops : Array Oper} {o : Oper} {a : Act} {w : World} {K : Act → World → Prop} {Q : Exit → Act → World → Prop} {E : Prop} (hgd : o.guard = none) (ty : TypeId) (x y : Operand) (ho : o.op = .store ty x y)
    (g : Nat) (cells : Array Value) (hx : a.eval x = .pointer (some ⟨g, 0, none⟩)) (hy : a.eval y = .agg cells)
    (t : TypeId) (old : Array Value) (hg : w.heap[g]? = some (.cells old t (0, 0))) (hi : (P.info? ty).map (·.size) = some cells.size)
    (hold : old.size = cells.size) (h1 : cells.all (·.oneCell') = true)
    (h : K (a.put o.dst undef) (w.setRow g cells)) : if Region.wanted o (yielded ops a.tmps) = true then Oper.wp P o a w K Q else E := by
  have hw : Region.wanted o (yielded ops a.tmps) = true := by simp [Region.wanted, hgd]
  rw [if_pos hw]
  exact wp_store_row ty x y ho g cells hx hy t old hg hi hold h1 h
theorem bytes_toList {a b : ByteArray} (h : a.toList = b.toList) : a = b := by
  by_cases e : a = b
  · exact e
  · exfalso
    have h2 : (a.toList == b.toList) = false := by rw [toList_eq2]; exact decide_eq_false e
    rw [h] at h2; simp at h2
theorem sbox_row {W : World} {R : Nat} {k n : Int} {d : ByteArray} {se : Bool} {code : Int} (h : W.heap[R]? = some (.cells #[.int .i64 k, .string d, .bool se, .int .u8 code, .int .i64 n] 31 (0, 0))) : SBox W R k n d se code := by
  refine ⟨?_, ?_, ?_, ?_, ?_⟩
  · rw [cell_of_row _ _ 0 _ _ (0, 0) h]; rfl
  · rw [cell_of_row _ _ 1 _ _ (0, 0) h]; rfl
  · rw [cell_of_row _ _ 2 _ _ (0, 0) h]; rfl
  · rw [cell_of_row _ _ 3 _ _ (0, 0) h]; rfl
  · rw [cell_of_row _ _ 4 _ _ (0, 0) h]; rfl
theorem two_sig {w w0 w2 w3 : World} {g : Nat} {ka na : Int} {da : ByteArray} {sea : Bool} {coa : Int} {kb nb : Int} {db : ByteArray} {seb : Bool} {cob : Int} {o o' : Array Value}
    (hg : w.heap.size ≤ g) (h0 : Below w.heap.size w w0) (hlt : g + 1 < w0.heap.size) (hb2 : Below w0.heap.size w0 w2) (hb3 : Below w2.heap.size w2 w3)
    (ho : w0.heap[g]? = some (.cells o 31 (0, 0))) (ho' : w0.heap[g + 1]? = some (.cells o' 31 (0, 0))) :
    SBox ((w3.setRow g #[.int .i64 ka, .string da, .bool sea, .int .u8 coa, .int .i64 na]).setRow (g + 1) #[.int .i64 kb, .string db, .bool seb, .int .u8 cob, .int .i64 nb]) g ka na da sea coa ∧ SBox ((w3.setRow g #[.int .i64 ka, .string da, .bool sea, .int .u8 coa, .int .i64 na]).setRow (g + 1) #[.int .i64 kb, .string db, .bool seb, .int .u8 cob, .int .i64 nb]) (g + 1) kb nb db seb cob ∧ Below w.heap.size w ((w3.setRow g #[.int .i64 ka, .string da, .bool sea, .int .u8 coa, .int .i64 na]).setRow (g + 1) #[.int .i64 kb, .string db, .bool seb, .int .u8 cob, .int .i64 nb]) := by
  have hs2 := hb2.size
  have hs3 := hb3.size
  have hb03 := hb2.trans (hb3.mono hs2)
  have o3 : w3.heap[g]? = some (.cells o 31 (0, 0)) := (hb03.block g (by omega)).trans ho
  have o3' : w3.heap[g + 1]? = some (.cells o' 31 (0, 0)) := (hb03.block (g + 1) hlt).trans ho'
  refine ⟨?_, ?_, ?_⟩
  · exact sbox_row (by rw [setRow_other _ _ _ _ (by omega)]; exact setRow_heap w3 g _ _ _ _ o3)
  · exact sbox_row (setRow_heap _ (g + 1) _ _ _ _ (by rw [setRow_other _ _ _ _ (by omega)]; exact o3'))
  · exact below_setRow (below_setRow (h0.trans (hb03.mono h0.size)) hg _) (by omega) _

set_option maxHeartbeats 8000000 in
set_option maxRecDepth 100000 in
theorem walk_EventUnlike (k n : Int) (d : ByteArray) (se : Bool) (code : Int) (k' n' : Int) (d' : ByteArray) (se' : Bool) (code' : Int) (w : World) (hS : VarsIn w) (htab : TabIn w)
    (hd : d.size ≤ maxLen) (hn0 : -9223372036854775808 ≤ n) (hn1 : n ≤ 9223372036854775807) (hc : 0 ≤ code ∧ code ≤ 255) (hd' : d'.size ≤ maxLen) (hn0' : -9223372036854775808 ≤ n') (hn1' : n' ≤ 9223372036854775807) (hc' : 0 ≤ code' ∧ code' ≤ 255) :
    Calls Tryd.prog 5 #[.agg #[.int .i64 k, .string d, .bool se, .int .u8 code, .int .i64 n], .agg #[.int .i64 k', .string d', .bool se', .int .u8 code', .int .i64 n']] w fun e w' => e = .returned (.bool true) ∧ Below w.heap.size w w' := by
  obtain ⟨wa, hwa⟩ : ∃ wa, wa = (w.alloc (.cells #[.int .i64 k, .string d, .bool se, .int .u8 code, .int .i64 n] 31)).alloc (.cells #[.int .i64 k', .string d', .bool se', .int .u8 code', .int .i64 n'] 31) := ⟨_, rfl⟩
  have hb1 := (Below.refl _ w).alloc (Nat.le_refl _) (.cells #[.int .i64 k, .string d, .bool se, .int .u8 code, .int .i64 n] 31)
  have hb2 : Below (w.alloc (.cells #[.int .i64 k, .string d, .bool se, .int .u8 code, .int .i64 n] 31)).heap.size (w.alloc (.cells #[.int .i64 k, .string d, .bool se, .int .u8 code, .int .i64 n] 31)) wa := by rw [hwa]; exact (Below.refl _ _).alloc (Nat.le_refl _) _
  have hszA : wa.heap.size = w.heap.size + 2 := by rw [hwa, World.size_alloc, World.size_alloc]
  have HFX : Hid (wa.heap[w.heap.size]? = some (.cells #[.int .i64 k, .string d, .bool se, .int .u8 code, .int .i64 n] 31 (0, 0))) := (hb2.block w.heap.size (by rw [World.size_alloc]; omega)).trans (heap_alloc_new w _)
  have HFY : Hid (wa.heap[w.heap.size + 1]? = some (.cells #[.int .i64 k', .string d', .bool se', .int .u8 code', .int .i64 n'] 31 (0, 0))) := by
    have h := heap_alloc_new (w.alloc (.cells #[.int .i64 k, .string d, .bool se, .int .u8 code, .int .i64 n] 31)) (.cells #[.int .i64 k', .string d', .bool se', .int .u8 code', .int .i64 n'] 31)
    rw [World.size_alloc] at h
    rw [hwa]; exact h
  have HBA := Lib.hid (hb1.trans (hb2.mono hb1.size))
  have HCX := Lib.hid (fun W => law_bare k n d se code W hd hn0 hn1 hc)
  have HCY := Lib.hid (fun W => law_bare k' n' d' se' code' W hd' hn0' hn1' hc')
  have HS := Lib.hid hS
  have HTB := Lib.hid htab
  have HSZA := Lib.hid hszA
  clear hd hn0 hn1 hc hd' hn0' hn1' hc' hS htab hb1 hb2 hszA
  go_enter Tryd.func5, Tryd.ntmps5
  go_upto_region 1 with fail
  rw [← hwa]
  clear hwa
  go_wp2_with fail
  refine (ev_awake _ (HS.out.next HBA.out) (HTB.out.next HBA.out)).mono ?_
  rintro e w1 ⟨rfl, hb1⟩
  have HW1 := Lib.hid (HBA.out.trans (hb1.mono HBA.out.size))
  have HFX1 := Lib.hid ((hb1.block w.heap.size (by have := HSZA.out; omega)).trans HFX.out)
  have HFY1 := Lib.hid ((hb1.block (w.heap.size + 1) (by have := HSZA.out; omega)).trans HFY.out)
  have HX1 := Lib.hid (sbox_row HFX1.out)
  have HY1 := Lib.hid (sbox_row HFY1.out)
  have HL1 : Hid (w.heap.size + 1 < w1.heap.size) := by have h1 := hb1.size; have h2 := HSZA.out; show _ < _; omega
  clear hb1 HFX HFY HBA HSZA
  obtain ⟨g, hg⟩ : ∃ g, g = w.heap.size := ⟨_, rfl⟩
  have HG := Lib.hid hg
  rw [← hg] at HX1 HY1 HFX1 HFY1 HL1 ⊢
  clear hg
  have HD1 := Lib.hid ((Below.refl w1.heap.size w1).drew)
  obtain ⟨x0, x1, x2, x3, x4⟩ := HX1.out
  obtain ⟨y0, y1, y2, y3, y4⟩ := HY1.out
  go_upto_region 4 with fail
  refine wp_region_held_drew (S := fun _ => True) (by kernel_rfl) trivial (fun hHeld => ?_)
  refine wpAnyH_take (i := 0) (v := ?v0a) rfl (by kernel_rfl) (by kernel_rfl) (by kernel_rfl) (fun _ _ _ h => h) (Or.inl ⟨by rfl, ?y0a⟩) (by assumption) ?r0a
  case y0a => (intro w hSw; go_simp; try with_reducible rfl)
  try simp only [Act.put, List.setIfInBounds_toArray, List.set_cons_zero, List.set_cons_succ]
  refine wpAnyH_take (i := 3) (v := ?v3b) rfl (by kernel_rfl) (by kernel_rfl) (by kernel_rfl) (fun _ _ _ h => h) (Or.inl ⟨by rfl, ?y3b⟩) (by assumption) ?r3b
  case y3b => (intro w hSw; go_simp; try with_reducible rfl)
  try simp only [Act.put, List.setIfInBounds_toArray, List.set_cons_zero, List.set_cons_succ]
  refine wpAnyH_ready (rs := [1, 4]) (by kernel_rfl) (by simp) ?_
  refine AllReadyH.cons rfl (fun K hK => ?_) ?_
  · skip
    go_simp
    refine hK.out _ _ trivial (fun hHeld => ?_)
    clear hK K
    try simp only [Act.put, List.setIfInBounds_toArray, List.set_cons_zero, List.set_cons_succ]
    refine wpAnyH_ready (rs := [2, 4]) (by kernel_rfl) (by simp) ?_
    refine AllReadyH.cons rfl (fun K hK => ?_) ?_
    · skip
      go_simp
      go_at_call 15
      with_reducible refine (HCX.out _).mono ?_
      rintro e w2 ⟨ka, na, da, sea, coa, rfl, hbr, hda, hna0, hna1, hb2⟩
      have HBRX := Lib.hid hbr
      have HB2 := Lib.hid (HD1.out.trans (hb2.mono HD1.out.size))
      clear hbr hb2
      have HYB : Hid (SBox w2 (g + 1) k' n' d' se' code') := Lib.hid (HY1.out.next HB2.out)
      obtain ⟨z0, z1, z2, z3, z4⟩ := HYB.out
      refine hK.out _ _ trivial (fun hHeld => ?_)
      clear hK K
      try simp only [Act.put, List.setIfInBounds_toArray, List.set_cons_zero, List.set_cons_succ]
      refine wpAnyH_ready (rs := [4]) (by kernel_rfl) (by simp) ?_
      refine AllReadyH.cons rfl (fun K hK => ?_) ?_
      · skip
        go_simp
        refine hK.out _ _ trivial (fun hHeld => ?_)
        clear hK K
        try simp only [Act.put, List.setIfInBounds_toArray, List.set_cons_zero, List.set_cons_succ]
        refine wpAnyH_ready (rs := [5]) (by kernel_rfl) (by simp) ?_
        refine AllReadyH.cons rfl (fun K hK => ?_) ?_
        · skip
          go_simp
          go_at_call 15
          with_reducible refine (HCY.out _).mono ?_
          rintro e w3 ⟨kb, nb, db, seb, cob, rfl, hbr, hdb, hnb0, hnb1, hb3⟩
          have HBRY := Lib.hid hbr
          have HT := Lib.hid (two_sig (g := g) (ka := ka) (na := na) (da := da) (sea := sea) (coa := coa) (kb := kb) (nb := nb) (db := db) (seb := seb) (cob := cob) (by rw [HG.out]; exact Nat.le_refl _) HW1.out HL1.out HB2.out hb3 HFX1.out HFY1.out)
          have HOX := Lib.hid ((hb3.block g (by have h1 := HB2.out.size; have h2 := HL1.out; omega)).trans ((HB2.out.block g (by have h2 := HL1.out; omega)).trans HFX1.out))
          have HOY := Lib.hid ((hb3.block (g + 1) (by have h1 := HB2.out.size; have h2 := HL1.out; omega)).trans ((HB2.out.block (g + 1) HL1.out).trans HFY1.out))
          clear hbr hb3
          refine hK.out _ _ trivial (fun hHeld => ?_)
          clear hK K
          try simp only [Act.put, List.setIfInBounds_toArray, List.set_cons_zero, List.set_cons_succ]
          refine wpAnyH_ready (rs := [6]) (by kernel_rfl) (by simp) ?_
          refine AllReadyH.cons rfl (fun K hK => ?_) ?_
          · skip
            refine step_store_row rfl 31 (.tmp 2) (.tmp 10) rfl g #[.int .i64 ka, .string da, .bool sea, .int .u8 coa, .int .i64 na] rfl rfl 31 _ HOX.out infoSig rfl (sig_one _ _ _ _ _) ?_
            refine hK.out _ _ trivial (fun hHeld => ?_)
            clear hK K
            try simp only [Act.put, List.setIfInBounds_toArray, List.set_cons_zero, List.set_cons_succ]
            refine wpAnyH_ready (rs := [7]) (by kernel_rfl) (by simp) ?_
            refine AllReadyH.cons rfl (fun K hK => ?_) ?_
            · skip
              refine step_store_row rfl 31 (.tmp 3) (.tmp 13) rfl (g + 1) #[.int .i64 kb, .string db, .bool seb, .int .u8 cob, .int .i64 nb] rfl rfl 31 #[.int .i64 k', .string d', .bool se', .int .u8 code', .int .i64 n'] (by rw [setRow_other _ _ _ _ (by omega)]; exact HOY.out) infoSig rfl (sig_one _ _ _ _ _) ?_
              refine hK.out _ _ trivial (fun hHeld => ?_)
              clear hK K
              try simp only [Act.put, List.setIfInBounds_toArray, List.set_cons_zero, List.set_cons_succ]
              refine wpAnyH_done (by kernel_rfl) ?_ _
              try simp only [Act.put, List.setIfInBounds_toArray, List.set_cons_zero, List.set_cons_succ]
              go_upto_region 5 with fail
              have HX3 := Lib.hid HT.out.1
              have HY3 := Lib.hid HT.out.2.1
              have HB3 := Lib.hid HT.out.2.2
              clear HT x0 x1 x2 x3 x4 y0 y1 y2 y3 y4 z0 z1 z2 z3 z4 HOX HOY
              generalize World.setRow (World.setRow w3 g #[.int .i64 ka, .string da, .bool sea, .int .u8 coa, .int .i64 na]) (g + 1) #[.int .i64 kb, .string db, .bool seb, .int .u8 cob, .int .i64 nb] = wc at *
              have HSC := Lib.hid (HS.out.next HB3.out)
              have HTC := Lib.hid (HTB.out.next HB3.out)
              have HTX := Lib.hid (fun W (hW : VarsIn W) (hT : TabIn W) => ev_text ka na da sea coa W hW (by omega) hna0 hna1 hT)
              have HTY := Lib.hid (fun W (hW : VarsIn W) (hT : TabIn W) => ev_text kb nb db seb cob W hW (by omega) hnb0 hnb1 hT)
              have HINJ := Lib.hid (fun h => text_inj ka na da sea coa kb nb db seb cob HBRX.out HBRY.out h)
              have HSAME : Hid (∀ x0 x1 x2 x3 x4, textB ka na da sea coa = x0 → (ka = kb ∧ na = nb ∧ da = db ∧ sea = seb ∧ coa = cob) → textB kb nb db seb cob = x0 ∨ x1 ∨ x2 ∨ x3 ∨ x4) := by
                rintro x0 x1 x2 x3 x4 h ⟨rfl, rfl, rfl, rfl, rfl⟩; exact .inl h
              obtain ⟨TX, hTX⟩ : ∃ TX, TX = textB ka na da sea coa := ⟨_, rfl⟩
              obtain ⟨TY, hTY⟩ : ∃ TY, TY = textB kb nb db seb cob := ⟨_, rfl⟩
              have HTXE := Lib.hid hTX
              have HTYE := Lib.hid hTY
              rw [← hTX] at HTX
              rw [← hTY] at HTY
              clear hTX hTY HSAME
              obtain ⟨x0, x1, x2, x3, x4⟩ := HX3.out
              obtain ⟨y0, y1, y2, y3, y4⟩ := HY3.out
              have HDR := Lib.hid ((Below.refl wc.heap.size wc).drew)
              have hne : ¬ (ka = kb ∧ na = nb ∧ da = db ∧ sea = seb ∧ coa = cob) → (TX.toList == TY.toList) = false := fun h => by
                rw [beq_eq_false_iff_ne]
                intro e
                apply h
                apply HINJ.out
                rw [← HTXE.out, ← HTYE.out]
                exact bytes_toList e
              have HNE := Lib.hid hne
              have heq : (ka = kb ∧ na = nb ∧ da = db ∧ sea = seb ∧ coa = cob) → TX = TY := by
                rintro ⟨e1, e2, e3, e4, e5⟩
                rw [HTXE.out, HTYE.out, e1, e2, e3, e4, e5]
              have HEQ := Lib.hid heq
              clear hne heq HINJ HTXE HTYE
              have hcs : (ka = kb ∧ na = nb ∧ da = db ∧ sea = seb ∧ coa = cob) ∨ ¬ ka = kb ∨ (ka = kb ∧ ¬ da = db) ∨ (ka = kb ∧ da = db ∧ ¬ sea = seb) ∨ (ka = kb ∧ da = db ∧ sea = seb ∧ ¬ coa = cob) ∨ (ka = kb ∧ da = db ∧ sea = seb ∧ coa = cob ∧ ¬ na = nb) := by
                by_cases c1 : ka = kb
                · by_cases c2 : da = db
                  · by_cases c3 : sea = seb
                    · by_cases c4 : coa = cob
                      · by_cases c5 : na = nb
                        · exact .inl ⟨c1, c5, c2, c3, c4⟩
                        · exact .inr (.inr (.inr (.inr (.inr ⟨c1, c2, c3, c4, c5⟩))))
                      · exact .inr (.inr (.inr (.inr (.inl ⟨c1, c2, c3, c4⟩))))
                    · exact .inr (.inr (.inr (.inl ⟨c1, c2, c3⟩)))
                  · exact .inr (.inr (.inl ⟨c1, c2⟩))
                · exact .inr (.inl c1)
              rcases hcs with hh | c1 | ⟨c1, c2⟩ | ⟨c1, c2, c3⟩ | ⟨c1, c2, c3, c4⟩ | ⟨c1, c2, c3, c4, c5⟩
              · have ht := HEQ.out hh
                obtain ⟨e1, e2, e3, e4, e5⟩ := hh
                subst e1 e2 e3 e4 e5
                rw [← ht] at HTY
                clear HEQ HNE ht
                go_region_held3 (fun w' => w'.cell? ⟨g, 0, none⟩ = some (.int .i64 ka) ∧ w'.cell? ⟨g, 1, none⟩ = some (.string da) ∧ w'.cell? ⟨g, 2, none⟩ = some (.bool sea) ∧ w'.cell? ⟨g, 3, none⟩ = some (.int .u8 coa) ∧ w'.cell? ⟨g, 4, none⟩ = some (.int .i64 na) ∧ w'.cell? ⟨g + 1, 0, none⟩ = some (.int .i64 ka) ∧ w'.cell? ⟨g + 1, 1, none⟩ = some (.string da) ∧ w'.cell? ⟨g + 1, 2, none⟩ = some (.bool sea) ∧ w'.cell? ⟨g + 1, 3, none⟩ = some (.int .u8 coa) ∧ w'.cell? ⟨g + 1, 4, none⟩ = some (.int .i64 na))
                  (first | go_keep)
                  (first
                    | (go_at_call 13; (with_reducible refine (HTY.out _ (HSC.out.next HB6.out) (HTC.out.next HB6.out)).mono ?_); rintro e w7 ⟨rfl, hb7⟩
                       have HB7 := Lib.hid (Below.trans HB6.out (hb7.mono (Below.size HB6.out)))
                       have HX7 := Lib.hid (HX3.out.next HB7.out)
                       have HY7 := Lib.hid (HY3.out.next HB7.out)
                       clear hb7
                       obtain ⟨p0, p1, p2, p3, p4⟩ := HX7.out
                       obtain ⟨q0, q1, q2, q3, q4⟩ := HY7.out)
                    | (go_at_call 13; (with_reducible refine (HTX.out _ (HSC.out.next HDR.out) (HTC.out.next HDR.out)).mono ?_); rintro e w6 ⟨rfl, hb6⟩
                       have HB6 := Lib.hid (Below.trans HDR.out (hb6.mono (Below.size HDR.out)))
                       have HX6 := Lib.hid (HX3.out.next HB6.out)
                       have HY6 := Lib.hid (HY3.out.next HB6.out)
                       clear hb6
                       obtain ⟨r0, r1, r2, r3, r4⟩ := HX6.out
                       obtain ⟨u0, u1, u2, u3, u4⟩ := HY6.out)
                    | fail)
                go_wp2_with fail
                go_ret
                exact ⟨by first | rfl | simp [*], HB3.out.trans (HB7.out.mono HB3.out.size)⟩
              · have ht := HNE.out (fun h => c1 h.1)
                have b1 : (ka == kb) = false := beq_eq_false_iff_ne.2 c1
                clear HEQ HNE
                go_region_held3 (fun w' => w'.cell? ⟨g, 0, none⟩ = some (.int .i64 ka) ∧ w'.cell? ⟨g, 1, none⟩ = some (.string da) ∧ w'.cell? ⟨g, 2, none⟩ = some (.bool sea) ∧ w'.cell? ⟨g, 3, none⟩ = some (.int .u8 coa) ∧ w'.cell? ⟨g, 4, none⟩ = some (.int .i64 na) ∧ w'.cell? ⟨g + 1, 0, none⟩ = some (.int .i64 kb) ∧ w'.cell? ⟨g + 1, 1, none⟩ = some (.string db) ∧ w'.cell? ⟨g + 1, 2, none⟩ = some (.bool seb) ∧ w'.cell? ⟨g + 1, 3, none⟩ = some (.int .u8 cob) ∧ w'.cell? ⟨g + 1, 4, none⟩ = some (.int .i64 nb))
                  (first | go_keep)
                  (first
                    | (go_at_call 13; (with_reducible refine (HTY.out _ (HSC.out.next HB6.out) (HTC.out.next HB6.out)).mono ?_); rintro e w7 ⟨rfl, hb7⟩
                       have HB7 := Lib.hid (Below.trans HB6.out (hb7.mono (Below.size HB6.out)))
                       have HX7 := Lib.hid (HX3.out.next HB7.out)
                       have HY7 := Lib.hid (HY3.out.next HB7.out)
                       clear hb7
                       obtain ⟨p0, p1, p2, p3, p4⟩ := HX7.out
                       obtain ⟨q0, q1, q2, q3, q4⟩ := HY7.out)
                    | (go_at_call 13; (with_reducible refine (HTX.out _ (HSC.out.next HDR.out) (HTC.out.next HDR.out)).mono ?_); rintro e w6 ⟨rfl, hb6⟩
                       have HB6 := Lib.hid (Below.trans HDR.out (hb6.mono (Below.size HDR.out)))
                       have HX6 := Lib.hid (HX3.out.next HB6.out)
                       have HY6 := Lib.hid (HY3.out.next HB6.out)
                       clear hb6
                       obtain ⟨r0, r1, r2, r3, r4⟩ := HX6.out
                       obtain ⟨u0, u1, u2, u3, u4⟩ := HY6.out)
                    | fail)
                go_wp2_with fail
                go_ret
                exact ⟨by first | rfl | simp [*], HB3.out.trans (HB7.out.mono HB3.out.size)⟩
              · have ht := HNE.out (fun h => c2 h.2.2.1)
                have b1 : decide (da = db) = false := decide_eq_false c2
                have b2 : (da.toList == db.toList) = false := beq_eq_false_iff_ne.2 (fun h => c2 (bytes_toList h))
                subst c1
                clear HEQ HNE
                go_region_held3 (fun w' => w'.cell? ⟨g, 0, none⟩ = some (.int .i64 ka) ∧ w'.cell? ⟨g, 1, none⟩ = some (.string da) ∧ w'.cell? ⟨g, 2, none⟩ = some (.bool sea) ∧ w'.cell? ⟨g, 3, none⟩ = some (.int .u8 coa) ∧ w'.cell? ⟨g, 4, none⟩ = some (.int .i64 na) ∧ w'.cell? ⟨g + 1, 0, none⟩ = some (.int .i64 ka) ∧ w'.cell? ⟨g + 1, 1, none⟩ = some (.string db) ∧ w'.cell? ⟨g + 1, 2, none⟩ = some (.bool seb) ∧ w'.cell? ⟨g + 1, 3, none⟩ = some (.int .u8 cob) ∧ w'.cell? ⟨g + 1, 4, none⟩ = some (.int .i64 nb))
                  (first | go_keep)
                  (first
                    | (go_at_call 13; (with_reducible refine (HTY.out _ (HSC.out.next HB6.out) (HTC.out.next HB6.out)).mono ?_); rintro e w7 ⟨rfl, hb7⟩
                       have HB7 := Lib.hid (Below.trans HB6.out (hb7.mono (Below.size HB6.out)))
                       have HX7 := Lib.hid (HX3.out.next HB7.out)
                       have HY7 := Lib.hid (HY3.out.next HB7.out)
                       clear hb7
                       obtain ⟨p0, p1, p2, p3, p4⟩ := HX7.out
                       obtain ⟨q0, q1, q2, q3, q4⟩ := HY7.out)
                    | (go_at_call 13; (with_reducible refine (HTX.out _ (HSC.out.next HDR.out) (HTC.out.next HDR.out)).mono ?_); rintro e w6 ⟨rfl, hb6⟩
                       have HB6 := Lib.hid (Below.trans HDR.out (hb6.mono (Below.size HDR.out)))
                       have HX6 := Lib.hid (HX3.out.next HB6.out)
                       have HY6 := Lib.hid (HY3.out.next HB6.out)
                       clear hb6
                       obtain ⟨r0, r1, r2, r3, r4⟩ := HX6.out
                       obtain ⟨u0, u1, u2, u3, u4⟩ := HY6.out)
                    | fail)
                go_wp2_with fail
                go_ret
                exact ⟨by first | rfl | simp [*], HB3.out.trans (HB7.out.mono HB3.out.size)⟩
              · have ht := HNE.out (fun h => c3 h.2.2.2.1)
                have b1 : (sea == seb) = false := beq_eq_false_iff_ne.2 c3
                subst c1 c2
                clear HEQ HNE
                go_region_held3 (fun w' => w'.cell? ⟨g, 0, none⟩ = some (.int .i64 ka) ∧ w'.cell? ⟨g, 1, none⟩ = some (.string da) ∧ w'.cell? ⟨g, 2, none⟩ = some (.bool sea) ∧ w'.cell? ⟨g, 3, none⟩ = some (.int .u8 coa) ∧ w'.cell? ⟨g, 4, none⟩ = some (.int .i64 na) ∧ w'.cell? ⟨g + 1, 0, none⟩ = some (.int .i64 ka) ∧ w'.cell? ⟨g + 1, 1, none⟩ = some (.string da) ∧ w'.cell? ⟨g + 1, 2, none⟩ = some (.bool seb) ∧ w'.cell? ⟨g + 1, 3, none⟩ = some (.int .u8 cob) ∧ w'.cell? ⟨g + 1, 4, none⟩ = some (.int .i64 nb))
                  (first | go_keep)
                  (first
                    | (go_at_call 13; (with_reducible refine (HTY.out _ (HSC.out.next HB6.out) (HTC.out.next HB6.out)).mono ?_); rintro e w7 ⟨rfl, hb7⟩
                       have HB7 := Lib.hid (Below.trans HB6.out (hb7.mono (Below.size HB6.out)))
                       have HX7 := Lib.hid (HX3.out.next HB7.out)
                       have HY7 := Lib.hid (HY3.out.next HB7.out)
                       clear hb7
                       obtain ⟨p0, p1, p2, p3, p4⟩ := HX7.out
                       obtain ⟨q0, q1, q2, q3, q4⟩ := HY7.out)
                    | (go_at_call 13; (with_reducible refine (HTX.out _ (HSC.out.next HDR.out) (HTC.out.next HDR.out)).mono ?_); rintro e w6 ⟨rfl, hb6⟩
                       have HB6 := Lib.hid (Below.trans HDR.out (hb6.mono (Below.size HDR.out)))
                       have HX6 := Lib.hid (HX3.out.next HB6.out)
                       have HY6 := Lib.hid (HY3.out.next HB6.out)
                       clear hb6
                       obtain ⟨r0, r1, r2, r3, r4⟩ := HX6.out
                       obtain ⟨u0, u1, u2, u3, u4⟩ := HY6.out)
                    | fail)
                go_wp2_with fail
                go_ret
                exact ⟨by first | rfl | simp [*], HB3.out.trans (HB7.out.mono HB3.out.size)⟩
              · have ht := HNE.out (fun h => c4 h.2.2.2.2)
                have b1 : (coa == cob) = false := beq_eq_false_iff_ne.2 c4
                subst c1 c2 c3
                clear HEQ HNE
                go_region_held3 (fun w' => w'.cell? ⟨g, 0, none⟩ = some (.int .i64 ka) ∧ w'.cell? ⟨g, 1, none⟩ = some (.string da) ∧ w'.cell? ⟨g, 2, none⟩ = some (.bool sea) ∧ w'.cell? ⟨g, 3, none⟩ = some (.int .u8 coa) ∧ w'.cell? ⟨g, 4, none⟩ = some (.int .i64 na) ∧ w'.cell? ⟨g + 1, 0, none⟩ = some (.int .i64 ka) ∧ w'.cell? ⟨g + 1, 1, none⟩ = some (.string da) ∧ w'.cell? ⟨g + 1, 2, none⟩ = some (.bool sea) ∧ w'.cell? ⟨g + 1, 3, none⟩ = some (.int .u8 cob) ∧ w'.cell? ⟨g + 1, 4, none⟩ = some (.int .i64 nb))
                  (first | go_keep)
                  (first
                    | (go_at_call 13; (with_reducible refine (HTY.out _ (HSC.out.next HB6.out) (HTC.out.next HB6.out)).mono ?_); rintro e w7 ⟨rfl, hb7⟩
                       have HB7 := Lib.hid (Below.trans HB6.out (hb7.mono (Below.size HB6.out)))
                       have HX7 := Lib.hid (HX3.out.next HB7.out)
                       have HY7 := Lib.hid (HY3.out.next HB7.out)
                       clear hb7
                       obtain ⟨p0, p1, p2, p3, p4⟩ := HX7.out
                       obtain ⟨q0, q1, q2, q3, q4⟩ := HY7.out)
                    | (go_at_call 13; (with_reducible refine (HTX.out _ (HSC.out.next HDR.out) (HTC.out.next HDR.out)).mono ?_); rintro e w6 ⟨rfl, hb6⟩
                       have HB6 := Lib.hid (Below.trans HDR.out (hb6.mono (Below.size HDR.out)))
                       have HX6 := Lib.hid (HX3.out.next HB6.out)
                       have HY6 := Lib.hid (HY3.out.next HB6.out)
                       clear hb6
                       obtain ⟨r0, r1, r2, r3, r4⟩ := HX6.out
                       obtain ⟨u0, u1, u2, u3, u4⟩ := HY6.out)
                    | fail)
                go_wp2_with fail
                go_ret
                exact ⟨by first | rfl | simp [*], HB3.out.trans (HB7.out.mono HB3.out.size)⟩
              · have ht := HNE.out (fun h => c5 h.2.1)
                have b1 : (na == nb) = false := beq_eq_false_iff_ne.2 c5
                subst c1 c2 c3 c4
                clear HEQ HNE
                go_region_held3 (fun w' => w'.cell? ⟨g, 0, none⟩ = some (.int .i64 ka) ∧ w'.cell? ⟨g, 1, none⟩ = some (.string da) ∧ w'.cell? ⟨g, 2, none⟩ = some (.bool sea) ∧ w'.cell? ⟨g, 3, none⟩ = some (.int .u8 coa) ∧ w'.cell? ⟨g, 4, none⟩ = some (.int .i64 na) ∧ w'.cell? ⟨g + 1, 0, none⟩ = some (.int .i64 ka) ∧ w'.cell? ⟨g + 1, 1, none⟩ = some (.string da) ∧ w'.cell? ⟨g + 1, 2, none⟩ = some (.bool sea) ∧ w'.cell? ⟨g + 1, 3, none⟩ = some (.int .u8 coa) ∧ w'.cell? ⟨g + 1, 4, none⟩ = some (.int .i64 nb))
                  (first | go_keep)
                  (first
                    | (go_at_call 13; (with_reducible refine (HTY.out _ (HSC.out.next HB6.out) (HTC.out.next HB6.out)).mono ?_); rintro e w7 ⟨rfl, hb7⟩
                       have HB7 := Lib.hid (Below.trans HB6.out (hb7.mono (Below.size HB6.out)))
                       have HX7 := Lib.hid (HX3.out.next HB7.out)
                       have HY7 := Lib.hid (HY3.out.next HB7.out)
                       clear hb7
                       obtain ⟨p0, p1, p2, p3, p4⟩ := HX7.out
                       obtain ⟨q0, q1, q2, q3, q4⟩ := HY7.out)
                    | (go_at_call 13; (with_reducible refine (HTX.out _ (HSC.out.next HDR.out) (HTC.out.next HDR.out)).mono ?_); rintro e w6 ⟨rfl, hb6⟩
                       have HB6 := Lib.hid (Below.trans HDR.out (hb6.mono (Below.size HDR.out)))
                       have HX6 := Lib.hid (HX3.out.next HB6.out)
                       have HY6 := Lib.hid (HY3.out.next HB6.out)
                       clear hb6
                       obtain ⟨r0, r1, r2, r3, r4⟩ := HX6.out
                       obtain ⟨u0, u1, u2, u3, u4⟩ := HY6.out)
                    | fail)
                go_wp2_with fail
                go_ret
                exact ⟨by first | rfl | simp [*], HB3.out.trans (HB7.out.mono HB3.out.size)⟩
            exact AllReadyH.nil
          exact AllReadyH.nil
        exact AllReadyH.nil
      exact AllReadyH.nil
    refine AllReadyH.cons rfl (fun K hK => ?_) ?_
    · skip
      go_simp
      refine hK.out _ _ trivial (fun hHeld => ?_)
      clear hK K
      try simp only [Act.put, List.setIfInBounds_toArray, List.set_cons_zero, List.set_cons_succ]
      refine wpAnyH_ready (rs := [2]) (by kernel_rfl) (by simp) ?_
      refine AllReadyH.cons rfl (fun K hK => ?_) ?_
      · skip
        go_simp
        go_at_call 15
        with_reducible refine (HCX.out _).mono ?_
        rintro e w2 ⟨ka, na, da, sea, coa, rfl, hbr, hda, hna0, hna1, hb2⟩
        have HBRX := Lib.hid hbr
        have HB2 := Lib.hid (HD1.out.trans (hb2.mono HD1.out.size))
        clear hbr hb2
        have HYB : Hid (SBox w2 (g + 1) k' n' d' se' code') := Lib.hid (HY1.out.next HB2.out)
        obtain ⟨z0, z1, z2, z3, z4⟩ := HYB.out
        refine hK.out _ _ trivial (fun hHeld => ?_)
        clear hK K
        try simp only [Act.put, List.setIfInBounds_toArray, List.set_cons_zero, List.set_cons_succ]
        refine wpAnyH_ready (rs := [5]) (by kernel_rfl) (by simp) ?_
        refine AllReadyH.cons rfl (fun K hK => ?_) ?_
        · skip
          go_simp
          go_at_call 15
          with_reducible refine (HCY.out _).mono ?_
          rintro e w3 ⟨kb, nb, db, seb, cob, rfl, hbr, hdb, hnb0, hnb1, hb3⟩
          have HBRY := Lib.hid hbr
          have HT := Lib.hid (two_sig (g := g) (ka := ka) (na := na) (da := da) (sea := sea) (coa := coa) (kb := kb) (nb := nb) (db := db) (seb := seb) (cob := cob) (by rw [HG.out]; exact Nat.le_refl _) HW1.out HL1.out HB2.out hb3 HFX1.out HFY1.out)
          have HOX := Lib.hid ((hb3.block g (by have h1 := HB2.out.size; have h2 := HL1.out; omega)).trans ((HB2.out.block g (by have h2 := HL1.out; omega)).trans HFX1.out))
          have HOY := Lib.hid ((hb3.block (g + 1) (by have h1 := HB2.out.size; have h2 := HL1.out; omega)).trans ((HB2.out.block (g + 1) HL1.out).trans HFY1.out))
          clear hbr hb3
          refine hK.out _ _ trivial (fun hHeld => ?_)
          clear hK K
          try simp only [Act.put, List.setIfInBounds_toArray, List.set_cons_zero, List.set_cons_succ]
          refine wpAnyH_ready (rs := [6]) (by kernel_rfl) (by simp) ?_
          refine AllReadyH.cons rfl (fun K hK => ?_) ?_
          · skip
            refine step_store_row rfl 31 (.tmp 2) (.tmp 10) rfl g #[.int .i64 ka, .string da, .bool sea, .int .u8 coa, .int .i64 na] rfl rfl 31 _ HOX.out infoSig rfl (sig_one _ _ _ _ _) ?_
            refine hK.out _ _ trivial (fun hHeld => ?_)
            clear hK K
            try simp only [Act.put, List.setIfInBounds_toArray, List.set_cons_zero, List.set_cons_succ]
            refine wpAnyH_ready (rs := [7]) (by kernel_rfl) (by simp) ?_
            refine AllReadyH.cons rfl (fun K hK => ?_) ?_
            · skip
              refine step_store_row rfl 31 (.tmp 3) (.tmp 13) rfl (g + 1) #[.int .i64 kb, .string db, .bool seb, .int .u8 cob, .int .i64 nb] rfl rfl 31 #[.int .i64 k', .string d', .bool se', .int .u8 code', .int .i64 n'] (by rw [setRow_other _ _ _ _ (by omega)]; exact HOY.out) infoSig rfl (sig_one _ _ _ _ _) ?_
              refine hK.out _ _ trivial (fun hHeld => ?_)
              clear hK K
              try simp only [Act.put, List.setIfInBounds_toArray, List.set_cons_zero, List.set_cons_succ]
              refine wpAnyH_done (by kernel_rfl) ?_ _
              try simp only [Act.put, List.setIfInBounds_toArray, List.set_cons_zero, List.set_cons_succ]
              go_upto_region 5 with fail
              have HX3 := Lib.hid HT.out.1
              have HY3 := Lib.hid HT.out.2.1
              have HB3 := Lib.hid HT.out.2.2
              clear HT x0 x1 x2 x3 x4 y0 y1 y2 y3 y4 z0 z1 z2 z3 z4 HOX HOY
              generalize World.setRow (World.setRow w3 g #[.int .i64 ka, .string da, .bool sea, .int .u8 coa, .int .i64 na]) (g + 1) #[.int .i64 kb, .string db, .bool seb, .int .u8 cob, .int .i64 nb] = wc at *
              have HSC := Lib.hid (HS.out.next HB3.out)
              have HTC := Lib.hid (HTB.out.next HB3.out)
              have HTX := Lib.hid (fun W (hW : VarsIn W) (hT : TabIn W) => ev_text ka na da sea coa W hW (by omega) hna0 hna1 hT)
              have HTY := Lib.hid (fun W (hW : VarsIn W) (hT : TabIn W) => ev_text kb nb db seb cob W hW (by omega) hnb0 hnb1 hT)
              have HINJ := Lib.hid (fun h => text_inj ka na da sea coa kb nb db seb cob HBRX.out HBRY.out h)
              have HSAME : Hid (∀ x0 x1 x2 x3 x4, textB ka na da sea coa = x0 → (ka = kb ∧ na = nb ∧ da = db ∧ sea = seb ∧ coa = cob) → textB kb nb db seb cob = x0 ∨ x1 ∨ x2 ∨ x3 ∨ x4) := by
                rintro x0 x1 x2 x3 x4 h ⟨rfl, rfl, rfl, rfl, rfl⟩; exact .inl h
              obtain ⟨TX, hTX⟩ : ∃ TX, TX = textB ka na da sea coa := ⟨_, rfl⟩
              obtain ⟨TY, hTY⟩ : ∃ TY, TY = textB kb nb db seb cob := ⟨_, rfl⟩
              have HTXE := Lib.hid hTX
              have HTYE := Lib.hid hTY
              rw [← hTX] at HTX
              rw [← hTY] at HTY
              clear hTX hTY HSAME
              obtain ⟨x0, x1, x2, x3, x4⟩ := HX3.out
              obtain ⟨y0, y1, y2, y3, y4⟩ := HY3.out
              have HDR := Lib.hid ((Below.refl wc.heap.size wc).drew)
              have hne : ¬ (ka = kb ∧ na = nb ∧ da = db ∧ sea = seb ∧ coa = cob) → (TX.toList == TY.toList) = false := fun h => by
                rw [beq_eq_false_iff_ne]
                intro e
                apply h
                apply HINJ.out
                rw [← HTXE.out, ← HTYE.out]
                exact bytes_toList e
              have HNE := Lib.hid hne
              have heq : (ka = kb ∧ na = nb ∧ da = db ∧ sea = seb ∧ coa = cob) → TX = TY := by
                rintro ⟨e1, e2, e3, e4, e5⟩
                rw [HTXE.out, HTYE.out, e1, e2, e3, e4, e5]
              have HEQ := Lib.hid heq
              clear hne heq HINJ HTXE HTYE
              have hcs : (ka = kb ∧ na = nb ∧ da = db ∧ sea = seb ∧ coa = cob) ∨ ¬ ka = kb ∨ (ka = kb ∧ ¬ da = db) ∨ (ka = kb ∧ da = db ∧ ¬ sea = seb) ∨ (ka = kb ∧ da = db ∧ sea = seb ∧ ¬ coa = cob) ∨ (ka = kb ∧ da = db ∧ sea = seb ∧ coa = cob ∧ ¬ na = nb) := by
                by_cases c1 : ka = kb
                · by_cases c2 : da = db
                  · by_cases c3 : sea = seb
                    · by_cases c4 : coa = cob
                      · by_cases c5 : na = nb
                        · exact .inl ⟨c1, c5, c2, c3, c4⟩
                        · exact .inr (.inr (.inr (.inr (.inr ⟨c1, c2, c3, c4, c5⟩))))
                      · exact .inr (.inr (.inr (.inr (.inl ⟨c1, c2, c3, c4⟩))))
                    · exact .inr (.inr (.inr (.inl ⟨c1, c2, c3⟩)))
                  · exact .inr (.inr (.inl ⟨c1, c2⟩))
                · exact .inr (.inl c1)
              rcases hcs with hh | c1 | ⟨c1, c2⟩ | ⟨c1, c2, c3⟩ | ⟨c1, c2, c3, c4⟩ | ⟨c1, c2, c3, c4, c5⟩
              · have ht := HEQ.out hh
                obtain ⟨e1, e2, e3, e4, e5⟩ := hh
                subst e1 e2 e3 e4 e5
                rw [← ht] at HTY
                clear HEQ HNE ht
                go_region_held3 (fun w' => w'.cell? ⟨g, 0, none⟩ = some (.int .i64 ka) ∧ w'.cell? ⟨g, 1, none⟩ = some (.string da) ∧ w'.cell? ⟨g, 2, none⟩ = some (.bool sea) ∧ w'.cell? ⟨g, 3, none⟩ = some (.int .u8 coa) ∧ w'.cell? ⟨g, 4, none⟩ = some (.int .i64 na) ∧ w'.cell? ⟨g + 1, 0, none⟩ = some (.int .i64 ka) ∧ w'.cell? ⟨g + 1, 1, none⟩ = some (.string da) ∧ w'.cell? ⟨g + 1, 2, none⟩ = some (.bool sea) ∧ w'.cell? ⟨g + 1, 3, none⟩ = some (.int .u8 coa) ∧ w'.cell? ⟨g + 1, 4, none⟩ = some (.int .i64 na))
                  (first | go_keep)
                  (first
                    | (go_at_call 13; (with_reducible refine (HTY.out _ (HSC.out.next HB6.out) (HTC.out.next HB6.out)).mono ?_); rintro e w7 ⟨rfl, hb7⟩
                       have HB7 := Lib.hid (Below.trans HB6.out (hb7.mono (Below.size HB6.out)))
                       have HX7 := Lib.hid (HX3.out.next HB7.out)
                       have HY7 := Lib.hid (HY3.out.next HB7.out)
                       clear hb7
                       obtain ⟨p0, p1, p2, p3, p4⟩ := HX7.out
                       obtain ⟨q0, q1, q2, q3, q4⟩ := HY7.out)
                    | (go_at_call 13; (with_reducible refine (HTX.out _ (HSC.out.next HDR.out) (HTC.out.next HDR.out)).mono ?_); rintro e w6 ⟨rfl, hb6⟩
                       have HB6 := Lib.hid (Below.trans HDR.out (hb6.mono (Below.size HDR.out)))
                       have HX6 := Lib.hid (HX3.out.next HB6.out)
                       have HY6 := Lib.hid (HY3.out.next HB6.out)
                       clear hb6
                       obtain ⟨r0, r1, r2, r3, r4⟩ := HX6.out
                       obtain ⟨u0, u1, u2, u3, u4⟩ := HY6.out)
                    | fail)
                go_wp2_with fail
                go_ret
                exact ⟨by first | rfl | simp [*], HB3.out.trans (HB7.out.mono HB3.out.size)⟩
              · have ht := HNE.out (fun h => c1 h.1)
                have b1 : (ka == kb) = false := beq_eq_false_iff_ne.2 c1
                clear HEQ HNE
                go_region_held3 (fun w' => w'.cell? ⟨g, 0, none⟩ = some (.int .i64 ka) ∧ w'.cell? ⟨g, 1, none⟩ = some (.string da) ∧ w'.cell? ⟨g, 2, none⟩ = some (.bool sea) ∧ w'.cell? ⟨g, 3, none⟩ = some (.int .u8 coa) ∧ w'.cell? ⟨g, 4, none⟩ = some (.int .i64 na) ∧ w'.cell? ⟨g + 1, 0, none⟩ = some (.int .i64 kb) ∧ w'.cell? ⟨g + 1, 1, none⟩ = some (.string db) ∧ w'.cell? ⟨g + 1, 2, none⟩ = some (.bool seb) ∧ w'.cell? ⟨g + 1, 3, none⟩ = some (.int .u8 cob) ∧ w'.cell? ⟨g + 1, 4, none⟩ = some (.int .i64 nb))
                  (first | go_keep)
                  (first
                    | (go_at_call 13; (with_reducible refine (HTY.out _ (HSC.out.next HB6.out) (HTC.out.next HB6.out)).mono ?_); rintro e w7 ⟨rfl, hb7⟩
                       have HB7 := Lib.hid (Below.trans HB6.out (hb7.mono (Below.size HB6.out)))
                       have HX7 := Lib.hid (HX3.out.next HB7.out)
                       have HY7 := Lib.hid (HY3.out.next HB7.out)
                       clear hb7
                       obtain ⟨p0, p1, p2, p3, p4⟩ := HX7.out
                       obtain ⟨q0, q1, q2, q3, q4⟩ := HY7.out)
                    | (go_at_call 13; (with_reducible refine (HTX.out _ (HSC.out.next HDR.out) (HTC.out.next HDR.out)).mono ?_); rintro e w6 ⟨rfl, hb6⟩
                       have HB6 := Lib.hid (Below.trans HDR.out (hb6.mono (Below.size HDR.out)))
                       have HX6 := Lib.hid (HX3.out.next HB6.out)
                       have HY6 := Lib.hid (HY3.out.next HB6.out)
                       clear hb6
                       obtain ⟨r0, r1, r2, r3, r4⟩ := HX6.out
                       obtain ⟨u0, u1, u2, u3, u4⟩ := HY6.out)
                    | fail)
                go_wp2_with fail
                go_ret
                exact ⟨by first | rfl | simp [*], HB3.out.trans (HB7.out.mono HB3.out.size)⟩
              · have ht := HNE.out (fun h => c2 h.2.2.1)
                have b1 : decide (da = db) = false := decide_eq_false c2
                have b2 : (da.toList == db.toList) = false := beq_eq_false_iff_ne.2 (fun h => c2 (bytes_toList h))
                subst c1
                clear HEQ HNE
                go_region_held3 (fun w' => w'.cell? ⟨g, 0, none⟩ = some (.int .i64 ka) ∧ w'.cell? ⟨g, 1, none⟩ = some (.string da) ∧ w'.cell? ⟨g, 2, none⟩ = some (.bool sea) ∧ w'.cell? ⟨g, 3, none⟩ = some (.int .u8 coa) ∧ w'.cell? ⟨g, 4, none⟩ = some (.int .i64 na) ∧ w'.cell? ⟨g + 1, 0, none⟩ = some (.int .i64 ka) ∧ w'.cell? ⟨g + 1, 1, none⟩ = some (.string db) ∧ w'.cell? ⟨g + 1, 2, none⟩ = some (.bool seb) ∧ w'.cell? ⟨g + 1, 3, none⟩ = some (.int .u8 cob) ∧ w'.cell? ⟨g + 1, 4, none⟩ = some (.int .i64 nb))
                  (first | go_keep)
                  (first
                    | (go_at_call 13; (with_reducible refine (HTY.out _ (HSC.out.next HB6.out) (HTC.out.next HB6.out)).mono ?_); rintro e w7 ⟨rfl, hb7⟩
                       have HB7 := Lib.hid (Below.trans HB6.out (hb7.mono (Below.size HB6.out)))
                       have HX7 := Lib.hid (HX3.out.next HB7.out)
                       have HY7 := Lib.hid (HY3.out.next HB7.out)
                       clear hb7
                       obtain ⟨p0, p1, p2, p3, p4⟩ := HX7.out
                       obtain ⟨q0, q1, q2, q3, q4⟩ := HY7.out)
                    | (go_at_call 13; (with_reducible refine (HTX.out _ (HSC.out.next HDR.out) (HTC.out.next HDR.out)).mono ?_); rintro e w6 ⟨rfl, hb6⟩
                       have HB6 := Lib.hid (Below.trans HDR.out (hb6.mono (Below.size HDR.out)))
                       have HX6 := Lib.hid (HX3.out.next HB6.out)
                       have HY6 := Lib.hid (HY3.out.next HB6.out)
                       clear hb6
                       obtain ⟨r0, r1, r2, r3, r4⟩ := HX6.out
                       obtain ⟨u0, u1, u2, u3, u4⟩ := HY6.out)
                    | fail)
                go_wp2_with fail
                go_ret
                exact ⟨by first | rfl | simp [*], HB3.out.trans (HB7.out.mono HB3.out.size)⟩
              · have ht := HNE.out (fun h => c3 h.2.2.2.1)
                have b1 : (sea == seb) = false := beq_eq_false_iff_ne.2 c3
                subst c1 c2
                clear HEQ HNE
                go_region_held3 (fun w' => w'.cell? ⟨g, 0, none⟩ = some (.int .i64 ka) ∧ w'.cell? ⟨g, 1, none⟩ = some (.string da) ∧ w'.cell? ⟨g, 2, none⟩ = some (.bool sea) ∧ w'.cell? ⟨g, 3, none⟩ = some (.int .u8 coa) ∧ w'.cell? ⟨g, 4, none⟩ = some (.int .i64 na) ∧ w'.cell? ⟨g + 1, 0, none⟩ = some (.int .i64 ka) ∧ w'.cell? ⟨g + 1, 1, none⟩ = some (.string da) ∧ w'.cell? ⟨g + 1, 2, none⟩ = some (.bool seb) ∧ w'.cell? ⟨g + 1, 3, none⟩ = some (.int .u8 cob) ∧ w'.cell? ⟨g + 1, 4, none⟩ = some (.int .i64 nb))
                  (first | go_keep)
                  (first
                    | (go_at_call 13; (with_reducible refine (HTY.out _ (HSC.out.next HB6.out) (HTC.out.next HB6.out)).mono ?_); rintro e w7 ⟨rfl, hb7⟩
                       have HB7 := Lib.hid (Below.trans HB6.out (hb7.mono (Below.size HB6.out)))
                       have HX7 := Lib.hid (HX3.out.next HB7.out)
                       have HY7 := Lib.hid (HY3.out.next HB7.out)
                       clear hb7
                       obtain ⟨p0, p1, p2, p3, p4⟩ := HX7.out
                       obtain ⟨q0, q1, q2, q3, q4⟩ := HY7.out)
                    | (go_at_call 13; (with_reducible refine (HTX.out _ (HSC.out.next HDR.out) (HTC.out.next HDR.out)).mono ?_); rintro e w6 ⟨rfl, hb6⟩
                       have HB6 := Lib.hid (Below.trans HDR.out (hb6.mono (Below.size HDR.out)))
                       have HX6 := Lib.hid (HX3.out.next HB6.out)
                       have HY6 := Lib.hid (HY3.out.next HB6.out)
                       clear hb6
                       obtain ⟨r0, r1, r2, r3, r4⟩ := HX6.out
                       obtain ⟨u0, u1, u2, u3, u4⟩ := HY6.out)
                    | fail)
                go_wp2_with fail
                go_ret
                exact ⟨by first | rfl | simp [*], HB3.out.trans (HB7.out.mono HB3.out.size)⟩
              · have ht := HNE.out (fun h => c4 h.2.2.2.2)
                have b1 : (coa == cob) = false := beq_eq_false_iff_ne.2 c4
                subst c1 c2 c3
                clear HEQ HNE
                go_region_held3 (fun w' => w'.cell? ⟨g, 0, none⟩ = some (.int .i64 ka) ∧ w'.cell? ⟨g, 1, none⟩ = some (.string da) ∧ w'.cell? ⟨g, 2, none⟩ = some (.bool sea) ∧ w'.cell? ⟨g, 3, none⟩ = some (.int .u8 coa) ∧ w'.cell? ⟨g, 4, none⟩ = some (.int .i64 na) ∧ w'.cell? ⟨g + 1, 0, none⟩ = some (.int .i64 ka) ∧ w'.cell? ⟨g + 1, 1, none⟩ = some (.string da) ∧ w'.cell? ⟨g + 1, 2, none⟩ = some (.bool sea) ∧ w'.cell? ⟨g + 1, 3, none⟩ = some (.int .u8 cob) ∧ w'.cell? ⟨g + 1, 4, none⟩ = some (.int .i64 nb))
                  (first | go_keep)
                  (first
                    | (go_at_call 13; (with_reducible refine (HTY.out _ (HSC.out.next HB6.out) (HTC.out.next HB6.out)).mono ?_); rintro e w7 ⟨rfl, hb7⟩
                       have HB7 := Lib.hid (Below.trans HB6.out (hb7.mono (Below.size HB6.out)))
                       have HX7 := Lib.hid (HX3.out.next HB7.out)
                       have HY7 := Lib.hid (HY3.out.next HB7.out)
                       clear hb7
                       obtain ⟨p0, p1, p2, p3, p4⟩ := HX7.out
                       obtain ⟨q0, q1, q2, q3, q4⟩ := HY7.out)
                    | (go_at_call 13; (with_reducible refine (HTX.out _ (HSC.out.next HDR.out) (HTC.out.next HDR.out)).mono ?_); rintro e w6 ⟨rfl, hb6⟩
                       have HB6 := Lib.hid (Below.trans HDR.out (hb6.mono (Below.size HDR.out)))
                       have HX6 := Lib.hid (HX3.out.next HB6.out)
                       have HY6 := Lib.hid (HY3.out.next HB6.out)
                       clear hb6
                       obtain ⟨r0, r1, r2, r3, r4⟩ := HX6.out
                       obtain ⟨u0, u1, u2, u3, u4⟩ := HY6.out)
                    | fail)
                go_wp2_with fail
                go_ret
                exact ⟨by first | rfl | simp [*], HB3.out.trans (HB7.out.mono HB3.out.size)⟩
              · have ht := HNE.out (fun h => c5 h.2.1)
                have b1 : (na == nb) = false := beq_eq_false_iff_ne.2 c5
                subst c1 c2 c3 c4
                clear HEQ HNE
                go_region_held3 (fun w' => w'.cell? ⟨g, 0, none⟩ = some (.int .i64 ka) ∧ w'.cell? ⟨g, 1, none⟩ = some (.string da) ∧ w'.cell? ⟨g, 2, none⟩ = some (.bool sea) ∧ w'.cell? ⟨g, 3, none⟩ = some (.int .u8 coa) ∧ w'.cell? ⟨g, 4, none⟩ = some (.int .i64 na) ∧ w'.cell? ⟨g + 1, 0, none⟩ = some (.int .i64 ka) ∧ w'.cell? ⟨g + 1, 1, none⟩ = some (.string da) ∧ w'.cell? ⟨g + 1, 2, none⟩ = some (.bool sea) ∧ w'.cell? ⟨g + 1, 3, none⟩ = some (.int .u8 coa) ∧ w'.cell? ⟨g + 1, 4, none⟩ = some (.int .i64 nb))
                  (first | go_keep)
                  (first
                    | (go_at_call 13; (with_reducible refine (HTY.out _ (HSC.out.next HB6.out) (HTC.out.next HB6.out)).mono ?_); rintro e w7 ⟨rfl, hb7⟩
                       have HB7 := Lib.hid (Below.trans HB6.out (hb7.mono (Below.size HB6.out)))
                       have HX7 := Lib.hid (HX3.out.next HB7.out)
                       have HY7 := Lib.hid (HY3.out.next HB7.out)
                       clear hb7
                       obtain ⟨p0, p1, p2, p3, p4⟩ := HX7.out
                       obtain ⟨q0, q1, q2, q3, q4⟩ := HY7.out)
                    | (go_at_call 13; (with_reducible refine (HTX.out _ (HSC.out.next HDR.out) (HTC.out.next HDR.out)).mono ?_); rintro e w6 ⟨rfl, hb6⟩
                       have HB6 := Lib.hid (Below.trans HDR.out (hb6.mono (Below.size HDR.out)))
                       have HX6 := Lib.hid (HX3.out.next HB6.out)
                       have HY6 := Lib.hid (HY3.out.next HB6.out)
                       clear hb6
                       obtain ⟨r0, r1, r2, r3, r4⟩ := HX6.out
                       obtain ⟨u0, u1, u2, u3, u4⟩ := HY6.out)
                    | fail)
                go_wp2_with fail
                go_ret
                exact ⟨by first | rfl | simp [*], HB3.out.trans (HB7.out.mono HB3.out.size)⟩
            exact AllReadyH.nil
          exact AllReadyH.nil
        exact AllReadyH.nil
      exact AllReadyH.nil
    exact AllReadyH.nil
  refine AllReadyH.cons rfl (fun K hK => ?_) ?_
  · skip
    go_simp
    refine hK.out _ _ trivial (fun hHeld => ?_)
    clear hK K
    try simp only [Act.put, List.setIfInBounds_toArray, List.set_cons_zero, List.set_cons_succ]
    refine wpAnyH_ready (rs := [1]) (by kernel_rfl) (by simp) ?_
    refine AllReadyH.cons rfl (fun K hK => ?_) ?_
    · skip
      go_simp
      refine hK.out _ _ trivial (fun hHeld => ?_)
      clear hK K
      try simp only [Act.put, List.setIfInBounds_toArray, List.set_cons_zero, List.set_cons_succ]
      refine wpAnyH_ready (rs := [2]) (by kernel_rfl) (by simp) ?_
      refine AllReadyH.cons rfl (fun K hK => ?_) ?_
      · skip
        go_simp
        go_at_call 15
        with_reducible refine (HCX.out _).mono ?_
        rintro e w2 ⟨ka, na, da, sea, coa, rfl, hbr, hda, hna0, hna1, hb2⟩
        have HBRX := Lib.hid hbr
        have HB2 := Lib.hid (HD1.out.trans (hb2.mono HD1.out.size))
        clear hbr hb2
        have HYB : Hid (SBox w2 (g + 1) k' n' d' se' code') := Lib.hid (HY1.out.next HB2.out)
        obtain ⟨z0, z1, z2, z3, z4⟩ := HYB.out
        refine hK.out _ _ trivial (fun hHeld => ?_)
        clear hK K
        try simp only [Act.put, List.setIfInBounds_toArray, List.set_cons_zero, List.set_cons_succ]
        refine wpAnyH_ready (rs := [5]) (by kernel_rfl) (by simp) ?_
        refine AllReadyH.cons rfl (fun K hK => ?_) ?_
        · skip
          go_simp
          go_at_call 15
          with_reducible refine (HCY.out _).mono ?_
          rintro e w3 ⟨kb, nb, db, seb, cob, rfl, hbr, hdb, hnb0, hnb1, hb3⟩
          have HBRY := Lib.hid hbr
          have HT := Lib.hid (two_sig (g := g) (ka := ka) (na := na) (da := da) (sea := sea) (coa := coa) (kb := kb) (nb := nb) (db := db) (seb := seb) (cob := cob) (by rw [HG.out]; exact Nat.le_refl _) HW1.out HL1.out HB2.out hb3 HFX1.out HFY1.out)
          have HOX := Lib.hid ((hb3.block g (by have h1 := HB2.out.size; have h2 := HL1.out; omega)).trans ((HB2.out.block g (by have h2 := HL1.out; omega)).trans HFX1.out))
          have HOY := Lib.hid ((hb3.block (g + 1) (by have h1 := HB2.out.size; have h2 := HL1.out; omega)).trans ((HB2.out.block (g + 1) HL1.out).trans HFY1.out))
          clear hbr hb3
          refine hK.out _ _ trivial (fun hHeld => ?_)
          clear hK K
          try simp only [Act.put, List.setIfInBounds_toArray, List.set_cons_zero, List.set_cons_succ]
          refine wpAnyH_ready (rs := [6]) (by kernel_rfl) (by simp) ?_
          refine AllReadyH.cons rfl (fun K hK => ?_) ?_
          · skip
            refine step_store_row rfl 31 (.tmp 2) (.tmp 10) rfl g #[.int .i64 ka, .string da, .bool sea, .int .u8 coa, .int .i64 na] rfl rfl 31 _ HOX.out infoSig rfl (sig_one _ _ _ _ _) ?_
            refine hK.out _ _ trivial (fun hHeld => ?_)
            clear hK K
            try simp only [Act.put, List.setIfInBounds_toArray, List.set_cons_zero, List.set_cons_succ]
            refine wpAnyH_ready (rs := [7]) (by kernel_rfl) (by simp) ?_
            refine AllReadyH.cons rfl (fun K hK => ?_) ?_
            · skip
              refine step_store_row rfl 31 (.tmp 3) (.tmp 13) rfl (g + 1) #[.int .i64 kb, .string db, .bool seb, .int .u8 cob, .int .i64 nb] rfl rfl 31 #[.int .i64 k', .string d', .bool se', .int .u8 code', .int .i64 n'] (by rw [setRow_other _ _ _ _ (by omega)]; exact HOY.out) infoSig rfl (sig_one _ _ _ _ _) ?_
              refine hK.out _ _ trivial (fun hHeld => ?_)
              clear hK K
              try simp only [Act.put, List.setIfInBounds_toArray, List.set_cons_zero, List.set_cons_succ]
              refine wpAnyH_done (by kernel_rfl) ?_ _
              try simp only [Act.put, List.setIfInBounds_toArray, List.set_cons_zero, List.set_cons_succ]
              go_upto_region 5 with fail
              have HX3 := Lib.hid HT.out.1
              have HY3 := Lib.hid HT.out.2.1
              have HB3 := Lib.hid HT.out.2.2
              clear HT x0 x1 x2 x3 x4 y0 y1 y2 y3 y4 z0 z1 z2 z3 z4 HOX HOY
              generalize World.setRow (World.setRow w3 g #[.int .i64 ka, .string da, .bool sea, .int .u8 coa, .int .i64 na]) (g + 1) #[.int .i64 kb, .string db, .bool seb, .int .u8 cob, .int .i64 nb] = wc at *
              have HSC := Lib.hid (HS.out.next HB3.out)
              have HTC := Lib.hid (HTB.out.next HB3.out)
              have HTX := Lib.hid (fun W (hW : VarsIn W) (hT : TabIn W) => ev_text ka na da sea coa W hW (by omega) hna0 hna1 hT)
              have HTY := Lib.hid (fun W (hW : VarsIn W) (hT : TabIn W) => ev_text kb nb db seb cob W hW (by omega) hnb0 hnb1 hT)
              have HINJ := Lib.hid (fun h => text_inj ka na da sea coa kb nb db seb cob HBRX.out HBRY.out h)
              have HSAME : Hid (∀ x0 x1 x2 x3 x4, textB ka na da sea coa = x0 → (ka = kb ∧ na = nb ∧ da = db ∧ sea = seb ∧ coa = cob) → textB kb nb db seb cob = x0 ∨ x1 ∨ x2 ∨ x3 ∨ x4) := by
                rintro x0 x1 x2 x3 x4 h ⟨rfl, rfl, rfl, rfl, rfl⟩; exact .inl h
              obtain ⟨TX, hTX⟩ : ∃ TX, TX = textB ka na da sea coa := ⟨_, rfl⟩
              obtain ⟨TY, hTY⟩ : ∃ TY, TY = textB kb nb db seb cob := ⟨_, rfl⟩
              have HTXE := Lib.hid hTX
              have HTYE := Lib.hid hTY
              rw [← hTX] at HTX
              rw [← hTY] at HTY
              clear hTX hTY HSAME
              obtain ⟨x0, x1, x2, x3, x4⟩ := HX3.out
              obtain ⟨y0, y1, y2, y3, y4⟩ := HY3.out
              have HDR := Lib.hid ((Below.refl wc.heap.size wc).drew)
              have hne : ¬ (ka = kb ∧ na = nb ∧ da = db ∧ sea = seb ∧ coa = cob) → (TX.toList == TY.toList) = false := fun h => by
                rw [beq_eq_false_iff_ne]
                intro e
                apply h
                apply HINJ.out
                rw [← HTXE.out, ← HTYE.out]
                exact bytes_toList e
              have HNE := Lib.hid hne
              have heq : (ka = kb ∧ na = nb ∧ da = db ∧ sea = seb ∧ coa = cob) → TX = TY := by
                rintro ⟨e1, e2, e3, e4, e5⟩
                rw [HTXE.out, HTYE.out, e1, e2, e3, e4, e5]
              have HEQ := Lib.hid heq
              clear hne heq HINJ HTXE HTYE
              have hcs : (ka = kb ∧ na = nb ∧ da = db ∧ sea = seb ∧ coa = cob) ∨ ¬ ka = kb ∨ (ka = kb ∧ ¬ da = db) ∨ (ka = kb ∧ da = db ∧ ¬ sea = seb) ∨ (ka = kb ∧ da = db ∧ sea = seb ∧ ¬ coa = cob) ∨ (ka = kb ∧ da = db ∧ sea = seb ∧ coa = cob ∧ ¬ na = nb) := by
                by_cases c1 : ka = kb
                · by_cases c2 : da = db
                  · by_cases c3 : sea = seb
                    · by_cases c4 : coa = cob
                      · by_cases c5 : na = nb
                        · exact .inl ⟨c1, c5, c2, c3, c4⟩
                        · exact .inr (.inr (.inr (.inr (.inr ⟨c1, c2, c3, c4, c5⟩))))
                      · exact .inr (.inr (.inr (.inr (.inl ⟨c1, c2, c3, c4⟩))))
                    · exact .inr (.inr (.inr (.inl ⟨c1, c2, c3⟩)))
                  · exact .inr (.inr (.inl ⟨c1, c2⟩))
                · exact .inr (.inl c1)
              rcases hcs with hh | c1 | ⟨c1, c2⟩ | ⟨c1, c2, c3⟩ | ⟨c1, c2, c3, c4⟩ | ⟨c1, c2, c3, c4, c5⟩
              · have ht := HEQ.out hh
                obtain ⟨e1, e2, e3, e4, e5⟩ := hh
                subst e1 e2 e3 e4 e5
                rw [← ht] at HTY
                clear HEQ HNE ht
                go_region_held3 (fun w' => w'.cell? ⟨g, 0, none⟩ = some (.int .i64 ka) ∧ w'.cell? ⟨g, 1, none⟩ = some (.string da) ∧ w'.cell? ⟨g, 2, none⟩ = some (.bool sea) ∧ w'.cell? ⟨g, 3, none⟩ = some (.int .u8 coa) ∧ w'.cell? ⟨g, 4, none⟩ = some (.int .i64 na) ∧ w'.cell? ⟨g + 1, 0, none⟩ = some (.int .i64 ka) ∧ w'.cell? ⟨g + 1, 1, none⟩ = some (.string da) ∧ w'.cell? ⟨g + 1, 2, none⟩ = some (.bool sea) ∧ w'.cell? ⟨g + 1, 3, none⟩ = some (.int .u8 coa) ∧ w'.cell? ⟨g + 1, 4, none⟩ = some (.int .i64 na))
                  (first | go_keep)
                  (first
                    | (go_at_call 13; (with_reducible refine (HTY.out _ (HSC.out.next HB6.out) (HTC.out.next HB6.out)).mono ?_); rintro e w7 ⟨rfl, hb7⟩
                       have HB7 := Lib.hid (Below.trans HB6.out (hb7.mono (Below.size HB6.out)))
                       have HX7 := Lib.hid (HX3.out.next HB7.out)
                       have HY7 := Lib.hid (HY3.out.next HB7.out)
                       clear hb7
                       obtain ⟨p0, p1, p2, p3, p4⟩ := HX7.out
                       obtain ⟨q0, q1, q2, q3, q4⟩ := HY7.out)
                    | (go_at_call 13; (with_reducible refine (HTX.out _ (HSC.out.next HDR.out) (HTC.out.next HDR.out)).mono ?_); rintro e w6 ⟨rfl, hb6⟩
                       have HB6 := Lib.hid (Below.trans HDR.out (hb6.mono (Below.size HDR.out)))
                       have HX6 := Lib.hid (HX3.out.next HB6.out)
                       have HY6 := Lib.hid (HY3.out.next HB6.out)
                       clear hb6
                       obtain ⟨r0, r1, r2, r3, r4⟩ := HX6.out
                       obtain ⟨u0, u1, u2, u3, u4⟩ := HY6.out)
                    | fail)
                go_wp2_with fail
                go_ret
                exact ⟨by first | rfl | simp [*], HB3.out.trans (HB7.out.mono HB3.out.size)⟩
              · have ht := HNE.out (fun h => c1 h.1)
                have b1 : (ka == kb) = false := beq_eq_false_iff_ne.2 c1
                clear HEQ HNE
                go_region_held3 (fun w' => w'.cell? ⟨g, 0, none⟩ = some (.int .i64 ka) ∧ w'.cell? ⟨g, 1, none⟩ = some (.string da) ∧ w'.cell? ⟨g, 2, none⟩ = some (.bool sea) ∧ w'.cell? ⟨g, 3, none⟩ = some (.int .u8 coa) ∧ w'.cell? ⟨g, 4, none⟩ = some (.int .i64 na) ∧ w'.cell? ⟨g + 1, 0, none⟩ = some (.int .i64 kb) ∧ w'.cell? ⟨g + 1, 1, none⟩ = some (.string db) ∧ w'.cell? ⟨g + 1, 2, none⟩ = some (.bool seb) ∧ w'.cell? ⟨g + 1, 3, none⟩ = some (.int .u8 cob) ∧ w'.cell? ⟨g + 1, 4, none⟩ = some (.int .i64 nb))
                  (first | go_keep)
                  (first
                    | (go_at_call 13; (with_reducible refine (HTY.out _ (HSC.out.next HB6.out) (HTC.out.next HB6.out)).mono ?_); rintro e w7 ⟨rfl, hb7⟩
                       have HB7 := Lib.hid (Below.trans HB6.out (hb7.mono (Below.size HB6.out)))
                       have HX7 := Lib.hid (HX3.out.next HB7.out)
                       have HY7 := Lib.hid (HY3.out.next HB7.out)
                       clear hb7
                       obtain ⟨p0, p1, p2, p3, p4⟩ := HX7.out
                       obtain ⟨q0, q1, q2, q3, q4⟩ := HY7.out)
                    | (go_at_call 13; (with_reducible refine (HTX.out _ (HSC.out.next HDR.out) (HTC.out.next HDR.out)).mono ?_); rintro e w6 ⟨rfl, hb6⟩
                       have HB6 := Lib.hid (Below.trans HDR.out (hb6.mono (Below.size HDR.out)))
                       have HX6 := Lib.hid (HX3.out.next HB6.out)
                       have HY6 := Lib.hid (HY3.out.next HB6.out)
                       clear hb6
                       obtain ⟨r0, r1, r2, r3, r4⟩ := HX6.out
                       obtain ⟨u0, u1, u2, u3, u4⟩ := HY6.out)
                    | fail)
                go_wp2_with fail
                go_ret
                exact ⟨by first | rfl | simp [*], HB3.out.trans (HB7.out.mono HB3.out.size)⟩
              · have ht := HNE.out (fun h => c2 h.2.2.1)
                have b1 : decide (da = db) = false := decide_eq_false c2
                have b2 : (da.toList == db.toList) = false := beq_eq_false_iff_ne.2 (fun h => c2 (bytes_toList h))
                subst c1
                clear HEQ HNE
                go_region_held3 (fun w' => w'.cell? ⟨g, 0, none⟩ = some (.int .i64 ka) ∧ w'.cell? ⟨g, 1, none⟩ = some (.string da) ∧ w'.cell? ⟨g, 2, none⟩ = some (.bool sea) ∧ w'.cell? ⟨g, 3, none⟩ = some (.int .u8 coa) ∧ w'.cell? ⟨g, 4, none⟩ = some (.int .i64 na) ∧ w'.cell? ⟨g + 1, 0, none⟩ = some (.int .i64 ka) ∧ w'.cell? ⟨g + 1, 1, none⟩ = some (.string db) ∧ w'.cell? ⟨g + 1, 2, none⟩ = some (.bool seb) ∧ w'.cell? ⟨g + 1, 3, none⟩ = some (.int .u8 cob) ∧ w'.cell? ⟨g + 1, 4, none⟩ = some (.int .i64 nb))
                  (first | go_keep)
                  (first
                    | (go_at_call 13; (with_reducible refine (HTY.out _ (HSC.out.next HB6.out) (HTC.out.next HB6.out)).mono ?_); rintro e w7 ⟨rfl, hb7⟩
                       have HB7 := Lib.hid (Below.trans HB6.out (hb7.mono (Below.size HB6.out)))
                       have HX7 := Lib.hid (HX3.out.next HB7.out)
                       have HY7 := Lib.hid (HY3.out.next HB7.out)
                       clear hb7
                       obtain ⟨p0, p1, p2, p3, p4⟩ := HX7.out
                       obtain ⟨q0, q1, q2, q3, q4⟩ := HY7.out)
                    | (go_at_call 13; (with_reducible refine (HTX.out _ (HSC.out.next HDR.out) (HTC.out.next HDR.out)).mono ?_); rintro e w6 ⟨rfl, hb6⟩
                       have HB6 := Lib.hid (Below.trans HDR.out (hb6.mono (Below.size HDR.out)))
                       have HX6 := Lib.hid (HX3.out.next HB6.out)
                       have HY6 := Lib.hid (HY3.out.next HB6.out)
                       clear hb6
                       obtain ⟨r0, r1, r2, r3, r4⟩ := HX6.out
                       obtain ⟨u0, u1, u2, u3, u4⟩ := HY6.out)
                    | fail)
                go_wp2_with fail
                go_ret
                exact ⟨by first | rfl | simp [*], HB3.out.trans (HB7.out.mono HB3.out.size)⟩
              · have ht := HNE.out (fun h => c3 h.2.2.2.1)
                have b1 : (sea == seb) = false := beq_eq_false_iff_ne.2 c3
                subst c1 c2
                clear HEQ HNE
                go_region_held3 (fun w' => w'.cell? ⟨g, 0, none⟩ = some (.int .i64 ka) ∧ w'.cell? ⟨g, 1, none⟩ = some (.string da) ∧ w'.cell? ⟨g, 2, none⟩ = some (.bool sea) ∧ w'.cell? ⟨g, 3, none⟩ = some (.int .u8 coa) ∧ w'.cell? ⟨g, 4, none⟩ = some (.int .i64 na) ∧ w'.cell? ⟨g + 1, 0, none⟩ = some (.int .i64 ka) ∧ w'.cell? ⟨g + 1, 1, none⟩ = some (.string da) ∧ w'.cell? ⟨g + 1, 2, none⟩ = some (.bool seb) ∧ w'.cell? ⟨g + 1, 3, none⟩ = some (.int .u8 cob) ∧ w'.cell? ⟨g + 1, 4, none⟩ = some (.int .i64 nb))
                  (first | go_keep)
                  (first
                    | (go_at_call 13; (with_reducible refine (HTY.out _ (HSC.out.next HB6.out) (HTC.out.next HB6.out)).mono ?_); rintro e w7 ⟨rfl, hb7⟩
                       have HB7 := Lib.hid (Below.trans HB6.out (hb7.mono (Below.size HB6.out)))
                       have HX7 := Lib.hid (HX3.out.next HB7.out)
                       have HY7 := Lib.hid (HY3.out.next HB7.out)
                       clear hb7
                       obtain ⟨p0, p1, p2, p3, p4⟩ := HX7.out
                       obtain ⟨q0, q1, q2, q3, q4⟩ := HY7.out)
                    | (go_at_call 13; (with_reducible refine (HTX.out _ (HSC.out.next HDR.out) (HTC.out.next HDR.out)).mono ?_); rintro e w6 ⟨rfl, hb6⟩
                       have HB6 := Lib.hid (Below.trans HDR.out (hb6.mono (Below.size HDR.out)))
                       have HX6 := Lib.hid (HX3.out.next HB6.out)
                       have HY6 := Lib.hid (HY3.out.next HB6.out)
                       clear hb6
                       obtain ⟨r0, r1, r2, r3, r4⟩ := HX6.out
                       obtain ⟨u0, u1, u2, u3, u4⟩ := HY6.out)
                    | fail)
                go_wp2_with fail
                go_ret
                exact ⟨by first | rfl | simp [*], HB3.out.trans (HB7.out.mono HB3.out.size)⟩
              · have ht := HNE.out (fun h => c4 h.2.2.2.2)
                have b1 : (coa == cob) = false := beq_eq_false_iff_ne.2 c4
                subst c1 c2 c3
                clear HEQ HNE
                go_region_held3 (fun w' => w'.cell? ⟨g, 0, none⟩ = some (.int .i64 ka) ∧ w'.cell? ⟨g, 1, none⟩ = some (.string da) ∧ w'.cell? ⟨g, 2, none⟩ = some (.bool sea) ∧ w'.cell? ⟨g, 3, none⟩ = some (.int .u8 coa) ∧ w'.cell? ⟨g, 4, none⟩ = some (.int .i64 na) ∧ w'.cell? ⟨g + 1, 0, none⟩ = some (.int .i64 ka) ∧ w'.cell? ⟨g + 1, 1, none⟩ = some (.string da) ∧ w'.cell? ⟨g + 1, 2, none⟩ = some (.bool sea) ∧ w'.cell? ⟨g + 1, 3, none⟩ = some (.int .u8 cob) ∧ w'.cell? ⟨g + 1, 4, none⟩ = some (.int .i64 nb))
                  (first | go_keep)
                  (first
                    | (go_at_call 13; (with_reducible refine (HTY.out _ (HSC.out.next HB6.out) (HTC.out.next HB6.out)).mono ?_); rintro e w7 ⟨rfl, hb7⟩
                       have HB7 := Lib.hid (Below.trans HB6.out (hb7.mono (Below.size HB6.out)))
                       have HX7 := Lib.hid (HX3.out.next HB7.out)
                       have HY7 := Lib.hid (HY3.out.next HB7.out)
                       clear hb7
                       obtain ⟨p0, p1, p2, p3, p4⟩ := HX7.out
                       obtain ⟨q0, q1, q2, q3, q4⟩ := HY7.out)
                    | (go_at_call 13; (with_reducible refine (HTX.out _ (HSC.out.next HDR.out) (HTC.out.next HDR.out)).mono ?_); rintro e w6 ⟨rfl, hb6⟩
                       have HB6 := Lib.hid (Below.trans HDR.out (hb6.mono (Below.size HDR.out)))
                       have HX6 := Lib.hid (HX3.out.next HB6.out)
                       have HY6 := Lib.hid (HY3.out.next HB6.out)
                       clear hb6
                       obtain ⟨r0, r1, r2, r3, r4⟩ := HX6.out
                       obtain ⟨u0, u1, u2, u3, u4⟩ := HY6.out)
                    | fail)
                go_wp2_with fail
                go_ret
                exact ⟨by first | rfl | simp [*], HB3.out.trans (HB7.out.mono HB3.out.size)⟩
              · have ht := HNE.out (fun h => c5 h.2.1)
                have b1 : (na == nb) = false := beq_eq_false_iff_ne.2 c5
                subst c1 c2 c3 c4
                clear HEQ HNE
                go_region_held3 (fun w' => w'.cell? ⟨g, 0, none⟩ = some (.int .i64 ka) ∧ w'.cell? ⟨g, 1, none⟩ = some (.string da) ∧ w'.cell? ⟨g, 2, none⟩ = some (.bool sea) ∧ w'.cell? ⟨g, 3, none⟩ = some (.int .u8 coa) ∧ w'.cell? ⟨g, 4, none⟩ = some (.int .i64 na) ∧ w'.cell? ⟨g + 1, 0, none⟩ = some (.int .i64 ka) ∧ w'.cell? ⟨g + 1, 1, none⟩ = some (.string da) ∧ w'.cell? ⟨g + 1, 2, none⟩ = some (.bool sea) ∧ w'.cell? ⟨g + 1, 3, none⟩ = some (.int .u8 coa) ∧ w'.cell? ⟨g + 1, 4, none⟩ = some (.int .i64 nb))
                  (first | go_keep)
                  (first
                    | (go_at_call 13; (with_reducible refine (HTY.out _ (HSC.out.next HB6.out) (HTC.out.next HB6.out)).mono ?_); rintro e w7 ⟨rfl, hb7⟩
                       have HB7 := Lib.hid (Below.trans HB6.out (hb7.mono (Below.size HB6.out)))
                       have HX7 := Lib.hid (HX3.out.next HB7.out)
                       have HY7 := Lib.hid (HY3.out.next HB7.out)
                       clear hb7
                       obtain ⟨p0, p1, p2, p3, p4⟩ := HX7.out
                       obtain ⟨q0, q1, q2, q3, q4⟩ := HY7.out)
                    | (go_at_call 13; (with_reducible refine (HTX.out _ (HSC.out.next HDR.out) (HTC.out.next HDR.out)).mono ?_); rintro e w6 ⟨rfl, hb6⟩
                       have HB6 := Lib.hid (Below.trans HDR.out (hb6.mono (Below.size HDR.out)))
                       have HX6 := Lib.hid (HX3.out.next HB6.out)
                       have HY6 := Lib.hid (HY3.out.next HB6.out)
                       clear hb6
                       obtain ⟨r0, r1, r2, r3, r4⟩ := HX6.out
                       obtain ⟨u0, u1, u2, u3, u4⟩ := HY6.out)
                    | fail)
                go_wp2_with fail
                go_ret
                exact ⟨by first | rfl | simp [*], HB3.out.trans (HB7.out.mono HB3.out.size)⟩
            exact AllReadyH.nil
          exact AllReadyH.nil
        exact AllReadyH.nil
      exact AllReadyH.nil
    exact AllReadyH.nil
  exact AllReadyH.nil
end Go.Proofs.YtnocckgbcjienaaDoor
