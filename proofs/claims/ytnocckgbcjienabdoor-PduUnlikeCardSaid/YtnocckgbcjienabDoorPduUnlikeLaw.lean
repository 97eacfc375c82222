/- The walk of the law PduUnlike. Conditions: the units' rows lie as rows do. -/
import Derived.Test.YtnocckgbcjienabDoorPduOwnUnit
import Derived.Test.YtnocckgbcjienabDoorPduDoor
import Derived.Test.YtnocckgbcjienabDoorPduRefCheck
import Derived.Test.YtnocckgbcjienabDoorUnitIn
import Derived.Deep.RegionLaw
namespace Go.Proofs.YtnocckgbcjienabDoor
open Go.RowKit
set_option linter.unusedVariables false
set_option linter.unusedSimpArgs false

/-- Two units lie in the blocks g and g + 1, their rows behind w. -/
def TwoAt (w wc : World) (g : Nat) (k sq n ps mr : Int) (xs : List Int) (se : Bool) (d : ByteArray) (k' sq' n' ps' mr' : Int) (xs' : List Int) (se' : Bool) (d' : ByteArray) : Prop :=
  ∃ (A : Option Addr) (c : Nat) (A' : Option Addr) (c' : Nat), RBox wc g k sq n ps mr (.slice A xs.length c) se d ∧ RBox wc (g + 1) k' sq' n' ps' mr' (.slice A' xs'.length c') se' d' ∧ IRow wc (.slice A xs.length c) xs ∧ IRow wc (.slice A' xs'.length c') xs' ∧ Below w.heap.size w wc
theorem two_at {w w0 w2 w3 : World} {g : Nat} {k sq n ps mr : Int} {xs : List Int} {se : Bool} {d : ByteArray} {k' sq' n' ps' mr' : Int} {xs' : List Int} {se' : Bool} {d' : ByteArray} {A A' : Option Addr} {c c' : Nat} {o o' : Array Value}
    (hg : w.heap.size ≤ g) (h0 : Below w.heap.size w w0) (hlt : g + 1 < w0.heap.size) (hb2 : Below w0.heap.size w0 w2) (hb3 : Below w2.heap.size w2 w3) (hr : IRow w2 (.slice A xs.length c) xs) (hr' : IRow w3 (.slice A' xs'.length c') xs')
    (hf : ∀ r, (Value.slice A xs.length c).ownBlock = some r → w0.heap.size ≤ r) (hf' : ∀ r, (Value.slice A' xs'.length c').ownBlock = some r → w0.heap.size ≤ r)
    (ho : w0.heap[g]? = some (.cells o 24 (0, 0))) (ho' : w0.heap[g + 1]? = some (.cells o' 24 (0, 0))) :
    TwoAt w ((w3.setRow g #[.int .i64 k, .int .i64 sq, .int .i64 n, .int .i64 ps, .int .i64 mr, .slice A xs.length c, .bool se, .string d]).setRow (g + 1) #[.int .i64 k', .int .i64 sq', .int .i64 n', .int .i64 ps', .int .i64 mr', .slice A' xs'.length c', .bool se', .string d']) g k sq n ps mr xs se d k' sq' n' ps' mr' xs' se' d' := by
  have hs2 := hb2.size
  have hs3 := hb3.size
  have hb03 := hb2.trans (hb3.mono hs2)
  have o3 : w3.heap[g]? = some (.cells o 24 (0, 0)) := (hb03.block g (by omega)).trans ho
  have o3' : w3.heap[g + 1]? = some (.cells o' 24 (0, 0)) := (hb03.block (g + 1) hlt).trans ho'
  refine ⟨A, c, A', c', ?_, ?_, ?_, ?_, ?_⟩
  · exact rbox_setRow (rrow_box w3 g k sq n ps mr (.slice A xs.length c) se d o3) (by omega)
  · exact rrow_box _ (g + 1) k' sq' n' ps' mr' (.slice A' xs'.length c') se' d' (by rw [setRow_other _ _ _ _ (by omega)]; exact o3')
  · exact irow_setRow (irow_setRow (hr.below hb3) (fun r hr => by have := hf r hr; omega)) (fun r hr => by have := hf r hr; omega)
  · exact irow_setRow (irow_setRow hr' (fun r hr => by have := hf' r hr; omega)) (fun r hr => by have := hf' r hr; omega)
  · exact below_setRow (below_setRow (h0.trans (hb03.mono h0.size)) hg _) (by omega) _

set_option maxHeartbeats 8000000 in
set_option maxRecDepth 100000 in
theorem walk_PduUnlike (k sq n ps mr : Int) (p : Option Addr) (len cap : Nat) (xs : List Int) (se : Bool) (d : ByteArray) (k' sq' n' ps' mr' : Int) (p' : Option Addr) (len' cap' : Nat) (xs' : List Int) (se' : Bool) (d' : ByteArray) (w : World) (hS : ShapesIn w)
    (hlen : len = xs.length) (hr : IRowB w (.slice p len cap) xs) (hd : d.size ≤ maxLen) (hlen' : len' = xs'.length) (hr' : IRowB w (.slice p' len' cap') xs') (hd' : d'.size ≤ maxLen) :
    Calls Tryd.prog 4 #[.agg #[.int .i64 k, .int .i64 sq, .int .i64 n, .int .i64 ps, .int .i64 mr, .slice p len cap, .bool se, .string d], .agg #[.int .i64 k', .int .i64 sq', .int .i64 n', .int .i64 ps', .int .i64 mr', .slice p' len' cap', .bool se', .string d']] w fun e w' => e = .returned (.bool true) ∧ Below w.heap.size w w' := by
  obtain ⟨wa, hwa⟩ : ∃ wa, wa = (w.alloc (.cells #[.int .i64 k, .int .i64 sq, .int .i64 n, .int .i64 ps, .int .i64 mr, .slice p len cap, .bool se, .string d] 24)).alloc (.cells #[.int .i64 k', .int .i64 sq', .int .i64 n', .int .i64 ps', .int .i64 mr', .slice p' len' cap', .bool se', .string d'] 24) := ⟨_, rfl⟩
  have hb1 := (Below.refl _ w).alloc (Nat.le_refl _) (.cells #[.int .i64 k, .int .i64 sq, .int .i64 n, .int .i64 ps, .int .i64 mr, .slice p len cap, .bool se, .string d] 24)
  have hb2 : Below (w.alloc (.cells #[.int .i64 k, .int .i64 sq, .int .i64 n, .int .i64 ps, .int .i64 mr, .slice p len cap, .bool se, .string d] 24)).heap.size (w.alloc (.cells #[.int .i64 k, .int .i64 sq, .int .i64 n, .int .i64 ps, .int .i64 mr, .slice p len cap, .bool se, .string d] 24)) wa := by rw [hwa]; exact (Below.refl _ _).alloc (Nat.le_refl _) _
  have hszA : wa.heap.size = w.heap.size + 2 := by rw [hwa, World.size_alloc, World.size_alloc]
  have HBX := Lib.hid ((rbox_new w k sq n ps mr (.slice p len cap) se d).next hb2)
  have HBY : Hid (RBox wa (w.heap.size + 1) k' sq' n' ps' mr' (.slice p' len' cap') se' d') := by
    have h := rbox_new (w.alloc (.cells #[.int .i64 k, .int .i64 sq, .int .i64 n, .int .i64 ps, .int .i64 mr, .slice p len cap, .bool se, .string d] 24)) k' sq' n' ps' mr' (.slice p' len' cap') se' d'
    rw [World.size_alloc] at h
    rw [hwa]; exact h
  have HFX : Hid (wa.heap[w.heap.size]? = some (.cells #[.int .i64 k, .int .i64 sq, .int .i64 n, .int .i64 ps, .int .i64 mr, .slice p len cap, .bool se, .string d] 24 (0, 0))) := (hb2.block w.heap.size (by rw [World.size_alloc]; omega)).trans (heap_alloc_new w _)
  have HFY : Hid (wa.heap[w.heap.size + 1]? = some (.cells #[.int .i64 k', .int .i64 sq', .int .i64 n', .int .i64 ps', .int .i64 mr', .slice p' len' cap', .bool se', .string d'] 24 (0, 0))) := by
    have h := heap_alloc_new (w.alloc (.cells #[.int .i64 k, .int .i64 sq, .int .i64 n, .int .i64 ps, .int .i64 mr, .slice p len cap, .bool se, .string d] 24)) (.cells #[.int .i64 k', .int .i64 sq', .int .i64 n', .int .i64 ps', .int .i64 mr', .slice p' len' cap', .bool se', .string d'] 24)
    rw [World.size_alloc] at h
    rw [hwa]; exact h
  have HBA := Lib.hid (hb1.trans (hb2.mono hb1.size))
  have HLE := Lib.hid hlen
  have HR := Lib.hid hr
  have HD := Lib.hid hd
  have HLE' := Lib.hid hlen'
  have HR' := Lib.hid hr'
  have HD' := Lib.hid hd'
  have HS := Lib.hid hS
  have HSZA := Lib.hid hszA
  clear hlen hr hd hlen' hr' hd' hS hb1 hb2 hszA
  go_enter Tryd.func4, Tryd.ntmps4
  go_upto_region 1 with fail
  rw [← hwa]
  clear hwa
  go_wp2_with fail
  refine (pdu_awake _ (HS.out.next HBA.out)).mono ?_
  rintro e w1 ⟨rfl, hb1⟩
  have HW1 := Lib.hid (HBA.out.trans (hb1.mono HBA.out.size))
  have HX1 := Lib.hid (HBX.out.next hb1)
  have HY1 := Lib.hid (HBY.out.next hb1)
  have HFX1 := Lib.hid ((hb1.block w.heap.size HBX.out.lt).trans HFX.out)
  have HFY1 := Lib.hid ((hb1.block (w.heap.size + 1) HBY.out.lt).trans HFY.out)
  have HL1 : Hid (w.heap.size + 1 < w1.heap.size) := by have h1 := hb1.size; have h2 := HSZA.out; show _ < _; omega
  clear hb1 HBX HBY HFX HFY HBA HSZA
  obtain ⟨g, hg⟩ : ∃ g, g = w.heap.size := ⟨_, rfl⟩
  have HG := Lib.hid hg
  rw [← hg] at HX1 HY1 HFX1 HFY1 HL1 ⊢
  clear hg
  have HD1 := Lib.hid ((Below.refl w1.heap.size w1).drew)
  have HCX := Lib.hid (fun W (hW : Below w1.heap.size w1 W) => few_is k sq n ps mr p len cap xs se d W HLE.out (HR.out.below (HW1.out.trans (hW.mono HW1.out.size))) HD.out)
  have HCY := Lib.hid (fun W (hW : Below w1.heap.size w1 W) => few_is k' sq' n' ps' mr' p' len' cap' xs' se' d' W HLE'.out (HR'.out.below (HW1.out.trans (hW.mono HW1.out.size))) HD'.out)
  have HNX : Hid ((0 ≤ in32 n ∧ in32 n < 4294967296) ∧ (0 ≤ in32 ps ∧ in32 ps < 4294967296) ∧ (0 ≤ in32 mr ∧ in32 mr < 4294967296) ∧ (∀ x, x ∈ (xs.take 140).map in32 → 0 ≤ x ∧ x < 4294967296) ∧ ((xs.take 140).map in32).length ≤ 140) :=
    ⟨in32_in _, in32_in _, in32_in _, by
      intro x hx
      obtain ⟨y, _, rfl⟩ := List.mem_map.1 hx
      exact in32_in y, by rw [List.length_map, List.length_take]; omega⟩
  have HNY : Hid ((0 ≤ in32 n' ∧ in32 n' < 4294967296) ∧ (0 ≤ in32 ps' ∧ in32 ps' < 4294967296) ∧ (0 ≤ in32 mr' ∧ in32 mr' < 4294967296) ∧ (∀ x, x ∈ (xs'.take 140).map in32 → 0 ≤ x ∧ x < 4294967296) ∧ ((xs'.take 140).map in32).length ≤ 140) :=
    ⟨in32_in _, in32_in _, in32_in _, by
      intro x hx
      obtain ⟨y, _, rfl⟩ := List.mem_map.1 hx
      exact in32_in y, by rw [List.length_map, List.length_take]; omega⟩
  generalize in32 n = nx at *
  generalize in32 ps = px at *
  generalize in32 mr = mx at *
  generalize cutB d 210 = dx at *
  generalize (xs.take 140).map in32 = ys at *
  generalize in32 n' = ny at *
  generalize in32 ps' = py at *
  generalize in32 mr' = my at *
  generalize cutB d' 210 = dy at *
  generalize (xs'.take 140).map in32 = zs at *
  obtain ⟨x0, x1, x2, x3, x4, x5, x6, x7⟩ := HX1.out
  obtain ⟨y0, y1, y2, y3, y4, y5, y6, y7⟩ := HY1.out
  go_upto_region 3 with fail
  go_cut [7] (fun s7 w' => s7 = s7 ∧ Hid (TwoAt w w' g k sq nx px mx ys se dx k' sq' ny py my zs se' dy))
  case first =>
    refine wp_region_any (by kernel_rfl) ?_
    try (change wpAny _ _ _ _ _ _ _ (World.drew _))
    refine wpAny_ready (rs := [0, 2]) (by kernel_rfl) (by simp) ?_
    refine AllReady.cons rfl (fun K hK => ?_) ?_
    · skip
      go_simp
      try simp only [Act.put, List.setIfInBounds_toArray, List.set_cons_zero, List.set_cons_succ]
      refine hK _ _ ?_
      clear hK K
      try simp only [Act.put, List.setIfInBounds_toArray, List.set_cons_zero, List.set_cons_succ]
      refine wpAny_ready (rs := [1, 2]) (by kernel_rfl) (by simp) ?_
      refine AllReady.cons rfl (fun K hK => ?_) ?_
      · skip
        go_simp
        go_at_call 11
        with_reducible refine (HCX.out _ HD1.out).mono ?_
        rintro e w2 ⟨l, rfl, hrow, hb2, hfar⟩
        obtain ⟨A, c, hl, _⟩ := id hrow
        subst hl
        have HROW := Lib.hid hrow
        have HFAR := Lib.hid hfar
        have HB2 := Lib.hid (HD1.out.trans hb2)
        clear hrow hfar hb2
        have HYB := Lib.hid (HY1.out.next HB2.out)
        obtain ⟨z0, z1, z2, z3, z4, z5, z6, z7⟩ := HYB.out
        try simp only [Act.put, List.setIfInBounds_toArray, List.set_cons_zero, List.set_cons_succ]
        refine hK _ _ ?_
        clear hK K
        try simp only [Act.put, List.setIfInBounds_toArray, List.set_cons_zero, List.set_cons_succ]
        refine wpAny_ready (rs := [2]) (by kernel_rfl) (by simp) ?_
        refine AllReady.cons rfl (fun K hK => ?_) ?_
        · skip
          go_simp
          try simp only [Act.put, List.setIfInBounds_toArray, List.set_cons_zero, List.set_cons_succ]
          refine hK _ _ ?_
          clear hK K
          try simp only [Act.put, List.setIfInBounds_toArray, List.set_cons_zero, List.set_cons_succ]
          refine wpAny_ready (rs := [3]) (by kernel_rfl) (by simp) ?_
          refine AllReady.cons rfl (fun K hK => ?_) ?_
          · skip
            go_simp
            go_at_call 11
            with_reducible refine (HCY.out _ HB2.out).mono ?_
            rintro e w3 ⟨l', rfl, hrow', hb3, hfar'⟩
            obtain ⟨A', c', hl', _⟩ := id hrow'
            subst hl'
            have HROW' := Lib.hid hrow'
            have HFAR' := Lib.hid hfar'
            have HB3 := Lib.hid hb3
            have HT := Lib.hid (two_at (g := g) (k := k) (sq := sq) (n := nx) (ps := px) (mr := mx) (se := se) (d := dx) (k' := k') (sq' := sq') (n' := ny) (ps' := py) (mr' := my) (se' := se') (d' := dy) (by rw [HG.out]; exact Nat.le_refl _) HW1.out HL1.out HB2.out hb3 HROW.out hrow' (fun r hr => by have h1 := HFAR.out r hr; exact h1) (fun r hr => by have h1 := hfar' r hr; have h2 := HB2.out.size; omega) HFX1.out HFY1.out)
            have HOX := Lib.hid ((hb3.block g (by have h1 := HB2.out.size; have h2 := HL1.out; omega)).trans ((HB2.out.block g (by have h2 := HL1.out; omega)).trans HFX1.out))
            have HOY := Lib.hid ((hb3.block (g + 1) (by have h1 := HB2.out.size; have h2 := HL1.out; omega)).trans ((HB2.out.block (g + 1) HL1.out).trans HFY1.out))
            clear hrow' hfar' hb3
            try simp only [Act.put, List.setIfInBounds_toArray, List.set_cons_zero, List.set_cons_succ]
            refine hK _ _ ?_
            clear hK K
            try simp only [Act.put, List.setIfInBounds_toArray, List.set_cons_zero, List.set_cons_succ]
            refine wpAny_ready (rs := [4]) (by kernel_rfl) (by simp) ?_
            refine AllReady.cons rfl (fun K hK => ?_) ?_
            · skip
              refine step_store_row rfl 24 (.tmp 2) (.tmp 8) rfl g #[.int .i64 k, .int .i64 sq, .int .i64 nx, .int .i64 px, .int .i64 mx, .slice A ys.length c, .bool se, .string dx] rfl rfl 24 _ HOX.out infoRef rfl (runit_one _ _ _ _ _ _ _ _) ?_
              try simp only [Act.put, List.setIfInBounds_toArray, List.set_cons_zero, List.set_cons_succ]
              refine hK _ _ ?_
              clear hK K
              try simp only [Act.put, List.setIfInBounds_toArray, List.set_cons_zero, List.set_cons_succ]
              refine wpAny_ready (rs := [5]) (by kernel_rfl) (by simp) ?_
              refine AllReady.cons rfl (fun K hK => ?_) ?_
              · skip
                refine step_store_row rfl 24 (.tmp 3) (.tmp 10) rfl (g + 1) #[.int .i64 k', .int .i64 sq', .int .i64 ny, .int .i64 py, .int .i64 my, .slice A' zs.length c', .bool se', .string dy] rfl rfl 24 #[.int .i64 k', .int .i64 sq', .int .i64 n', .int .i64 ps', .int .i64 mr', .slice p' len' cap', .bool se', .string d'] (by rw [setRow_other _ _ _ _ (by omega)]; exact HOY.out) infoRef rfl (runit_one _ _ _ _ _ _ _ _) ?_
                try simp only [Act.put, List.setIfInBounds_toArray, List.set_cons_zero, List.set_cons_succ]
                refine hK _ _ ?_
                clear hK K
                try simp only [Act.put, List.setIfInBounds_toArray, List.set_cons_zero, List.set_cons_succ]
                refine wpAny_done (by kernel_rfl) ?_ _
                try simp only [Act.put, List.setIfInBounds_toArray, List.set_cons_zero, List.set_cons_succ]
                go_wp2_with fail
                go_meet
                exact ⟨by first | trivial | rfl, HT⟩
              exact AllReady.nil
            exact AllReady.nil
          exact AllReady.nil
        exact AllReady.nil
      refine AllReady.cons rfl (fun K hK => ?_) ?_
      · skip
        go_simp
        try simp only [Act.put, List.setIfInBounds_toArray, List.set_cons_zero, List.set_cons_succ]
        refine hK _ _ ?_
        clear hK K
        try simp only [Act.put, List.setIfInBounds_toArray, List.set_cons_zero, List.set_cons_succ]
        refine wpAny_ready (rs := [1]) (by kernel_rfl) (by simp) ?_
        refine AllReady.cons rfl (fun K hK => ?_) ?_
        · skip
          go_simp
          go_at_call 11
          with_reducible refine (HCX.out _ HD1.out).mono ?_
          rintro e w2 ⟨l, rfl, hrow, hb2, hfar⟩
          obtain ⟨A, c, hl, _⟩ := id hrow
          subst hl
          have HROW := Lib.hid hrow
          have HFAR := Lib.hid hfar
          have HB2 := Lib.hid (HD1.out.trans hb2)
          clear hrow hfar hb2
          have HYB := Lib.hid (HY1.out.next HB2.out)
          obtain ⟨z0, z1, z2, z3, z4, z5, z6, z7⟩ := HYB.out
          try simp only [Act.put, List.setIfInBounds_toArray, List.set_cons_zero, List.set_cons_succ]
          refine hK _ _ ?_
          clear hK K
          try simp only [Act.put, List.setIfInBounds_toArray, List.set_cons_zero, List.set_cons_succ]
          refine wpAny_ready (rs := [3]) (by kernel_rfl) (by simp) ?_
          refine AllReady.cons rfl (fun K hK => ?_) ?_
          · skip
            go_simp
            go_at_call 11
            with_reducible refine (HCY.out _ HB2.out).mono ?_
            rintro e w3 ⟨l', rfl, hrow', hb3, hfar'⟩
            obtain ⟨A', c', hl', _⟩ := id hrow'
            subst hl'
            have HROW' := Lib.hid hrow'
            have HFAR' := Lib.hid hfar'
            have HB3 := Lib.hid hb3
            have HT := Lib.hid (two_at (g := g) (k := k) (sq := sq) (n := nx) (ps := px) (mr := mx) (se := se) (d := dx) (k' := k') (sq' := sq') (n' := ny) (ps' := py) (mr' := my) (se' := se') (d' := dy) (by rw [HG.out]; exact Nat.le_refl _) HW1.out HL1.out HB2.out hb3 HROW.out hrow' (fun r hr => by have h1 := HFAR.out r hr; exact h1) (fun r hr => by have h1 := hfar' r hr; have h2 := HB2.out.size; omega) HFX1.out HFY1.out)
            have HOX := Lib.hid ((hb3.block g (by have h1 := HB2.out.size; have h2 := HL1.out; omega)).trans ((HB2.out.block g (by have h2 := HL1.out; omega)).trans HFX1.out))
            have HOY := Lib.hid ((hb3.block (g + 1) (by have h1 := HB2.out.size; have h2 := HL1.out; omega)).trans ((HB2.out.block (g + 1) HL1.out).trans HFY1.out))
            clear hrow' hfar' hb3
            try simp only [Act.put, List.setIfInBounds_toArray, List.set_cons_zero, List.set_cons_succ]
            refine hK _ _ ?_
            clear hK K
            try simp only [Act.put, List.setIfInBounds_toArray, List.set_cons_zero, List.set_cons_succ]
            refine wpAny_ready (rs := [4]) (by kernel_rfl) (by simp) ?_
            refine AllReady.cons rfl (fun K hK => ?_) ?_
            · skip
              refine step_store_row rfl 24 (.tmp 2) (.tmp 8) rfl g #[.int .i64 k, .int .i64 sq, .int .i64 nx, .int .i64 px, .int .i64 mx, .slice A ys.length c, .bool se, .string dx] rfl rfl 24 _ HOX.out infoRef rfl (runit_one _ _ _ _ _ _ _ _) ?_
              try simp only [Act.put, List.setIfInBounds_toArray, List.set_cons_zero, List.set_cons_succ]
              refine hK _ _ ?_
              clear hK K
              try simp only [Act.put, List.setIfInBounds_toArray, List.set_cons_zero, List.set_cons_succ]
              refine wpAny_ready (rs := [5]) (by kernel_rfl) (by simp) ?_
              refine AllReady.cons rfl (fun K hK => ?_) ?_
              · skip
                refine step_store_row rfl 24 (.tmp 3) (.tmp 10) rfl (g + 1) #[.int .i64 k', .int .i64 sq', .int .i64 ny, .int .i64 py, .int .i64 my, .slice A' zs.length c', .bool se', .string dy] rfl rfl 24 #[.int .i64 k', .int .i64 sq', .int .i64 n', .int .i64 ps', .int .i64 mr', .slice p' len' cap', .bool se', .string d'] (by rw [setRow_other _ _ _ _ (by omega)]; exact HOY.out) infoRef rfl (runit_one _ _ _ _ _ _ _ _) ?_
                try simp only [Act.put, List.setIfInBounds_toArray, List.set_cons_zero, List.set_cons_succ]
                refine hK _ _ ?_
                clear hK K
                try simp only [Act.put, List.setIfInBounds_toArray, List.set_cons_zero, List.set_cons_succ]
                refine wpAny_done (by kernel_rfl) ?_ _
                try simp only [Act.put, List.setIfInBounds_toArray, List.set_cons_zero, List.set_cons_succ]
                go_wp2_with fail
                go_meet
                exact ⟨by first | trivial | rfl, HT⟩
              exact AllReady.nil
            exact AllReady.nil
          exact AllReady.nil
        exact AllReady.nil
      exact AllReady.nil
    refine AllReady.cons rfl (fun K hK => ?_) ?_
    · skip
      go_simp
      try simp only [Act.put, List.setIfInBounds_toArray, List.set_cons_zero, List.set_cons_succ]
      refine hK _ _ ?_
      clear hK K
      try simp only [Act.put, List.setIfInBounds_toArray, List.set_cons_zero, List.set_cons_succ]
      refine wpAny_ready (rs := [0]) (by kernel_rfl) (by simp) ?_
      refine AllReady.cons rfl (fun K hK => ?_) ?_
      · skip
        go_simp
        try simp only [Act.put, List.setIfInBounds_toArray, List.set_cons_zero, List.set_cons_succ]
        refine hK _ _ ?_
        clear hK K
        try simp only [Act.put, List.setIfInBounds_toArray, List.set_cons_zero, List.set_cons_succ]
        refine wpAny_ready (rs := [1]) (by kernel_rfl) (by simp) ?_
        refine AllReady.cons rfl (fun K hK => ?_) ?_
        · skip
          go_simp
          go_at_call 11
          with_reducible refine (HCX.out _ HD1.out).mono ?_
          rintro e w2 ⟨l, rfl, hrow, hb2, hfar⟩
          obtain ⟨A, c, hl, _⟩ := id hrow
          subst hl
          have HROW := Lib.hid hrow
          have HFAR := Lib.hid hfar
          have HB2 := Lib.hid (HD1.out.trans hb2)
          clear hrow hfar hb2
          have HYB := Lib.hid (HY1.out.next HB2.out)
          obtain ⟨z0, z1, z2, z3, z4, z5, z6, z7⟩ := HYB.out
          try simp only [Act.put, List.setIfInBounds_toArray, List.set_cons_zero, List.set_cons_succ]
          refine hK _ _ ?_
          clear hK K
          try simp only [Act.put, List.setIfInBounds_toArray, List.set_cons_zero, List.set_cons_succ]
          refine wpAny_ready (rs := [3]) (by kernel_rfl) (by simp) ?_
          refine AllReady.cons rfl (fun K hK => ?_) ?_
          · skip
            go_simp
            go_at_call 11
            with_reducible refine (HCY.out _ HB2.out).mono ?_
            rintro e w3 ⟨l', rfl, hrow', hb3, hfar'⟩
            obtain ⟨A', c', hl', _⟩ := id hrow'
            subst hl'
            have HROW' := Lib.hid hrow'
            have HFAR' := Lib.hid hfar'
            have HB3 := Lib.hid hb3
            have HT := Lib.hid (two_at (g := g) (k := k) (sq := sq) (n := nx) (ps := px) (mr := mx) (se := se) (d := dx) (k' := k') (sq' := sq') (n' := ny) (ps' := py) (mr' := my) (se' := se') (d' := dy) (by rw [HG.out]; exact Nat.le_refl _) HW1.out HL1.out HB2.out hb3 HROW.out hrow' (fun r hr => by have h1 := HFAR.out r hr; exact h1) (fun r hr => by have h1 := hfar' r hr; have h2 := HB2.out.size; omega) HFX1.out HFY1.out)
            have HOX := Lib.hid ((hb3.block g (by have h1 := HB2.out.size; have h2 := HL1.out; omega)).trans ((HB2.out.block g (by have h2 := HL1.out; omega)).trans HFX1.out))
            have HOY := Lib.hid ((hb3.block (g + 1) (by have h1 := HB2.out.size; have h2 := HL1.out; omega)).trans ((HB2.out.block (g + 1) HL1.out).trans HFY1.out))
            clear hrow' hfar' hb3
            try simp only [Act.put, List.setIfInBounds_toArray, List.set_cons_zero, List.set_cons_succ]
            refine hK _ _ ?_
            clear hK K
            try simp only [Act.put, List.setIfInBounds_toArray, List.set_cons_zero, List.set_cons_succ]
            refine wpAny_ready (rs := [4]) (by kernel_rfl) (by simp) ?_
            refine AllReady.cons rfl (fun K hK => ?_) ?_
            · skip
              refine step_store_row rfl 24 (.tmp 2) (.tmp 8) rfl g #[.int .i64 k, .int .i64 sq, .int .i64 nx, .int .i64 px, .int .i64 mx, .slice A ys.length c, .bool se, .string dx] rfl rfl 24 _ HOX.out infoRef rfl (runit_one _ _ _ _ _ _ _ _) ?_
              try simp only [Act.put, List.setIfInBounds_toArray, List.set_cons_zero, List.set_cons_succ]
              refine hK _ _ ?_
              clear hK K
              try simp only [Act.put, List.setIfInBounds_toArray, List.set_cons_zero, List.set_cons_succ]
              refine wpAny_ready (rs := [5]) (by kernel_rfl) (by simp) ?_
              refine AllReady.cons rfl (fun K hK => ?_) ?_
              · skip
                refine step_store_row rfl 24 (.tmp 3) (.tmp 10) rfl (g + 1) #[.int .i64 k', .int .i64 sq', .int .i64 ny, .int .i64 py, .int .i64 my, .slice A' zs.length c', .bool se', .string dy] rfl rfl 24 #[.int .i64 k', .int .i64 sq', .int .i64 n', .int .i64 ps', .int .i64 mr', .slice p' len' cap', .bool se', .string d'] (by rw [setRow_other _ _ _ _ (by omega)]; exact HOY.out) infoRef rfl (runit_one _ _ _ _ _ _ _ _) ?_
                try simp only [Act.put, List.setIfInBounds_toArray, List.set_cons_zero, List.set_cons_succ]
                refine hK _ _ ?_
                clear hK K
                try simp only [Act.put, List.setIfInBounds_toArray, List.set_cons_zero, List.set_cons_succ]
                refine wpAny_done (by kernel_rfl) ?_ _
                try simp only [Act.put, List.setIfInBounds_toArray, List.set_cons_zero, List.set_cons_succ]
                go_wp2_with fail
                go_meet
                exact ⟨by first | trivial | rfl, HT⟩
              exact AllReady.nil
            exact AllReady.nil
          exact AllReady.nil
        exact AllReady.nil
      exact AllReady.nil
    exact AllReady.nil
  case rest =>
    obtain ⟨_, HT⟩ := hcut
    obtain ⟨A, c, A', c', hx3, hy3, hrx, hry, hb3⟩ := HT.out
    have HX3 := Lib.hid hx3
    have HY3 := Lib.hid hy3
    have HRX := Lib.hid hrx
    have HRY := Lib.hid hry
    have HB3 := Lib.hid hb3
    clear hx3 hy3 hrx hry hb3 HT x0 x1 x2 x3 x4 x5 x6 x7 y0 y1 y2 y3 y4 y5 y6 y7 HCX HCY HD1 HL1 HFX1 HFY1 HX1 HY1 HW1
    have HKX : Hid (∀ W (hW : Below wc.heap.size wc W), Calls Tryd.prog 14 #[.agg #[.int .i64 k, .int .i64 sq, .int .i64 nx, .int .i64 px, .int .i64 mx, .slice A ys.length c, .bool se, .string dx]] W fun e w' => e = .returned (.int .i64 (checkA k sq nx px mx ys se dx)) ∧ Below W.heap.size W w') := fun W hW => by
      have h := ref_check k sq nx px mx A ys.length c ys se dx W rfl (HRX.out.below hW)
      rw [rCheck_is k sq nx px mx ys se dx HNX.out.1.1 HNX.out.2.1.1 HNX.out.2.2.1.1 (fun x hx => (HNX.out.2.2.2.1 x hx).1)] at h
      exact h
    have HKY : Hid (∀ W (hW : Below wc.heap.size wc W), Calls Tryd.prog 14 #[.agg #[.int .i64 k', .int .i64 sq', .int .i64 ny, .int .i64 py, .int .i64 my, .slice A' zs.length c', .bool se', .string dy]] W fun e w' => e = .returned (.int .i64 (checkA k' sq' ny py my zs se' dy)) ∧ Below W.heap.size W w') := fun W hW => by
      have h := ref_check k' sq' ny py my A' zs.length c' zs se' dy W rfl (HRY.out.below hW)
      rw [rCheck_is k' sq' ny py my zs se' dy HNY.out.1.1 HNY.out.2.1.1 HNY.out.2.2.1.1 (fun x hx => (HNY.out.2.2.2.1 x hx).1)] at h
      exact h
    have HOX := Lib.hid (fun W (hW : Below wc.heap.size wc W) => own_unit k sq nx px mx A ys.length c ys se dx W rfl (HRX.out.below hW) (by have := HNX.out.2.2.2.2; omega) HNX.out.1 HNX.out.2.1 HNX.out.2.2.1 HNX.out.2.2.2.1)
    have HOY := Lib.hid (fun W (hW : Below wc.heap.size wc W) => own_unit k' sq' ny py my A' zs.length c' zs se' dy W rfl (HRY.out.below hW) (by have := HNY.out.2.2.2.2; omega) HNY.out.1 HNY.out.2.1 HNY.out.2.2.1 HNY.out.2.2.2.1)
    have HPX := Lib.hid (fun (Q : Option Addr) (cq : Nat) W (hS : ShapesIn W) (hn : NumRow W (.slice Q ys.length cq) ys) => pdu_bytesA k sq nx px mx Q ys.length cq ys se dx W hS rfl hn HNX.out.1 HNX.out.2.1 HNX.out.2.2.1 (fun x hx => (HNX.out.2.2.2.1 x hx).1))
    have HPY := Lib.hid (fun (Q : Option Addr) (cq : Nat) W (hS : ShapesIn W) (hn : NumRow W (.slice Q zs.length cq) zs) => pdu_bytesA k' sq' ny py my Q zs.length cq zs se' dy W hS rfl hn HNY.out.1 HNY.out.2.1 HNY.out.2.2.1 (fun x hx => (HNY.out.2.2.2.1 x hx).1))
    have HSM := Lib.hid (fun (Q : Option Addr) (cq : Nat) W (hW : Below wc.heap.size wc W) (hn : NumRow W (.slice Q ys.length cq) ys) => law_same k sq nx px mx Q ys.length cq ys se dx k' sq' ny py my A' zs.length c' zs se' dy W hn (HRY.out.below hW) HNX.out.1 HNX.out.2.1 HNX.out.2.2.1 HNX.out.2.2.2.1)
    have HINJ : Hid (checkA k sq nx px mx ys se dx = 0 → checkA k' sq' ny py my zs se' dy = 0 → ((bytesA k sq nx px mx ys se dx).toList == (bytesA k' sq' ny py my zs se' dy).toList) = sameB k sq nx px mx ys se dx k' sq' ny py my zs se' dy) := fun hx hy => by
      rw [toList_eq2]
      by_cases hp : sameP k sq nx px mx ys se dx k' sq' ny py my zs se' dy
      · rw [same_yes hp]
        obtain ⟨e1, e2, e3, e4, e5, e6, e7, e8⟩ := hp
        subst e1 e2 e3 e4 e5 e6 e7 e8
        simp
      · rw [same_no hp, decide_eq_false_iff_not]
        intro e
        apply hp
        have hkx : 1 ≤ k ∧ k ≤ 15 := by
          by_cases h : 1 ≤ k ∧ k ≤ 15
          · exact h
          · unfold checkA at hx; rw [if_neg h] at hx; cases hx
        have hky : 1 ≤ k' ∧ k' ≤ 15 := by
          by_cases h : 1 ≤ k' ∧ k' ≤ 15
          · exact h
          · unfold checkA at hy; rw [if_neg h] at hy; cases hy
        unfold bytesA at e
        rw [if_pos hx, if_pos hy] at e
        unfold checkA at hx hy
        rw [if_pos hkx] at hx
        rw [if_pos hky] at hy
        exact pduB_inj (j := k.toNat) (j' := k'.toNat) (by omega) (by omega) (by omega) (by omega) hx hy (fun x h => (HNX.out.2.2.2.1 x h).1) (fun x h => (HNY.out.2.2.2.1 x h).1) e
    generalize checkA k sq nx px mx ys se dx = CX at *
    generalize checkA k' sq' ny py my zs se' dy = CY at *
    generalize bytesA k sq nx px mx ys se dx = BX at *
    generalize bytesA k' sq' ny py my zs se' dy = BY at *
    generalize sameB k sq nx px mx ys se dx k' sq' ny py my zs se' dy = SB at *
    obtain ⟨x0, x1, x2, x3, x4, x5, x6, x7⟩ := HX3.out
    obtain ⟨y0, y1, y2, y3, y4, y5, y6, y7⟩ := HY3.out
    by_cases hcx : CX = 0
    case neg =>
      have d1 : (CX != 0) = true := by rw [bne_iff_ne]; exact hcx
      clear hcx
      go_wp2_with fail
      refine (HKX.out _ (Below.refl _ _)).mono ?_
      rintro e w4 ⟨rfl, hb4⟩
      have HB4 := Lib.hid (HB3.out.trans (hb4.mono HB3.out.size))
      clear hb4
      go_wp2_with fail
      go_ret
      exact ⟨rfl, HB4.out⟩
    have d1 : (CX != 0) = false := by rw [bne_eq_false_iff_eq]; exact hcx
    go_wp2_with fail
    refine (HKX.out _ (Below.refl _ _)).mono ?_
    rintro e w4 ⟨rfl, hb4⟩
    have HB4 := Lib.hid hb4
    clear hb4 x0 x1 x2 x3 x4 x5 x6 x7 y0 y1 y2 y3 y4 y5 y6 y7
    have HY4 := Lib.hid (HY3.out.next HB4.out)
    obtain ⟨y0, y1, y2, y3, y4, y5, y6, y7⟩ := HY4.out
    by_cases hcy : CY = 0
    case neg =>
      have d2 : (CY != 0) = true := by rw [bne_iff_ne]; exact hcy
      clear hcy
      go_wp2_with fail
      refine (HKY.out _ HB4.out).mono ?_
      rintro e w5 ⟨rfl, hb5⟩
      have HB5 := Lib.hid (HB4.out.trans (hb5.mono HB4.out.size))
      clear hb5
      go_wp2_with fail
      go_ret
      exact ⟨rfl, HB3.out.trans (HB5.out.mono HB3.out.size)⟩
    have d2 : (CY != 0) = false := by rw [bne_eq_false_iff_eq]; exact hcy
    have HEQ := Lib.hid (HINJ.out hcx hcy)
    clear hcx hcy HINJ
    go_wp2_with fail
    refine (HKY.out _ HB4.out).mono ?_
    rintro e w5 ⟨rfl, hb5⟩
    have HB5 := Lib.hid (HB4.out.trans (hb5.mono HB4.out.size))
    clear hb5 y0 y1 y2 y3 y4 y5 y6 y7 HY4
    have HX5 := Lib.hid (HX3.out.next HB5.out)
    have HY5 := Lib.hid (HY3.out.next HB5.out)
    obtain ⟨x0, x1, x2, x3, x4, x5, x6, x7⟩ := HX5.out
    obtain ⟨y0, y1, y2, y3, y4, y5, y6, y7⟩ := HY5.out
    have HSW := Lib.hid (fun W (hW : Below wc.heap.size wc W) => HS.out.next (HB3.out.trans (hW.mono HB3.out.size)))
    have HDR := Lib.hid (HB5.out.drew)
    go_upto_region 6 with fail
    go_region_held3 (fun w' => w'.cell? ⟨g, 0, none⟩ = some (.int .i64 k) ∧ w'.cell? ⟨g, 1, none⟩ = some (.int .i64 sq) ∧ w'.cell? ⟨g, 2, none⟩ = some (.int .i64 nx) ∧ w'.cell? ⟨g, 3, none⟩ = some (.int .i64 px) ∧ w'.cell? ⟨g, 4, none⟩ = some (.int .i64 mx) ∧ w'.cell? ⟨g, 5, none⟩ = some (.slice A ys.length c) ∧ w'.cell? ⟨g, 6, none⟩ = some (.bool se) ∧ w'.cell? ⟨g, 7, none⟩ = some (.string dx) ∧ w'.cell? ⟨g + 1, 0, none⟩ = some (.int .i64 k') ∧ w'.cell? ⟨g + 1, 1, none⟩ = some (.int .i64 sq') ∧ w'.cell? ⟨g + 1, 2, none⟩ = some (.int .i64 ny) ∧ w'.cell? ⟨g + 1, 3, none⟩ = some (.int .i64 py) ∧ w'.cell? ⟨g + 1, 4, none⟩ = some (.int .i64 my) ∧ w'.cell? ⟨g + 1, 5, none⟩ = some (.slice A' zs.length c') ∧ w'.cell? ⟨g + 1, 6, none⟩ = some (.bool se') ∧ w'.cell? ⟨g + 1, 7, none⟩ = some (.string dy))
      (first | go_keep)
      (first
        | (go_at_call 18; (with_reducible refine (HSM.out Qe ce _ HBwe.out HNwe.out).mono ?_); rintro e wf ⟨rfl, hbwf⟩
           have HBwf := Lib.hid (Below.trans HBwe.out (hbwf.mono (Below.size HBwe.out)))
           have HXwf := Lib.hid (HX3.out.next HBwf.out)
           have HYwf := Lib.hid (HY3.out.next HBwf.out)
           clear hbwf
           obtain ⟨x0wf, x1wf, x2wf, x3wf, x4wf, x5wf, x6wf, x7wf⟩ := HXwf.out
           obtain ⟨y0wf, y1wf, y2wf, y3wf, y4wf, y5wf, y6wf, y7wf⟩ := HYwf.out)
        | (go_at_call 12; (with_reducible refine (HOX.out _ HBwd.out).mono ?_); rintro e we ⟨Qe, ce, rfl, hnwe, hbwe, _⟩
           have HNwe := Lib.hid hnwe
           have HBwe := Lib.hid (Below.trans HBwd.out (hbwe.mono (Below.size HBwd.out)))
           have HXwe := Lib.hid (HX3.out.next HBwe.out)
           have HYwe := Lib.hid (HY3.out.next HBwe.out)
           clear hbwe hnwe
           obtain ⟨x0we, x1we, x2we, x3we, x4we, x5we, x6we, x7we⟩ := HXwe.out
           obtain ⟨y0we, y1we, y2we, y3we, y4we, y5we, y6we, y7we⟩ := HYwe.out)
        | (go_at_call 15; (with_reducible refine (HPY.out Qb cb _ (HSW.out _ HBwb.out) HNwb.out).mono ?_); rintro e wd ⟨rfl, hbwd⟩
           have HBwd := Lib.hid (Below.trans HBwb.out (hbwd.mono (Below.size HBwb.out)))
           have HXwd := Lib.hid (HX3.out.next HBwd.out)
           have HYwd := Lib.hid (HY3.out.next HBwd.out)
           clear hbwd
           obtain ⟨x0wd, x1wd, x2wd, x3wd, x4wd, x5wd, x6wd, x7wd⟩ := HXwd.out
           obtain ⟨y0wd, y1wd, y2wd, y3wd, y4wd, y5wd, y6wd, y7wd⟩ := HYwd.out)
        | (go_at_call 12; (with_reducible refine (HOY.out _ HBw9.out).mono ?_); rintro e wb ⟨Qb, cb, rfl, hnwb, hbwb, _⟩
           have HNwb := Lib.hid hnwb
           have HBwb := Lib.hid (Below.trans HBw9.out (hbwb.mono (Below.size HBw9.out)))
           have HXwb := Lib.hid (HX3.out.next HBwb.out)
           have HYwb := Lib.hid (HY3.out.next HBwb.out)
           clear hbwb hnwb
           obtain ⟨x0wb, x1wb, x2wb, x3wb, x4wb, x5wb, x6wb, x7wb⟩ := HXwb.out
           obtain ⟨y0wb, y1wb, y2wb, y3wb, y4wb, y5wb, y6wb, y7wb⟩ := HYwb.out)
        | (go_at_call 15; (with_reducible refine (HPX.out Qa ca _ (HSW.out _ HBwa.out) HNwa.out).mono ?_); rintro e w9 ⟨rfl, hbw9⟩
           have HBw9 := Lib.hid (Below.trans HBwa.out (hbw9.mono (Below.size HBwa.out)))
           have HXw9 := Lib.hid (HX3.out.next HBw9.out)
           have HYw9 := Lib.hid (HY3.out.next HBw9.out)
           clear hbw9
           obtain ⟨x0w9, x1w9, x2w9, x3w9, x4w9, x5w9, x6w9, x7w9⟩ := HXw9.out
           obtain ⟨y0w9, y1w9, y2w9, y3w9, y4w9, y5w9, y6w9, y7w9⟩ := HYw9.out)
        | (go_at_call 12; (with_reducible refine (HOX.out _ HDR.out).mono ?_); rintro e wa ⟨Qa, ca, rfl, hnwa, hbwa, _⟩
           have HNwa := Lib.hid hnwa
           have HBwa := Lib.hid (Below.trans HDR.out (hbwa.mono (Below.size HDR.out)))
           have HXwa := Lib.hid (HX3.out.next HBwa.out)
           have HYwa := Lib.hid (HY3.out.next HBwa.out)
           clear hbwa hnwa
           obtain ⟨x0wa, x1wa, x2wa, x3wa, x4wa, x5wa, x6wa, x7wa⟩ := HXwa.out
           obtain ⟨y0wa, y1wa, y2wa, y3wa, y4wa, y5wa, y6wa, y7wa⟩ := HYwa.out)
        | fail)
    have hEQ : ((BX.toList == BY.toList) == SB) = true := by rw [HEQ.out]; simp
    go_wp2_with fail
    go_ret
    exact ⟨congrArg (fun b => Ending.returned (.bool b)) hEQ, HB3.out.trans (HBwf.out.mono HB3.out.size)⟩
end Go.Proofs.YtnocckgbcjienabDoor
