/- The contract of the law's own Own. Conditions: the unit's row lies as a row does and is short. -/
import Derived.Test.YtgphgbajgjddfaaDoorPduFew
import Derived.Test.YtgphgbajgjddfaaDoorPduParse
namespace Go.Proofs.YtgphgbajgjddfaaDoor
open Go.RowKit
set_option linter.unusedVariables false
set_option linter.unusedSimpArgs false

@[go_sem] theorem buildO (k sq n ps mr : Int) (se : Bool) (d : ByteArray) (w : World) : (Instr.build 32 #[(0, .int .i64 k), (1, .int .i64 sq), (2, .int .u32 n), (3, .int .u32 ps), (4, .int .u32 mr), (6, .bool se), (7, .string d)]).run Tryd.prog w = .ok (.agg #[.int .i64 k, .int .i64 sq, .int .u32 n, .int .u32 ps, .int .u32 mr, .slice none 0 0, .bool se, .string d]) w := run_build w 32 _ _ (by kernel_rfl)
/-- Where Own is: its result's block R is as it was made, its unit's block q is not barred. -/
structure OwnAt (w w' : World) (R q : Nat) : Prop where
  res : w'.heap[R]? = some (.cells #[.int .i64 0, .int .i64 0, .int .u32 0, .int .u32 0, .int .u32 0, .slice none 0 0, .bool false, .string ⟨#[]⟩] 32 (0, 0))
  free : ∀ j, w'.frozen? ⟨q, j, none⟩ = false
  bel : Below w.heap.size w w'
  new : w.heap.size ≤ R
  lt : R < q
  ql : q < w'.heap.size
theorem OwnAt.set {w w' : World} {R q i : Nat} {v : Value} (h : OwnAt w w' R q) : OwnAt w (w'.setCell ⟨q, i, none⟩ v) R q :=
  ⟨(Below.heap_setCell _ _ _ _ (by have := h.lt; show R ≠ q; omega)).trans h.res, fun j => by rw [World.frozen?_setCell]; exact h.free j, h.bel.setCell (by have := h.new; have := h.lt; show w.heap.size ≤ q; omega) _, h.new, h.lt, by have := h.ql; simp; exact this⟩
theorem OwnAt.grown {w w' w2 : World} {R q : Nat} {o : Obj} {row : Option Nat} (h : OwnAt w w' R q) (hg : (w'.alloc o).grownBy w2 row) (hr : ∀ j, row = some j → q + 1 ≤ j) : OwnAt w w2 R q := by
  have hl := h.ql
  have hlt := h.lt
  have e : ∀ j, j < q + 1 → w2.heap[j]? = w'.heap[j]? := fun j hj => by
    rw [hg.block j (by rw [World.size_alloc]; omega) (fun e => by have := hr j e.symm; omega), Below.heap_alloc _ _ _ (by omega)]
  refine ⟨(e _ (by omega)).trans h.res, fun j => ?_, (h.bel.alloc h.bel.size o).grown hg (by rw [World.size_alloc]; have := h.bel.size; omega) (fun j hj => by have := hr j hj; have := h.new; omega), h.new, h.lt, ?_⟩
  · rw [World.frozen?_of_block (a := ⟨q, j, none⟩) (e q (by omega))]; exact h.free j
  · have := hg.size; rw [World.size_alloc] at this; omega
theorem BoxAt.grown {w' w2 : World} {g : Nat} {o : Obj} {row : Option Nat} {k sq n ps mr : Int} {l : Value} {se : Bool} {d : ByteArray} (h : BoxAt w' g k sq n ps mr l se d) (hg : (w'.alloc o).grownBy w2 row) (hr : ∀ j, row = some j → g < j) : BoxAt w2 g k sq n ps mr l se d := by
  have hl := h.lt
  exact h.of_block (by rw [hg.block g (by rw [World.size_alloc]; omega) (fun e => by have := hr g e.symm; omega), Below.heap_alloc _ _ _ hl])
theorem own_start {w wa : World} {R : Nat} (hb : Below w.heap.size w wa) (hz : wa.heap[R]? = some (.cells #[.int .i64 0, .int .i64 0, .int .u32 0, .int .u32 0, .int .u32 0, .slice none 0 0, .bool false, .string ⟨#[]⟩] 32 (0, 0))) (hn : w.heap.size ≤ R) (cs : Array Value) (t : TypeId) : OwnAt w (wa.alloc (.cells cs t)).drew R wa.heap.size := by
  have hR := (Array.getElem?_eq_some_iff.1 hz).1
  refine ⟨?_, fun j => ?_, (hb.alloc hb.size _).drew, hn, hR, by simp⟩
  · show (wa.alloc (.cells cs t)).heap[R]? = _
    rw [Below.heap_alloc _ _ _ hR]; exact hz
  · exact rfree_new wa cs t j
theorem numRow_of {w : World} {v : Value} {xs ys : List Int} (e : xs = ys) (h : NumRow w v xs) : NumRow w v ys := e ▸ h
theorem numRow_own {w : World} {base : Nat} {v : Value} {xs : List Int} (h : w.ownsRow base 29 1 v xs.length (xs.map (Value.int .u32))) (hl : xs.length ≤ 1048576) : NumRow w v xs := by
  rcases h.2 with ⟨rfl, h0⟩ | ⟨g, cap, cur, rfl, _, hg, _⟩
  · rw [List.eq_nil_of_length_eq_zero h0]; exact numRow_nil w
  · refine ⟨_, cap, rfl, hl, .inr ⟨g, 0, rfl, (Array.getElem?_eq_some_iff.1 hg).1, fun i x hx => ?_⟩⟩
    have hc := h.cells (g := g) rfl i (.int .u32 x) (by rw [List.getElem?_map, hx]; rfl)
    rw [Addr.add_lit, Nat.zero_add] at hc
    rw [Nat.zero_add]; exact hc
theorem res_own (tmps : Array Value) (w : World) (r : Nat) (k sq n ps mr : Int) (l : Value) (se : Bool) (d : ByteArray) (h4 : tmps.getD 2 undef = .pointer (some ⟨r, 0, none⟩)) (c : BoxAt w r k sq n ps mr l se d) :
    (results Tryd.f6 tmps).run Tryd.prog w = .ok (.agg #[.int .i64 k, .int .i64 sq, .int .u32 n, .int .u32 ps, .int .u32 mr, l, .bool se, .string d]) w := by
  obtain ⟨x0, x1, x2, x3, x4, x5, x6, x7⟩ := c
  simp only [results, Tryd.results6]
  simp only [List.mapM_toArray, List.mapM_cons, List.mapM_nil, h4]
  go_simp

set_option maxHeartbeats 4000000 in
set_option maxRecDepth 100000 in
theorem own_is (k sq n ps mr : Int) (p : Option Addr) (len cap : Nat) (xs : List Int) (se : Bool) (d : ByteArray) (w : World) (hlen : len = xs.length) (hr : IRow w (.slice p len cap) xs) (hxl : xs.length ≤ 1000) :
    Calls Tryd.prog 6 #[.agg #[.int .i64 k, .int .i64 sq, .int .i64 n, .int .i64 ps, .int .i64 mr, .slice p len cap, .bool se, .string d]] w fun e w' => ∃ l, e = .returned (.agg #[.int .i64 k, .int .i64 sq, .int .u32 (in32 n), .int .u32 (in32 ps), .int .u32 (in32 mr), l, .bool se, .string d]) ∧ NumRow w' l (xs.map in32) ∧ Below w.heap.size w w' := by
  have HN1 := Lib.hid (fun W => num_of n W)
  have HN2 := Lib.hid (fun W => num_of ps W)
  have HN3 := Lib.hid (fun W => num_of mr W)
  have HLE := Lib.hid hlen
  have HRI := Lib.hid hr
  have HXL := Lib.hid hxl
  have hl9 : len ≤ 1000 := by omega
  clear hxl
  obtain ⟨wa, hwa⟩ : ∃ wa, wa = (w.alloc (.cells #[.int .i64 k, .int .i64 sq, .int .i64 n, .int .i64 ps, .int .i64 mr, .slice p len cap, .bool se, .string d] 36)).alloc (.cells #[.int .i64 0, .int .i64 0, .int .u32 0, .int .u32 0, .int .u32 0, .slice none 0 0, .bool false, .string ⟨#[]⟩] 32) := ⟨_, rfl⟩
  have hb1 := (Below.refl _ w).alloc (Nat.le_refl _) (.cells #[.int .i64 k, .int .i64 sq, .int .i64 n, .int .i64 ps, .int .i64 mr, .slice p len cap, .bool se, .string d] 36)
  have hb2 : Below (w.alloc (.cells #[.int .i64 k, .int .i64 sq, .int .i64 n, .int .i64 ps, .int .i64 mr, .slice p len cap, .bool se, .string d] 36)).heap.size (w.alloc (.cells #[.int .i64 k, .int .i64 sq, .int .i64 n, .int .i64 ps, .int .i64 mr, .slice p len cap, .bool se, .string d] 36)) wa := by rw [hwa]; exact (Below.refl _ _).alloc (Nat.le_refl _) _
  have HBX0 := Lib.hid ((rbox_new w k sq n ps mr (.slice p len cap) se d).next hb2)
  have HB0 := Lib.hid (hb1.trans (hb2.mono hb1.size))
  have HZ0 : Hid (wa.heap[w.heap.size + 1]? = some (.cells #[.int .i64 0, .int .i64 0, .int .u32 0, .int .u32 0, .int .u32 0, .slice none 0 0, .bool false, .string ⟨#[]⟩] 32 (0, 0))) := by
    have h := heap_alloc_new (w.alloc (.cells #[.int .i64 k, .int .i64 sq, .int .i64 n, .int .i64 ps, .int .i64 mr, .slice p len cap, .bool se, .string d] 36)) (.cells #[.int .i64 0, .int .i64 0, .int .u32 0, .int .u32 0, .int .u32 0, .slice none 0 0, .bool false, .string ⟨#[]⟩] 32)
    rw [World.size_alloc] at h
    rw [hwa]; exact h
  clear hb1 hb2 hr hlen
  generalize in32 n = n' at *
  generalize in32 ps = ps' at *
  generalize in32 mr = mr' at *
  go_enter Tryd.func6, Tryd.ntmps6
  go_upto_region 1 with fail
  rw [← hwa]
  clear hwa
  have hgl := HBX0.out.lt
  have hRl : w.heap.size + 1 < wa.heap.size := (Array.getElem?_eq_some_iff.1 HZ0.out).1
  obtain ⟨g, hg⟩ : ∃ g, g = w.heap.size := ⟨_, rfl⟩
  have HG := Lib.hid hg
  rw [← hg] at HBX0 HZ0 hgl hRl ⊢
  clear hg
  go_cut [3] (fun s3 w' => ∃ (wz : World) (q : Nat), wz = w' ∧ s3 = .pointer (some ⟨q, 0, none⟩) ∧ Hid (OwnAt w w' (g + 1) q) ∧ Hid (BoxAt w' q k sq n' ps' mr' (.slice none 0 0) se d) ∧ Hid (RBox w' g k sq n ps mr (.slice p len cap) se d))
  case first =>
    obtain ⟨x0, x1, x2, x3, x4, x5, x6, x7⟩ := HBX0.out
    go_region_held3 (fun w' => w'.cell? ⟨g, 0, none⟩ = some (.int .i64 k) ∧ w'.cell? ⟨g, 1, none⟩ = some (.int .i64 sq) ∧ w'.cell? ⟨g, 2, none⟩ = some (.int .i64 n) ∧ w'.cell? ⟨g, 3, none⟩ = some (.int .i64 ps) ∧ w'.cell? ⟨g, 4, none⟩ = some (.int .i64 mr) ∧ w'.cell? ⟨g, 6, none⟩ = some (.bool se) ∧ w'.cell? ⟨g, 7, none⟩ = some (.string d))
      (first | go_keep)
      (first
        | (go_at_call 18; (with_reducible refine (HN1.out _).mono ?_); rintro e wl ⟨rfl, rfl⟩)
        | (go_at_call 18; (with_reducible refine (HN2.out _).mono ?_); rintro e wl ⟨rfl, rfl⟩)
        | (go_at_call 18; (with_reducible refine (HN3.out _).mono ?_); rintro e wl ⟨rfl, rfl⟩))
    all_goals go_wp2_with fail
    all_goals go_meet
    all_goals exact ⟨_, _, rfl, rfl, own_start HB0.out HZ0.out (by rw [HG.out]; omega) _ _, (box_new wa k sq n' ps' mr' (.slice none 0 0) se d).next (Below.drew (Below.refl _ _)), HBX0.out.next (((Below.refl _ wa).alloc (Nat.le_refl _) _).drew)⟩
  case rest =>
    obtain ⟨w2, q, rfl, rfl, HOA, HBX, HRB⟩ := hcut
    obtain ⟨x0, x1, x2, x3, x4, x5, x6, x7⟩ := HRB.out
    go_wp2_with fail
    clear x0 x1 x2 x3 x4 x5 x6 x7 HBX0 HB0 HZ0 hgl hRl HRB
    have HFI := Lib.hid (fun x W => num_of x W)
    obtain ⟨i0, hi, hz0, hz1, hz2⟩ := info_parts infoNum0
    have Hi := Lib.hid hi
    have Hz0 := Lib.hid hz0
    have Hz1 := Lib.hid hz1
    have Hz2 := Lib.hid hz2
    clear hi hz0 hz1 hz2
    go_loopw [27] (fun i wr => ∃ (j : Nat) (v : Value), j ≤ len ∧ i = .int .i64 j ∧ Hid (OwnNums wr (q + 1) v ((xs.take j).map in32)) ∧ Hid (OwnAt w wr (g + 1) q) ∧ Hid (BoxAt wr q k sq n' ps' mr' v se d)) (fun i _ => len - (intOf i).toNat)
    case atStart => exact ⟨0, _, by omega, rfl, World.ownsRow_nil _ _ _ _, HOA, HBX⟩
    case round =>
      clear HOA HBX
      obtain ⟨j, v, hj, rfl, HO, HOA, HBX⟩ := hrel
      by_cases hlt : j < len
      · have hjx : j < xs.length := by have := HLE.out; omega
        have hx := List.getElem?_eq_getElem hjx
        obtain ⟨A, c, ee, _, hc⟩ := HRI.out.below HOA.out.bel
        injection ee with ee1 ee2 ee3
        subst ee1 ee3
        clear ee2
        obtain ⟨b, off, rfl, hb, hcell⟩ := hc.resolve_left (by rintro rfl; simp at hjx)
        have hcx := hcell j _ hx
        have hj0 : (0 : Int) ≤ (j : Int) := by omega
        have hj3 : (j : Int) < (len : Int) := by omega
        have HTK : Hid ((xs.take (j + 1)).map in32 = (xs.take j).map in32 ++ [in32 xs[j]]) := by show _ = _; rw [List.take_succ_eq_append_getElem hjx, List.map_append]; rfl
        have hll : ((xs.take j).map in32).length ≤ 1000 := by rw [List.length_map, List.length_take]; omega
        have HFX := Lib.hid (HFI.out xs[j])
        clear hcell hc hx
        generalize xs[j] = x at *
        generalize in32 x = y at *
        generalize (xs.take j).map in32 = YS at *
        go_upto_region 5 with fail
        clear hcx
        have hql := HOA.out.ql
        have hbA : Below wr.heap.size wr (wr.alloc (.cells #[.int .u32 y] 29)) := (Below.refl _ wr).alloc (Nat.le_refl _) _
        obtain ⟨y0, y1, y2, y3, y4, y5, y6, y7⟩ := HBX.out.next hbA
        obtain ⟨x0, x1, x2, x3, x4, x5, x6, x7⟩ := HBX.out
        clear x0 x1 x2 x3 x4 x6 x7 y0 y1 y2 y3 y4 y6 y7 hbA
        have HNB : Hid (∀ r, v.ownBlock = some r → q + 1 ≤ r) := fun r hr => (World.ownsRow.lt HO.out r hr).1
        refine wp_region_held_drew (S := fun _ => True) (by kernel_rfl) trivial (fun hHeld => ?_)
        refine wpAnyH_take (i := 0) (v := ?v0a) rfl (by kernel_rfl) (by kernel_rfl) (by kernel_rfl) (fun _ _ _ h => h) (Or.inl ⟨by rfl, ?y0a⟩) (by assumption) ?r0a
        case y0a => (intro w hSw; go_simp; try with_reducible rfl)
        try simp only [Act.put, List.setIfInBounds_toArray, List.set_cons_zero, List.set_cons_succ]
        refine wpAnyH_take (i := 2) (v := ?v2b) rfl (by kernel_rfl) (by kernel_rfl) (by kernel_rfl) (fun _ _ _ h => h) (Or.inl ⟨by rfl, ?y2b⟩) (by assumption) ?r2b
        case y2b => (intro w hSw; go_simp; try with_reducible rfl)
        try simp only [Act.put, List.setIfInBounds_toArray, List.set_cons_zero, List.set_cons_succ]
        refine wpAnyH_ready (rs := [1, 3]) (by kernel_rfl) (by simp) ?_
        refine AllReadyH.cons rfl (fun K hK => ?_) ?_
        · skip
          go_simp
          refine hK.out _ _ trivial (fun hHeld => ?_)
          clear hK K
          try simp only [Act.put, List.setIfInBounds_toArray, List.set_cons_zero, List.set_cons_succ]
          refine wpAnyH_ready (rs := [3]) (by kernel_rfl) (by simp) ?_
          refine AllReadyH.cons rfl (fun K hK => ?_) ?_
          · skip
            go_simp
            go_at_call 18
            with_reducible refine (HFX.out _).mono ?_
            rintro e wl ⟨rfl, rfl⟩
            first | done | skip
            refine hK.out _ _ trivial (fun hHeld => ?_)
            clear hK K
            try simp only [Act.put, List.setIfInBounds_toArray, List.set_cons_zero, List.set_cons_succ]
            refine wpAnyH_ready (rs := [4]) (by kernel_rfl) (by simp) ?_
            refine AllReadyH.cons rfl (fun K hK => ?_) ?_
            · skip
              go_simp
              refine hK.out _ _ trivial (fun hHeld => ?_)
              clear hK K
              try simp only [Act.put, List.setIfInBounds_toArray, List.set_cons_zero, List.set_cons_succ]
              refine wpAnyH_ready (rs := [5]) (by kernel_rfl) (by simp) ?_
              refine AllReadyH.cons rfl (fun K hK => ?_) ?_
              · skip
                refine step_append_src _ rfl (.tmp 32) (.tmp 35) 30 rfl (q + 1) 29 i0 (.int .u32 0) 1 4 Tryd.underlying30 Hi.out Hz0.out Hz1.out Hz2.out rfl (by decide) v YS.length (YS.map (Value.int .u32)) (by rfl) (by repeat (with_reducible first | exact own_un HO.out | refine World.ownsRow.drew ?_ | refine World.ownsRow.alloc ?_ _)) (some ⟨wr.heap.size, 0, none⟩) 1 1 [.int .u32 y] (by rfl) rfl (fun h => by cases h) (one_src' (by first | (simp; done) | exact one_new' _ _ _)) (fun u hu => by simp at hu; subst hu; rfl) (by unfold maxLen; omega) (by omega) (by first | (simp; omega) | omega) ?_
                intro v6' w6 hown6 hg6 _
                obtain ⟨A6, c6, rfl⟩ := own_form hown6
                have HO6 := Lib.hid hown6
                have hg7 : (wr.alloc (.cells #[.int .u32 y] 29)).grownBy w6 v.ownBlock := ⟨hg6.os, hg6.tape, hg6.output, hg6.size, hg6.block⟩
                have HA6 := Lib.hid (HOA.out.grown hg7 HNB.out)
                have HX6 := Lib.hid (HBX.out.grown hg7 (fun r hr => by have := HNB.out r hr; omega))
                have z5 := HX6.out.2.2.2.2.2.1
                have f5 := HA6.out.free 5
                clear hown6 hg6 hg7
                refine hK.out _ _ trivial (fun hHeld => ?_)
                clear hK K
                try simp only [Act.put, List.setIfInBounds_toArray, List.set_cons_zero, List.set_cons_succ]
                refine wpAnyH_take (i := 6) (v := ?v6c) rfl (by kernel_rfl) (by kernel_rfl) (by kernel_rfl) (fun _ _ _ h => h) (Or.inl ⟨by rfl, ?y6c⟩) (by assumption) ?r6c
                case y6c => (intro w hSw; go_simp; try with_reducible rfl)
                try simp only [Act.put, List.setIfInBounds_toArray, List.set_cons_zero, List.set_cons_succ]
                refine wpAnyH_ready (rs := [7]) (by kernel_rfl) (by simp) ?_
                refine AllReadyH.cons rfl (fun K hK => ?_) ?_
                · skip
                  go_simp
                  refine hK.out _ _ trivial (fun hHeld => ?_)
                  clear hK K
                  try simp only [Act.put, List.setIfInBounds_toArray, List.set_cons_zero, List.set_cons_succ]
                  refine wpAnyH_done (by kernel_rfl) ?_ _
                  all_goals go_wp2_with fail
                  all_goals go_roundw
                  all_goals first
                    | (have hne : (Value.slice A6 (YS.length + 1) c6).ownBlock ≠ some (⟨q, 5, none⟩ : Addr).block := fun h => by have := (HO6.out.lt q h).1; omega
                       exact ⟨j + 1, .slice A6 (YS.length + 1) c6, by omega, by go_num, by show World.ownsRow _ _ _ _ _ _ _; rw [HTK.out, List.length_append, List.map_append]; exact ownsRow_setCell_other HO6.out hne _, HA6.out.set, HX6.out.setL _⟩)
                    | (simp [intOf]; omega)
                exact AllReadyH.nil
              exact AllReadyH.nil
            exact AllReadyH.nil
          exact AllReadyH.nil
        refine AllReadyH.cons rfl (fun K hK => ?_) ?_
        · skip
          go_simp
          go_at_call 18
          with_reducible refine (HFX.out _).mono ?_
          rintro e wl ⟨rfl, rfl⟩
          first | done | skip
          refine hK.out _ _ trivial (fun hHeld => ?_)
          clear hK K
          try simp only [Act.put, List.setIfInBounds_toArray, List.set_cons_zero, List.set_cons_succ]
          refine wpAnyH_ready (rs := [1, 4]) (by kernel_rfl) (by simp) ?_
          refine AllReadyH.cons rfl (fun K hK => ?_) ?_
          · skip
            go_simp
            refine hK.out _ _ trivial (fun hHeld => ?_)
            clear hK K
            try simp only [Act.put, List.setIfInBounds_toArray, List.set_cons_zero, List.set_cons_succ]
            refine wpAnyH_ready (rs := [4]) (by kernel_rfl) (by simp) ?_
            refine AllReadyH.cons rfl (fun K hK => ?_) ?_
            · skip
              go_simp
              refine hK.out _ _ trivial (fun hHeld => ?_)
              clear hK K
              try simp only [Act.put, List.setIfInBounds_toArray, List.set_cons_zero, List.set_cons_succ]
              refine wpAnyH_ready (rs := [5]) (by kernel_rfl) (by simp) ?_
              refine AllReadyH.cons rfl (fun K hK => ?_) ?_
              · skip
                refine step_append_src _ rfl (.tmp 32) (.tmp 35) 30 rfl (q + 1) 29 i0 (.int .u32 0) 1 4 Tryd.underlying30 Hi.out Hz0.out Hz1.out Hz2.out rfl (by decide) v YS.length (YS.map (Value.int .u32)) (by rfl) (by repeat (with_reducible first | exact own_un HO.out | refine World.ownsRow.drew ?_ | refine World.ownsRow.alloc ?_ _)) (some ⟨wr.heap.size, 0, none⟩) 1 1 [.int .u32 y] (by rfl) rfl (fun h => by cases h) (one_src' (by first | (simp; done) | exact one_new' _ _ _)) (fun u hu => by simp at hu; subst hu; rfl) (by unfold maxLen; omega) (by omega) (by first | (simp; omega) | omega) ?_
                intro v6' w6 hown6 hg6 _
                obtain ⟨A6, c6, rfl⟩ := own_form hown6
                have HO6 := Lib.hid hown6
                have hg7 : (wr.alloc (.cells #[.int .u32 y] 29)).grownBy w6 v.ownBlock := ⟨hg6.os, hg6.tape, hg6.output, hg6.size, hg6.block⟩
                have HA6 := Lib.hid (HOA.out.grown hg7 HNB.out)
                have HX6 := Lib.hid (HBX.out.grown hg7 (fun r hr => by have := HNB.out r hr; omega))
                have z5 := HX6.out.2.2.2.2.2.1
                have f5 := HA6.out.free 5
                clear hown6 hg6 hg7
                refine hK.out _ _ trivial (fun hHeld => ?_)
                clear hK K
                try simp only [Act.put, List.setIfInBounds_toArray, List.set_cons_zero, List.set_cons_succ]
                refine wpAnyH_take (i := 6) (v := ?v6d) rfl (by kernel_rfl) (by kernel_rfl) (by kernel_rfl) (fun _ _ _ h => h) (Or.inl ⟨by rfl, ?y6d⟩) (by assumption) ?r6d
                case y6d => (intro w hSw; go_simp; try with_reducible rfl)
                try simp only [Act.put, List.setIfInBounds_toArray, List.set_cons_zero, List.set_cons_succ]
                refine wpAnyH_ready (rs := [7]) (by kernel_rfl) (by simp) ?_
                refine AllReadyH.cons rfl (fun K hK => ?_) ?_
                · skip
                  go_simp
                  refine hK.out _ _ trivial (fun hHeld => ?_)
                  clear hK K
                  try simp only [Act.put, List.setIfInBounds_toArray, List.set_cons_zero, List.set_cons_succ]
                  refine wpAnyH_done (by kernel_rfl) ?_ _
                  all_goals go_wp2_with fail
                  all_goals go_roundw
                  all_goals first
                    | (have hne : (Value.slice A6 (YS.length + 1) c6).ownBlock ≠ some (⟨q, 5, none⟩ : Addr).block := fun h => by have := (HO6.out.lt q h).1; omega
                       exact ⟨j + 1, .slice A6 (YS.length + 1) c6, by omega, by go_num, by show World.ownsRow _ _ _ _ _ _ _; rw [HTK.out, List.length_append, List.map_append]; exact ownsRow_setCell_other HO6.out hne _, HA6.out.set, HX6.out.setL _⟩)
                    | (simp [intOf]; omega)
                exact AllReadyH.nil
              exact AllReadyH.nil
            exact AllReadyH.nil
          refine AllReadyH.cons rfl (fun K hK => ?_) ?_
          · skip
            go_simp
            refine hK.out _ _ trivial (fun hHeld => ?_)
            clear hK K
            try simp only [Act.put, List.setIfInBounds_toArray, List.set_cons_zero, List.set_cons_succ]
            refine wpAnyH_ready (rs := [1]) (by kernel_rfl) (by simp) ?_
            refine AllReadyH.cons rfl (fun K hK => ?_) ?_
            · skip
              go_simp
              refine hK.out _ _ trivial (fun hHeld => ?_)
              clear hK K
              try simp only [Act.put, List.setIfInBounds_toArray, List.set_cons_zero, List.set_cons_succ]
              refine wpAnyH_ready (rs := [5]) (by kernel_rfl) (by simp) ?_
              refine AllReadyH.cons rfl (fun K hK => ?_) ?_
              · skip
                refine step_append_src _ rfl (.tmp 32) (.tmp 35) 30 rfl (q + 1) 29 i0 (.int .u32 0) 1 4 Tryd.underlying30 Hi.out Hz0.out Hz1.out Hz2.out rfl (by decide) v YS.length (YS.map (Value.int .u32)) (by rfl) (by repeat (with_reducible first | exact own_un HO.out | refine World.ownsRow.drew ?_ | refine World.ownsRow.alloc ?_ _)) (some ⟨wr.heap.size, 0, none⟩) 1 1 [.int .u32 y] (by rfl) rfl (fun h => by cases h) (one_src' (by first | (simp; done) | exact one_new' _ _ _)) (fun u hu => by simp at hu; subst hu; rfl) (by unfold maxLen; omega) (by omega) (by first | (simp; omega) | omega) ?_
                intro v6' w6 hown6 hg6 _
                obtain ⟨A6, c6, rfl⟩ := own_form hown6
                have HO6 := Lib.hid hown6
                have hg7 : (wr.alloc (.cells #[.int .u32 y] 29)).grownBy w6 v.ownBlock := ⟨hg6.os, hg6.tape, hg6.output, hg6.size, hg6.block⟩
                have HA6 := Lib.hid (HOA.out.grown hg7 HNB.out)
                have HX6 := Lib.hid (HBX.out.grown hg7 (fun r hr => by have := HNB.out r hr; omega))
                have z5 := HX6.out.2.2.2.2.2.1
                have f5 := HA6.out.free 5
                clear hown6 hg6 hg7
                refine hK.out _ _ trivial (fun hHeld => ?_)
                clear hK K
                try simp only [Act.put, List.setIfInBounds_toArray, List.set_cons_zero, List.set_cons_succ]
                refine wpAnyH_take (i := 6) (v := ?v6e) rfl (by kernel_rfl) (by kernel_rfl) (by kernel_rfl) (fun _ _ _ h => h) (Or.inl ⟨by rfl, ?y6e⟩) (by assumption) ?r6e
                case y6e => (intro w hSw; go_simp; try with_reducible rfl)
                try simp only [Act.put, List.setIfInBounds_toArray, List.set_cons_zero, List.set_cons_succ]
                refine wpAnyH_ready (rs := [7]) (by kernel_rfl) (by simp) ?_
                refine AllReadyH.cons rfl (fun K hK => ?_) ?_
                · skip
                  go_simp
                  refine hK.out _ _ trivial (fun hHeld => ?_)
                  clear hK K
                  try simp only [Act.put, List.setIfInBounds_toArray, List.set_cons_zero, List.set_cons_succ]
                  refine wpAnyH_done (by kernel_rfl) ?_ _
                  all_goals go_wp2_with fail
                  all_goals go_roundw
                  all_goals first
                    | (have hne : (Value.slice A6 (YS.length + 1) c6).ownBlock ≠ some (⟨q, 5, none⟩ : Addr).block := fun h => by have := (HO6.out.lt q h).1; omega
                       exact ⟨j + 1, .slice A6 (YS.length + 1) c6, by omega, by go_num, by show World.ownsRow _ _ _ _ _ _ _; rw [HTK.out, List.length_append, List.map_append]; exact ownsRow_setCell_other HO6.out hne _, HA6.out.set, HX6.out.setL _⟩)
                    | (simp [intOf]; omega)
                exact AllReadyH.nil
              exact AllReadyH.nil
            exact AllReadyH.nil
          exact AllReadyH.nil
        exact AllReadyH.nil
      · have hjl : j = len := by omega
        subst hjl
        rw [show xs.take j = xs from List.take_of_length_le (by have := HLE.out; omega)] at HO
        have HYL : Hid ((xs.map in32).length ≤ 1000) := by show _ ≤ _; rw [List.length_map]; exact HXL.out
        obtain ⟨YS, hYS⟩ : ∃ YS, YS = xs.map in32 := ⟨_, rfl⟩
        have HYS := Lib.hid hYS
        rw [← hYS] at HO HYL
        clear hYS
        obtain ⟨A, c, rfl⟩ := own_form HO.out
        obtain ⟨x0, x1, x2, x3, x4, x5, x6, x7⟩ := HBX.out
        go_wp2_with (refine wpList_store_row rfl 32 (.tmp 2) (.tmp 39) rfl (g + 1) #[.int .i64 k, .int .i64 sq, .int .u32 n', .int .u32 ps', .int .u32 mr', .slice A YS.length c, .bool se, .string d] rfl rfl 32 _ HOA.out.res infoPdu rfl (unit_one _ _ _ _ _ _ _ _) ?_)
        have HBE := row_box wr (g + 1) k sq n' ps' mr' (.slice A YS.length c) se d HOA.out.res
        exact bodyPost_ret (res_own _ _ (g + 1) k sq n' ps' mr' (.slice A YS.length c) se d rfl HBE) rfl ⟨_, rfl, numRow_of HYS.out (numRow_own (w := wr.setRow (g + 1) #[.int .i64 k, .int .i64 sq, .int .u32 n', .int .u32 ps', .int .u32 mr', .slice A YS.length c, .bool se, .string d]) (World.ownsRow.kept (row := some (g + 1)) HO.out ⟨rfl, rfl, rfl, by simp, fun r _ hne => setRow_other _ _ _ _ (fun e => hne (congrArg some e))⟩ (by
          cases hv : (Value.slice A YS.length c).ownBlock with
          | none => exact .inl rfl
          | some r => right; intro h; injection h with h; have := (World.ownsRow.lt HO.out r hv).1; have := HOA.out.lt; omega)) (by have := HYL.out; omega)), below_setRow HOA.out.bel HOA.out.new _⟩
end Go.Proofs.YtgphgbajgjddfaaDoor
