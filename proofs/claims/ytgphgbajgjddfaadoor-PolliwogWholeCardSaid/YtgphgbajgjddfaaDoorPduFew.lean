/- The contracts of the law's own Few and Own. Conditions: the unit's row lies as a row does; its text is no longer than one may be. -/
import Derived.Test.YtgphgbajgjddfaaDoorPduRefBox
import Derived.Test.YtgphgbajgjddfaaDoorAppendSrc
import Derived.Test.YtgphgbajgjddfaaDoorCrcAwake
import Derived.Test.YtgphgbajgjddfaaDoorStrRow
import Derived.OneCell
import Derived.RegionTactic
import Derived.StillTailTactics
import Derived.Deep.DeepCutAuto
namespace Go.Proofs.YtgphgbajgjddfaaDoor
open Go.RowKit
set_option linter.unusedVariables false
set_option linter.unusedSimpArgs false

/-- A row of whole numbers, of whatever length. -/
def IRowB (w : World) (v : Value) (xs : List Int) : Prop :=
  ∃ (A : Option Addr) (cap : Nat), v = .slice A xs.length cap ∧ xs.length ≤ maxLen ∧ (xs = [] ∨ ∃ b off, A = some ⟨b, off, none⟩ ∧ b < w.heap.size ∧ ∀ i x, xs[i]? = some x → w.cell? ⟨b, off + i, none⟩ = some (.int .i64 x))
theorem IRowB.below {w w' : World} {v : Value} {xs : List Int} (h : IRowB w v xs) (hb : Below w.heap.size w w') : IRowB w' v xs := by
  obtain ⟨A, cap, rfl, hl, hc⟩ := h
  refine ⟨A, cap, rfl, hl, hc.imp id fun ⟨b, off, e, hbl, hc⟩ => ⟨b, off, e, Nat.lt_of_lt_of_le hbl hb.size, fun i x hx => ?_⟩⟩
  rw [hb.cell (p := ⟨b, off + i, none⟩) hbl]
  exact hc i x hx
def in32 (x : Int) : Int := max 0 (min x 4294967295)
theorem in32_in (x : Int) : 0 ≤ in32 x ∧ in32 x < 4294967296 := by unfold in32; omega
theorem in32_id {x : Int} (h : 0 ≤ x ∧ x < 4294967296) : in32 x = x := by unfold in32; omega
theorem few_in (x : Int) (w : World) : Calls Tryd.prog 19 #[.int .i64 x] w fun e w' => e = .returned (.int .i64 (in32 x)) ∧ w = w' := by
  go_enter Tryd.func19, Tryd.ntmps19
  go_wp2_with fail
  all_goals go_ret
  all_goals exact ⟨retInt (by unfold in32; omega), rfl⟩
theorem num_of (x : Int) (w : World) : Calls Tryd.prog 18 #[.int .i64 x] w fun e w' => e = .returned (.int .u32 (in32 x)) ∧ w = w' := by
  go_enter Tryd.func18, Tryd.ntmps18
  go_wp2_with fail
  all_goals go_ret
  all_goals exact ⟨retInt (by unfold in32; omega), rfl⟩

theorem rfree_new (w : World) (cs : Array Value) (t : TypeId) (j : Nat) : (w.alloc (.cells cs t)).frozen? ⟨w.heap.size, j, none⟩ = false := by
  unfold World.frozen?
  rw [heap_alloc_new]
  simp
theorem RBox.other {w : World} {g i : Nat} {v : Value} : ∀ j u, j ≠ i → w.cell? ⟨g, j, none⟩ = some u → (w.setCell ⟨g, i, none⟩ v).cell? ⟨g, j, none⟩ = some u := fun j u hj hc => by
  rw [World.cell?_setCell_other _ _ _ _ (fun h => hj (congrArg Addr.off h).symm)]; exact hc
theorem RBox.setN {w : World} {g : Nat} {k sq n ps mr : Int} {l : Value} {se : Bool} {d : ByteArray} (h : RBox w g k sq n ps mr l se d) (x : Int) : RBox (w.setCell ⟨g, 2, none⟩ (.int .i64 x)) g k sq x ps mr l se d := by
  obtain ⟨x0, x1, x2, x3, x4, x5, x6, x7⟩ := h
  exact ⟨RBox.other 0 _ (by decide) x0, RBox.other 1 _ (by decide) x1, World.cell?_setCell_same _ _ _ x2, RBox.other 3 _ (by decide) x3, RBox.other 4 _ (by decide) x4, RBox.other 5 _ (by decide) x5, RBox.other 6 _ (by decide) x6, RBox.other 7 _ (by decide) x7⟩
theorem RBox.setPS {w : World} {g : Nat} {k sq n ps mr : Int} {l : Value} {se : Bool} {d : ByteArray} (h : RBox w g k sq n ps mr l se d) (x : Int) : RBox (w.setCell ⟨g, 3, none⟩ (.int .i64 x)) g k sq n x mr l se d := by
  obtain ⟨x0, x1, x2, x3, x4, x5, x6, x7⟩ := h
  exact ⟨RBox.other 0 _ (by decide) x0, RBox.other 1 _ (by decide) x1, RBox.other 2 _ (by decide) x2, World.cell?_setCell_same _ _ _ x3, RBox.other 4 _ (by decide) x4, RBox.other 5 _ (by decide) x5, RBox.other 6 _ (by decide) x6, RBox.other 7 _ (by decide) x7⟩
theorem RBox.setMR {w : World} {g : Nat} {k sq n ps mr : Int} {l : Value} {se : Bool} {d : ByteArray} (h : RBox w g k sq n ps mr l se d) (x : Int) : RBox (w.setCell ⟨g, 4, none⟩ (.int .i64 x)) g k sq n ps x l se d := by
  obtain ⟨x0, x1, x2, x3, x4, x5, x6, x7⟩ := h
  exact ⟨RBox.other 0 _ (by decide) x0, RBox.other 1 _ (by decide) x1, RBox.other 2 _ (by decide) x2, RBox.other 3 _ (by decide) x3, World.cell?_setCell_same _ _ _ x4, RBox.other 5 _ (by decide) x5, RBox.other 6 _ (by decide) x6, RBox.other 7 _ (by decide) x7⟩
theorem RBox.setL {w : World} {g : Nat} {k sq n ps mr : Int} {l : Value} {se : Bool} {d : ByteArray} (h : RBox w g k sq n ps mr l se d) (x : Value) : RBox (w.setCell ⟨g, 5, none⟩ (x)) g k sq n ps mr x se d := by
  obtain ⟨x0, x1, x2, x3, x4, x5, x6, x7⟩ := h
  exact ⟨RBox.other 0 _ (by decide) x0, RBox.other 1 _ (by decide) x1, RBox.other 2 _ (by decide) x2, RBox.other 3 _ (by decide) x3, RBox.other 4 _ (by decide) x4, World.cell?_setCell_same _ _ _ x5, RBox.other 6 _ (by decide) x6, RBox.other 7 _ (by decide) x7⟩
theorem RBox.setD {w : World} {g : Nat} {k sq n ps mr : Int} {l : Value} {se : Bool} {d : ByteArray} (h : RBox w g k sq n ps mr l se d) (x : ByteArray) : RBox (w.setCell ⟨g, 7, none⟩ (.string x)) g k sq n ps mr l se x := by
  obtain ⟨x0, x1, x2, x3, x4, x5, x6, x7⟩ := h
  exact ⟨RBox.other 0 _ (by decide) x0, RBox.other 1 _ (by decide) x1, RBox.other 2 _ (by decide) x2, RBox.other 3 _ (by decide) x3, RBox.other 4 _ (by decide) x4, RBox.other 5 _ (by decide) x5, RBox.other 6 _ (by decide) x6, World.cell?_setCell_same _ _ _ x7⟩
/-- Where Few is: its result's block is as it was made, its unit's block is not barred. -/
structure FewAt (w w' : World) (g : Nat) : Prop where
  res : w'.heap[g + 1]? = some (.cells #[.int .i64 0, .int .i64 0, .int .i64 0, .int .i64 0, .int .i64 0, .slice none 0 0, .bool false, .string ⟨#[]⟩] 36 (0, 0))
  free : ∀ j, w'.frozen? ⟨g, j, none⟩ = false
  bel : Below w.heap.size w w'
  at_ : g = w.heap.size
theorem FewAt.set {w w' : World} {g i : Nat} {v : Value} (h : FewAt w w' g) : FewAt w (w'.setCell ⟨g, i, none⟩ v) g :=
  ⟨(Below.heap_setCell _ _ _ _ (by show g + 1 ≠ g; omega)).trans h.res, fun j => by rw [World.frozen?_setCell]; exact h.free j, h.bel.setCell (by rw [h.at_]; exact Nat.le_refl _) _, h.at_⟩
theorem FewAt.gl {w w' : World} {g : Nat} (h : FewAt w w' g) : g + 1 < w'.heap.size := (Array.getElem?_eq_some_iff.1 h.res).1
theorem FewAt.grown {w w' w2 : World} {g : Nat} {o : Obj} {row : Option Nat} (h : FewAt w w' g) (hg : (w'.alloc o).grownBy w2 row) (hr : ∀ j, row = some j → g + 2 ≤ j) : FewAt w w2 g := by
  have hl := h.gl
  have e : ∀ j, j < g + 2 → w2.heap[j]? = w'.heap[j]? := fun j hj => by
    rw [hg.block j (by rw [World.size_alloc]; omega) (fun e => by have := hr j e.symm; omega), Below.heap_alloc _ _ _ (by omega)]
  refine ⟨(e _ (by omega)).trans h.res, fun j => ?_, (h.bel.alloc h.bel.size o).grown hg (by rw [World.size_alloc]; have := h.bel.size; omega) (fun j hj => by have := hr j hj; have := h.at_; omega), h.at_⟩
  rw [World.frozen?_of_block (a := ⟨g, j, none⟩) (e g (by omega))]; exact h.free j
theorem RBox.grown {w' w2 : World} {g : Nat} {o : Obj} {row : Option Nat} {k sq n ps mr : Int} {l : Value} {se : Bool} {d : ByteArray} (h : RBox w' g k sq n ps mr l se d) (hg : (w'.alloc o).grownBy w2 row) (hr : ∀ j, row = some j → g < j) : RBox w2 g k sq n ps mr l se d := by
  have hl := h.lt
  exact h.of_block (by rw [hg.block g (by rw [World.size_alloc]; omega) (fun e => by have := hr g e.symm; omega), Below.heap_alloc _ _ _ hl])
theorem IRow.of_blocks {w w2 : World} {v : Value} {xs : List Int} {B : Nat} (h : IRow w v xs) (hB : ∀ b off, (∃ n c, v = .slice (some ⟨b, off, none⟩) n c) → xs ≠ [] → w2.heap[b]? = w.heap[b]?) : IRow w2 v xs := by
  obtain ⟨A, cap, rfl, hl, hc⟩ := h
  by_cases hx : xs = []
  · exact ⟨_, _, rfl, hl, .inl hx⟩
  · obtain ⟨b, off, rfl, hbl, hc⟩ := hc.resolve_left hx
    have hb := hB b off ⟨_, _, rfl⟩ hx
    refine ⟨_, _, rfl, hl, .inr ⟨b, off, rfl, ?_, fun i x hi => ?_⟩⟩
    · have h0 := (Array.getElem?_eq_some_iff.1 (show w.heap[b]? = some w.heap[b] from Array.getElem?_eq_getElem hbl))
      exact (Array.getElem?_eq_some_iff.1 (hb.trans (Array.getElem?_eq_getElem hbl))).1
    · rw [World.cell?_of_block (a := ⟨b, off + i, none⟩) hb]; exact hc i x hi
theorem one_srcI {w : World} {b : Nat} {x : Value} (h : w.cell? ⟨b, 0, none⟩ = some x) : ∀ ad, some (⟨b, 0, none⟩ : Addr) = some ad → ∀ j u, [x][j]? = some u → w.cell? (ad.add j) = some u := by
  intro ad he j u hj
  injection he with he
  subst he
  match j with
  | 0 => simp at hj; subst hj; rw [Addr.add_lit]; exact h
  | j + 1 => simp at hj
theorem one_newI (w : World) (x : Value) (t : TypeId) : (w.alloc (.cells #[x] t)).cell? ⟨w.heap.size, 0, none⟩ = some x := by rw [cell_of_row _ _ 0 _ _ (0, 0) (heap_alloc_new w _)]; rfl
theorem infoIntI : (Tryd.prog.info? 3).map (fun i => (i.zero, i.size, i.bytes)) = some (some (.int .i64 0), 1, 8) := by kernel_rfl
theorem infoRef : (Tryd.prog.info? 36).map (·.size) = some 8 := by kernel_rfl
theorem runit_one (k sq n ps mr : Int) (l : Value) (se : Bool) (d : ByteArray) (h : l.oneCell' = true := by rfl) : (#[.int .i64 k, .int .i64 sq, .int .i64 n, .int .i64 ps, .int .i64 mr, l, .bool se, .string d] : Array Value).all (·.oneCell') = true := by
  simp [Value.oneCell', h]
  exact h
theorem own_formI {w : World} {B size n : Nat} {e : TypeId} {v : Value} {xs : List Value} (h : w.ownsRow B e size v n xs) : ∃ A c, v = .slice A n c := by
  rcases h.2 with ⟨rfl, rfl⟩ | ⟨g, cap, cur, rfl, _⟩
  · exact ⟨none, 0, rfl⟩
  · exact ⟨_, _, rfl⟩
theorem res_few (tmps : Array Value) (w : World) (r : Nat) (k sq n ps mr : Int) (l : Value) (se : Bool) (d : ByteArray) (h4 : tmps.getD 2 undef = .pointer (some ⟨r, 0, none⟩)) (c : RBox w r k sq n ps mr l se d) :
    (results Tryd.f7 tmps).run Tryd.prog w = .ok (.agg #[.int .i64 k, .int .i64 sq, .int .i64 n, .int .i64 ps, .int .i64 mr, l, .bool se, .string d]) w := by
  obtain ⟨x0, x1, x2, x3, x4, x5, x6, x7⟩ := c
  simp only [results, Tryd.results7]
  simp only [List.mapM_toArray, List.mapM_cons, List.mapM_nil, h4]
  go_simp
theorem rrow_box (w : World) (R : Nat) (k sq n ps mr : Int) (l : Value) (se : Bool) (d : ByteArray) {old : Array Value} (h : w.heap[R]? = some (.cells old 36 (0, 0))) :
    RBox (w.setRow R #[.int .i64 k, .int .i64 sq, .int .i64 n, .int .i64 ps, .int .i64 mr, l, .bool se, .string d]) R k sq n ps mr l se d := by
  have hn := setRow_heap w R _ #[.int .i64 k, .int .i64 sq, .int .i64 n, .int .i64 ps, .int .i64 mr, l, .bool se, .string d] _ _ h
  refine ⟨?_, ?_, ?_, ?_, ?_, ?_, ?_, ?_⟩
  · rw [cell_of_row _ _ 0 _ _ (0, 0) hn]; rfl
  · rw [cell_of_row _ _ 1 _ _ (0, 0) hn]; rfl
  · rw [cell_of_row _ _ 2 _ _ (0, 0) hn]; rfl
  · rw [cell_of_row _ _ 3 _ _ (0, 0) hn]; rfl
  · rw [cell_of_row _ _ 4 _ _ (0, 0) hn]; rfl
  · rw [cell_of_row _ _ 5 _ _ (0, 0) hn]; rfl
  · rw [cell_of_row _ _ 6 _ _ (0, 0) hn]; rfl
  · rw [cell_of_row _ _ 7 _ _ (0, 0) hn]; rfl
theorem iRow_of {w : World} {v : Value} {xs ys : List Int} (e : xs = ys) (h : IRow w v xs) : IRow w v ys := e ▸ h
theorem late_b {W1 wr : World} {g : Nat} {o : Obj} (hb : Below W1.heap.size W1 wr) (h : W1.heap[g]? = some o) : wr.heap[g]? = some o := by
  rw [hb.block g (Array.getElem?_eq_some_iff.1 h).1]; exact h
theorem region_tail {P : Program} {id : Nat} {Q : Exit → Act → World → Prop} {a : Act} {w : World} {l : List Oper} (n : Nat) (hm : P.follows .mixedOrders = true) (hB : Region.lexTailB .any l.toArray n = true)
    (h : ∀ W, W = w.drew → wpStill P l.toArray W (fun a' => wpList P l.toArray Q (l.drop n) a' W) (l.take n) a) : (Code.region id l.toArray true).wp P Q a w := wp_region_still_tail n hm hB (h _ rfl)

set_option maxHeartbeats 4000000 in
set_option maxRecDepth 100000 in
theorem few_is (k sq n ps mr : Int) (p : Option Addr) (len cap : Nat) (xs : List Int) (se : Bool) (d : ByteArray) (w : World) (hlen : len = xs.length) (hr : IRowB w (.slice p len cap) xs) (hd : d.size ≤ maxLen) :
    Calls Tryd.prog 7 #[.agg #[.int .i64 k, .int .i64 sq, .int .i64 n, .int .i64 ps, .int .i64 mr, .slice p len cap, .bool se, .string d]] w fun e w' => ∃ l, e = .returned (.agg #[.int .i64 k, .int .i64 sq, .int .i64 (in32 n), .int .i64 (in32 ps), .int .i64 (in32 mr), l, .bool se, .string (cutB d 210)]) ∧ IRow w' l ((xs.take 140).map in32) ∧ Below w.heap.size w w' ∧ ∀ r, l.ownBlock = some r → w.heap.size ≤ r := by
  have HN1 := Lib.hid (fun W => (few_in n W).mono fun e w' ⟨he, hw⟩ => And.intro he hw.symm)
  have HN2 := Lib.hid (fun W => (few_in ps W).mono fun e w' ⟨he, hw⟩ => And.intro he hw.symm)
  have HN3 := Lib.hid (fun W => (few_in mr W).mono fun e w' ⟨he, hw⟩ => And.intro he hw.symm)
  have HCT := Lib.hid (fun W => show Calls Tryd.prog 20 #[.string d, .int .i64 210] W fun e w' => e = .returned (.string (cutB d 210)) ∧ w' = W from (crc_cut d 210 W hd (by decide)).mono fun e w' ⟨he, hw⟩ => And.intro he hw.symm)
  have HLE := Lib.hid hlen
  clear hd hlen
  obtain ⟨wa, hwa⟩ : ∃ wa, wa = (w.alloc (.cells #[.int .i64 k, .int .i64 sq, .int .i64 n, .int .i64 ps, .int .i64 mr, .slice p len cap, .bool se, .string d] 36)).alloc (.cells #[.int .i64 0, .int .i64 0, .int .i64 0, .int .i64 0, .int .i64 0, .slice none 0 0, .bool false, .string ⟨#[]⟩] 36) := ⟨_, rfl⟩
  have hb1 := (Below.refl _ w).alloc (Nat.le_refl _) (.cells #[.int .i64 k, .int .i64 sq, .int .i64 n, .int .i64 ps, .int .i64 mr, .slice p len cap, .bool se, .string d] 36)
  have hb2 : Below (w.alloc (.cells #[.int .i64 k, .int .i64 sq, .int .i64 n, .int .i64 ps, .int .i64 mr, .slice p len cap, .bool se, .string d] 36)).heap.size (w.alloc (.cells #[.int .i64 k, .int .i64 sq, .int .i64 n, .int .i64 ps, .int .i64 mr, .slice p len cap, .bool se, .string d] 36)) wa := by rw [hwa]; exact (Below.refl _ _).alloc (Nat.le_refl _) _
  have hw1 : w.heap.size < (w.alloc (.cells #[.int .i64 k, .int .i64 sq, .int .i64 n, .int .i64 ps, .int .i64 mr, .slice p len cap, .bool se, .string d] 36)).heap.size := by simp
  have HBX0 := Lib.hid ((rbox_new w k sq n ps mr (.slice p len cap) se d).next hb2)
  have HF0 : Hid (∀ j, wa.frozen? ⟨w.heap.size, j, none⟩ = false) := fun j => by rw [hb2.frozen (p := ⟨w.heap.size, j, none⟩) hw1]; exact rfree_new w _ _ j
  have HB0 := Lib.hid (hb1.trans (hb2.mono hb1.size))
  have HR0 := Lib.hid ((hr.below hb1).below hb2)
  have HZ0 : Hid (wa.heap[w.heap.size + 1]? = some (.cells #[.int .i64 0, .int .i64 0, .int .i64 0, .int .i64 0, .int .i64 0, .slice none 0 0, .bool false, .string ⟨#[]⟩] 36 (0, 0))) := by
    have h := heap_alloc_new (w.alloc (.cells #[.int .i64 k, .int .i64 sq, .int .i64 n, .int .i64 ps, .int .i64 mr, .slice p len cap, .bool se, .string d] 36)) (.cells #[.int .i64 0, .int .i64 0, .int .i64 0, .int .i64 0, .int .i64 0, .slice none 0 0, .bool false, .string ⟨#[]⟩] 36)
    rw [World.size_alloc] at h
    rw [hwa]; exact h
  have HRI := Lib.hid hr
  clear hb1 hb2 hw1 hr
  generalize in32 n = n' at *
  generalize in32 ps = ps' at *
  generalize in32 mr = mr' at *
  generalize cutB d 210 = d' at *
  go_enter Tryd.func7, Tryd.ntmps7
  go_upto_region 1 with fail
  rw [← hwa]
  clear hwa
  go_upto_region 2 with fail
  refine region_tail 16 (by kernel_rfl) (by kernel_rfl) ?_
  intro W hW
  have hbd : Below wa.heap.size wa W := by rw [hW]; exact (Below.refl _ _).drew
  have HBX := Lib.hid (HBX0.out.next hbd)
  have hga := HBX0.out.lt
  have HFR : Hid (∀ j, W.frozen? ⟨w.heap.size, j, none⟩ = false) := fun j => by rw [hbd.frozen (p := ⟨w.heap.size, j, none⟩) hga]; exact HF0.out j
  have HRW := Lib.hid (HR0.out.below hbd)
  have HBW := Lib.hid (HB0.out.trans (hbd.mono HB0.out.size))
  have HZW := Lib.hid (late_b hbd HZ0.out)
  have hwl : w.heap.size < W.heap.size := HBX.out.lt
  clear hW hbd HBX0 HF0 HR0 HB0 HZ0 hga
  obtain ⟨g, hg⟩ : ∃ g, g = w.heap.size := ⟨_, rfl⟩
  have HG := Lib.hid hg
  rw [← hg] at HBX HFR HZW hwl ⊢
  clear hg
  obtain ⟨x0, x1, x2, x3, x4, x5, x6, x7⟩ := HBX.out
  simp only [List.take_succ_cons, List.take_zero, List.drop_succ_cons, List.drop_zero]
  still_step
  still_step
  still_step
  still_call (HN1.out _)
  still_step
  still_step
  still_step
  still_call (HN2.out _)
  still_step
  still_step
  still_step
  still_call (HN3.out _)
  still_step
  still_step
  still_call (HCT.out _)
  still_step
  refine wpStill_nil ?_
  have f2 := HFR.out 2
  have f3 := HFR.out 3
  have f4 := HFR.out 4
  have f7 := HFR.out 7
  go_upto_region 3 with fail
  have hfa : FewAt w W g := ⟨HZW.out, HFR.out, HBW.out, HG.out⟩
  have HFA : Hid (FewAt w ((((W.setCell ⟨g, 2, none⟩ (.int .i64 n')).setCell ⟨g, 3, none⟩ (.int .i64 ps')).setCell ⟨g, 4, none⟩ (.int .i64 mr')).setCell ⟨g, 7, none⟩ (.string d')) g) := hfa.set.set.set.set
  have HBXA : Hid (RBox ((((W.setCell ⟨g, 2, none⟩ (.int .i64 n')).setCell ⟨g, 3, none⟩ (.int .i64 ps')).setCell ⟨g, 4, none⟩ (.int .i64 mr')).setCell ⟨g, 7, none⟩ (.string d')) g k sq n' ps' mr' (.slice p len cap) se d') := (((HBX.out.setN n').setPS ps').setMR mr').setD d'
  clear hfa f2 f3 f4 f7 x0 x1 x2 x3 x4 x5 x6 x7 HBX HFR HRW HBW HZW hwl HN2 HN3 HCT HN1
  generalize (((W.setCell ⟨g, 2, none⟩ (.int .i64 n')).setCell ⟨g, 3, none⟩ (.int .i64 ps')).setCell ⟨g, 4, none⟩ (.int .i64 mr')).setCell ⟨g, 7, none⟩ (.string d') = WA at *
  have HFI := Lib.hid (fun x W => few_in x W)
  have hl9 : len ≤ 9223372036854775807 := by obtain ⟨_, _, _, h, _⟩ := HRI.out; have := HLE.out; unfold maxLen at h; omega
  obtain ⟨i0, hi, hz0, hz1, hz2⟩ := info_parts infoIntI
  have Hi := Lib.hid hi
  have Hz0 := Lib.hid hz0
  have Hz1 := Lib.hid hz1
  have Hz2 := Lib.hid hz2
  clear hi hz0 hz1 hz2
  go_wp2_with fail
  go_loopw [4, 5] (fun l i wr => ∃ (j : Nat) (v : Value), j ≤ 140 ∧ j ≤ len ∧ i = .int .i64 j ∧ v = l ∧ Hid (wr.ownsRow (g + 2) 3 1 v ((xs.take j).map in32).length (((xs.take j).map in32).map (Value.int .i64))) ∧ Hid (FewAt w wr g) ∧ Hid (RBox wr g k sq n' ps' mr' (.slice p len cap) se d')) (fun _ i _ => 140 - (intOf i).toNat)
  case atStart => exact ⟨0, _, by omega, by omega, rfl, rfl, World.ownsRow_nil _ _ _ _, HFA, HBXA⟩
  case round =>
    clear HFA HBXA
    obtain ⟨j, v, hj1, hj2, rfl, rfl, HO, HFA, HBXA⟩ := hrel
    obtain ⟨x0, x1, x2, x3, x4, x5, x6, x7⟩ := HBXA.out
    have hcase : (j < len ∧ j < 140) ∨ ¬ (j < len ∧ j < 140) := by omega
    rcases hcase with ⟨h1, h2⟩ | hno
    · have d1 : decide (j < len) = true := decide_eq_true h1
      have d2 : decide ((j : Int) < 140) = true := by simp only [decide_eq_true_eq]; omega
      have hjx : j < xs.length := by have := HLE.out; omega
      have hx := List.getElem?_eq_getElem hjx
      obtain ⟨A, c, ee, _, hc⟩ := HRI.out.below HFA.out.bel
      injection ee with ee1 ee2 ee3
      subst ee1 ee3
      clear ee2
      obtain ⟨b, off, rfl, hb, hcell⟩ := hc.resolve_left (by rintro rfl; simp at hjx)
      have hcx := hcell j _ hx
      have hj0 : (0 : Int) ≤ (j : Int) := by omega
      have hj3 : (j : Int) < (len : Int) := by omega
      have HTK : Hid ((xs.take (j + 1)).map in32 = (xs.take j).map in32 ++ [in32 xs[j]]) := by show _ = _; rw [List.take_succ_eq_append_getElem hjx, List.map_append]; rfl
      have HLL : Hid (((xs.take j).map in32).length ≤ 140) := by show _ ≤ _; rw [List.length_map, List.length_take]; omega
      have HFX := Lib.hid (HFI.out xs[j])
      clear hcell hc hx
      generalize xs[j] = x at *
      generalize in32 x = y at *
      generalize (xs.take j).map in32 = YS at *
      go_wp2_with fail
      refine (HFX.out _).mono ?_
      rintro e w5 ⟨rfl, rfl⟩
      have hnb : ∀ q, v.ownBlock = some q → g + 2 ≤ q := fun q hq => (HO.out.lt q hq).1
      have HNB := Lib.hid hnb
      clear hnb
      go_wp2_with (at_builtin; refine wpList_append_src (wr.alloc (.cells #[.int .i64 y] 3)) rfl (.tmp 36) (.tmp 44) 34 rfl (g + 2) 3 i0 (.int .i64 0) 1 8 Tryd.underlying34 Hi.out Hz0.out Hz1.out Hz2.out rfl (by decide) v YS.length (YS.map (Value.int .i64)) rfl (World.ownsRow.alloc HO.out _) (some ⟨wr.heap.size, 0, none⟩) 1 1 [.int .i64 y] rfl rfl (fun h => by cases h) (one_srcI (one_newI _ _ _)) (fun u hu => by simp at hu; subst hu; rfl) (by have := HLL.out; unfold maxLen; omega) (by have := HLL.out; omega) (by have := HFA.out.gl; rw [World.size_alloc]; omega) ?_; intro v5 w5 hown4 hg4 hv4; have HO5 := Lib.hid hown4; have HF5 := Lib.hid (HFA.out.grown hg4 HNB.out); have HX5 := Lib.hid (HBXA.out.grown hg4 (fun q hq => by have := HNB.out q hq; omega)); clear hown4 hg4 hv4)
      go_roundw
      case rel =>
        exact ⟨j + 1, v5, by omega, by omega, by go_num, rfl, by show World.ownsRow _ _ _ _ _ _ _; rw [HTK.out, List.length_append, List.map_append]; exact HO5.out, HF5, HX5⟩
      case measure => simp [intOf]; omega
    · have d12 : (decide (j < len) = true ∧ decide ((j : Int) < 140) = false) ∨ decide (j < len) = false := by
        by_cases h1 : j < len
        · left; exact ⟨decide_eq_true h1, by simp only [decide_eq_false_iff_not]; omega⟩
        · right; exact decide_eq_false h1
      have HTA : Hid ((xs.take j).map in32 = (xs.take 140).map in32) := by
        show _ = _
        congr 1
        have := HLE.out
        by_cases h : j = 140
        · rw [h]
        · rw [List.take_of_length_le (by omega), List.take_of_length_le (by omega)]
      clear hno
      rw [HTA.out] at HO
      have HYL : Hid (((xs.take 140).map in32).length ≤ 140) := by show _ ≤ _; rw [List.length_map, List.length_take]; omega
      obtain ⟨YS, hYS⟩ : ∃ YS, YS = (xs.take 140).map in32 := ⟨_, rfl⟩
      have HYS := Lib.hid hYS
      rw [← hYS] at HO HYL
      clear hYS HTA
      obtain ⟨A, c, rfl⟩ := own_formI HO.out
      have f5 := HFA.out.free 5
      have HF6 : Hid (FewAt w (wr.setCell ⟨g, 5, none⟩ (.slice A YS.length c)) g) := HFA.out.set
      have HX6 : Hid (RBox (wr.setCell ⟨g, 5, none⟩ (.slice A YS.length c)) g k sq n' ps' mr' (.slice A YS.length c) se d') := HBXA.out.setL _
      have HO6 : Hid ((wr.setCell ⟨g, 5, none⟩ (.slice A YS.length c)).ownsRow (g + 2) 3 1 (.slice A YS.length c) YS.length (YS.map (Value.int .i64))) := ownsRow_setCell_other (a := ⟨g, 5, none⟩) HO.out (fun h => by have := (HO.out.lt g h).1; omega) _
      rcases d12 with ⟨d1, d2⟩ | d1
      all_goals
        go_upto_region 9 with fail
        clear x0 x1 x2 x3 x4 x5 x6 x7 f5
        generalize wr.setCell ⟨g, 5, none⟩ (.slice A YS.length c) = W6 at *
        obtain ⟨x0, x1, x2, x3, x4, x5, x6, x7⟩ := HX6.out
        go_wp2_with (refine wpList_store_row rfl 36 (.tmp 2) (.tmp 48) rfl (g + 1) #[.int .i64 k, .int .i64 sq, .int .i64 n', .int .i64 ps', .int .i64 mr', .slice A YS.length c, .bool se, .string d'] rfl rfl 36 _ HF6.out.res infoRef rfl (runit_one _ _ _ _ _ _ _ _) ?_)
        have HBE := rrow_box W6 (g + 1) k sq n' ps' mr' (.slice A YS.length c) se d' HF6.out.res
        exact bodyPost_ret (res_few _ _ (g + 1) k sq n' ps' mr' (.slice A YS.length c) se d' rfl HBE) rfl ⟨_, rfl, iRow_of HYS.out (iRow_own (w := W6.setRow (g + 1) #[.int .i64 k, .int .i64 sq, .int .i64 n', .int .i64 ps', .int .i64 mr', .slice A YS.length c, .bool se, .string d']) (HO6.out.kept (row := some (g + 1)) ⟨rfl, rfl, rfl, by simp, fun q _ hne => setRow_other _ _ _ _ (fun e => hne (congrArg some e))⟩ (by
          cases hv : (Value.slice A YS.length c).ownBlock with
          | none => exact .inl rfl
          | some q => right; intro h; injection h with h; have := (HO6.out.lt q hv).1; omega)) (by have := HYL.out; omega)), below_setRow HF6.out.bel (by rw [HF6.out.at_]; omega) _, fun r hr => by have := (HO6.out.lt r hr).1; have := HF6.out.at_; omega⟩
end Go.Proofs.YtgphgbajgjddfaaDoor
