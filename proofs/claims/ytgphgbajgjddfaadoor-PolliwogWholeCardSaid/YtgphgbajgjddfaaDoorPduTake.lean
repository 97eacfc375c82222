/- The contracts of package pdu's take and of its closure. Conditions: the variables lie as their initialisers leave them; the words are those of a unit; a kind that hasn't a number has 0. -/
import Derived.Test.YtgphgbajgjddfaaDoorPduWordsOf
import Derived.OneCell
namespace Go.Proofs.YtgphgbajgjddfaaDoor
open Go.RowKit
set_option linter.unusedVariables false
set_option linter.unusedSimpArgs false

theorem take_pop (gv b n cap : Nat) (x : Int) (w : World) (hv : w.heap[gv]? = some (.cells #[.slice (some ⟨b, 0, none⟩) (n + 1) cap] 30 (0, 0))) (hc : w.cell? ⟨b, n, none⟩ = some (.int .u32 x)) (hn : n + 1 ≤ cap) (hm : cap ≤ 1000000) :
    Calls Tryd.prog 57 #[.pointer (some ⟨gv, 0, none⟩)] w fun e w' => e = .returned (.int .u32 x) ∧ w' = w.setCell ⟨gv, 0, none⟩ (.slice (some ⟨b, 0, none⟩) n cap) := by
  have hcv := cell_of_one hv
  have hfv := free_of_one hv
  have hn0 : (0 : Int) ≤ (n : Int) := by omega
  have hw1 : IntKind.i64.wrap ((n : Int) + 1 - 1) = (n : Int) := by rw [IntKind.wrap_i64]; omega
  clear hv
  go_enter Tryd.func57, Tryd.ntmps57
  go_wp2_with fail
  go_ret
  exact ⟨rfl, rfl⟩

theorem BoxAt.set {w : World} {g : Nat} {k sq n ps mr : Int} {l : Value} {se : Bool} {d : ByteArray} (h : BoxAt w g k sq n ps mr l se d) (i : Nat) (v : Value) :
    ∀ j u, j ≠ i → w.cell? ⟨g, j, none⟩ = some u → (w.setCell ⟨g, i, none⟩ v).cell? ⟨g, j, none⟩ = some u := fun j u hj hc => by
  rw [World.cell?_setCell_other _ _ _ _ (fun h => hj (congrArg Addr.off h).symm)]; exact hc
theorem BoxAt.setMR {w : World} {g : Nat} {k sq n ps mr : Int} {l : Value} {se : Bool} {d : ByteArray} (h : BoxAt w g k sq n ps mr l se d) (x : Int) : BoxAt (w.setCell ⟨g, 4, none⟩ (.int .u32 x)) g k sq n ps x l se d := by
  obtain ⟨x0, x1, x2, x3, x4, x5, x6, x7⟩ := h
  have s := BoxAt.set ⟨x0, x1, x2, x3, x4, x5, x6, x7⟩ 4 (.int .u32 x)
  exact ⟨s 0 _ (by decide) x0, s 1 _ (by decide) x1, s 2 _ (by decide) x2, s 3 _ (by decide) x3, World.cell?_setCell_same _ _ _ x4, s 5 _ (by decide) x5, s 6 _ (by decide) x6, s 7 _ (by decide) x7⟩
theorem BoxAt.setPS {w : World} {g : Nat} {k sq n ps mr : Int} {l : Value} {se : Bool} {d : ByteArray} (h : BoxAt w g k sq n ps mr l se d) (x : Int) : BoxAt (w.setCell ⟨g, 3, none⟩ (.int .u32 x)) g k sq n x mr l se d := by
  obtain ⟨x0, x1, x2, x3, x4, x5, x6, x7⟩ := h
  have s := BoxAt.set ⟨x0, x1, x2, x3, x4, x5, x6, x7⟩ 3 (.int .u32 x)
  exact ⟨s 0 _ (by decide) x0, s 1 _ (by decide) x1, s 2 _ (by decide) x2, World.cell?_setCell_same _ _ _ x3, s 4 _ (by decide) x4, s 5 _ (by decide) x5, s 6 _ (by decide) x6, s 7 _ (by decide) x7⟩
theorem BoxAt.setSQ {w : World} {g : Nat} {k sq n ps mr : Int} {l : Value} {se : Bool} {d : ByteArray} (h : BoxAt w g k sq n ps mr l se d) (x : Int) : BoxAt (w.setCell ⟨g, 1, none⟩ (.int .i64 x)) g k x n ps mr l se d := by
  obtain ⟨x0, x1, x2, x3, x4, x5, x6, x7⟩ := h
  have s := BoxAt.set ⟨x0, x1, x2, x3, x4, x5, x6, x7⟩ 1 (.int .i64 x)
  exact ⟨s 0 _ (by decide) x0, World.cell?_setCell_same _ _ _ x1, s 2 _ (by decide) x2, s 3 _ (by decide) x3, s 4 _ (by decide) x4, s 5 _ (by decide) x5, s 6 _ (by decide) x6, s 7 _ (by decide) x7⟩
theorem BoxAt.setL {w : World} {g : Nat} {k sq n ps mr : Int} {l : Value} {se : Bool} {d : ByteArray} (h : BoxAt w g k sq n ps mr l se d) (v : Value) : BoxAt (w.setCell ⟨g, 5, none⟩ v) g k sq n ps mr v se d := by
  obtain ⟨x0, x1, x2, x3, x4, x5, x6, x7⟩ := h
  have s := BoxAt.set ⟨x0, x1, x2, x3, x4, x5, x6, x7⟩ 5 v
  exact ⟨s 0 _ (by decide) x0, s 1 _ (by decide) x1, s 2 _ (by decide) x2, s 3 _ (by decide) x3, s 4 _ (by decide) x4, World.cell?_setCell_same _ _ _ x5, s 6 _ (by decide) x6, s 7 _ (by decide) x7⟩
theorem BoxAt.setD {w : World} {g : Nat} {k sq n ps mr : Int} {l : Value} {se : Bool} {d : ByteArray} (h : BoxAt w g k sq n ps mr l se d) (v : ByteArray) : BoxAt (w.setCell ⟨g, 7, none⟩ (.string v)) g k sq n ps mr l se v := by
  obtain ⟨x0, x1, x2, x3, x4, x5, x6, x7⟩ := h
  have s := BoxAt.set ⟨x0, x1, x2, x3, x4, x5, x6, x7⟩ 7 (.string v)
  exact ⟨s 0 _ (by decide) x0, s 1 _ (by decide) x1, s 2 _ (by decide) x2, s 3 _ (by decide) x3, s 4 _ (by decide) x4, s 5 _ (by decide) x5, s 6 _ (by decide) x6, World.cell?_setCell_same _ _ _ x7⟩

/-- Where take is: the words that are left are ys. -/
structure TakeAt (w w' : World) (g gv gh b k cap : Nat) (WL ys : List Int) : Prop where
  free : ∀ j, w'.frozen? ⟨g, j, none⟩ = false
  has : HasAt w' gh k
  words : w'.heap[gv]? = some (.cells #[.slice (some ⟨b, 0, none⟩) ys.length cap] 30 (0, 0))
  cells : ∀ j x, WL[j]? = some x → w'.cell? ⟨b, j, none⟩ = some (.int .u32 x)
  kept : w.grownBy w' (some g)
  new : w.heap.size ≤ gv ∧ w.heap.size ≤ gh ∧ gv ≠ gh
  old : g < w.heap.size ∧ b < w.heap.size ∧ b ≠ g
theorem TakeAt.box {w w' : World} {g gv gh b k cap : Nat} {WL ys : List Int} (h : TakeAt w w' g gv gh b k cap WL ys) {i : Nat} {v : Value} : TakeAt w (w'.setCell ⟨g, i, none⟩ v) g gv gh b k cap WL ys := by
  have hb : ∀ j, j ≠ g → (w'.setCell ⟨g, i, none⟩ v).heap[j]? = w'.heap[j]? := fun j hj => Below.heap_setCell _ _ _ _ hj
  refine ⟨fun j => by rw [World.frozen?_setCell]; exact h.free j, h.has.of_block (hb _ (by have := h.new; have := h.old; omega)), (hb _ (by have := h.new; have := h.old; omega)).trans h.words, fun j x hx => ?_, ?_, h.new, h.old⟩
  · rw [World.cell?_of_block (a := ⟨b, j, none⟩) (hb b h.old.2.2)]; exact h.cells j x hx
  · exact ⟨h.kept.os, h.kept.tape, h.kept.output, by have := h.kept.size; simp; exact this, fun j hj hne => (hb j (fun e => hne (by rw [e]))).trans (h.kept.block j hj hne)⟩
theorem TakeAt.pop {w w' : World} {g gv gh b k cap : Nat} {WL ys zs : List Int} (h : TakeAt w w' g gv gh b k cap WL ys) : TakeAt w (w'.setCell ⟨gv, 0, none⟩ (.slice (some ⟨b, 0, none⟩) zs.length cap)) g gv gh b k cap WL zs := by
  have hb : ∀ j, j ≠ gv → (w'.setCell ⟨gv, 0, none⟩ (.slice (some ⟨b, 0, none⟩) zs.length cap)).heap[j]? = w'.heap[j]? := fun j hj => Below.heap_setCell _ _ _ _ hj
  have hn := h.new
  have ho := h.old
  refine ⟨fun j => by rw [World.frozen?_setCell]; exact h.free j, h.has.of_block (hb _ (by omega)), one_setCell h.words, fun j x hx => ?_, ?_, h.new, h.old⟩
  · rw [World.cell?_of_block (a := ⟨b, j, none⟩) (hb b (by show b ≠ gv; omega))]; exact h.cells j x hx
  · exact ⟨h.kept.os, h.kept.tape, h.kept.output, by have := h.kept.size; simp; exact this, fun j hj hne => (hb j (by omega)).trans (h.kept.block j hj hne)⟩
theorem TakeAt.popBox {w w' : World} {g gv gh b k cap : Nat} {WL ys : List Int} (h : TakeAt w w' g gv gh b k cap WL ys) {K sq n ps mr : Int} {l : Value} {se : Bool} {d : ByteArray} (hb : BoxAt w' g K sq n ps mr l se d) (v : Value) : BoxAt (w'.setCell ⟨gv, 0, none⟩ v) g K sq n ps mr l se d :=
  hb.of_block (Below.heap_setCell _ _ _ _ (by have := h.new; have := h.old; show g ≠ gv; omega))

theorem wl_at (k : Nat) (sq ps mr : Int) (xs : List Int) :
    (hasMR k = true → ((wordsL k sq ps mr xs)[(xs ++ (if hasSQ k = true then [sq] else []) ++ (if hasPS k = true then [ps] else [])).length]? = some mr)) ∧
    (hasPS k = true → ((wordsL k sq ps mr xs)[(xs ++ (if hasSQ k = true then [sq] else [])).length]? = some ps)) ∧
    (hasSQ k = true → ((wordsL k sq ps mr xs)[xs.length]? = some sq)) := by
  unfold wordsL
  refine ⟨fun h => ?_, fun h => ?_, fun h => ?_⟩
  · rw [List.getElem?_append_right (Nat.le_refl _), Nat.sub_self, if_pos h]; rfl
  · rw [List.getElem?_append_left (by simp [h]), List.getElem?_append_right (Nat.le_refl _), Nat.sub_self, if_pos h]; rfl
  · rw [List.getElem?_append_left (by simp [h]), List.getElem?_append_left (by simp [h]), List.getElem?_append_right (Nat.le_refl _), Nat.sub_self, if_pos h]; rfl

set_option maxHeartbeats 4000000 in
set_option maxRecDepth 100000 in
theorem pdu_take (k : Nat) (sq n ps mr : Int) (g b cap : Nat) (xs : List Int) (se : Bool) (d : ByteArray) (w : World) (hk : k < 16) (hS : ShapesIn w) (hbx : BoxAt w g (k : Int) 0 n 0 0 (.slice none 0 0) se d) (hfr : ∀ j, w.frozen? ⟨g, j, none⟩ = false)
    (hcl : ∀ j x, (wordsL k sq ps mr xs)[j]? = some x → w.cell? ⟨b, j, none⟩ = some (.int .u32 x)) (hb : b < w.heap.size) (hbg : b ≠ g) (hg0 : g ≠ 0) (hcap : (wordsL k sq ps mr xs).length ≤ cap) (hcm : cap ≤ 1000000)
    (hsq : 0 ≤ sq ∧ sq < 4294967296) (z1 : hasSQ k = false → sq = 0) (z2 : hasPS k = false → ps = 0) (z3 : hasMR k = false → mr = 0) :
    Calls Tryd.prog 36 #[.pointer (some ⟨g, 0, none⟩), .slice (some ⟨b, 0, none⟩) (wordsL k sq ps mr xs).length cap] w fun e w' => e = .returned (.tuple #[]) ∧ BoxAt w' g (k : Int) sq n ps mr (if xs = [] then .slice none 0 0 else .slice (some ⟨b, 0, none⟩) xs.length cap) se d ∧ (∀ j, w'.frozen? ⟨g, j, none⟩ = false) ∧ (∀ j x, (wordsL k sq ps mr xs)[j]? = some x → w'.cell? ⟨b, j, none⟩ = some (.int .u32 x)) ∧ w.grownBy w' (some g) := by
  obtain ⟨a1, a2, a3⟩ := wl_at k sq ps mr xs
  have A1 := Lib.hid a1
  have A2 := Lib.hid a2
  have A3 := Lib.hid a3
  have hpos := hS.pos
  have hgl := hbx.lt
  obtain ⟨v0, v1, v2, v3, v4, v5, v6⟩ := shape_all k hk
  obtain ⟨W0, hW0⟩ : ∃ W0, W0 = w.alloc (.cells #[.slice (some ⟨b, 0, none⟩) (wordsL k sq ps mr xs).length cap] 30) := ⟨_, rfl⟩
  have hB0 : Below w.heap.size w W0 := by rw [hW0]; exact (Below.refl _ w).alloc (Nat.le_refl _) _
  have hS0 := hS.next hB0
  have s0 := hS0 k 0 hk (by decide)
  have s1 := hS0 k 1 hk (by decide)
  have s2 := hS0 k 2 hk (by decide)
  have s3 := hS0 k 3 hk (by decide)
  have s4 := hS0 k 4 hk (by decide)
  have s5 := hS0 k 5 hk (by decide)
  have s6 := hS0 k 6 hk (by decide)
  rw [Nat.add_zero] at s0
  rw [v0] at s0
  rw [v1] at s1
  rw [v2] at s2
  rw [v3] at s3
  rw [v4] at s4
  rw [v5] at s5
  rw [v6] at s6
  have HBX0 := Lib.hid (hbx.next hB0)
  have hz0 : W0.heap.size = w.heap.size + 1 := by rw [hW0]; simp
  have HT : Hid (TakeAt w (W0.alloc (.cells #[.bool (hasSQ k), .bool (hasPS k), .bool (hasMR k), .bool (hasN k), .bool (hasSelf k), .int .i64 (listOf k), .int .i64 (most k)] 69)) g w.heap.size W0.heap.size b k cap (wordsL k sq ps mr xs) (wordsL k sq ps mr xs)) := by
    have hB1 := hB0.alloc hB0.size (.cells #[.bool (hasSQ k), .bool (hasPS k), .bool (hasMR k), .bool (hasN k), .bool (hasSelf k), .int .i64 (listOf k), .int .i64 (most k)] 69)
    refine ⟨fun j => ?_, has_new W0 k _ _ _ _, ?_, fun j x hx => ?_, ⟨hB1.os, hB1.tape, hB1.output, hB1.size, fun j hj _ => hB1.block j hj⟩, ⟨Nat.le_refl _, by omega, by omega⟩, hgl, hb, hbg⟩
    · rw [hB1.frozen (p := ⟨g, j, none⟩) hgl]; exact hfr j
    · rw [Below.heap_alloc _ _ _ (by omega), hW0]; exact heap_alloc_new w _
    · rw [hB1.cell (p := ⟨b, j, none⟩) hb]; exact hcl j x hx
  have HBX1 : Hid (BoxAt (W0.alloc (.cells #[.bool (hasSQ k), .bool (hasPS k), .bool (hasMR k), .bool (hasN k), .bool (hasSelf k), .int .i64 (listOf k), .int .i64 (most k)] 69)) g (k : Int) 0 n 0 0 (.slice none 0 0) se d) := HBX0.out.next ((Below.refl _ W0).alloc (Nat.le_refl _) _)
  obtain ⟨x0, x1, x2, x3, x4, x5, x6, x7⟩ := HBX0.out
  have hk0 : (0 : Int) ≤ (k : Int) := by omega
  have hk1 : (k : Int) < 16 := by omega
  have Z1 := Lib.hid z1
  have Z2 := Lib.hid z2
  have Z3 := Lib.hid z3
  have HCAP := Lib.hid hcap
  have HWL : Hid (wordsL k sq ps mr xs = xs ++ (if hasSQ k = true then [sq] else []) ++ (if hasPS k = true then [ps] else []) ++ (if hasMR k = true then [mr] else [])) := rfl
  have Hz0 := Lib.hid hz0
  clear a1 a2 a3 z1 z2 z3 hS hS0 hbx hfr hcl hB0 v0 v1 v2 v3 v4 v5 v6 hcap hz0
  generalize wordsL k sq ps mr xs = WL at *
  go_enter Tryd.func36, Tryd.ntmps36
  go_upto_region 1 with fail
  rw [← hW0]
  clear hW0
  go_upto_region 2 with fail
  generalize W0.alloc (.cells #[.bool (hasSQ k), .bool (hasPS k), .bool (hasMR k), .bool (hasN k), .bool (hasSelf k), .int .i64 (listOf k), .int .i64 (most k)] 69) = W1 at *
  generalize hgh : W0.heap.size = gh at *
  clear s0 s1 s2 s3 s4 s5 s6 x0 x1 x2 x3 x4 x5 x6 x7
  have HGW := Lib.hid hgl
  generalize hgv : w.heap.size = gv at *
  go_upto_region 3 with fail
  obtain ⟨x0, x1, x2, x3, x4, x5, x6, x7⟩ := HBX1.out
  obtain ⟨y0, y1, y2⟩ := HT.out.has
  go_upto_if 14 with fail
  go_cut [5] (fun s5 w' => s5 = .func (.func 57) #[] #[.pointer (some ⟨gv, 0, none⟩)] ∧ ∃ wz, wz = w' ∧ Hid (BoxAt w' g (k : Int) 0 n 0 mr (.slice none 0 0) se d) ∧ Hid (TakeAt w w' g gv gh b k cap WL (xs ++ (if hasSQ k = true then [sq] else []) ++ (if hasPS k = true then [ps] else []))))
  case first =>
    have HL : Hid (WL = (xs ++ (if hasSQ k = true then [sq] else []) ++ (if hasPS k = true then [ps] else [])) ++ (if hasMR k = true then [mr] else [])) := HWL.out
    have HLT : Hid (hasMR k = true → WL = (xs ++ (if hasSQ k = true then [sq] else []) ++ (if hasPS k = true then [ps] else [])) ++ [mr]) := fun e => HL.out.trans (by rw [if_pos e])
    have HLF : Hid (hasMR k = false → WL = (xs ++ (if hasSQ k = true then [sq] else []) ++ (if hasPS k = true then [ps] else []))) := fun e => HL.out.trans (by rw [if_neg (show ¬ hasMR k = true by rw [e]; simp), List.append_nil])
    cases hq : hasMR k with
    | true =>
      have hx := A1.out hq
      have hL := HLT.out hq
      have hws := HT.out.words
      rw [show (WL).length = ((xs ++ (if hasSQ k = true then [sq] else []) ++ (if hasPS k = true then [ps] else []))).length + 1 by rw [hL, List.length_append]; rfl] at hws
      have hcx := HT.out.cells _ _ hx
      have hle : ((xs ++ (if hasSQ k = true then [sq] else []) ++ (if hasPS k = true then [ps] else []))).length + 1 ≤ cap := by
        have h1 := HCAP.out
        have h2 := (List.getElem?_eq_some_iff.1 hx).1
        omega
      have HPOP := Lib.hid (take_pop gv b ((xs ++ (if hasSQ k = true then [sq] else []) ++ (if hasPS k = true then [ps] else []))).length cap mr W1 hws hcx hle hcm)
      have HTP := Lib.hid (HT.out.pop (zs := (xs ++ (if hasSQ k = true then [sq] else []) ++ (if hasPS k = true then [ps] else []))))
      have HBP := Lib.hid (HT.out.popBox HBX1.out (.slice (some ⟨b, 0, none⟩) ((xs ++ (if hasSQ k = true then [sq] else []) ++ (if hasPS k = true then [ps] else []))).length cap))
      clear hx hL hws hcx hle x0 x1 x2 x3 x4 x5 x6 x7 hq
      generalize (xs ++ (if hasSQ k = true then [sq] else []) ++ (if hasPS k = true then [ps] else [])) = YS at *
      go_wp2_with fail
      refine HPOP.out.mono ?_
      rintro e wp ⟨rfl, hwp⟩
      rw [← hwp] at HTP HBP
      clear hwp
      obtain ⟨x0, x1, x2, x3, x4, x5, x6, x7⟩ := HBP.out
      have hf := HTP.out.free
      go_wp2_with fail
      go_meet
      exact ⟨rfl, _, rfl, HBP.out.setMR mr, HTP.out.box⟩
    | false =>
      have HLQ := Lib.hid (HLF.out hq)
      have HXQ := Lib.hid (Z3.out hq)
      clear hq
      go_wp2_with fail
      go_meet
      exact ⟨rfl, _, rfl, by rw [HXQ.out]; exact HBX1, by rw [← HLQ.out]; exact HT⟩
  case rest =>
    clear x0 x1 x2 x3 x4 x5 x6 x7 y0 y1 y2
    obtain ⟨rfl, w2, rfl, HBX2, HT2⟩ := hcut
    obtain ⟨x0, x1, x2, x3, x4, x5, x6, x7⟩ := HBX2.out
    obtain ⟨y0, y1, y2⟩ := HT2.out.has
    go_upto_if 21 with fail
    go_cut [5] (fun s5 w' => s5 = .func (.func 57) #[] #[.pointer (some ⟨gv, 0, none⟩)] ∧ ∃ wz, wz = w' ∧ Hid (BoxAt w' g (k : Int) 0 n ps mr (.slice none 0 0) se d) ∧ Hid (TakeAt w w' g gv gh b k cap WL (xs ++ (if hasSQ k = true then [sq] else []))))
    case first =>
      have HL : Hid ((xs ++ (if hasSQ k = true then [sq] else []) ++ (if hasPS k = true then [ps] else [])) = (xs ++ (if hasSQ k = true then [sq] else [])) ++ (if hasPS k = true then [ps] else [])) := rfl
      have HLT : Hid (hasPS k = true → (xs ++ (if hasSQ k = true then [sq] else []) ++ (if hasPS k = true then [ps] else [])) = (xs ++ (if hasSQ k = true then [sq] else [])) ++ [ps]) := fun e => HL.out.trans (by rw [if_pos e])
      have HLF : Hid (hasPS k = false → (xs ++ (if hasSQ k = true then [sq] else []) ++ (if hasPS k = true then [ps] else [])) = (xs ++ (if hasSQ k = true then [sq] else []))) := fun e => HL.out.trans (by rw [if_neg (show ¬ hasPS k = true by rw [e]; simp), List.append_nil])
      cases hq : hasPS k with
      | true =>
        have hx := A2.out hq
        have hL := HLT.out hq
        have hws := HT2.out.words
        rw [show ((xs ++ (if hasSQ k = true then [sq] else []) ++ (if hasPS k = true then [ps] else []))).length = ((xs ++ (if hasSQ k = true then [sq] else []))).length + 1 by rw [hL, List.length_append]; rfl] at hws
        have hcx := HT2.out.cells _ _ hx
        have hle : ((xs ++ (if hasSQ k = true then [sq] else []))).length + 1 ≤ cap := by
          have h1 := HCAP.out
          have h2 := (List.getElem?_eq_some_iff.1 hx).1
          omega
        have HPOP := Lib.hid (take_pop gv b ((xs ++ (if hasSQ k = true then [sq] else []))).length cap ps w2 hws hcx hle hcm)
        have HTP := Lib.hid (HT2.out.pop (zs := (xs ++ (if hasSQ k = true then [sq] else []))))
        have HBP := Lib.hid (HT2.out.popBox HBX2.out (.slice (some ⟨b, 0, none⟩) ((xs ++ (if hasSQ k = true then [sq] else []))).length cap))
        clear hx hL hws hcx hle x0 x1 x2 x3 x4 x5 x6 x7 hq
        generalize (xs ++ (if hasSQ k = true then [sq] else [])) = YS at *
        go_wp2_with fail
        refine HPOP.out.mono ?_
        rintro e wp ⟨rfl, hwp⟩
        rw [← hwp] at HTP HBP
        clear hwp
        obtain ⟨x0, x1, x2, x3, x4, x5, x6, x7⟩ := HBP.out
        have hf := HTP.out.free
        go_wp2_with fail
        go_meet
        exact ⟨rfl, _, rfl, HBP.out.setPS ps, HTP.out.box⟩
      | false =>
        have HLQ := Lib.hid (HLF.out hq)
        have HXQ := Lib.hid (Z2.out hq)
        clear hq
        go_wp2_with fail
        go_meet
        exact ⟨rfl, _, rfl, by rw [HXQ.out]; exact HBX2, by rw [← HLQ.out]; exact HT2⟩
    case rest =>
      clear x0 x1 x2 x3 x4 x5 x6 x7 y0 y1 y2
      obtain ⟨rfl, w3, rfl, HBX3, HT3⟩ := hcut
      obtain ⟨x0, x1, x2, x3, x4, x5, x6, x7⟩ := HBX3.out
      obtain ⟨y0, y1, y2⟩ := HT3.out.has
      go_upto_if 28 with fail
      go_cut [5] (fun s5 w' => s5 = .func (.func 57) #[] #[.pointer (some ⟨gv, 0, none⟩)] ∧ ∃ wz, wz = w' ∧ Hid (BoxAt w' g (k : Int) sq n ps mr (.slice none 0 0) se d) ∧ Hid (TakeAt w w' g gv gh b k cap WL xs))
      case first =>
        have HL : Hid ((xs ++ (if hasSQ k = true then [sq] else [])) = xs ++ (if hasSQ k = true then [sq] else [])) := rfl
        have HLT : Hid (hasSQ k = true → (xs ++ (if hasSQ k = true then [sq] else [])) = xs ++ [sq]) := fun e => HL.out.trans (by rw [if_pos e])
        have HLF : Hid (hasSQ k = false → (xs ++ (if hasSQ k = true then [sq] else [])) = xs) := fun e => HL.out.trans (by rw [if_neg (show ¬ hasSQ k = true by rw [e]; simp), List.append_nil])
        cases hq : hasSQ k with
        | true =>
          have hx := A3.out hq
          have hL := HLT.out hq
          have hws := HT3.out.words
          rw [show ((xs ++ (if hasSQ k = true then [sq] else []))).length = (xs).length + 1 by rw [hL, List.length_append]; rfl] at hws
          have hcx := HT3.out.cells _ _ hx
          have hle : (xs).length + 1 ≤ cap := by
            have h1 := HCAP.out
            have h2 := (List.getElem?_eq_some_iff.1 hx).1
            omega
          have HPOP := Lib.hid (take_pop gv b (xs).length cap sq w3 hws hcx hle hcm)
          have HTP := Lib.hid (HT3.out.pop (zs := xs))
          have HBP := Lib.hid (HT3.out.popBox HBX3.out (.slice (some ⟨b, 0, none⟩) (xs).length cap))
          clear hx hL hws hcx hle x0 x1 x2 x3 x4 x5 x6 x7 hq
          generalize xs = YS at *
          go_wp2_with fail
          refine HPOP.out.mono ?_
          rintro e wp ⟨rfl, hwp⟩
          rw [← hwp] at HTP HBP
          clear hwp
          obtain ⟨x0, x1, x2, x3, x4, x5, x6, x7⟩ := HBP.out
          have hf := HTP.out.free
          go_wp2_with fail
          go_meet
          exact ⟨rfl, _, rfl, HBP.out.setSQ sq, HTP.out.box⟩
        | false =>
          have HLQ := Lib.hid (HLF.out hq)
          have HXQ := Lib.hid (Z1.out hq)
          clear hq
          go_wp2_with fail
          go_meet
          exact ⟨rfl, _, rfl, by rw [HXQ.out]; exact HBX3, by rw [← HLQ.out]; exact HT3⟩
      case rest =>
        clear x0 x1 x2 x3 x4 x5 x6 x7 y0 y1 y2
        obtain ⟨rfl, w4, rfl, HBX4, HT4⟩ := hcut
        have HV := Lib.hid HT4.out.words
        have hcv := cell_of_one HT4.out.words
        obtain ⟨x0, x1, x2, x3, x4, x5, x6, x7⟩ := HBX4.out
        have hf := HT4.out.free
        by_cases hxs : xs = []
        · have HXS := Lib.hid hxs
          have hl0 : xs.length = 0 := by rw [hxs]; rfl
          rw [hl0] at hcv
          clear hxs hl0
          go_wp2_with fail
          go_end0
          exact ⟨rfl, HBX4.out, HT4.out.free, HT4.out.cells, HT4.out.kept⟩
        · have HXS := Lib.hid hxs
          have hl0 : 0 < xs.length := List.length_pos_iff.2 hxs
          clear hxs
          go_wp2_with fail
          go_end0
          exact ⟨rfl, HBX4.out.setL _, HT4.out.box.free, HT4.out.box.cells, HT4.out.box.kept⟩
end Go.Proofs.YtgphgbajgjddfaaDoor
