/- The contract of package ring's Put, at elements of one kind. Conditions: the row lies as a row does. -/
import Derived.Test.YtogbifggaomfjaaRingPutStr
namespace Go.Proofs.Ytogbifggaomfjaa.string
open Go.RowKit
set_option linter.unusedVariables false

theorem putNo (w : World) (S : Nat → Prop) (r most : Nat) (l : List Value) (h : RingIn T 9 w S r l most) (hfull : l.length = most) (x : ByteArray) :
    Calls Try.prog 80 #[.pointer (some ⟨r, 0, none⟩), .string x] w fun e w' => e = .returned (.int .i64 7) ∧ ∃ q, w' = w.drewN q := by
  have HA := room w S r most l h
  rw [show most - l.length = 0 by omega] at HA
  have HA := Lib.hid (show Calls Try.prog 96 #[.pointer (some ⟨r, 0, none⟩)] w fun e w' => e = .returned (.int .i64 0) ∧ ∃ q, w' = w.drewN q from HA)
  clear h
  go_enter Try.func80, Try.ntmps80
  go_wp2_with fail
  refine HA.out.mono ?_
  rintro e w1 ⟨rfl, q, rfl⟩
  go_wp2_with fail
  go_ret
  exact ⟨rfl, q, rfl⟩

def PutOk (w : World) (S : Nat → Prop) (r most : Nat) (l : List Value) (x : Value) (e : Ending) (w' : World) : Prop :=
  e = .returned (.int .i64 0) ∧ RingIn T 9 w' (Plus S w w') r (l ++ [x]) most ∧ Kept S w w'

set_option maxHeartbeats 1000000 in
set_option maxRecDepth 100000 in
theorem putGrow (w : World) (S : Nat → Prop) (r most first : Nat) (pl : Value) (A : Option Addr) (l : List Value) (h : RingIn T 9 w S r l most) (hpl : pl = .slice A l.length l.length)
    (hr : w.heap[r]? = some (.cells #[pl, .int .i64 (first : Int), .int .i64 (l.length : Int), .int .i64 (most : Int)] T (0, 0))) (hp : Places 9 w S r pl first l most) (hroom : l.length < most) (x : ByteArray) :
    Calls Try.prog 80 #[.pointer (some ⟨r, 0, none⟩), .string x] w (PutOk w S r most l (.string x)) := by
  have HA := Lib.hid (room w S r most l h)
  have hz : (((most - l.length : Nat) : Int) == 0) = false := by rw [beq_eq_false_iff_ne]; omega
  have HGr := Lib.hid (fun W (e : w.heap = W.heap) => grow W S r most 0 first pl A l (h.of_blocks (fun _ h => h) (fun k _ => by rw [e]) (fun k hk => by rw [← e]; exact h.lt k hk)) hpl (by rw [← e]; exact hr) (hp.of_blocks (fun _ h => h) (fun k _ => by rw [e])) hroom)
  subst hpl
  have hmine := h.mine
  have hrl := h.lt r h.mine
  have hfew := h.few
  have Hone := Lib.hid h.one
  have Hlt := Lib.hid h.lt
  have K := Lib.hid (ringCells hr)
  have hk0 : ∀ q, Kept S w (w.drewN q) := fun q => (Kept.refl S w).drewN q
  have Hk0 := Lib.hid hk0
  clear h hp hr hk0
  have c0 := K.out.c0
  have c2 := K.out.c2
  go_enter Try.func80, Try.ntmps80
  go_wp2_with fail
  refine HA.out.mono ?_
  rintro e w1 ⟨rfl, q, rfl⟩
  go_wp2_with fail
  go_quiet (fail)
  go_wp2_with fail
  have hk0 := Hk0.out (q + nq)
  have hsz : (w.drewN (q + nq)).heap.size = w.heap.size := rfl
  have HG2 := Lib.hid (HGr.out (w.drewN (q + nq)) rfl)
  clear c0 c2 HGr HA Hk0
  generalize w.drewN (q + nq) = W0 at *
  refine HG2.out.mono ?_
  rintro e Wt ⟨rfl, g, n, cur, hr, hg0, hg, hn, hl, h1, hcur, hk⟩
  have HR := Lib.hid hr
  have HG := Lib.hid hg
  have HC := Lib.hid hcur
  have Hk := Lib.hid (hk0.trans (hk.mono fun k h => .inl h))
  have hgr : g ≠ r := by omega
  have hgl : g < Wt.heap.size := (Array.getElem?_eq_some_iff.1 hg).1
  have hSg : Plus S w Wt g := .inr ⟨by omega, hgl⟩
  obtain ⟨first, hf0⟩ : ∃ first : Nat, first = 0 := ⟨0, rfl⟩
  have HR : Hid (Wt.heap[r]? = some (.cells #[.slice (some ⟨g, 0, none⟩) n n, .int .i64 (first : Int), .int .i64 (l.length : Int), .int .i64 (most : Int)] T (0, 0))) := by rw [hf0]; exact HR.out
  have HC : Hid (∀ i, i < l.length → cur[(first + i) % n]? = l[i]?) := fun i hi => by rw [hf0, Nat.zero_add, Nat.mod_eq_of_lt (by omega)]; exact HC.out i hi
  have h2 : first < n := by omega
  have hsw := Hk.out.size
  clear hr hg hcur hk hk0 hf0 K HG2 hg0 hsz
  obtain ⟨j, hj⟩ : ∃ j, j = (first + l.length) % n := ⟨_, rfl⟩
  have hjn : j < n := by rw [hj]; exact Nat.mod_lt _ (by omega)
  have HP := Lib.hid (fun W (e : Wt.heap = W.heap) => place W r g n first l.length most l.length ((ringCells HR.out).of_blocks (by rw [e])) h2 (by omega) (by omega))
  rw [← hj] at HP
  have Hj := Lib.hid hj
  clear hj
  have K := Lib.hid (ringCells HR.out)
  have c0 := K.out.c0
  have c2 := K.out.c2
  have f2 := K.out.f0 2
  have fg : Wt.frozen? ⟨g, j, none⟩ = false := frozen_blk HG.out j
  have cg : ∃ u, Wt.cell? ⟨g, j, none⟩ = some u := ⟨_, (cell_blk HG.out j).trans (Array.getElem?_eq_getElem (by omega))⟩
  obtain ⟨u, cg⟩ := cg
  have i1 : (0 : Int) ≤ (j : Int) := by omega
  have i2 : (j : Int) < (n : Int) := by omega
  have i3 : IntKind.i64.wrap ((l.length : Int) + 1) = (l.length : Int) + 1 := IntWalk.i64_in _ (by omega)
  go_wp2_with fail
  go_region_held3 (fun w' => w'.cell? ⟨r, 0, none⟩ = some (.slice (some ⟨g, 0, none⟩) n n) ∧ w'.cell? ⟨r, 2, none⟩ = some (.int .i64 (l.length : Int))) (first | go_keep | exact ⟨(K.out.setOther (p := ⟨g, j, none⟩) (Ne.symm hgr) _).c0, (K.out.setOther (p := ⟨g, j, none⟩) (Ne.symm hgr) _).c2⟩)
    ((go_at_call 98; refine (HP.out _ (by rfl)).mono ?_; rintro e w1 ⟨rfl, q, rfl⟩))
  have hk2 : Kept S w ((Wt.drewN (1 + q)).setCell ⟨g, j, none⟩ (.string x)) := by
    refine ⟨Hk.out.os, Hk.out.tape, Hk.out.output, by simpa [World.setCell] using Hk.out.size, fun k hk hS => ?_⟩
    rw [Below.heap_setCell (Wt.drewN (1 + q)) ⟨g, j, none⟩ _ k (fun e => by subst e; rcases hSg with h | h; exact hS h; omega)]
    exact Hk.out.block k hk hS
  have hr2 : ((Wt.drewN (1 + q)).setCell ⟨g, j, none⟩ (.string x)).heap[r]? = Wt.heap[r]? := Below.heap_setCell (Wt.drewN (1 + q)) ⟨g, j, none⟩ _ r (Ne.symm hgr)
  have hg2 := heap_set_same (w := Wt.drewN (1 + q)) HG.out j (.string x)
  have hs2 : ((Wt.drewN (1 + q)).setCell ⟨g, j, none⟩ (.string x)).heap.size = Wt.heap.size := by simp [World.setCell]
  clear c0 c2 f2 fg cg
  generalize (Wt.drewN (1 + q)).setCell ⟨g, j, none⟩ (.string x) = W2 at *
  have Hk2 := Lib.hid hk2
  have Hr2 := Lib.hid (hr2.trans HR.out)
  have Hg2 := Lib.hid hg2
  have Hs2 := Lib.hid hs2
  have K2 := Lib.hid (ringCells Hr2.out)
  clear hk2 hr2 hg2 hs2
  have c2 := K2.out.c2
  have f2 := K2.out.f0 2
  go_wp2_with fail
  go_ret
  have hrb := heap_set_same Hr2.out 2 (.int .i64 ((l.length + 1 : Nat) : Int))
  have hgb := (Below.heap_setCell W2 ⟨r, 2, none⟩ (.int .i64 ((l.length + 1 : Nat) : Int)) g hgr).trans Hg2.out
  have hkb : Kept S w (W2.setCell ⟨r, 2, none⟩ (.int .i64 ((l.length + 1 : Nat) : Int))) := Hk2.out.setCell (p := ⟨r, 2, none⟩) hmine _
  have hsb : ∀ v, (W2.setCell ⟨r, 2, none⟩ v).heap.size = Wt.heap.size := fun v => by simpa [World.setCell] using Hs2.out
  exact ⟨rfl, put_ring (w := w) (S := S) (.inl hmine) (fun k hk => by
      rw [hsb]
      rcases hk with hk | hk
      · exact Nat.lt_of_lt_of_le (Hlt.out k hk) hsw
      · rw [hsb] at hk; exact hk.2) (by omega) hfew Hone.out rfl (by
      rcases hSg with h | h
      · exact .inl h
      · exact .inr ⟨h.1, by rw [hsb]; exact h.2⟩) hgr hn h1 h2 (by omega) HC.out hrb (by rw [← Hj.out]; exact hgb), hkb⟩

set_option maxHeartbeats 1000000 in
set_option maxRecDepth 100000 in
theorem putIn (w : World) (S : Nat → Prop) (r g n most first : Nat) (cur : Array Value) (l : List Value) (h : RingIn T 9 w S r l most)
    (hr : w.heap[r]? = some (.cells #[.slice (some ⟨g, 0, none⟩) n n, .int .i64 (first : Int), .int .i64 (l.length : Int), .int .i64 (most : Int)] T (0, 0)))
    (hSg : Plus S w w g) (hgr : g ≠ r) (hg : w.heap[g]? = some (.cells cur 9 (0, 0))) (hn : cur.size = n) (hl : l.length < n) (h1 : n ≤ most) (h2 : first < n) (hcur : ∀ i, i < l.length → cur[(first + i) % n]? = l[i]?) (x : ByteArray) :
    Calls Try.prog 80 #[.pointer (some ⟨r, 0, none⟩), .string x] w (PutOk w S r most l (.string x)) := by
  have HA := Lib.hid (room w S r most l h)
  have hz : (((most - l.length : Nat) : Int) == 0) = false := by rw [beq_eq_false_iff_ne]; omega
  have hz2 : ((l.length : Int) == (n : Int)) = false := by rw [beq_eq_false_iff_ne]; omega
  have hmine := h.mine
  have hrl := h.lt r h.mine
  have hfew := h.few
  have Hone := Lib.hid h.one
  have Hlt := Lib.hid h.lt
  have HR0 := Lib.hid hr
  have HG0 := Lib.hid hg
  have HC := Lib.hid hcur
  have K := Lib.hid (ringCells hr)
  clear h hr hg hcur
  have c0 := K.out.c0
  have c2 := K.out.c2
  go_enter Try.func80, Try.ntmps80
  go_wp2_with fail
  refine HA.out.mono ?_
  rintro e w1 ⟨rfl, q, rfl⟩
  go_wp2_with fail
  go_quiet (fail)
  go_wp2_with fail
  have hk0 : Kept S w ((w.drewN q).drewN nq) := ((Kept.refl S w).drewN _).drewN _
  have hr0 : w.heap = ((w.drewN q).drewN nq).heap := rfl
  have hSg : Plus S w ((w.drewN q).drewN nq) g := hSg
  clear c0 c2 HA K
  generalize (w.drewN q).drewN nq = Wt at *
  have HR : Hid (Wt.heap[r]? = some (.cells #[.slice (some ⟨g, 0, none⟩) n n, .int .i64 (first : Int), .int .i64 (l.length : Int), .int .i64 (most : Int)] T (0, 0))) := by rw [← hr0]; exact HR0.out
  have HG : Hid (Wt.heap[g]? = some (.cells cur 9 (0, 0))) := by rw [← hr0]; exact HG0.out
  have Hk := Lib.hid hk0
  have hsw := hk0.size
  clear hr0 hk0 HR0 HG0
  obtain ⟨j, hj⟩ : ∃ j, j = (first + l.length) % n := ⟨_, rfl⟩
  have hjn : j < n := by rw [hj]; exact Nat.mod_lt _ (by omega)
  have HP := Lib.hid (fun W (e : Wt.heap = W.heap) => place W r g n first l.length most l.length ((ringCells HR.out).of_blocks (by rw [e])) h2 (by omega) (by omega))
  rw [← hj] at HP
  have Hj := Lib.hid hj
  clear hj
  have K := Lib.hid (ringCells HR.out)
  have c0 := K.out.c0
  have c2 := K.out.c2
  have f2 := K.out.f0 2
  have fg : Wt.frozen? ⟨g, j, none⟩ = false := frozen_blk HG.out j
  have cg : ∃ u, Wt.cell? ⟨g, j, none⟩ = some u := ⟨_, (cell_blk HG.out j).trans (Array.getElem?_eq_getElem (by omega))⟩
  obtain ⟨u, cg⟩ := cg
  have i1 : (0 : Int) ≤ (j : Int) := by omega
  have i2 : (j : Int) < (n : Int) := by omega
  have i3 : IntKind.i64.wrap ((l.length : Int) + 1) = (l.length : Int) + 1 := IntWalk.i64_in _ (by omega)
  go_wp2_with fail
  go_region_held3 (fun w' => w'.cell? ⟨r, 0, none⟩ = some (.slice (some ⟨g, 0, none⟩) n n) ∧ w'.cell? ⟨r, 2, none⟩ = some (.int .i64 (l.length : Int))) (first | go_keep | exact ⟨(K.out.setOther (p := ⟨g, j, none⟩) (Ne.symm hgr) _).c0, (K.out.setOther (p := ⟨g, j, none⟩) (Ne.symm hgr) _).c2⟩)
    ((go_at_call 98; refine (HP.out _ (by rfl)).mono ?_; rintro e w1 ⟨rfl, q, rfl⟩))
  have hk2 : Kept S w ((Wt.drewN (1 + q)).setCell ⟨g, j, none⟩ (.string x)) := by
    refine ⟨Hk.out.os, Hk.out.tape, Hk.out.output, by simpa [World.setCell] using Hk.out.size, fun k hk hS => ?_⟩
    rw [Below.heap_setCell (Wt.drewN (1 + q)) ⟨g, j, none⟩ _ k (fun e => by subst e; rcases hSg with h | h; exact hS h; omega)]
    exact Hk.out.block k hk hS
  have hr2 : ((Wt.drewN (1 + q)).setCell ⟨g, j, none⟩ (.string x)).heap[r]? = Wt.heap[r]? := Below.heap_setCell (Wt.drewN (1 + q)) ⟨g, j, none⟩ _ r (Ne.symm hgr)
  have hg2 := heap_set_same (w := Wt.drewN (1 + q)) HG.out j (.string x)
  have hs2 : ((Wt.drewN (1 + q)).setCell ⟨g, j, none⟩ (.string x)).heap.size = Wt.heap.size := by simp [World.setCell]
  clear c0 c2 f2 fg cg
  generalize (Wt.drewN (1 + q)).setCell ⟨g, j, none⟩ (.string x) = W2 at *
  have Hk2 := Lib.hid hk2
  have Hr2 := Lib.hid (hr2.trans HR.out)
  have Hg2 := Lib.hid hg2
  have Hs2 := Lib.hid hs2
  have K2 := Lib.hid (ringCells Hr2.out)
  clear hk2 hr2 hg2 hs2
  have c2 := K2.out.c2
  have f2 := K2.out.f0 2
  go_wp2_with fail
  go_ret
  have hrb := heap_set_same Hr2.out 2 (.int .i64 ((l.length + 1 : Nat) : Int))
  have hgb := (Below.heap_setCell W2 ⟨r, 2, none⟩ (.int .i64 ((l.length + 1 : Nat) : Int)) g hgr).trans Hg2.out
  have hkb : Kept S w (W2.setCell ⟨r, 2, none⟩ (.int .i64 ((l.length + 1 : Nat) : Int))) := Hk2.out.setCell (p := ⟨r, 2, none⟩) hmine _
  have hsb : ∀ v, (W2.setCell ⟨r, 2, none⟩ v).heap.size = Wt.heap.size := fun v => by simpa [World.setCell] using Hs2.out
  exact ⟨rfl, put_ring (w := w) (S := S) (.inl hmine) (fun k hk => by
      rw [hsb]
      rcases hk with hk | hk
      · exact Nat.lt_of_lt_of_le (Hlt.out k hk) hsw
      · rw [hsb] at hk; exact hk.2) (by omega) hfew Hone.out rfl (by
      rcases hSg with h | h
      · exact .inl h
      · exact .inr ⟨h.1, by rw [hsb]; exact h.2⟩) hgr hn h1 h2 (by omega) HC.out hrb (by rw [← Hj.out]; exact hgb), hkb⟩

/-- Put, where there is room. -/
theorem putYes (w : World) (S : Nat → Prop) (r most : Nat) (l : List Value) (h : RingIn T 9 w S r l most) (hroom : l.length < most) (x : ByteArray) :
    Calls Try.prog 80 #[.pointer (some ⟨r, 0, none⟩), .string x] w (PutOk w S r most l (.string x)) := by
  obtain ⟨pl, first, hr, hp⟩ := h.at_
  have hp0 := hp
  rcases hp with ⟨rfl, rfl, rfl⟩ | ⟨g, n, cur, rfl, hSg, hgr, hg, hn, h0, h1, h2, hl, hcur⟩
  · exact putGrow w S r most 0 _ none [] h rfl hr hp0 hroom x
  · by_cases he : l.length = n
    · exact putGrow w S r most first _ (some ⟨g, 0, none⟩) l h (by rw [he]) hr hp0 hroom x
    · exact putIn w S r g n most first cur l h hr (.inl hSg) hgr hg hn (by omega) h1 h2 hcur x
end Go.Proofs.Ytogbifggaomfjaa.string
