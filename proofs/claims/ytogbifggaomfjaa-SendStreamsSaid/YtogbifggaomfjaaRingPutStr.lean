/- The contracts of package ring's functions that make rows and put, at elements of one kind. Conditions: the row lies as a row does. -/
import Derived.Test.YtogbifggaomfjaaRingFnsStr
import Derived.Outline
namespace Go.Proofs.Ytogbifggaomfjaa.string
open Go.RowKit
set_option linter.unusedVariables false

theorem below_undrew {B : Nat} {a w : World} (h : Below B a.drew w) : Below B a w := ⟨h.os, h.tape, h.output, h.size, h.block⟩
/-- What New and Clone answer: a new row. -/
def Born (w : World) (most : Nat) (l : List Value) (e : Ending) (w' : World) : Prop :=
  ∃ r : Nat, e = .returned (.pointer (some ⟨r, 0, none⟩)) ∧ RingIn T 9 w' (fun k => w.heap.size ≤ k ∧ k < w'.heap.size) r l most ∧ Below w.heap.size w w'

set_option maxHeartbeats 1000000 in
theorem new (w : World) (m : Int) (k : Nat) (hm : (m < 0 ∧ k = 0) ∨ (4096 < m ∧ k = 4096) ∨ (m = k ∧ k ≤ 4096)) (b1 : -9223372036854775808 ≤ m) (b2 : m ≤ 9223372036854775807) :
    Calls Try.prog 79 #[.int .i64 m] w (Born w k []) := by
  have hfin : ∀ (c : Int), c = k → Born w k [] (.returned (.pointer (some ⟨w.heap.size, 0, none⟩))) (w.alloc (.cells #[.slice none 0 0, .int .i64 0, .int .i64 0, .int .i64 c] T)) := by
    intro c hc
    subst hc
    have hb : Below w.heap.size w (w.alloc (.cells #[.slice none 0 0, .int .i64 0, .int .i64 0, .int .i64 (k : Int)] T)) := (Below.refl _ w).alloc (Nat.le_refl _) _
    exact ⟨_, rfl, none_ring (Kept.of_below hb) ⟨Nat.le_refl _, by simp⟩ (fun _ h => h.2) (by omega) (heap_alloc_new w _), hb⟩
  have Hfin := Lib.hid hfin
  have Hm := Lib.hid hm
  clear hfin
  rcases hm with ⟨h1, h2⟩ | ⟨h1, h2⟩ | ⟨h1, h2⟩
  · clear h2
    have h3 : ¬ 4096 < (0 : Int) := by omega
    go_enter Try.func79, Try.ntmps79
    go_wp2_with fail
    go_ret
    exact Hfin.out 0 (by have := Hm.out; omega)
  · clear h2
    have h3 : ¬ m < 0 := by omega
    go_enter Try.func79, Try.ntmps79
    go_wp2_with fail
    go_ret
    exact Hfin.out _ (by have := Hm.out; (repeat' split) <;> omega)
  · have h3 : 0 ≤ m ∧ m ≤ 4096 := by omega
    clear h1 h2
    obtain ⟨h4, h5⟩ := h3
    go_enter Try.func79, Try.ntmps79
    go_wp2_with fail
    go_ret
    exact Hfin.out _ (by have := Hm.out; (repeat' split) <;> omega)




/-- What grow leaves: more places, from the first on. -/
def Grew (w : World) (S : Nat → Prop) (r most : Nat) (l : List Value) (w' : World) : Prop :=
  ∃ (g n : Nat) (arr : Array Value), w'.heap[r]? = some (.cells #[.slice (some ⟨g, 0, none⟩) n n, .int .i64 0, .int .i64 (l.length : Int), .int .i64 (most : Int)] T (0, 0)) ∧ w.heap.size ≤ g ∧ w'.heap[g]? = some (.cells arr 9 (0, 0)) ∧
    arr.size = n ∧ l.length < n ∧ n ≤ most ∧ (∀ i, i < l.length → arr[i]? = l[i]?) ∧ Kept S w w'

set_option maxHeartbeats 1000000 in
set_option maxRecDepth 100000 in
theorem grow (w : World) (S : Nat → Prop) (r most n first : Nat) (pl : Value) (A : Option Addr) (l : List Value) (h : RingIn T 9 w S r l most) (hpl : pl = .slice A l.length l.length)
    (hr : w.heap[r]? = some (.cells #[pl, .int .i64 (first : Int), .int .i64 (l.length : Int), .int .i64 (most : Int)] T (0, 0))) (hp : Places 9 w S r pl first l most) (hroom : l.length < most) :
    Calls Try.prog 97 #[.pointer (some ⟨r, 0, none⟩)] w fun e w' => e = .returned (.tuple #[]) ∧ Grew w S r most l w' := by
  subst hpl
  obtain ⟨size, hsize⟩ : ∃ size, size = min (2 * l.length + 1) most := ⟨_, rfl⟩
  have hfew := h.few
  have HC := Lib.hid (copied_in w.drew S r first most size (.slice A l.length l.length) l hr (hp.of_blocks (fun _ h => h) (fun _ _ => rfl)) hfew (by omega) h.one (.inr ⟨rfl, by omega⟩))
  have hmine := h.mine
  have hrl := h.lt r h.mine
  have Hone := Lib.hid h.one
  have Hr := Lib.hid hr
  have K := Lib.hid (ringCells hr)
  clear h hp hr
  have c0 := K.out.c0
  have c3 := K.out.c3
  have f0 := K.out.f0 0
  have f1 := K.out.f0 1
  have Hsize := Lib.hid hsize
  clear hsize
  have e0 : IntKind.i64.wrap (2 * (l.length : Int)) = 2 * (l.length : Int) := IntWalk.i64_in _ (by omega)
  have e2 : IntKind.i64.wrap (2 * (l.length : Int) + 1) = 2 * (l.length : Int) + 1 := IntWalk.i64_in _ (by omega)
  by_cases hlt : (most : Int) < 2 * (l.length : Int) + 1
  · have hs : size = most := by have := Hsize.out; omega
    subst hs
    have Hs1 := Lib.hid True.intro
    go_enter Try.func97, Try.ntmps97
    go_wp2_with fail
    go_region_with ((go_at_call 106; refine HC.out.mono ?_; rintro e w1 ⟨arr, rfl, hg, hs, hc, hb⟩; have Hg := Lib.hid hg; have Hs := Lib.hid hs; have Hc := Lib.hid hc; have Hb := Lib.hid (below_undrew hb); clear hg hs hc hb; have Hr1 := Lib.hid ((Hb.out.block r hrl).trans Hr.out); have K1 := Lib.hid (ringCells Hr1.out); have f00 := K1.out.f0 0; have f01 := K1.out.f0 1; have c00 := K1.out.c0; have c01 := K1.out.c1; have hsz : w.heap.size < w1.heap.size := (Array.getElem?_eq_some_iff.1 Hg.out).1))
    all_goals go_wp2_with fail
    all_goals
      go_end0
      have ha := heap_set_same Hr1.out 0 (.slice (some ⟨w.heap.size, 0, none⟩) size size)
      have hb := heap_set_same ha 1 (.int .i64 0)
      have hk : Kept S w ((w1.setCell ⟨r, 0, none⟩ (.slice (some ⟨w.heap.size, 0, none⟩) size size)).setCell ⟨r, 1, none⟩ (.int .i64 0)) :=
        ((Kept.of_below Hb.out).setCell (p := ⟨r, 0, none⟩) hmine _).setCell (p := ⟨r, 1, none⟩) hmine _
      have hne : w.heap.size ≠ r := by omega
      have hgg := (Below.heap_setCell (w1.setCell ⟨r, 0, none⟩ (.slice (some ⟨w.heap.size, 0, none⟩) size size)) ⟨r, 1, none⟩ (.int .i64 0) w.heap.size hne).trans ((Below.heap_setCell w1 ⟨r, 0, none⟩ (.slice (some ⟨w.heap.size, 0, none⟩) size size) w.heap.size hne).trans Hg.out)
      have hs1 := Hs1.out
      exact ⟨rfl, _, size, arr, hb, Nat.le_refl _, hgg, Hs.out, by omega, by omega, Hc.out, hk⟩
  · have hs : ((size : Nat) : Int) = 2 * (l.length : Int) + 1 := by have := Hsize.out; omega
    have HC2 := HC.out
    rw [hs] at HC2
    have HC := Lib.hid HC2
    have hs1 : size = 2 * l.length + 1 := by omega
    have Hs1 := Lib.hid hs1
    clear hs HC2 hs1
    have hlf : ((most : Int) < 2 * (l.length : Int) + 1) = False := eq_false hlt
    go_enter Try.func97, Try.ntmps97
    go_wp2_with fail
    go_region_with ((go_at_call 106; refine HC.out.mono ?_; rintro e w1 ⟨arr, rfl, hg, hs, hc, hb⟩; have Hg := Lib.hid hg; have Hs := Lib.hid hs; have Hc := Lib.hid hc; have Hb := Lib.hid (below_undrew hb); clear hg hs hc hb; have Hr1 := Lib.hid ((Hb.out.block r hrl).trans Hr.out); have K1 := Lib.hid (ringCells Hr1.out); have f00 := K1.out.f0 0; have f01 := K1.out.f0 1; have c00 := K1.out.c0; have c01 := K1.out.c1; have hsz : w.heap.size < w1.heap.size := (Array.getElem?_eq_some_iff.1 Hg.out).1))
    all_goals go_wp2_with fail
    all_goals
      go_end0
      have ha := heap_set_same Hr1.out 0 (.slice (some ⟨w.heap.size, 0, none⟩) size size)
      have hb := heap_set_same ha 1 (.int .i64 0)
      have hk : Kept S w ((w1.setCell ⟨r, 0, none⟩ (.slice (some ⟨w.heap.size, 0, none⟩) size size)).setCell ⟨r, 1, none⟩ (.int .i64 0)) :=
        ((Kept.of_below Hb.out).setCell (p := ⟨r, 0, none⟩) hmine _).setCell (p := ⟨r, 1, none⟩) hmine _
      have hne : w.heap.size ≠ r := by omega
      have hgg := (Below.heap_setCell (w1.setCell ⟨r, 0, none⟩ (.slice (some ⟨w.heap.size, 0, none⟩) size size)) ⟨r, 1, none⟩ (.int .i64 0) w.heap.size hne).trans ((Below.heap_setCell w1 ⟨r, 0, none⟩ (.slice (some ⟨w.heap.size, 0, none⟩) size size) w.heap.size hne).trans Hg.out)
      have hs1 := Hs1.out
      exact ⟨rfl, _, size, arr, hb, Nat.le_refl _, hgg, Hs.out, by omega, by omega, Hc.out, hk⟩
end Go.Proofs.Ytogbifggaomfjaa.string
