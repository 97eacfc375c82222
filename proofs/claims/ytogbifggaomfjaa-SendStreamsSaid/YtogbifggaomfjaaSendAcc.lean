/- Package send's accept and Stat where no list comes. Conditions: the sender is the law's own, nothing is to go again. -/
import Derived.Test.YtogbifggaomfjaaSendStat
namespace Go.Proofs.Ytogbifggaomfjaa
open Go.RowKit Go.Maps Sp
set_option linter.unusedVariables false
variable {w0 w w' : World} {gs r mb most n : Nat} {S S' : Nat → Prop} {s a ms ps pa polls out : Int} {l l' : List Value} {ks : List Int}

set_option maxHeartbeats 4000000 in
set_option maxRecDepth 100000 in
/-- Nothing is missing, and the credit is no further. -/
theorem snd_accept (h : SndAt w0 w gs r mb S s a ms ps pa polls out l most ks n) (ha : 0 ≤ a ∧ a < 16777216) (hm : 0 ≤ ms ∧ ms < 16777216) (b x : Int) (hb : 0 ≤ b ∧ b < 16777216) (hx : 0 ≤ x ∧ x < 16777216)
    (hf : 8388608 < (x - b) % 16777216 ∨ (x - b) % 16777216 < (ms - b) % 16777216) (A : Option Addr) (cap : Nat) (F : Fn) (fc fr : Array Value) :
    Calls Try.prog 89 #[.pointer (some ⟨gs, 0, none⟩), .int .u32 b, .int .u32 x, .slice A 0 cap, .func F fc fr] w fun e w' => e = .returned (.int .i64 0) ∧ SndAt w0 w' gs r mb S s b ms ps pa polls out l most (ks.filter fun k => !btwB a k b) n := by
  obtain ⟨i0, hi, hz0, hz1, hz2⟩ := info_parts infoNumS
  have Hi := Lib.hid hi
  clear hi hz0 hz1 hz2
  have HLO := Lib.hid (fun W => (seq_low b W hb.1 (by omega)).mono (fun e w' (hh : e = _ ∧ W = w') => (⟨hh.1, hh.2.symm⟩ : e = .returned (.int .u32 (b % 16777216)) ∧ w' = W)))
  rw [show b % 16777216 = b by omega] at HLO
  have hb1 := (Below.refl w.heap.size w).alloc (Nat.le_refl _) (.cells #[.pointer (some ⟨gs, 0, none⟩)] 78)
  have hb2 := hb1.alloc (by simp) (.cells #[.func F fc fr] 129)
  have H := Lib.hid (h.below hb2)
  have hB : (((w.alloc (.cells #[.pointer (some ⟨gs, 0, none⟩)] 78)).alloc (.cells #[.func F fc fr] 129)).heap[w.heap.size]?) = some (.cells #[.pointer (some ⟨gs, 0, none⟩)] 78 (0, 0)) := by
    rw [MapKept.heap_alloc _ _ |>.2 _ (by simp)]
    exact heap_alloc_new w _
  have hsz : (((w.alloc (.cells #[.pointer (some ⟨gs, 0, none⟩)] 78)).alloc (.cells #[.func F fc fr] 129)).heap.size) = w.heap.size + 2 := by simp
  have HNE : Hid (gs < w.heap.size ∧ mb < w.heap.size ∧ (∀ k, S k → k < w.heap.size)) := ⟨h.lt, h.map.lt, h.ring.lt⟩
  have HB := Lib.hid hB
  have HSZ := Lib.hid hsz
  clear h hb1 hb2 hB hsz
  go_enter Try.func89, Try.ntmps89
  go_upto_region 1 with fail
  generalize ((w.alloc (.cells #[.pointer (some ⟨gs, 0, none⟩)] 78)).alloc (.cells #[.func F fc fr] 129)) = W at *
  have hN := HNE.out
  have hZ := HSZ.out
  have cb := cell_blk HB.out 0
  have HAK := Lib.hid (snd_ack (H.out.drewN 1) ha b hb)
  refine wp_region_still_tail 3 (by kernel_rfl) (by kernel_rfl) ?_
  simp only [List.take_succ_cons, List.take_zero, List.drop_succ_cons, List.drop_zero]
  repeat still_step
  still_call (HLO.out _)
  repeat still_step
  try refine wpStill_nil ?_
  change wpList _ _ _ _ _ (W.drewN 1)
  go_wp2_with fail
  refine HAK.out.mono ?_
  rintro e w3 ⟨rfl, h3, hk3⟩
  have H3 := Lib.hid h3
  have HB3 : Hid (w3.heap[w.heap.size]? = some (.cells #[.pointer (some ⟨gs, 0, none⟩)] 78 (0, 0))) := (hk3 w.heap.size (by show w.heap.size < W.heap.size; omega) (by omega) (by omega)).trans HB.out
  have HOP := Lib.hid (snd_openNo h3 hb hm x hx hf)
  clear h3 hk3 HAK H HB cb
  have cb := cell_blk HB3.out 0
  go_wp2_with fail
  refine HOP.out.mono ?_
  rintro e w4 ⟨rfl, q, rfl⟩
  have H4 := Lib.hid (H3.out.drewN q)
  have HB4 : Hid ((w3.drewN q).heap[w.heap.size]? = some (.cells #[.pointer (some ⟨gs, 0, none⟩)] 78 (0, 0))) := HB3.out
  clear HOP H3 HB3 cb
  generalize w3.drewN q = w4 at *
  have cb := cell_blk HB4.out 0
  have HSI := Lib.hid (fun v f => (snd_sifted v f A cap w4).mono (fun e w' (hh : e = _ ∧ w' = w4) => (⟨hh.1, hh.2.symm⟩ : e = .returned (.slice none 0 0) ∧ w4 = w')))
  go_upto_region 4 with (go_at_call 101; refine (HSI.out _ _).mono ?_; rintro e w' ⟨rfl, rfl⟩)
  obtain ⟨c0, c1, c2, c3, c4, c5, c6, c7, c8, c9, f⟩ := H4.out.cells
  have f9 := f 9
  clear f
  refine wp_region_still_tail 9 (by kernel_rfl) (by kernel_rfl) ?_
  simp only [List.take_succ_cons, List.take_zero, List.drop_succ_cons, List.drop_zero]
  repeat still_step
  try refine wpStill_nil ?_
  have H5 : Hid (SndAt w0 ((w4.drewN 1).setCell ⟨gs, 9, none⟩ (.slice none 0 0)) gs r mb S s b ms ps pa polls out l most (ks.filter fun k => !btwB a k b) n) := (H4.out.drewN 1).store2 9 (.slice none 0 0) rfl
  have HB5 : Hid (((w4.drewN 1).setCell ⟨gs, 9, none⟩ (.slice none 0 0)).heap[w.heap.size]? = some (.cells #[.pointer (some ⟨gs, 0, none⟩)] 78 (0, 0))) := (Below.heap_setCell _ _ _ _ (by show w.heap.size ≠ gs; omega)).trans HB4.out
  change wpList _ _ _ _ _ (w4.drewN 1)
  clear c0 c1 c2 c3 c4 c5 c6 c7 c8 c9 cb HB4 HSI
  have f9' : (w4.drewN 1).frozen? ⟨gs, 9, none⟩ = false := f9
  have c9' : (w4.drewN 1).cell? ⟨gs, 9, none⟩ = some (.slice none 0 0) := H4.out.cells.c9
  clear H4 f9
  generalize w4.drewN 1 = w5 at *
  go_upto_region 5 with fail
  clear f9' c9'
  generalize w5.setCell ⟨gs, 9, none⟩ (.slice none 0 0) = w6 at *
  have cb := cell_blk HB5.out 0
  have c9 := H5.out.cells.c9
  have HSO := Lib.hid (fun f => (sort_nil f (w6.drewN 1)).mono (fun e w' (hh : e = _ ∧ w' = w6.drewN 1) => (⟨hh.1, hh.2.symm⟩ : e = .returned (.tuple #[]) ∧ w6.drewN 1 = w')))
  have H6 := Lib.hid (H5.out.drewN 1)
  refine wp_region_still_tail 6 (by kernel_rfl) (by kernel_rfl) ?_
  simp only [List.take_succ_cons, List.take_zero, List.drop_succ_cons, List.drop_zero]
  repeat still_step
  try refine wpStill_nil ?_
  change wpList _ _ _ _ _ (w6.drewN 1)
  clear cb c9 H5 HB5
  generalize w6.drewN 1 = w7 at *
  go_wp2_with (go_at_call 104; refine (HSO.out _).mono ?_; rintro e w' ⟨rfl, rfl⟩)
  go_ret
  exact ⟨rfl, H6.out⟩
end Go.Proofs.Ytogbifggaomfjaa
