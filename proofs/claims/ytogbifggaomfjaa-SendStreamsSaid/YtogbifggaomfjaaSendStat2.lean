/- Package send's Stat where no list comes. Conditions: the sender is the law's own, nothing is to go again; the credit is no further. -/
import Derived.Test.YtogbifggaomfjaaSendAcc
namespace Go.Proofs.Ytogbifggaomfjaa
open Go.RowKit Go.Maps Sp
set_option linter.unusedVariables false
variable {w0 w w' : World} {gs r mb most n : Nat} {S S' : Nat → Prop} {s a ms ps pa polls out : Int} {l l' : List Value} {ks : List Int}

set_option maxHeartbeats 4000000 in
set_option maxRecDepth 100000 in
theorem snd_stat (h : SndAt w0 w gs r mb S s a ms ps pa polls out l most ks n) (ha : 0 ≤ a ∧ a < 16777216) (hm : 0 ≤ ms ∧ ms < 16777216) (hs : 0 ≤ s ∧ s < 16777216) (hps : 0 ≤ ps ∧ ps < 16777216) (hpa : 0 ≤ pa ∧ pa < 16777216)
    (b x p : Int) (hb : 0 ≤ b ∧ b < 16777216) (hx : 0 ≤ x ∧ x < 16777216) (hp : 0 ≤ p ∧ p < 16777216) (h1 : withinB pa p ps = true) (h2 : withinB a b s = true) (h3 : (s - b) % 16777216 ≤ 8388608)
    (hf : 8388608 < (x - b) % 16777216 ∨ (x - b) % 16777216 < (ms - b) % 16777216) :
    Calls Try.prog 54 #[.pointer (some ⟨gs, 0, none⟩), .int .u32 b, .int .u32 x, .int .u32 p, .slice none 0 0] w fun e w' => e = .returned (.tuple #[.int .i64 0, .int .i64 0]) ∧ SndAt w0 w' gs r mb S s b ms ps p polls out l most (ks.filter fun k => !btwB a k b) n := by
  have HW := Lib.hid (fun W => (seq_within pa p ps W hpa.1 (by omega) hp.1 (by omega) hps.1 (by omega)).mono (fun e w' (hh : e = _ ∧ W = w') => (⟨hh.1, hh.2.symm⟩ : e = .returned (.bool (withinB pa p ps)) ∧ w' = W)))
  rw [h1] at HW
  have HLO := Lib.hid (fun W => seq_low p W hp.1 (by omega))
  rw [show p % 16777216 = p by omega] at HLO
  have hb1 := (Below.refl w.heap.size w).alloc (Nat.le_refl _) (.cells #[.int .u32 p] 24)
  have hB := heap_alloc_new w (.cells #[.int .u32 p] 24)
  have hsz : (w.alloc (.cells #[.int .u32 p] 24)).heap.size = w.heap.size + 1 := by simp
  have H := Lib.hid (h.below hb1)
  have HNE : Hid (gs < w.heap.size) := h.lt
  have HB := Lib.hid hB
  have HSZ := Lib.hid hsz
  clear h hb1 hB hsz
  go_enter Try.func54, Try.ntmps54
  go_upto_region 1 with fail
  generalize w.alloc (.cells #[.int .u32 p] 24) = W at *
  obtain ⟨c0, c1, c2, c3, c4, c5, c6, c7, c8, c9, f⟩ := H.out.cells
  have cb := cell_blk HB.out 0
  clear f
  have HMI := Lib.hid (fun q => (snd_missing (H.out.drewN q) b hb ha hs h2 h3).mono (fun e w' (hh : ∃ A cap, e = .returned (.tuple #[.slice A 0 cap, .bool true]) ∧ Below (W.drewN q).heap.size (W.drewN q) w') => hh))
  go_quiet ((go_at_call 85; exact Calls.quiet_of_same (HW.out _)))
  go_wp2_with fail
  refine (HMI.out _).mono ?_
  rintro e w3 ⟨A, cap, rfl, hb3⟩
  have H3 := Lib.hid ((H.out.drewN nq).below hb3)
  have HB3 : Hid (w3.heap[w.heap.size]? = some (.cells #[.int .u32 p] 24 (0, 0))) := (hb3.block w.heap.size (by show w.heap.size < W.heap.size; have := HSZ.out; omega)).trans HB.out
  clear hb3 HMI H HB HW c0 c1 c2 c3 c4 c5 c6 c7 c8 c9 cb
  have cb := cell_blk HB3.out 0
  have f4 := H3.out.cells.f 4
  have d4 := H3.out.cells.c4
  have H4 : Hid (SndAt w0 (w3.setCell ⟨gs, 4, none⟩ (.int .u32 p)) gs r mb S s a ms ps p polls out l most ks n) := H3.out.store2 4 (.int .u32 p) rfl
  have HAC := Lib.hid (fun F fc fr => snd_accept H4.out ha hm b x hb hx hf A cap F fc fr)
  clear H4
  go_wp2_with (go_at_call 16; refine (HLO.out _).mono ?_; rintro e w' ⟨rfl, rfl⟩)
  refine (HAC.out _ _ _).mono ?_
  rintro e w5 ⟨rfl, h5⟩
  have H5 := Lib.hid h5
  clear h5 HAC
  go_wp2_with fail
  exact bodyPost_ret (v := .tuple #[.int .i64 0, .int .i64 0]) (by simp [results, Try.results54, go_sem]) rfl ⟨rfl, H5.out⟩
end Go.Proofs.Ytogbifggaomfjaa
