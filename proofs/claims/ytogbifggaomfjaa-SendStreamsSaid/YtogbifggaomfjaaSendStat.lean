/- Package send's Poll, missing, sifted of nothing. Conditions: the sender is the law's own, nothing is to go again, no list. -/
import Derived.Test.YtogbifggaomfjaaSendAck
import Derived.Test.YtogbifggaomfjaaSendSort
import Derived.Test.YtogbifggaomfjaaGapSet
namespace Go.Proofs.Ytogbifggaomfjaa
open Go.RowKit Go.Maps Sp
set_option linter.unusedVariables false
variable {w0 w w' : World} {gs r mb most n : Nat} {S S' : Nat → Prop} {s a ms ps pa polls out : Int} {l l' : List Value} {ks : List Int}

set_option maxHeartbeats 2000000 in
set_option maxRecDepth 100000 in
theorem snd_poll (h : SndAt w0 w gs r mb S s a ms ps pa polls out l most ks n) (hp : 0 ≤ ps ∧ ps < 16777216) :
    Calls Try.prog 53 #[.pointer (some ⟨gs, 0, none⟩)] w fun e w' => e = .returned (.tuple #[.int .u32 ((ps + 1) % 16777216), .int .u32 s]) ∧ SndAt w0 w' gs r mb S s a ms ((ps + 1) % 16777216) pa polls 0 l most ks n := by
  have HAD := Lib.hid (fun W => seq_add ps 1 W hp.1 (by omega) (by omega) (by omega))
  obtain ⟨c0, c1, c2, c3, c4, c5, c6, c7, c8, c9, f⟩ := h.cells
  have f3 := f 3
  have H1 := Lib.hid (h.store2 3 (.int .u32 ((ps + 1) % 16777216)) (ps' := (ps + 1) % 16777216) rfl)
  have H2 := Lib.hid (H1.out.store2 6 (.int .i64 0) (out' := 0) rfl)
  have f6 := H1.out.cells.f 6
  have d3 := H2.out.cells.c3
  have d0 := H2.out.cells.c0
  clear h f
  go_enter Try.func53, Try.ntmps53
  go_upto_region 3 with (go_at_call 20; refine (HAD.out _).mono ?_; rintro e w' ⟨rfl, rfl⟩)
  clear c0 c1 c2 c3 c4 c5 c6 c7 c8 c9 f3 f6 H1 HAD
  generalize (w.setCell _ _).setCell _ _ = W at *
  go_quiet (fail)
  go_wp2_with fail
  exact bodyPost_ret (v := .tuple #[.int .u32 ((ps + 1) % 16777216), .int .u32 s]) (by simp [results, Try.results53, go_sem]) rfl ⟨rfl, H2.out.drewN nq⟩

set_option maxHeartbeats 2000000 in
set_option maxRecDepth 100000 in
theorem snd_missing (h : SndAt w0 w gs r mb S s a ms ps pa polls out l most ks n) (x : Int) (hx : 0 ≤ x ∧ x < 16777216) (ha : 0 ≤ a ∧ a < 16777216) (hs : 0 ≤ s ∧ s < 16777216) (h1 : withinB a x s = true) (h2 : (s - x) % 16777216 ≤ 8388608) :
    Calls Try.prog 86 #[.pointer (some ⟨gs, 0, none⟩), .int .u32 x, .slice none 0 0] w fun e w' => ∃ A cap, e = .returned (.tuple #[.slice A 0 cap, .bool true]) ∧ Below w.heap.size w w' := by
  have HW := Lib.hid (fun W => (seq_within a x s W ha.1 (by omega) hx.1 (by omega) hs.1 (by omega)).mono (fun e w' (hh : e = _ ∧ W = w') => (⟨hh.1, hh.2.symm⟩ : e = .returned (.bool (withinB a x s)) ∧ w' = W)))
  rw [h1] at HW
  obtain ⟨c0, c1, c2, c3, c4, c5, c6, c7, c8, c9, f⟩ := h.cells
  have HG := Lib.hid (fun q => (g_set x s [] (.slice none 0 0) (w.drewN q) (numRow_nil _) hx.1 (by omega) hs.1 (by omega) (fun x hx => by cases hx) (by simp)).mono (fun e w' (hh : SetOut (w.drewN q) x s [] e w') => by
    obtain ⟨hh, hb⟩ := hh
    rw [if_pos ⟨rfl, h2, rfl⟩] at hh
    obtain ⟨u, he, hu⟩ := hh
    obtain ⟨A, cap, rfl⟩ := hu.form
    exact (⟨A, cap, he, hb⟩ : ∃ A cap, e = .returned (.tuple #[.slice A 0 cap, .bool true]) ∧ Below (w.drewN q).heap.size (w.drewN q) w')))
  clear h f
  have d0 : ∀ q, (w.drewN q).cell? ⟨gs, 0, none⟩ = some (.int .u32 s) := fun q => c0
  have HBW := Lib.hid (fun q => (⟨rfl, rfl, rfl, Nat.le_refl _, fun _ _ => rfl⟩ : Below w.heap.size w (w.drewN q)))
  go_enter Try.func86, Try.ntmps86
  go_wp2_with fail
  go_quiet ((go_at_call 85; exact Calls.quiet_of_same (HW.out _)))
  go_wp2_with fail
  refine (HG.out _).mono ?_
  rintro e w' ⟨A, cap, rfl, hb⟩
  have HBB := Lib.hid hb
  clear hb HG
  go_wp2_with fail
  exact bodyPost_ret (v := .tuple #[.slice A 0 cap, .bool true]) (by simp [results, Try.results86, go_sem]) rfl ⟨A, cap, rfl, (HBW.out nq).trans HBB.out⟩

theorem snd_sifted (v f : Value) (A : Option Addr) (cap : Nat) (w : World) : Calls Try.prog 101 #[v, .slice A 0 cap, f] w fun e w' => e = .returned (.slice none 0 0) ∧ w' = w := by
  go_enter Try.func101, Try.ntmps101
  go_wp2_with fail
  go_loopw [7, 14] (fun u i wr => u = .slice none 0 0 ∧ i = .int .i64 0 ∧ wr = w) (fun _ _ _ => 0)
  case atStart => exact ⟨rfl, rfl, rfl⟩
  case round =>
    obtain ⟨rfl, rfl, rfl⟩ := hrel
    go_wp2_with fail
    go_ret
    exact ⟨rfl, rfl⟩

set_option maxHeartbeats 2000000 in
set_option maxRecDepth 100000 in
/-- Credit that is nearer, or too far. -/
theorem snd_openNo (h : SndAt w0 w gs r mb S s a ms ps pa polls out l most ks n) (ha : 0 ≤ a ∧ a < 16777216) (hm : 0 ≤ ms ∧ ms < 16777216) (x : Int) (hx : 0 ≤ x ∧ x < 16777216) (hf : 8388608 < (x - a) % 16777216 ∨ (x - a) % 16777216 < (ms - a) % 16777216) :
    Calls Try.prog 49 #[.pointer (some ⟨gs, 0, none⟩), .int .u32 x] w fun e w' => e = .returned (.tuple #[]) ∧ ∃ q, w' = w.drewN q := by
  have HF := Lib.hid (fun W => seq_to a x W ha.1 (by omega) hx.1 (by omega))
  have HM := Lib.hid (fun W => (seq_to a ms W ha.1 (by omega) hm.1 (by omega)).mono (fun e w' (hh : e = _ ∧ W = w') => (⟨hh.1, hh.2.symm⟩ : e = .returned (.int .i64 ((ms - a) % 16777216)) ∧ w' = W)))
  generalize (x - a) % 16777216 = d at *
  generalize (ms - a) % 16777216 = m at *
  obtain ⟨c0, c1, c2, c3, c4, c5, c6, c7, c8, c9, f⟩ := h.cells
  clear h f
  by_cases hd : d ≤ 8388608
  · have e1 : decide (d ≤ 8388608) = true := decide_eq_true hd
    have e2 : decide (m ≤ d) = false := decide_eq_false (by omega)
    clear hd hf
    go_enter Try.func49, Try.ntmps49
    go_wp2_with (go_at_call 38; refine (HF.out _).mono ?_; rintro e w' ⟨rfl, rfl⟩)
    go_quiet ((go_at_call 38; exact Calls.quiet_of_same (HM.out _)))
    go_wp2_with fail
    go_end0
    exact ⟨rfl, nq, rfl⟩
  · have e1 : decide (d ≤ 8388608) = false := decide_eq_false hd
    clear hd hf
    go_enter Try.func49, Try.ntmps49
    go_wp2_with (go_at_call 38; refine (HF.out _).mono ?_; rintro e w' ⟨rfl, rfl⟩)
    go_quiet ((go_at_call 38; exact Calls.quiet_of_same (HM.out _)))
    go_wp2_with fail
    go_end0
    exact ⟨rfl, nq, rfl⟩
end Go.Proofs.Ytogbifggaomfjaa
