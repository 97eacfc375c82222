/- Package send's Left where nothing waits: how many it answers. Conditions: the sender is the law's own. -/
import Derived.Test.YtogbifggaomfjaaSendStat2
import Derived.Test.YtogbifggaomfjaaAppendSrc
namespace Go.Proofs.Ytogbifggaomfjaa
open Go.RowKit Go.Maps Sp
set_option linter.unusedVariables false
variable {w0 w w' : World} {gs r mb most n : Nat} {S S' : Nat → Prop} {s a ms ps pa polls out : Int} {l l' : List Value} {ks : List Int}

theorem zeroSent (w : World) : (zeroValue 122).run Try.prog w = .ok (.agg #[.string ⟨#[]⟩, .int .u32 0]) w := by kernel_rfl
theorem field_msg (m : ByteArray) (p : Int) (w : World) : (Instr.field 122 (.agg #[.string m, .int .u32 p]) 0).run Try.prog w = .ok (.string m) w := by kernel_rfl
theorem one_srcL {w : World} {b : Nat} {x : Value} (h : w.cell? ⟨b, 0, none⟩ = some x) : ∀ ad, some (⟨b, 0, none⟩ : Addr) = some ad → ∀ j u, [x][j]? = some u → w.cell? (ad.add j) = some u := by
  intro ad e j u hj
  injection e with e
  subst e
  match j, hj with
  | 0, hj => simp at hj; subst hj; exact h
theorem one_newL (w : World) (x : Value) (t : TypeId) : (w.alloc (.cells #[x] t)).cell? ⟨w.heap.size, 0, none⟩ = some x := by rw [cell_blk (heap_alloc_new w (.cells #[x] t)) 0]; rfl
theorem ownFormL {w : World} {base n : Nat} {e : TypeId} {v : Value} {l : List Value} (h : w.ownsRow base e 1 v n l) : ∃ A cap, v = .slice A n cap := by
  rcases h.2 with ⟨rfl, rfl⟩ | ⟨g, cap, cur, rfl, _, _, h1, h2, _⟩
  · exact ⟨none, 0, rfl⟩
  · exact ⟨_, cap, rfl⟩
theorem ownsRow_belowL {w w' : World} {base size n : Nat} {e : TypeId} {v : Value} {xs : List Value} (h : w.ownsRow base e size v n xs) (hb : Below w.heap.size w w') : w'.ownsRow base e size v n xs :=
  h.kept (row := none) ⟨hb.os, hb.tape, hb.output, hb.size, fun k hk _ => hb.block k hk⟩ (by cases v.ownBlock <;> simp)
set_option maxRecDepth 100000 in
theorem MapIn.look (h : MapIn w mb n ks) (x : Int) (hx : 0 ≤ x ∧ x < 4294967296) : ∃ (m : ByteArray) (p : Int), (Instr.lookup 117 (.map (some mb)) (.int .u32 x) false).run Try.prog w = .ok (.agg #[.string m, .int .u32 p]) w := by
  obtain ⟨D, h1, _⟩ := h
  have hkey : keyOf Try.prog 24 (.int .u32 x) = some (.int .u32 x) := keyOf_int_mk Try.underlying24 (WalkArith.wf_u32 (by omega))
  obtain ⟨v, ps, hr, hv⟩ := h1.lookup keyLaw Try.underlying117 (zeroSent w) (anyElem_mk ⟨#[]⟩ 0) hkey
  obtain ⟨c, rfl⟩ := anyElem_inv hv
  exact ⟨c.1, c.2, hr⟩

set_option maxHeartbeats 4000000 in
set_option maxRecDepth 100000 in
theorem snd_left (h : SndAt w0 w gs r mb S s a ms ps pa polls out [] most ks n) (hk : ks.Nodup) (hn : ks.length ≤ 100000) (ha : 0 ≤ a ∧ a < 16777216) :
    Calls Try.prog 55 #[.pointer (some ⟨gs, 0, none⟩)] w fun e w' => ∃ A cap, e = .returned (.slice A ks.length cap) ∧ Below w.heap.size w w' := by
  obtain ⟨i0, hi, hz0, hz1, hz2⟩ := info_parts string.info
  have Hi := Lib.hid hi
  have Hz0 := Lib.hid hz0
  have Hz1 := Lib.hid hz1
  have Hz2 := Lib.hid hz2
  obtain ⟨D, hD1, hD2⟩ := h.map
  have HSZ := Lib.hid (hD2.size hD1 hk)
  have HD := Lib.hid hD1
  have H := Lib.hid h
  have c8 := h.cells.c8
  clear hi hz0 hz1 hz2 hD1 hD2 h hk
  generalize hN : ks.length = N at *
  clear hN
  go_enter Try.func55, Try.ntmps55
  go_wp2_with (at_len; refine wpList_len_own _ rfl _ 117 rfl 24 122 Try.underlying117 anyElem mb n D rfl HD.out ?_; rw [HSZ.out])
  clear HD HSZ c8
  go_loopw [3, 10] (fun v i wr => ∃ (k : Nat) (v' : Value) (xs : List Value), k ≤ N ∧ v' = v ∧ i = .int .i64 k ∧ Hid (wr.ownsRow w.heap.size 9 1 v' k xs) ∧ Hid (Below w.heap.size w wr)) (fun _ i _ => N - (intOf i).toNat)
  case atStart => exact ⟨0, _, [], by omega, rfl, rfl, (by show World.ownsRow _ _ _ _ _ _ _; exact World.ownsRow_nil _ _ _ _), Below.refl _ _⟩
  case round =>
    obtain ⟨k, v', xs, hkN, rfl, rfl, HO, HW⟩ := hrel
    have HS := Lib.hid (H.out.below HW.out)
    by_cases hlt : k < N
    · have e1 : decide ((k : Int) < (N : Int)) = true := decide_eq_true (by omega)
      obtain ⟨c0, c1, c2, c3, c4, c5, c6, c7, c8, c9, f⟩ := HS.out.cells
      clear f c0 c2 c3 c4 c5 c6 c7 c9
      have hmd : MapIn wr.drew mb n ks := (HS.out.drewN 1).map
      obtain ⟨m, p, hlook⟩ := hmd.look ((a + (k : Int)) % 16777216) (by omega)
      have hfield := field_msg m p wr.drew
      have HFI := Lib.hid (field_msg m p)
      have HAD := Lib.hid (fun W => seq_add a (k : Int) W ha.1 (by omega) (by omega) (by omega))
      generalize (a + (k : Int)) % 16777216 = key at *
      have hlow := HW.out.size
      go_upto_region 5 with fail
      go_region_law (first
        | (go_simp
           (go_at_call 20; refine (HAD.out _).mono ?_; rintro e w' ⟨rfl, rfl⟩)
           dsimp only)
        | (refine step_append_src _ rfl (.tmp 13) (.tmp 26) 63 rfl w.heap.size 9 i0 (.string ⟨#[]⟩) 1 16 Try.underlying63 Hi.out Hz0.out Hz1.out Hz2.out rfl (by decide) v' k xs (by rfl) (by repeat (with_reducible first | exact HO.out | refine World.ownsRow.drew ?_ | refine World.ownsRow.alloc ?_ _)) (some ⟨wr.heap.size, 0, none⟩) 1 1 [.string m] (by rfl) rfl (fun h => by cases h) (by first | exact one_srcL (one_newL wr _ _) | exact one_srcL (one_newL wr.drew _ _)) (fun u hu => by simp at hu; subst hu; rfl) (by unfold maxLen; omega) (by omega) (by simp; omega) ?_
           intro v5 w5 hown4 hg4 _
           have HO5 := Lib.hid hown4
           have HW5 := Lib.hid ((show Below w.heap.size w _ by repeat (with_reducible first | exact HW.out | refine Below.drew ?_ | refine Below.alloc ?_ (by first | exact hlow | (simp; omega)) _)).grown hg4 (by simp; omega) (fun j hj => (HO.out.lt j hj).1))
           clear hown4 hg4))
      all_goals go_wp2_with fail
      all_goals go_roundw
      all_goals (first | (simp [intOf]; omega; done) | exact ⟨k + 1, v5, _, by omega, rfl, by go_num, HO5, HW5⟩)
    · have hkq : k = N := by omega
      have e1 : decide ((k : Int) < (N : Int)) = false := decide_eq_false (by omega)
      subst hkq
      have c7 := HS.out.cells.c7
      have HALL := Lib.hid ((string.all wr S r most [] HS.out.ring).mono (fun e w' hh => allOut_nil hh))
      go_wp2_with fail
      refine HALL.out.mono ?_
      rintro e w3 ⟨rfl, hb3⟩
      have HB3 := Lib.hid (HW.out.trans (hb3.mono HW.out.size))
      have HO3 : Hid (w3.ownsRow w.heap.size 9 1 v' k xs) := ownsRow_belowL HO.out hb3
      clear HALL HO HW HS c7 hb3
      go_wp2_with (at_builtin; refine wpList_append_src _ rfl (.tmp 29) (.tmp 34) 63 rfl w.heap.size 9 i0 (.string ⟨#[]⟩) 1 16 Try.underlying63 Hi.out Hz0.out Hz1.out Hz2.out rfl (by decide) v' k xs rfl HO3.out none 0 0 [] rfl rfl (fun _ => rfl) (fun ad h => by cases h) (fun u hu => by cases hu) (by unfold maxLen; omega) (by omega) HB3.out.size ?_; intro v5 w5 hown4 hg4 _; have HO5 := Lib.hid hown4; have HW5 := Lib.hid (HB3.out.grown hg4 HB3.out.size (fun j hj => (HO3.out.lt j hj).1)); clear hown4 hg4)
      obtain ⟨A, cap, rfl⟩ := ownFormL HO5.out
      go_ret
      exact ⟨A, cap, rfl, HW5.out⟩
end Go.Proofs.Ytogbifggaomfjaa
