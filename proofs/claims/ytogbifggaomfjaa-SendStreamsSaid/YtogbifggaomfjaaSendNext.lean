/- Package send's Lacks, Idle, goOut, Next. Conditions: the sender is the law's own, nothing is to go again. -/
import Derived.Test.YtogbifggaomfjaaSendFns
namespace Go.Proofs.Ytogbifggaomfjaa
open Go.RowKit Go.Maps
set_option linter.unusedVariables false
variable {w0 w w' : World} {gs r mb most n : Nat} {S S' : Nat → Prop} {s a ms ps pa polls out : Int} {l l' : List Value} {ks : List Int}

set_option maxHeartbeats 2000000 in
set_option maxRecDepth 100000 in
theorem snd_goOut (h : SndAt w0 w gs r mb S s a ms ps pa polls out l most ks n) (k : Int) (hk : 0 ≤ k ∧ k < 16777216) (x : ByteArray) (ho : 0 ≤ out ∧ out ≤ 100000) (hn : n ≤ 100000) :
    Calls Try.prog 81 #[.pointer (some ⟨gs, 0, none⟩), .int .u32 k, .string x] w fun e w' => e = .returned (.string x) ∧ SndAt w0 w' gs r mb S s a ms ps pa polls (out + 1) l most (ks ++ [k]) (n + 1) := by
  obtain ⟨c0, c1, c2, c3, c4, c5, c6, c7, c8, c9, f⟩ := h.cells
  have hkey : keyOf Try.prog 24 (.int .u32 k) = some (.int .u32 k) := keyOf_int_mk Try.underlying24 (WalkArith.wf_u32 (by omega))
  have HKEY := Lib.hid hkey
  have H := Lib.hid h
  clear h hkey f
  go_enter Try.func81, Try.ntmps81
  go_wp2_with fail
  go_still_tail 11, (by kernel_rfl)
  change wpList _ _ _ _ _ w.drew
  have H1 := Lib.hid (show SndAt w0 w.drew gs r mb S s a ms ps pa polls out l most ks n from H.out.drewN 1)
  generalize w.drew = w1 at *
  clear c0 c1 c2 c3 c4 c5 c6 c7 c8 c9
  obtain ⟨D, hD1, hD2⟩ := H1.out.map
  have HD1 := Lib.hid hD1
  have HD2 := Lib.hid hD2
  clear hD1 hD2
  go_wp2_with (at_mapUpdate; refine wpList_mapUpdate_own _ rfl _ _ _ 117 rfl 24 122 keyLaw Try.underlying117 anyElem mb n _ rfl HD1.out (by unfold maxLen; omega) _ _ _ rfl rfl HKEY.out (.agg []) [] rfl ?_; intro w2 hown hgrow; have H2 := Lib.hid (H1.out.mapped ⟨_, hown, HD2.out.put HD1.out.isMap k⟩ hgrow); have c6 := H2.out.cells.c6; have f6 := H2.out.cells.f 6; clear hown hgrow)
  go_ret
  exact ⟨rfl, H2.out.store 6 (.int .i64 (out + 1)) rfl⟩

theorem natPos (k : Nat) : (decide ((0 : Int) < (k : Int)) = decide (0 < k)) := by by_cases h : 0 < k; rw [decide_eq_true h, decide_eq_true (by omega)]; rw [decide_eq_false h, decide_eq_false (by omega)]

set_option maxHeartbeats 2000000 in
set_option maxRecDepth 100000 in
theorem snd_lacks (h : SndAt w0 w gs r mb S s a ms ps pa polls out l most ks n) (b : Bool) (hb : b = (decide (0 < l.length) && (s == ms))) :
    Calls Try.prog 51 #[.pointer (some ⟨gs, 0, none⟩)] w fun e w' => e = .returned (.bool b) ∧ ∃ q, w' = w.drewN q := by
  have HL := Lib.hid (fun q => (string.len (w.drewN q) S r most l (h.ring.drewN q)).mono (fun e w' (hh : e = _ ∧ w.drewN q = w') => (⟨hh.1, hh.2.symm⟩ : e = .returned (.int .i64 (l.length : Int)) ∧ w' = w.drewN q)))
  obtain ⟨c0, c1, c2, c3, c4, c5, c6, c7, c8, c9, f⟩ := h.cells
  clear h f
  have HB := Lib.hid hb
  clear hb
  by_cases hl : 0 < l.length
  · have e1 : decide (0 < l.length) = true := decide_eq_true hl
    have e2 : decide ((0 : Int) < (l.length : Int)) = true := decide_eq_true (by omega)
    obtain ⟨t, ht⟩ : ∃ t, t = (s == ms) := ⟨_, rfl⟩
    have HT := Lib.hid ht
    have ht' := ht.symm
    clear ht hl
    go_enter Try.func51, Try.ntmps51
    go_wp2_with fail
    go_quiet ((go_at_call 82; exact Calls.quiet_of_same (HL.out _)))
    go_wp2_with fail
    go_ret
    exact ⟨by rw [HB.out, e1, ← HT.out]; simp, nq, rfl⟩
  · have e1 : decide (0 < l.length) = false := decide_eq_false hl
    have e2 : decide ((0 : Int) < (l.length : Int)) = false := decide_eq_false (by omega)
    go_enter Try.func51, Try.ntmps51
    go_wp2_with fail
    go_quiet ((go_at_call 82; exact Calls.quiet_of_same (HL.out _)))
    go_wp2_with fail
    go_ret
    exact ⟨by rw [HB.out, e1]; simp, nq, rfl⟩

set_option maxHeartbeats 4000000 in
set_option maxRecDepth 100000 in
theorem snd_nextNil (h : SndAt w0 w gs r mb S s a ms ps pa polls out [] most ks n) :
    Calls Try.prog 50 #[.pointer (some ⟨gs, 0, none⟩)] w fun e w' => e = .returned (.tuple #[.int .u32 0, .string ⟨#[]⟩, .bool false, .bool false]) ∧ ∃ q, w' = w.drewN q := by
  have HB := Lib.hid (snd_lacks h _ rfl)
  have c9 := h.cells.c9
  have H := Lib.hid h
  clear h
  have HLE := Lib.hid (fun q => string.len (w.drewN q) S r most [] (H.out.ring.drewN q))
  have hb0 : (decide (0 < ([] : List Value).length) && (s == ms)) = false := rfl
  rw [hb0] at HB
  clear hb0
  go_enter Try.func50, Try.ntmps50
  go_wp2_with fail
  refine HB.out.mono ?_
  rintro e w1 ⟨rfl, q, rfl⟩
  have c7 : (w.drewN q).cell? ⟨gs, 7, none⟩ = some (.pointer (some ⟨r, 0, none⟩)) := H.out.cells.c7
  go_wp2_with fail
  refine (HLE.out q).mono ?_
  rintro e w2 ⟨rfl, rfl⟩
  go_wp2_with fail
  exact bodyPost_ret (v := .tuple #[.int .u32 0, .string ⟨#[]⟩, .bool false, .bool false]) (by simp [results, Try.results50, go_sem]) rfl ⟨rfl, q, rfl⟩

set_option maxHeartbeats 4000000 in
set_option maxRecDepth 100000 in
/-- Nothing may go out, or nothing waits. -/
theorem snd_nextNo (h : SndAt w0 w gs r mb S s a ms ps pa polls out l most ks n) (hno : l = [] ∨ s = ms) :
    Calls Try.prog 50 #[.pointer (some ⟨gs, 0, none⟩)] w fun e w' => e = .returned (.tuple #[.int .u32 0, .string ⟨#[]⟩, .bool false, .bool false]) ∧ ∃ q, w' = w.drewN q := by
  rcases hno with rfl | rfl
  · exact snd_nextNil h
  · by_cases hl : 0 < l.length
    · have HB := Lib.hid (snd_lacks h _ rfl)
      have c9 := h.cells.c9
      clear h
      have hb0 : (decide (0 < l.length) && (s == s)) = true := by simp; exact hl
      rw [hb0] at HB
      clear hb0
      go_enter Try.func50, Try.ntmps50
      go_wp2_with fail
      refine HB.out.mono ?_
      rintro e w1 ⟨rfl, q, rfl⟩
      go_wp2_with fail
      exact bodyPost_ret (v := .tuple #[.int .u32 0, .string ⟨#[]⟩, .bool false, .bool false]) (by simp [results, Try.results50, go_sem]) rfl ⟨rfl, q, rfl⟩
    · obtain rfl : l = [] := List.eq_nil_of_length_eq_zero (by omega)
      exact snd_nextNil h

set_option maxHeartbeats 4000000 in
set_option maxRecDepth 100000 in
/-- The next new one goes out. -/
theorem snd_nextYes {x : ByteArray} (h : SndAt w0 w gs r mb S s a ms ps pa polls out (.string x :: l) most ks n) (hne : s ≠ ms) (hs : 0 ≤ s ∧ s < 16777216) (ho : 0 ≤ out ∧ out ≤ 100000) (hn : n ≤ 100000) :
    Calls Try.prog 50 #[.pointer (some ⟨gs, 0, none⟩)] w fun e w' => e = .returned (.tuple #[.int .u32 s, .string x, .bool true, .bool true]) ∧ SndAt w0 w' gs r mb S ((s + 1) % 16777216) a ms ps pa polls (out + 1) l most (ks ++ [s]) (n + 1) := by
  have HB := Lib.hid (snd_lacks h _ rfl)
  have hb0 : (decide (0 < (Value.string x :: l).length) && (s == ms)) = false := by simp; exact hne
  rw [hb0] at HB
  have c9 := h.cells.c9
  have H := Lib.hid h
  have HAD := Lib.hid (fun W => seq_add s 1 W hs.1 (by omega) (by omega) (by omega))
  clear h hb0
  go_enter Try.func50, Try.ntmps50
  go_wp2_with fail
  refine HB.out.mono ?_
  rintro e w1 ⟨rfl, q, rfl⟩
  have H1 := Lib.hid (H.out.drewN q)
  clear H c9
  generalize w.drewN q = w1 at *
  obtain ⟨c0, c1, c2, c3, c4, c5, c6, c7, c8, c9, f⟩ := H1.out.cells
  have f0 := f 0
  have HLE := Lib.hid (string.len w1 S r most _ H1.out.ring)
  have hlen : (((Value.string x :: l).length : Int) == 0) = false := by simp; omega
  have H2 := Lib.hid (H1.out.store 0 (.int .u32 ((s + 1) % 16777216)) (s' := (s + 1) % 16777216) (ms' := ms) (out' := out) rfl)
  have d7 := H2.out.cells.c7
  have HTK := Lib.hid (string.takeYes _ S r most x l H2.out.ring)
  clear f
  go_wp2_with (first | (go_at_call 82; refine HLE.out.mono ?_; rintro e w' ⟨rfl, rfl⟩) | (go_at_call 20; refine (HAD.out _).mono ?_; rintro e w' ⟨rfl, rfl⟩))
  refine HTK.out.mono ?_
  rintro e w3 ⟨rfl, hr, hk⟩
  have H3 := Lib.hid (H2.out.row hr hk fun _ h => .inl h)
  have HGO := Lib.hid (snd_goOut H3.out s hs x ho hn)
  clear hr hk HTK H2 H1 c0 c1 c2 c3 c4 c5 c6 c7 c8 c9 d7 f0
  go_wp2_with fail
  refine HGO.out.mono ?_
  rintro e w4 ⟨rfl, h4⟩
  have H4 := Lib.hid h4
  clear h4
  go_wp2_with fail
  exact bodyPost_ret (v := .tuple #[.int .u32 s, .string x, .bool true, .bool true]) (by simp [results, Try.results50, go_sem]) rfl ⟨rfl, H4.out⟩

set_option maxHeartbeats 2000000 in
set_option maxRecDepth 100000 in
theorem snd_idle (h : SndAt w0 w gs r mb S s a ms ps pa polls out l most ks n) (hne : l ≠ []) :
    Calls Try.prog 56 #[.pointer (some ⟨gs, 0, none⟩)] w fun e w' => e = .returned (.bool false) ∧ w = w' := by
  have HL := Lib.hid (string.len w S r most l h.ring)
  have c7 := h.cells.c7
  have hb : ((l.length : Int) == 0) = false := by
    rw [beq_eq_false_iff_ne]
    intro e
    exact hne (List.eq_nil_of_length_eq_zero (by omega))
  clear h hne
  go_enter Try.func56, Try.ntmps56
  go_wp2_with (go_at_call 82; refine HL.out.mono ?_; rintro e w' ⟨rfl, rfl⟩)
  go_ret
  exact ⟨rfl, rfl⟩
end Go.Proofs.Ytogbifggaomfjaa
