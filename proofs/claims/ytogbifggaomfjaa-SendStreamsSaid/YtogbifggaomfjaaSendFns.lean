/- Package send's calls on a sender of a law's own: New, Put, Open, Lacks, Idle, Next of what is new. Conditions: the sender is the law's own, nothing is to go again. -/
import Derived.Test.YtogbifggaomfjaaRingSessStr
import Derived.Test.YtogbifggaomfjaaSeqFns
import Derived.Maps.OwnSet
import Derived.Maps.RangeWalk
import Derived.Deep.RegionLaw
import Derived.Deep.RegionHeld3
import Derived.Deep.CutBlock
import Derived.StillTailTactics
namespace Go.Proofs.Ytogbifggaomfjaa
open Go.RowKit Go.Maps
set_option linter.unusedVariables false

theorem keyLaw : Keyed Try.prog 24 := int_keyed Try.underlying24
/-- An element of the map: a message and a number; which ones isn't asked. -/
def anyElem : Value → Option (DataW Unit × List MemPlace)
  | .agg ⟨[.string _, .int .u32 _]⟩ => some (.agg [], [])
  | _ => none
theorem anyElem_mk (m : ByteArray) (p : Int) : anyElem (.agg #[.string m, .int .u32 p]) = some (.agg [], []) := rfl
theorem anyElem_inv {v : Value} {z : DataW Unit × List MemPlace} (h : anyElem v = some z) : ∃ c : ByteArray × Int, v = .agg #[.string c.1, .int .u32 c.2] := by
  unfold anyElem at h
  split at h
  · exact ⟨⟨_, _⟩, rfl⟩
  · cases h
/-- The map's keys are just these. -/
def Reads (D : DataW Unit) (ks : List Int) : Prop := ∀ kl, Maps.has D kl = (ks.map (Lit.int .u32)).any fun y => y.sameKey kl
theorem sameInt (x y : Int) : (Lit.int .u32 x).sameKey (.int .u32 y) = decide (x = y) := by
  by_cases e : x = y
  · subst e
    simp [Lit.sameKey]
  · simp [Lit.sameKey, e]
theorem Reads.nil : Reads (.map []) [] := fun _ => rfl
theorem Reads.has {D : DataW Unit} {ks : List Int} (h : Reads D ks) (x : Int) : Maps.has D (.int .u32 x) = decide (x ∈ ks) := by
  rw [h]
  have key : ∀ l : List Int, ((l.map (Lit.int .u32)).any fun y => y.sameKey (.int .u32 x)) = decide (x ∈ l) := by
    intro l
    induction l with
    | nil => simp
    | cons a r ih =>
      rw [List.map_cons, List.any_cons, ih, sameInt]
      by_cases e : a = x
      · subst e
        simp
      · have e2 : ¬ x = a := fun h => e h.symm
        simp [e, e2]
  exact key ks
theorem Reads.put {D : DataW Unit} {ks : List Int} (h : Reads D ks) (hD : IsMap D) (k : Int) : Reads (D.put (.int .u32 k) (.agg [])) (ks ++ [k]) := by
  intro kl
  rw [List.map_append, List.any_append]
  by_cases e : kl = .int .u32 k
  · subst e
    rw [has_put_same hD (by exact trivial)]
    have : (Lit.int .u32 k).sameKey (.int .u32 k) = true := by rw [sameInt]; simp
    simp [this]
  · rw [has_put_other e, h]
    have : (Lit.int .u32 k).sameKey kl = false := sameKey_ne fun e2 => e e2.symm
    simp [this]
theorem Reads.del {D : DataW Unit} {ks : List Int} (h : Reads D ks) (k : Int) : Reads (D.del (.int .u32 k)) (ks.filter fun x => !decide (x = k)) := by
  intro kl
  by_cases e : kl = .int .u32 k
  · subst e
    rw [has_del_same]
    symm
    rw [List.any_eq_false]
    intro y hy
    obtain ⟨x, hx, rfl⟩ := List.mem_map.1 hy
    rw [List.mem_filter] at hx
    rw [sameInt]
    simpa using hx.2
  · rw [has_del_other e, h]
    have key : ∀ l : List Int, ((l.map (Lit.int .u32)).any fun y => y.sameKey kl) = (((l.filter fun x => !decide (x = k)).map (Lit.int .u32)).any fun y => y.sameKey kl) := by
      intro l
      induction l with
      | nil => rfl
      | cons a r ih =>
        by_cases ea : a = k
        · subst ea
          have : (Lit.int .u32 a).sameKey kl = false := sameKey_ne fun e2 => e e2.symm
          rw [List.filter_cons_of_neg (by simp), List.map_cons, List.any_cons, this, Bool.false_or, ih]
        · rw [List.filter_cons_of_pos (by simpa using ea), List.map_cons, List.map_cons, List.any_cons, List.any_cons, ih]
    exact key ks
theorem Reads.size {D : DataW Unit} {ks : List Int} {w : World} {b n : Nat} (h : Reads D ks) (ho : w.ownsMap Try.prog 24 anyElem b n D) (hk : ks.Nodup) : Maps.size D = ks.length := by
  obtain ⟨es, rfl, hp, hkey⟩ := World.ownsMap.entries ho keyLaw
  have h1 : (es.map (·.1)).Nodup := by rw [List.Nodup, List.pairwise_map]; exact hp
  have h2 : (ks.map (Lit.int .u32)).Nodup := by
    rw [List.Nodup, List.pairwise_map]
    exact hk.imp fun {a b} hne e => hne (by injection e)
  have hm : ∀ a, a ∈ es.map (·.1) ↔ a ∈ ks.map (Lit.int .u32) := by
    intro a
    have ha := h a
    rw [has_eq] at ha
    constructor
    · intro hin
      obtain ⟨p, hp1, rfl⟩ := List.mem_map.1 hin
      have e1 : es.any (fun q => q.1.sameKey p.1) = true := List.any_eq_true.2 ⟨p, hp1, WideAt.sameKey_self (hkey p hp1)⟩
      rw [e1] at ha
      obtain ⟨y, hy, hs⟩ := List.any_eq_true.1 ha.symm
      rw [← WideAt.sameKey_eq hs]
      exact hy
    · intro hin
      obtain ⟨x, hx, rfl⟩ := List.mem_map.1 hin
      have e1 : ((ks.map (Lit.int .u32)).any fun y => y.sameKey (.int .u32 x)) = true := List.any_eq_true.2 ⟨_, hin, by rw [sameInt]; simp⟩
      rw [e1] at ha
      obtain ⟨p, hp1, hs⟩ := List.any_eq_true.1 ha
      exact List.mem_map.2 ⟨p, hp1, WideAt.sameKey_eq hs⟩
  have := ((List.perm_ext_iff_of_nodup h1 h2).2 hm).length_eq
  simpa [size_eq] using this
/-- Block mb is a map of at most n entries with just these keys. -/
def MapIn (w : World) (mb n : Nat) (ks : List Int) : Prop := ∃ D, w.ownsMap Try.prog 24 anyElem mb n D ∧ Reads D ks
theorem ownsMap_blk {H : Type} {P : Program} {k : TypeId} {R : Value → Option (DataW H × List MemPlace)} {w w' : World} {b n : Nat} {D : DataW H} (h : w.ownsMap P k R b n D) (e : w'.heap[b]? = w.heap[b]?) : w'.ownsMap P k R b n D := by
  obtain ⟨es, clock, hb, r⟩ := h
  exact ⟨es, clock, e.trans hb, r⟩

theorem MapIn.blk {w w' : World} {b n : Nat} {ks : List Int} (h : MapIn w b n ks) (e : w'.heap[b]? = w.heap[b]?) : MapIn w' b n ks := by
  obtain ⟨D, h1, h2⟩ := h
  exact ⟨D, ownsMap_blk h1 e, h2⟩
theorem MapIn.lt {w : World} {b n : Nat} {ks : List Int} (h : MapIn w b n ks) : b < w.heap.size := by
  obtain ⟨D, h1, _⟩ := h
  exact h1.lt

/-- The cells of a sender that has nothing to send again. -/
def sndCells (s a ms ps pa polls out : Int) (r mb : Nat) : Array Value := #[.int .u32 s, .int .u32 a, .int .u32 ms, .int .u32 ps, .int .u32 pa, .int .i64 polls, .int .i64 out, .pointer (some ⟨r, 0, none⟩), .map (some mb), .slice none 0 0]
/-- A sender of the law's own in block gs. -/
structure SndAt (w0 w : World) (gs r mb : Nat) (S : Nat → Prop) (s a ms ps pa polls out : Int) (l : List Value) (most : Nat) (ks : List Int) (n : Nat) : Prop where
  box : w.heap[gs]? = some (.cells (sndCells s a ms ps pa polls out r mb) 119 (0, 0))
  ring : RingIn string.T 9 w S r l most
  map : MapIn w mb n ks
  notS : ¬ S gs ∧ ¬ S mb ∧ gs ≠ mb
  low : (∀ k, S k → w0.heap.size ≤ k) ∧ w0.heap.size ≤ gs ∧ w0.heap.size ≤ mb
  bel : Below w0.heap.size w0 w

structure SndCells (w : World) (gs : Nat) (s a ms ps pa polls out : Int) (r mb : Nat) : Prop where
  c0 : w.cell? ⟨gs, 0, none⟩ = some (.int .u32 s)
  c1 : w.cell? ⟨gs, 1, none⟩ = some (.int .u32 a)
  c2 : w.cell? ⟨gs, 2, none⟩ = some (.int .u32 ms)
  c3 : w.cell? ⟨gs, 3, none⟩ = some (.int .u32 ps)
  c4 : w.cell? ⟨gs, 4, none⟩ = some (.int .u32 pa)
  c5 : w.cell? ⟨gs, 5, none⟩ = some (.int .i64 polls)
  c6 : w.cell? ⟨gs, 6, none⟩ = some (.int .i64 out)
  c7 : w.cell? ⟨gs, 7, none⟩ = some (.pointer (some ⟨r, 0, none⟩))
  c8 : w.cell? ⟨gs, 8, none⟩ = some (.map (some mb))
  c9 : w.cell? ⟨gs, 9, none⟩ = some (.slice none 0 0)
  f : ∀ i, w.frozen? ⟨gs, i, none⟩ = false
variable {w0 w w' : World} {gs r mb most n : Nat} {S S' : Nat → Prop} {s a ms ps pa polls out : Int} {l l' : List Value} {ks : List Int}
theorem SndAt.cells (h : SndAt w0 w gs r mb S s a ms ps pa polls out l most ks n) : SndCells w gs s a ms ps pa polls out r mb :=
  ⟨by rw [cell_blk h.box]; rfl, by rw [cell_blk h.box]; rfl, by rw [cell_blk h.box]; rfl, by rw [cell_blk h.box]; rfl, by rw [cell_blk h.box]; rfl, by rw [cell_blk h.box]; rfl, by rw [cell_blk h.box]; rfl, by rw [cell_blk h.box]; rfl, by rw [cell_blk h.box]; rfl, by rw [cell_blk h.box]; rfl, fun i => frozen_blk h.box i⟩
theorem SndAt.lt (h : SndAt w0 w gs r mb S s a ms ps pa polls out l most ks n) : gs < w.heap.size := lt_of_block h.box
theorem SndAt.lts (h : SndAt w0 w gs r mb S s a ms ps pa polls out l most ks n) : w0.heap.size ≤ w.heap.size := h.bel.size
/-- All that lay there is as it was. -/
theorem SndAt.below (h : SndAt w0 w gs r mb S s a ms ps pa polls out l most ks n) (hb : Below w.heap.size w w') : SndAt w0 w' gs r mb S s a ms ps pa polls out l most ks n :=
  ⟨by rw [hb.block _ h.lt]; exact h.box, h.ring.below hb, h.map.blk (hb.block _ h.map.lt), h.notS, h.low, h.bel.trans (hb.mono h.bel.size)⟩
theorem SndAt.drewN (h : SndAt w0 w gs r mb S s a ms ps pa polls out l most ks n) (k : Nat) : SndAt w0 (w.drewN k) gs r mb S s a ms ps pa polls out l most ks n := h.below ⟨rfl, rfl, rfl, Nat.le_refl _, fun _ _ => rfl⟩
/-- A call on the row alone. -/
theorem SndAt.row (h : SndAt w0 w gs r mb S s a ms ps pa polls out l most ks n) (hr : RingIn string.T 9 w' S' r l' most) (hk : Kept S w w') (hS : ∀ k, S' k → Plus S w w' k) : SndAt w0 w' gs r mb S' s a ms ps pa polls out l' most ks n :=
  ⟨by rw [hk.block _ h.lt h.notS.1]; exact h.box, hr, h.map.blk (hk.block _ h.map.lt h.notS.2.1),
    ⟨fun hc => (hS _ hc).elim h.notS.1 fun e => by have := h.lt; omega, fun hc => (hS _ hc).elim h.notS.2.1 fun e => by have := h.map.lt; omega, h.notS.2.2⟩,
    ⟨fun k hk' => (hS k hk').elim (h.low.1 k) fun e => Nat.le_trans h.bel.size e.1, h.low.2⟩, h.bel.trans (hk.below h.bel.size h.low.1)⟩
/-- A store into the sender's own cells. -/
theorem SndAt.store (h : SndAt w0 w gs r mb S s a ms ps pa polls out l most ks n) (i : Nat) (v : Value) {s' ms' out' : Int} (e : (sndCells s a ms ps pa polls out r mb).setIfInBounds i v = sndCells s' a ms' ps pa polls out' r mb) : SndAt w0 (w.setCell ⟨gs, i, none⟩ v) gs r mb S s' a ms' ps pa polls out' l most ks n := by
  have hb : ∀ k, k ≠ gs → (w.setCell ⟨gs, i, none⟩ v).heap[k]? = w.heap[k]? := fun k hk => Below.heap_setCell _ _ _ _ (by exact hk)
  have hsz : (w.setCell ⟨gs, i, none⟩ v).heap.size = w.heap.size := by simp [World.setCell]
  refine ⟨by rw [heap_set_same h.box, e], h.ring.of_blocks (fun _ h => h) (fun k hk => hb k fun e => h.notS.1 (e ▸ hk)) (fun k hk => by rw [hsz]; exact h.ring.lt k hk), h.map.blk (hb mb fun e => h.notS.2.2 e.symm), h.notS, h.low, h.bel.setCell (p := ⟨gs, i, none⟩) h.low.2.1 v⟩
/-- A store into the sender's map. -/
theorem SndAt.mapped (h : SndAt w0 w gs r mb S s a ms ps pa polls out l most ks n) {ks' : List Int} {n' : Nat} (hm : MapIn w' mb n' ks') (hg : w.grownBy w' (some mb)) : SndAt w0 w' gs r mb S s a ms ps pa polls out l most ks' n' := by
  have hb : ∀ k, k < w.heap.size → k ≠ mb → w'.heap[k]? = w.heap[k]? := fun k hk hne => hg.block k hk (by simp; exact hne)
  refine ⟨by rw [hb gs h.lt h.notS.2.2]; exact h.box, h.ring.of_blocks (fun _ h => h) (fun k hk => hb k (h.ring.lt k hk) fun e => h.notS.2.1 (e ▸ hk)) (fun k hk => Nat.lt_of_lt_of_le (h.ring.lt k hk) hg.size), hm, h.notS, h.low, ?_⟩
  exact h.bel.grown hg h.bel.size fun j hj => by cases hj; exact h.low.2.2

theorem snd_near (x : Int) (w : World) (h : 1 ≤ x ∧ x ≤ 256) : Calls Try.prog 78 #[.int .i64 x] w fun e w' => e = .returned (.int .i64 x) ∧ w = w' := by
  obtain ⟨h1, h2⟩ := h
  have E := Lib.hid (show min (max x 1) 256 = x by omega)
  go_enter Try.func78, Try.ntmps78
  go_wp2
  all_goals go_ret
  all_goals exact ⟨by first | rfl | exact retInt (by first | rfl | exact E.out | omega), rfl⟩

set_option maxHeartbeats 2000000 in
set_option maxRecDepth 100000 in
theorem snd_new (st q p : Int) (w : World) (h1 : 0 ≤ st ∧ st < 16777216) (hq : 1 ≤ q ∧ q ≤ 256) (hp : 1 ≤ p ∧ p ≤ 256) :
    Calls Try.prog 47 #[.int .u32 st, .int .i64 q, .int .i64 p] w fun e w' => ∃ gs r mb S, e = .returned (.pointer (some ⟨gs, 0, none⟩)) ∧ SndAt w w' gs r mb S st st st st st p 0 [] q.toNat [] 0 := by
  have hmm := @run_makeMap Try.prog
  have HLO := Lib.hid (seq_low st w h1.1 (by omega))
  rw [show st % 16777216 = st by omega] at HLO
  have HP := Lib.hid (fun W => snd_near p W hp)
  have HQ := Lib.hid (fun W => snd_near q W hq)
  have HN := Lib.hid (string.new w q q.toNat (.inr (.inr ⟨by omega, by omega⟩)) (by omega) (by omega))
  go_enter Try.func47, Try.ntmps47
  go_wp2_with (first | (go_at_call 16; refine HLO.out.mono ?_; rintro e w' ⟨rfl, rfl⟩) | (go_at_call 78; first | (with_reducible refine (HP.out _).mono ?_; rintro e w' ⟨rfl, rfl⟩) | (with_reducible refine (HQ.out _).mono ?_; rintro e w' ⟨rfl, rfl⟩)))
  refine HN.out.mono ?_
  rintro e w2 ⟨r, rfl, hr, hb⟩
  have HR := Lib.hid hr
  have HB := Lib.hid hb
  clear hr hb HN HP HQ HLO
  go_wp2_with fail
  go_ret
  refine ⟨w2.heap.size + 1, r, w2.heap.size, fun k => w.heap.size ≤ k ∧ k < w2.heap.size, rfl, ?_⟩
  have hb2 := ((Below.refl w2.heap.size w2).alloc (Nat.le_refl _) (.map #[] 0)).alloc (by simp) (.cells (sndCells st st st st st p 0 r w2.heap.size) 119)
  have hn := heap_alloc_new (w2.alloc (.map #[] 0)) (.cells (sndCells st st st st st p 0 r w2.heap.size) 119)
  simp only [World.size_alloc] at hn
  have hm := (World.ownsMap_made (H := Unit) w2 Try.prog 24 anyElem).alloc (.cells (sndCells st st st st st p 0 r w2.heap.size) 119)
  exact ⟨hn, HR.out.below hb2, ⟨_, hm, Reads.nil⟩, ⟨fun h => by have := h.2; omega, fun h => by have := h.2; omega, by omega⟩, ⟨fun k hk => hk.1, by have := HB.out.size; omega, HB.out.size⟩, HB.out.trans (hb2.mono HB.out.size)⟩

theorem snd_put (h : SndAt w0 w gs r mb S s a ms ps pa polls out l most ks n) (hroom : l.length < most) (x : ByteArray) :
    Calls Try.prog 48 #[.pointer (some ⟨gs, 0, none⟩), .string x] w fun e w' => e = .returned (.int .i64 0) ∧ ∃ S', SndAt w0 w' gs r mb S' s a ms ps pa polls out (l ++ [.string x]) most ks n := by
  have HP := Lib.hid (string.putYes w S r most l h.ring hroom x)
  have c7 := h.cells.c7
  have H := Lib.hid h
  clear h
  go_enter Try.func48, Try.ntmps48
  go_wp2_with fail
  refine HP.out.mono ?_
  rintro e w' ⟨rfl, hr, hk⟩
  have HN := Lib.hid (H.out.row hr hk fun _ h => h)
  clear hr hk
  go_wp2_with fail
  go_ret
  exact ⟨rfl, _, HN.out⟩

set_option maxHeartbeats 2000000 in
set_option maxRecDepth 100000 in
theorem snd_open (h : SndAt w0 w gs r mb S s a ms ps pa polls out l most ks n) (ha : 0 ≤ a ∧ a < 16777216) (hm : 0 ≤ ms ∧ ms < 16777216) (x : Int) (hx : 0 ≤ x ∧ x < 16777216) (hf : (x - a) % 16777216 ≤ 8388608) :
    Calls Try.prog 49 #[.pointer (some ⟨gs, 0, none⟩), .int .u32 x] w fun e w' => e = .returned (.tuple #[]) ∧ SndAt w0 w' gs r mb S s a (if (ms - a) % 16777216 ≤ (x - a) % 16777216 then x else ms) ps pa polls out l most ks n := by
  have HF := Lib.hid (fun W => (seq_to a x W ha.1 (by omega) hx.1 (by omega)).mono (fun e w' (hh : e = _ ∧ W = w') => (⟨hh.1, hh.2.symm⟩ : e = .returned (.int .i64 ((x - a) % 16777216)) ∧ w' = W)))
  have HM := Lib.hid (fun W => (seq_to a ms W ha.1 (by omega) hm.1 (by omega)).mono (fun e w' (hh : e = _ ∧ W = w') => (⟨hh.1, hh.2.symm⟩ : e = .returned (.int .i64 ((ms - a) % 16777216)) ∧ w' = W)))
  have HLO := Lib.hid (fun W => seq_low x W hx.1 (by omega))
  rw [show x % 16777216 = x by omega] at HLO
  generalize (x - a) % 16777216 = d at *
  generalize (ms - a) % 16777216 = m at *
  obtain ⟨c0, c1, c2, c3, c4, c5, c6, c7, c8, c9, f⟩ := h.cells
  have f2 := f 2
  have H := Lib.hid h
  have e1 : decide (d ≤ 8388608) = true := decide_eq_true hf
  clear h f
  have HF2 := Lib.hid (fun W => (HF.out W).mono (fun e w' (hh : e = _ ∧ w' = W) => (⟨hh.1, hh.2.symm⟩ : e = .returned (.int .i64 d) ∧ W = w')))
  by_cases hle : m ≤ d
  · have e2 : decide (m ≤ d) = true := decide_eq_true hle
    rw [if_pos hle]
    clear hle
    go_enter Try.func49, Try.ntmps49
    go_wp2_with (go_at_call 38; refine (HF2.out _).mono ?_; rintro e w' ⟨rfl, rfl⟩)
    go_quiet ((go_at_call 38; exact Calls.quiet_of_same (HM.out _)))
    have H2 := Lib.hid (H.out.drewN nq)
    clear H c0 c1 c2 c3 c4 c5 c6 c7 c8 c9 f2
    generalize w.drewN nq = w1 at *
    have c2 := H2.out.cells.c2
    have f2 := H2.out.cells.f 2
    go_wp2_with (go_at_call 16; refine (HLO.out _).mono ?_; rintro e w' ⟨rfl, rfl⟩)
    go_end0
    exact ⟨rfl, H2.out.store 2 (.int .u32 x) rfl⟩
  · have e2 : decide (m ≤ d) = false := decide_eq_false hle
    rw [if_neg hle]
    clear hle
    go_enter Try.func49, Try.ntmps49
    go_wp2_with (go_at_call 38; refine (HF2.out _).mono ?_; rintro e w' ⟨rfl, rfl⟩)
    go_quiet ((go_at_call 38; exact Calls.quiet_of_same (HM.out _)))
    go_wp2_with fail
    go_end0
    exact ⟨rfl, H.out.drewN nq⟩
end Go.Proofs.Ytogbifggaomfjaa
