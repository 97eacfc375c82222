/- Package send's acknowledge. Conditions: the sender is the law's own, nothing is to go again. -/
import Derived.Test.YtogbifggaomfjaaSendVars
import Derived.Maps.RangeWalk
namespace Go.Proofs.Ytogbifggaomfjaa
open Go.RowKit Go.Maps
set_option linter.unusedVariables false
variable {w0 w w' : World} {gs r mb most n : Nat} {S S' : Nat → Prop} {s a ms ps pa polls out : Int} {l l' : List Value} {ks : List Int}

def btwB (a x b : Int) : Bool := decide ((x - a) % 16777216 < (b - a) % 16777216)
theorem seq_between (a x b : Int) (w : World) (h1 : 0 ≤ a) (h2 : a < 4294967296) (h3 : 0 ≤ x) (h4 : x < 4294967296) (h5 : 0 ≤ b) (h6 : b < 4294967296) :
    Calls Try.prog 120 #[.int .u32 a, .int .u32 x, .int .u32 b] w fun e w' => e = .returned (.bool (btwB a x b)) ∧ w' = w := by
  go_enter Try.func120, Try.ntmps120
  go_wp2_with (go_at_call 38; refine (seq_to _ _ _ (by omega) (by omega) (by omega) (by omega)).mono ?_; rintro e w' ⟨rfl, rfl⟩)
  go_ret
  exact ⟨retBool (by simp [btwB]), rfl⟩

theorem snd_came (w : World) (gs bs br : Nat) (a x b : Int) (cb : w.cell? ⟨bs, 0, none⟩ = some (.pointer (some ⟨gs, 0, none⟩))) (cr : w.cell? ⟨br, 0, none⟩ = some (.int .u32 b)) (ca : w.cell? ⟨gs, 1, none⟩ = some (.int .u32 a))
    (ha : 0 ≤ a ∧ a < 16777216) (hx : 0 ≤ x ∧ x < 4294967296) (hb : 0 ≤ b ∧ b < 16777216) :
    Calls Try.prog 119 #[.int .u32 x, .pointer (some ⟨bs, 0, none⟩), .pointer (some ⟨br, 0, none⟩)] w fun e w' => e = .returned (.bool (btwB a x b)) ∧ ∃ q, w' = w.drewN q := by
  have HB := Lib.hid (fun q => seq_between a x b (w.drewN q) ha.1 (by omega) hx.1 hx.2 hb.1 (by omega))
  clear ha hx hb
  go_enter Try.func119, Try.ntmps119
  go_wp2_with fail
  go_quiet ((go_at_call 120; exact Calls.quiet_of_same (HB.out _)))
  go_wp2_with fail
  go_ret
  exact ⟨rfl, nq, rfl⟩

theorem index_nil (f : Value) (w : World) : Calls Try.prog 129 #[.slice none 0 0, f] w fun e w' => e = .returned (.int .i64 (-1)) ∧ w' = w := by
  go_enter Try.func129, Try.ntmps129
  go_wp2_with fail
  go_loopw [8] (fun i wr => i = .int .i64 0 ∧ wr = w) (fun _ _ => 0)
  case atStart => exact ⟨rfl, rfl⟩
  case round =>
    obtain ⟨rfl, rfl⟩ := hrel
    go_wp2_with fail
    go_ret
    exact ⟨rfl, rfl⟩
theorem delete_nil (f : Value) (w : World) : Calls Try.prog 121 #[.slice none 0 0, f] w fun e w' => e = .returned (.slice none 0 0) ∧ w' = w := by
  have HI := Lib.hid (index_nil f w)
  go_enter Try.func121, Try.ntmps121
  go_wp2_with fail
  refine HI.out.mono ?_
  rintro e w' ⟨rfl, rfl⟩
  go_wp2_with fail
  go_ret
  exact ⟨rfl, rfl⟩

/-- A block of no concern turns. -/
theorem SndAt.beside (h : SndAt w0 w gs r mb S s a ms ps pa polls out l most ks n) {it : Nat} (hg : w.grownBy w' (some it)) (h1 : it ≠ gs) (h2 : it ≠ mb) (h3 : ¬ S it) (h4 : w0.heap.size ≤ it) : SndAt w0 w' gs r mb S s a ms ps pa polls out l most ks n := by
  have hb : ∀ k, k < w.heap.size → k ≠ it → w'.heap[k]? = w.heap[k]? := fun k hk hne => hg.block k hk (by simp; exact hne)
  refine ⟨by rw [hb gs h.lt h1.symm]; exact h.box, h.ring.of_blocks (fun _ h => h) (fun k hk => hb k (h.ring.lt k hk) fun e => h3 (e ▸ hk)) (fun k hk => Nat.lt_of_lt_of_le (h.ring.lt k hk) hg.size), h.map.blk (hb mb h.map.lt h2.symm), h.notS, h.low, ?_⟩
  exact h.bel.grown hg h.bel.size fun j hj => by cases hj; exact h4
/-- A store into any of the numbers. -/
theorem SndAt.store2 (h : SndAt w0 w gs r mb S s a ms ps pa polls out l most ks n) (i : Nat) (v : Value) {s' a' ms' ps' pa' polls' out' : Int} (e : (sndCells s a ms ps pa polls out r mb).setIfInBounds i v = sndCells s' a' ms' ps' pa' polls' out' r mb) : SndAt w0 (w.setCell ⟨gs, i, none⟩ v) gs r mb S s' a' ms' ps' pa' polls' out' l most ks n := by
  have hb : ∀ k, k ≠ gs → (w.setCell ⟨gs, i, none⟩ v).heap[k]? = w.heap[k]? := fun k hk => Below.heap_setCell _ _ _ _ (by exact hk)
  have hsz : (w.setCell ⟨gs, i, none⟩ v).heap.size = w.heap.size := by simp [World.setCell]
  refine ⟨by rw [heap_set_same h.box, e], h.ring.of_blocks (fun _ h => h) (fun k hk => hb k fun e => h.notS.1 (e ▸ hk)) (fun k hk => by rw [hsz]; exact h.ring.lt k hk), h.map.blk (hb mb fun e => h.notS.2.2 e.symm), h.notS, h.low, h.bel.setCell (p := ⟨gs, i, none⟩) h.low.2.1 v⟩

/-- The keys that are left once those ahead of b are struck that came already. -/
def leftKeys (a b : Int) (ks : List Int) (left : Lit → Bool) : List Int := ks.filter fun k => !btwB a k b || left (.int .u32 k)
theorem leftKeys_start {D : DataW Unit} {ks : List Int} (a b : Int) (h : Reads D ks) : leftKeys a b ks (Maps.has D) = ks := by
  unfold leftKeys
  rw [List.filter_eq_self]
  intro x hx
  rw [h.has, decide_eq_true hx, Bool.or_true]
theorem leftKeys_end (a b : Int) (ks : List Int) (left : Lit → Bool) (h : ∀ z, left z = false) : leftKeys a b ks left = ks.filter fun k => !btwB a k b := by
  unfold leftKeys
  exact List.filter_congr fun x _ => by rw [h, Bool.or_false]
theorem leftKeys_stays (a b : Int) (ks : List Int) (left : Lit → Bool) (x : Int) (h : btwB a x b = false) : leftKeys a b ks (fun z => left z && !z.sameKey (.int .u32 x)) = leftKeys a b ks left := by
  unfold leftKeys
  refine List.filter_congr fun y _ => ?_
  simp only [sameInt]
  by_cases e : y = x
  · subst e
    simp [h]
  · simp [e]
theorem leftKeys_struck (a b : Int) (ks : List Int) (left : Lit → Bool) (x : Int) (h : btwB a x b = true) : leftKeys a b ks (fun z => left z && !z.sameKey (.int .u32 x)) = (leftKeys a b ks left).filter fun y => !decide (y = x) := by
  unfold leftKeys
  rw [List.filter_filter]
  refine List.filter_congr fun y _ => ?_
  simp only [sameInt]
  by_cases e : y = x
  · subst e
    simp [h]
  · simp [e]

set_option maxHeartbeats 4000000 in
set_option maxRecDepth 100000 in
theorem snd_ack (h : SndAt w0 w gs r mb S s a ms ps pa polls out l most ks n) (ha : 0 ≤ a ∧ a < 16777216) (b : Int) (hb : 0 ≤ b ∧ b < 16777216) :
    Calls Try.prog 100 #[.pointer (some ⟨gs, 0, none⟩), .int .u32 b] w fun e w' => e = .returned (.tuple #[]) ∧ SndAt w0 w' gs r mb S s b ms ps pa polls out l most (ks.filter fun k => !btwB a k b) n ∧ ∀ k, k < w.heap.size → k ≠ gs → k ≠ mb → w'.heap[k]? = w.heap[k]? := by
  have hb1 := (Below.refl w.heap.size w).alloc (Nat.le_refl _) (.cells #[.pointer (some ⟨gs, 0, none⟩)] 78)
  have hb2 := hb1.alloc (by simp) (.cells #[.int .u32 b] 24)
  have H := Lib.hid (h.below hb2)
  have hB : (((w.alloc (.cells #[.pointer (some ⟨gs, 0, none⟩)] 78)).alloc (.cells #[.int .u32 b] 24)).heap[w.heap.size]?) = some (.cells #[.pointer (some ⟨gs, 0, none⟩)] 78 (0, 0)) := by
    rw [MapKept.heap_alloc _ _ |>.2 _ (by simp)]
    exact heap_alloc_new w _
  have hR : (((w.alloc (.cells #[.pointer (some ⟨gs, 0, none⟩)] 78)).alloc (.cells #[.int .u32 b] 24)).heap[w.heap.size + 1]?) = some (.cells #[.int .u32 b] 24 (0, 0)) := by
    have := heap_alloc_new (w.alloc (.cells #[.pointer (some ⟨gs, 0, none⟩)] 78)) (.cells #[.int .u32 b] 24)
    simpa using this
  have hne : Hid (gs < w.heap.size ∧ mb < w.heap.size ∧ (∀ k, S k → k < w.heap.size) ∧ w0.heap.size ≤ w.heap.size) := ⟨h.lt, h.map.lt, h.ring.lt, h.lts⟩
  have hsz : (((w.alloc (.cells #[.pointer (some ⟨gs, 0, none⟩)] 78)).alloc (.cells #[.int .u32 b] 24)).heap.size) = w.heap.size + 2 := by simp
  obtain ⟨D, hD1, hD2⟩ := H.out.map
  have HD1 := Lib.hid hD1
  have HD2 := Lib.hid hD2
  have HB := Lib.hid hB
  have HR := Lib.hid hR
  have HSZ := Lib.hid hsz
  have HWK : Hid (∀ k, k < w.heap.size → (((w.alloc (.cells #[.pointer (some ⟨gs, 0, none⟩)] 78)).alloc (.cells #[.int .u32 b] 24)).heap[k]?) = w.heap[k]?) := fun k hk => hb2.block k hk
  clear h hb1 hb2 hD1 hD2 hB hR hsz
  go_enter Try.func100, Try.ntmps100
  go_upto_region 1 with fail
  generalize ((w.alloc (.cells #[.pointer (some ⟨gs, 0, none⟩)] 78)).alloc (.cells #[.int .u32 b] 24)) = W at *
  have c8 := H.out.cells.c8
  have cb := cell_blk HB.out 0
  have cr := cell_blk HR.out 0
  go_wp2_with (at_range; refine wpList_range_own _ rfl _ _ rfl 24 122 keyLaw Try.underlying117 anyElem mb n D rfl HD1.out ?_; intro w1 hrg0 hg0 hs0)
  go_frame
  have HW1 : Hid (SndAt w0 w1 gs r mb S s a ms ps pa polls out l most ks n) := H.out.below ⟨hg0.os, hg0.tape, hg0.output, hg0.size, fun k hk => hg0.block k hk (by simp)⟩
  have HB1 : Hid (w1.heap[w.heap.size]? = some (.cells #[.pointer (some ⟨gs, 0, none⟩)] 78 (0, 0))) := (hg0.block _ (by have := HSZ.out; omega) (by simp)).trans HB.out
  have HR1 : Hid (w1.heap[w.heap.size + 1]? = some (.cells #[.int .u32 b] 24 (0, 0))) := (hg0.block _ (by have := HSZ.out; omega) (by simp)).trans HR.out
  have HK1 : Hid (∀ k, k < w.heap.size → k ≠ mb → w1.heap[k]? = w.heap[k]?) := fun k hk _ => (hg0.block k (by have := HSZ.out; omega) (by simp)).trans (HWK.out k hk)
  clear H HD1 HB HR c8 cb cr hg0 hs0 HWK
  go_loopw [5] (fun _ wr => ∃ left cnt D', Hid (wr.ranges Try.prog 24 anyElem mb W.heap.size n D' left cnt) ∧ Hid (Reads D' (leftKeys a b ks left)) ∧ Hid (SndAt w0 wr gs r mb S s a ms ps pa polls out l most (leftKeys a b ks left) n) ∧
      Hid (wr.heap[w.heap.size]? = some (.cells #[.pointer (some ⟨gs, 0, none⟩)] 78 (0, 0))) ∧ Hid (wr.heap[w.heap.size + 1]? = some (.cells #[.int .u32 b] 24 (0, 0))) ∧ Hid (∀ k, k < w.heap.size → k ≠ mb → wr.heap[k]? = w.heap[k]?)) (fun _ wr => wr.rangeLeft mb W.heap.size)
  case atStart => exact ⟨_, _, D, hrg0, by rw [leftKeys_start a b HD2.out]; exact HD2.out, by rw [leftKeys_start a b HD2.out]; exact HW1.out, HB1.out, HR1.out, HK1.out⟩
  case round =>
    obtain ⟨left, cnt, D', HRG, HRD, HS, HBB, HBR, HKK⟩ := hrel
    clear HW1 HB1 HR1 HK1 hrg0
    go_wp2_with (at_next; refine wpList_next_ranges _ rfl _ rfl 24 keyLaw anyElem (fun x : Int => Value.int .u32 x) (fun c : ByteArray × Int => Value.agg #[.string c.1, .int .u32 c.2]) (fun key kl hkey => by obtain ⟨x, rfl, _⟩ := keyOf_int_inv Try.underlying24 hkey; exact ⟨x, rfl⟩) (fun v y hv => anyElem_inv hv) mb W.heap.size n _ _ _ rfl HRG.out ?_ ?_)
    · intro hc0 hl0
      have hend := leftKeys_end a b ks left hl0
      have HSE := HS
      rw [hend] at HSE
      clear HS HRD HRG
      obtain ⟨c0, c1, c2, c3, c4, c5, c6, c7, c8, c9, f⟩ := HSE.out.cells
      have cb := cell_blk HBB.out 0
      have cr := cell_blk HBR.out 0
      have HD := Lib.hid (fun f => delete_nil f wr.drew)
      have HD2' := Lib.hid (fun f => (delete_nil f wr.drew))
      have f9 := f 9
      have f1 := f 1
      clear f
      have H9 : Hid (SndAt w0 ((wr.drew).setCell ⟨gs, 9, none⟩ (.slice none 0 0)) gs r mb S s a ms ps pa polls out l most (ks.filter fun k => !btwB a k b) n) := (HSE.out.drewN 1).store2 9 (.slice none 0 0) rfl
      have HE := Lib.hid (H9.out.store2 1 (.int .u32 b) (a' := b) rfl)
      have hcb : ((wr.drew).setCell ⟨gs, 9, none⟩ (.slice none 0 0)).heap[w.heap.size]? = wr.heap[w.heap.size]? := Below.heap_setCell _ _ _ _ (by have := hne.out.1; simp; omega)
      have hcr : ((wr.drew).setCell ⟨gs, 9, none⟩ (.slice none 0 0)).heap[w.heap.size + 1]? = wr.heap[w.heap.size + 1]? := Below.heap_setCell _ _ _ _ (by have := hne.out.1; simp; omega)
      have cb2 := cell_blk (hcb.trans HBB.out) 0
      have cr2 := cell_blk (hcr.trans HBR.out) 0
      have fA := H9.out.cells.f 1
      clear hcb hcr
      go_wp2_with fail
      refine wp_region_still_tail 9 (by kernel_rfl) (by kernel_rfl) ?_
      simp only [List.take_succ_cons, List.take_zero, List.drop_succ_cons, List.drop_zero]
      repeat still_step
      still_call (HD.out _)
      repeat still_step
      refine wpStill_nil ?_
      change wpList _ _ _ _ _ wr.drew
      go_wp2_with fail
      go_end0
      exact ⟨rfl, HE.out, fun k hk h1 h2 => (Below.heap_setCell _ _ _ _ (by exact h1)).trans ((Below.heap_setCell _ _ _ _ (by exact h1)).trans (HKK.out k hk h2))⟩
    · intro x cm cp kl yD yP w2 cnt' hkey hlk hv hat hrg hlt hgr hsz hen
      obtain ⟨x', ex, rfl, hwx⟩ := keyOf_int_inv Try.underlying24 hkey
      injection ex with _ ex
      subst ex
      have hxb : 0 ≤ x ∧ x ≤ 4294967295 := by simpa [Lit.wf, IntKind.min, IntKind.max, IntKind.signed, IntKind.bits] using hwx
      have hN := hne.out
      have hZ := HSZ.out
      have hHS := HS.out
      have HS2 := Lib.hid (HS.out.beside hgr (by omega) (by omega) (fun hc => by have := hN.2.2.1 _ hc; omega) (by omega))
      have HBB2 : Hid (w2.heap[w.heap.size]? = some (.cells #[.pointer (some ⟨gs, 0, none⟩)] 78 (0, 0))) := (hgr.block _ (lt_of_block HBB.out) (by simp; omega)).trans HBB.out
      have HBR2 : Hid (w2.heap[w.heap.size + 1]? = some (.cells #[.int .u32 b] 24 (0, 0))) := (hgr.block _ (lt_of_block HBR.out) (by simp; omega)).trans HBR.out
      have HCM := Lib.hid (snd_came w2 gs w.heap.size (w.heap.size + 1) a x b (by rw [cell_blk HBB2.out]; rfl) (by rw [cell_blk HBR2.out]; rfl) HS2.out.cells.c1 ha (by omega) hb)
      have HRG2 := Lib.hid hrg
      have HKK2 : Hid (∀ k, k < w.heap.size → k ≠ mb → w2.heap[k]? = w.heap[k]?) := fun k hk h2 => (hgr.block k (Nat.lt_trans hk (lt_of_block HBB.out)) (by simp; omega)).trans (HKK.out k hk h2)
      clear HKK
      have HLT := Lib.hid hlt
      have HLE := Lib.hid HRG.out.left_eq
      have HKEY := Lib.hid hkey
      clear hkey hlk hv hat hrg hlt hgr hsz hHS HS HBB HBR HRG hwx hxb hN hZ
      rcases hbt : btwB a x b with _ | _
      all_goals rw [hbt] at HCM
      · have hst := leftKeys_stays a b ks left x hbt
        clear hbt
        go_wp2_with (go_at_call 119; refine HCM.out.mono ?_; rintro e w3 ⟨rfl, q, rfl⟩)
        have HRG3 : Hid ((w2.drewN q).ranges Try.prog 24 anyElem mb W.heap.size n D' (fun z => left z && !z.sameKey (.int .u32 x)) cnt') := HRG2.out
        go_roundw
        case rel => exact ⟨_, _, D', HRG3, by rw [hst]; exact HRD.out, by rw [hst]; exact HS2.out.drewN q, HBB2.out, HBR2.out, HKK2.out⟩
        case measure => rw [HLE.out]; have h : (w2.drewN q).rangeLeft mb W.heap.size = _ := HRG2.out.left_eq; rw [h]; exact HLT.out
      · have hst := leftKeys_struck a b ks left x hbt
        clear hbt
        have cbq : w2.cell? ⟨w.heap.size, 0, none⟩ = some (.pointer (some ⟨gs, 0, none⟩)) := by rw [cell_blk HBB2.out]; rfl
        have c8q := HS2.out.cells.c8
        have HQ := Lib.hid (fun q => (show (w2.drewN q).cell? ⟨w.heap.size, 0, none⟩ = some (.pointer (some ⟨gs, 0, none⟩)) ∧ (w2.drewN q).cell? ⟨gs, 8, none⟩ = some (.map (some mb)) ∧ SndAt w0 (w2.drewN q) gs r mb S s a ms ps pa polls out l most (leftKeys a b ks left) n ∧ (w2.drewN q).ranges Try.prog 24 anyElem mb W.heap.size n D' (fun z => left z && !z.sameKey (.int .u32 x)) cnt' ∧ (w2.drewN q).heap[w.heap.size]? = some (.cells #[.pointer (some ⟨gs, 0, none⟩)] 78 (0, 0)) ∧ (w2.drewN q).heap[w.heap.size + 1]? = some (.cells #[.int .u32 b] 24 (0, 0)) ∧ (∀ k, k < w.heap.size → k ≠ mb → (w2.drewN q).heap[k]? = w.heap[k]?) from ⟨cbq, c8q, HS2.out.drewN q, HRG2.out, HBB2.out, HBR2.out, HKK2.out⟩))
        clear cbq c8q HBB2 HBR2 HRG2 HS2 HKK2
        go_wp2_with (first | (go_at_call 119; refine HCM.out.mono ?_; rintro e w3 ⟨rfl, q, rfl⟩; have hq := HQ.out q; clear HQ HCM hen; generalize w2.drewN q = w3 at *; obtain ⟨cb, c8, hq1, hq2, hq3, hq4, hq5⟩ := hq; have HKK3 := Lib.hid hq5; have HS4 := Lib.hid hq1; have HRG3 := Lib.hid hq2; have HBB3 := Lib.hid hq3; have HBR3 := Lib.hid hq4; clear hq1 hq2 hq3 hq4 hq5) | (at_delete; go_loud (refine wpList_delete_ranges _ rfl _ _ 117 24 rfl 122 keyLaw Try.underlying117 anyElem mb W.heap.size n D' _ _ rfl HRG3.out _ _ rfl HKEY.out ?_; intro w4 cnt4 hrg4 hle4 hturn4; rw [Maps.strike_twice] at hrg4; have HRG4 := Lib.hid hrg4; have HTN4 := Lib.hid hturn4; have HLE4 := Lib.hid hle4; clear hrg4 hturn4 hle4; go_frame)))
        have hrg4 := HRG4.out
        have hle4 := HLE4.out
        have hturn4 := HTN4.out
        have hN := hne.out
        have hg4 := hturn4.grown
        have HRD4 := Lib.hid (HRD.out.del x)
        rw [← hst] at HRD4
        have HS5 := Lib.hid (HS4.out.mapped ⟨_, hrg4.owns, HRD4.out⟩ hg4)
        have HBB4 : Hid (w4.heap[w.heap.size]? = some (.cells #[.pointer (some ⟨gs, 0, none⟩)] 78 (0, 0))) := (hg4.block _ (lt_of_block HBB3.out) (by simp; omega)).trans HBB3.out
        have HBR4 : Hid (w4.heap[w.heap.size + 1]? = some (.cells #[.int .u32 b] 24 (0, 0))) := (hg4.block _ (lt_of_block HBR3.out) (by simp; omega)).trans HBR3.out
        have HKK4 : Hid (∀ k, k < w.heap.size → k ≠ mb → w4.heap[k]? = w.heap[k]?) := fun k hk h2 => (hg4.block k (Nat.lt_trans hk (lt_of_block HBB3.out)) (by simp; exact h2)).trans (HKK3.out k hk h2)
        have hlt4 : cnt4 < cnt := Nat.lt_of_le_of_lt hle4 HLT.out
        clear hN hturn4 hg4 hle4
        go_roundw
        case rel => exact ⟨_, _, _, hrg4, HRD4.out, HS5.out, HBB4.out, HBR4.out, HKK4.out⟩
        case measure => rw [HLE.out, hrg4.left_eq]; exact hlt4
end Go.Proofs.Ytogbifggaomfjaa
