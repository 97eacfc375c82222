/- Package recv's number, place, renew, by the cells of its box. Conditions: the numbers are small. -/
import Derived.Test.YtgfdgcpbmjhmmaaMapLaid
import Derived.Test.YtgfdgcpbmjhmmaaSeqFns
import Derived.Test.YtgfdgcpbmjhmmaaRingAt
import Derived.BigQuiet
import Derived.StillTailTactics
namespace Go.Proofs.Ytgfdgcpbmjhmmaa
open Go.RowKit Go.Maps
set_option linter.unusedVariables false

/-- The cells of a receiver. -/
structure RcvCells (w : World) (gr : Nat) (st window next behind most : Int) (mb : Nat) (inV unV : Value) : Prop where
  c0 : w.cell? ⟨gr, 0, none⟩ = some (.int .u32 st)
  c1 : w.cell? ⟨gr, 1, none⟩ = some (.int .i64 window)
  c2 : w.cell? ⟨gr, 2, none⟩ = some (.int .i64 next)
  c3 : w.cell? ⟨gr, 3, none⟩ = some (.int .i64 behind)
  c4 : w.cell? ⟨gr, 4, none⟩ = some (.int .i64 most)
  c5 : w.cell? ⟨gr, 5, none⟩ = some (.map (some mb))
  c6 : w.cell? ⟨gr, 6, none⟩ = some inV
  c7 : w.cell? ⟨gr, 7, none⟩ = some unV
  f : ∀ i, w.frozen? ⟨gr, i, none⟩ = false
variable {w : World} {gr mb : Nat} {st window next behind most : Int} {inV unV : Value}
theorem RcvCells.drewN (h : RcvCells w gr st window next behind most mb inV unV) (q : Nat) : RcvCells (w.drewN q) gr st window next behind most mb inV unV := ⟨h.c0, h.c1, h.c2, h.c3, h.c4, h.c5, h.c6, h.c7, h.f⟩

theorem rcv_number (h : RcvCells w gr st window next behind most mb inV unV) (hs : 0 ≤ st ∧ st < 4294967296) (p : Int) (hp : -1099511627776 ≤ p ∧ p ≤ 1099511627776) :
    Calls Try.prog 23 #[.pointer (some ⟨gr, 0, none⟩), .int .i64 p] w fun e w' => e = .returned (.int .u32 ((st + p) % 16777216)) ∧ w' = w := by
  have HAD := Lib.hid (seq_add st p w hs.1 hs.2 (by omega) (by omega))
  have c0 := h.c0
  clear h
  go_enter Try.func23, Try.ntmps23
  go_wp2_with (go_at_call 12; refine HAD.out.mono ?_; rintro e w' ⟨rfl, rfl⟩)
  go_ret
  exact ⟨rfl, rfl⟩

set_option maxHeartbeats 1000000 in
theorem rcv_place (h : RcvCells w gr st window next behind most mb inV unV) (hs : 0 ≤ st ∧ st < 4294967296) (hn : 0 ≤ next ∧ next ≤ 1099511627776) (x : Int) (hx : 0 ≤ x ∧ x < 4294967296) :
    Calls Try.prog 21 #[.pointer (some ⟨gr, 0, none⟩), .int .u32 x] w fun e w' => e = .returned (.int .i64 (next + (x - (st + next) % 16777216) % 16777216)) ∧ ∃ q, w' = w.drewN q := by
  have HNU := Lib.hid (fun q => rcv_number (h.drewN q) hs next (by omega))
  have HTO := Lib.hid (fun W => (seq_to ((st + next) % 16777216) x W (by omega) (by omega) hx.1 hx.2).mono (fun e w' (hh : e = _ ∧ W = w') => (⟨hh.1, hh.2.symm⟩ : e = .returned (.int .i64 ((x - (st + next) % 16777216) % 16777216)) ∧ w' = W)))
  have hd : 0 ≤ (x - (st + next) % 16777216) % 16777216 ∧ (x - (st + next) % 16777216) % 16777216 < 16777216 := by omega
  generalize (x - (st + next) % 16777216) % 16777216 = d at *
  generalize (st + next) % 16777216 = nx at *
  have c2 := h.c2
  clear h
  go_enter Try.func21, Try.ntmps21
  go_wp2_with fail
  go_quiet (first | (go_at_call 23; exact Calls.quiet_of_same (HNU.out _)) | (go_at_call 18; exact Calls.quiet_of_same (HTO.out _)))
  go_wp2_with fail
  go_ret
  exact ⟨by first | rfl | exact retInt (by first | rfl | omega), nq, rfl⟩

set_option maxHeartbeats 2000000 in
set_option maxRecDepth 100000 in
theorem rcv_renew {A : Option Addr} {k cap : Nat} (h : RcvCells w gr st window next behind most mb (.slice A k cap) unV) (hn : 0 ≤ next ∧ next ≤ 1099511627776) (hw : 0 ≤ window ∧ window ≤ 64) (hk : k ≤ 100000) :
    Calls Try.prog 25 #[.pointer (some ⟨gr, 0, none⟩)] w fun e w' => e = .returned (.tuple #[]) ∧ w' = w.drew.setCell ⟨gr, 4, none⟩ (.int .i64 (max most (next + window - (k : Int)))) := by
  have h1 := h.drewN 1
  obtain ⟨c0, c1, c2, c3, c4, c5, c6, c7, f⟩ := h
  have f4 := f 4
  clear f h1
  go_enter Try.func25, Try.ntmps25
  refine wp_region_still_tail 23 (by kernel_rfl) (by kernel_rfl) ?_
  simp only [List.take_succ_cons, List.take_zero, List.drop_succ_cons, List.drop_zero]
  repeat still_step
  try refine wpStill_nil ?_
  change wpList _ _ _ _ _ w.drew
  have d4 : w.drew.cell? ⟨gr, 4, none⟩ = some (.int .i64 most) := c4
  have g4 : w.drew.frozen? ⟨gr, 4, none⟩ = false := f4
  clear c0 c1 c2 c3 c4 c5 c6 c7 f4
  go_wp2_with fail
  all_goals go_end0
  all_goals first
    | (rw [show max most (next + window - (k : Int)) = next + window - (k : Int) by omega]; exact ⟨rfl, rfl⟩)
    | (rw [show max most (next + window - (k : Int)) = most by omega]; exact ⟨rfl, rfl⟩)

theorem rcvKey : Keyed Try.prog 3 := int_keyed Try.underlying3
/-- The receiver's buffer: messages by places. -/
def BufIn (w : World) (mb n : Nat) (bs : List (Int × ByteArray)) : Prop := ∃ D, w.ownsMap Try.prog 3 ML.msgElem mb n D ∧ ML.Laid .i64 ML.msgDat D bs
end Go.Proofs.Ytgfdgcpbmjhmmaa
