/- gaps.List. Conditions: the set is written in one way, of numbers that may be; the row is not long. -/
import Derived.Test.YtgfdgcpbmjhmmaaGapEach
import Derived.Test.YtgfdgcpbmjhmmaaSpanEnds
import Derived.Test.YtgfdgcpbmjhmmaaSpanTwoLaw
import Derived.Deep.RegionLaw
import Derived.Deep.CutBlock
namespace Go.Proofs.Ytgfdgcpbmjhmmaa
open Go.RowKit Sp
set_option linter.unusedVariables false

theorem far_set (s : List Span) (h : IsSetM s [(0, 8388609)]) : s = [(0, 8388609)] :=
  canon_unique s _ h.1 (canon_one (by decide)) h.2.1

theorem infoNum : (Try.prog.info? 28).map (fun i => (i.zero, i.size, i.bytes)) = some (some (.int .u32 0), 1, 4) := by kernel_rfl

/-- What List answers: the pairs of the numbers of the set that are not below the base. -/
def ListOut (w : World) (b : Int) (s : List Span) (e : Ending) (w' : World) : Prop :=
  ∃ u q, e = .returned u ∧ Canon q ∧ (∀ n, Mem q n ↔ Mem s n ∧ (0 ≤ n ∧ n < 8388609)) ∧ NumRow w' u (prs b q) ∧ Below w.heap.size w w'

set_option maxHeartbeats 4000000 in
set_option maxRecDepth 100000 in
theorem g_list (b : Int) (s : List Span) (v : Value) (w : World) (h : WideAt w v s) (h1 : 0 ≤ b) (h2 : b < 4294967296) (hfew : s.length ≤ 1000) :
    Calls Try.prog 32 #[.int .u32 b, v] w (ListOut w b s) := by
  obtain ⟨A, cap, rfl⟩ := h.form
  have HS := Lib.hid h
  have hb0 := (Below.refl _ w).alloc (Nat.le_refl _) (.cells #[.int .i64 0, .int .i64 8388609] 59)
  have HB0 := Lib.hid hb0
  have HOF := Lib.hid (ofNewM [(0, 8388609)] (.slice (some ⟨w.heap.size, 0, none⟩) 1 1) _ (spRow_one w 0 8388609 59) (by simp) (by intro x hx; simp at hx; subst hx; unfold Mid; decide))
  obtain ⟨i0, hi, hz0, hz1, hz2⟩ := info_parts infoNum
  have Hi := Lib.hid hi
  have Hz0 := Lib.hid hz0
  have Hz1 := Lib.hid hz1
  have Hz2 := Lib.hid hz2
  clear hb0
  clear h hi hz0 hz1 hz2
  go_enter Try.func32, Try.ntmps32
  go_wp2_with fail
  refine HOF.out.mono ?_
  rintro e w1 ⟨u1, t, rfl, hu, hset, hb1, _⟩
  obtain rfl := far_set t hset
  have HB1 := Lib.hid (HB0.out.trans (hb1.mono HB0.out.size))
  have HT : Hid (WideAt w1 u1 [(0, 8388609)]) := ⟨hu, canon_one (by decide), by intro x hx; simp at hx; subst hx; unfold least behind; decide, by simp⟩
  have HS1 := Lib.hid (HS.out.below HB1.out)
  clear hu hset hb1 HOF HB0
  go_wp2_with fail
  refine (both s [(0, 8388609)] _ _ _ HS1.out HT.out).mono ?_
  rintro e w2 ⟨u2, q, rfl, hu, hq, hm, hlen, hb2⟩
  have hqf : q.length ≤ 1001 := by simp at hlen; omega
  have HQB : Hid (∀ x, x ∈ q → 0 ≤ x.1 ∧ x.1 < x.2 ∧ x.2 ≤ 8388609) := fun x hx => by
    have c := hq.1 x hx
    have m1 := (mem_one _ _).1 ((hm x.1).1 ⟨x, hx, by omega, c⟩).2
    have m2 := (mem_one _ _).1 ((hm (x.2 - 1)).1 ⟨x, hx, by omega, by omega⟩).2
    simp only at m1 m2
    omega
  have HB2 := Lib.hid (HB1.out.trans (hb2.mono HB1.out.size))
  have HU := Lib.hid hu
  have HQ := Lib.hid hq
  have HM : Hid (∀ n, Mem q n ↔ Mem s n ∧ (0 ≤ n ∧ n < 8388609)) := fun n => by rw [hm n, mem_one]
  obtain ⟨A2, c2, rfl, _, hc2, _, _⟩ := id hu
  unfold maxLen at hc2
  clear hu hq hm hb2 hlen HT HS1 HB1
  go_wp2_with fail
  go_loopw [5, 14] (fun a i wr => ∃ (k : Nat) (v' : Value), k ≤ q.length ∧ v' = a ∧ i = .int .i64 k ∧ Hid (wr.ownsRow w2.heap.size 28 1 v' (2 * k) ((prs b (q.take k)).map (Value.int .u32))) ∧ Hid (Below w2.heap.size w2 wr)) (fun _ i _ => q.length - (intOf i).toNat)
  case atStart => exact ⟨0, _, by omega, rfl, rfl, (by show World.ownsRow _ _ _ _ _ _ _; exact World.ownsRow_nil _ _ _ _), Below.refl _ _⟩
  case round =>
    obtain ⟨k, v', hk, rfl, rfl, HO, HW2⟩ := hrel
    by_cases hlt : k < q.length
    · have ex := List.getElem?_eq_getElem hlt
      obtain ⟨g, off, rfl, hbl, c0, c1⟩ := (HU.out.below HW2.out).get ex
      have hx := HQB.out _ (List.getElem_mem hlt)
      have HP : Hid (prs b (q.take (k + 1)) = prs b (q.take k) ++ [(b + (q[k]).1) % 16777216, (b + (q[k]).2) % 16777216]) := by show _ = _; rw [List.take_succ_eq_append_getElem hlt, prs_append]; rfl
      clear ex
      generalize q[k] = x at *
      generalize x.1 = x1 at *
      generalize x.2 = x2 at *
      have HC1 := Lib.hid (fun W => seq_add b x1 W h1 h2 (by omega) (by omega))
      have HC2 := Lib.hid (fun W => seq_add b x2 W h1 h2 (by omega) (by omega))
      generalize (b + x1) % 16777216 = y1 at *
      generalize (b + x2) % 16777216 = y2 at *
      have HO1 := Lib.hid (HO.out.alloc (.cells #[.int .i64 x1, .int .i64 x2] 59))
      have HNE : Hid (v'.ownBlock ≠ some wr.heap.size) := fun h => Nat.lt_irrefl _ (HO.out.lt _ h).2
      have HW3 := Lib.hid (HW2.out.alloc HW2.out.size (.cells #[.int .i64 x1, .int .i64 x2] 59))
      have hbx0 : (wr.alloc (.cells #[.int .i64 x1, .int .i64 x2] 59)).cell? ⟨wr.heap.size, 0, none⟩ = some (.int .i64 x1) := (two_new _ _ _ _).1
      have hbx1 : (wr.alloc (.cells #[.int .i64 x1, .int .i64 x2] 59)).cell? ⟨wr.heap.size, 1, none⟩ = some (.int .i64 x2) := (two_new _ _ _ _).2
      have hsz : wr.heap.size < (wr.alloc (.cells #[.int .i64 x1, .int .i64 x2] 59)).heap.size := by simp
      go_upto_region 5 with fail
      generalize wr.alloc (.cells #[.int .i64 x1, .int .i64 x2] 59) = W at *
      generalize wr.heap.size = bx at *
      clear c0 c1
      go_region_held3 (fun w' => w'.cell? ⟨bx, 0, none⟩ = some (.int .i64 x1) ∧ w'.cell? ⟨bx, 1, none⟩ = some (.int .i64 x2)) (first | assumption | go_keep) (first
        | (go_at_call 12; first | (refine (HC1.out _).mono ?_; rintro e w' ⟨rfl, rfl⟩) | (refine (HC2.out _).mono ?_; rintro e w' ⟨rfl, rfl⟩))
        | (refine step_append_src _ rfl (.tmp 18) (.tmp 27) 39 rfl w2.heap.size 28 i0 (.int .u32 0) 1 4 Try.underlying39 Hi.out Hz0.out Hz1.out Hz2.out rfl (by decide) v' (2 * k) ((prs b (q.take k)).map (Value.int .u32)) (by rfl) (by repeat (with_reducible first | exact HO1.out | refine World.ownsRow.drew ?_ | refine World.ownsRow.alloc ?_ _)) (some ⟨W.heap.size, 0, none⟩) 2 2 [.int .u32 y1, .int .u32 y2] (by rfl) rfl (fun h => by cases h) (two_src (two_new W.drew _ _ _).1 (two_new W.drew _ _ _).2) (fun u hu => by simp at hu; rcases hu with rfl | rfl <;> rfl) (by unfold maxLen; omega) (by omega) (by have := HW3.out.size; simp; omega) ?_
           intro v4 w4 hown4 hg4 _
           obtain ⟨g4, k4, rfl, _, _, _, _⟩ := ownFormS hown4 (by omega)
           have HO4 := Lib.hid hown4
           have hBW := (Below.refl W.heap.size W).drew.alloc (Nat.le_refl _) (.cells #[.int .u32 y1, .int .u32 y2] 28)
           have HB5 := Lib.hid ((HW3.out.drew.alloc (by have := HW3.out.size; simp; omega) (.cells #[.int .u32 y1, .int .u32 y2] 28)).grown hg4 (by have := HW3.out.size; simp; omega) (fun j hj => (HO1.out.lt j hj).1))
           have k0 : w4.cell? ⟨bx, 0, none⟩ = some (.int .i64 x1) := hg4.cell (by exact (hBW.cell (p := ⟨bx, 0, none⟩) hsz).trans hbx0) (fun h => HNE.out h.symm)
           have k1 : w4.cell? ⟨bx, 1, none⟩ = some (.int .i64 x2) := hg4.cell (by exact (hBW.cell (p := ⟨bx, 1, none⟩) hsz).trans hbx1) (fun h => HNE.out h.symm)
           clear hown4 hg4 hBW))
      go_wp2_with fail
      go_roundw
      case rel => exact ⟨k + 1, _, by omega, rfl, by go_num, by have h := HO4.out; rw [HP.out, List.map_append]; exact h, HB5⟩
      case measure => simp [intOf]; omega
    · have hkq : k = q.length := by omega
      have HO5 : Hid (wr.ownsRow w2.heap.size 28 1 v' (prs b q).length ((prs b q).map (Value.int .u32))) := by
        have h := HO.out
        rw [hkq, List.take_of_length_le (Nat.le_refl _)] at h
        rw [prs_length]
        exact h
      go_wp2_with fail
      go_ret
      exact ⟨_, q, rfl, HQ.out, HM.out, numRow_own HO5.out (by rw [prs_length]; omega), HB2.out.trans (HW2.out.mono HB2.out.size)⟩
end Go.Proofs.Ytgfdgcpbmjhmmaa
