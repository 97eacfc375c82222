/- The contract of span's Gaps. Conditions: the sets are small, written in one way, the rows are not long. -/
import Derived.Test.YtgfdgcpbmjhmmaaSpanDrop
namespace Go.Proofs.Ytgfdgcpbmjhmmaa
open Go.RowKit Sp
set_option linter.unusedVariables false

theorem SpRow.drew1 {w : World} {v : Value} {s : List Span} (h : SpRow w v s) : SpRow w.drew v s := h.drewN 1
theorem WideAt.drew1 {w : World} {v : Value} {s : List Span} (h : WideAt w v s) : WideAt w.drew v s := h.below ⟨rfl, rfl, rfl, Nat.le_refl _, fun _ _ => rfl⟩
theorem SpRow.allocX {w : World} {v : Value} {s : List Span} (h : SpRow w v s) (o : Obj) : SpRow (w.alloc o) v s := h.below ((Below.refl _ w).alloc (Nat.le_refl _) o)
theorem WideAt.allocX {w : World} {v : Value} {s : List Span} (h : WideAt w v s) (o : Obj) : WideAt (w.alloc o) v s := h.below ((Below.refl _ w).alloc (Nat.le_refl _) o)
/-- What Of answers. -/
def OfOut (w : World) (l : List Span) (e : Ending) (w' : World) : Prop := ∃ u s, e = .returned u ∧ SpRow w' u s ∧ IsSet s l ∧ Below w.heap.size w w'

set_option maxHeartbeats 1000000 in
set_option maxRecDepth 100000 in
theorem gaps (s : List Span) (x : Span) (v : Value) (w : World) (h : SetAt w v s) (hx : Small x) :
    Calls Try.prog 34 #[v, .agg #[.int .i64 x.1, .int .i64 x.2]] w fun e w' => ∃ u o, e = .returned u ∧ SetAt w' u o ∧ (∀ n, Mem o n ↔ Mem [x] n ∧ ¬ Mem s n) ∧ Below w.heap.size w w' := by
  obtain ⟨A, cap, rfl⟩ := h.form
  have HS := Lib.hid h
  have HX := Lib.hid hx
  clear h hx
  obtain ⟨a, ha⟩ : ∃ a, a = x.1 := ⟨_, rfl⟩
  obtain ⟨d, hd⟩ : ∃ d, d = x.2 := ⟨_, rfl⟩
  rw [← ha, ← hd]
  have HXE : Hid (x = (a, d)) := by rw [ha, hd]; rfl
  have HXS : Hid (∀ y, y ∈ [(a, d)] → Small y) := fun y hy => by simp at hy; subst hy; rw [← HXE.out]; exact HX.out
  clear ha hd
  go_enter Try.func34, Try.ntmps34
  go_upto_region 1 with fail
  have hW0 : Below w.heap.size w (w.alloc (.cells #[.int .i64 a, .int .i64 d] 59)) := (Below.refl _ w).alloc (Nat.le_refl _) _
  have hbx0 : (w.alloc (.cells #[.int .i64 a, .int .i64 d] 59)).cell? ⟨w.heap.size, 0, none⟩ = some (.int .i64 a) := by have h := cells_two_new w (.int .i64 a) (.int .i64 d) 59 0 _ rfl; rwa [Addr.add_lit, Nat.zero_add] at h
  have hbx1 : (w.alloc (.cells #[.int .i64 a, .int .i64 d] 59)).cell? ⟨w.heap.size, 1, none⟩ = some (.int .i64 d) := by have h := cells_two_new w (.int .i64 a) (.int .i64 d) 59 1 _ rfl; rwa [Addr.add_lit, Nat.zero_add] at h
  have hg : w.heap.size < (w.alloc (.cells #[.int .i64 a, .int .i64 d] 59)).heap.size := by simp
  have HS0 := Lib.hid (HS.out.below hW0)
  have HW0 := Lib.hid hW0
  have hgw : w.heap.size ≤ (w.alloc (.cells #[.int .i64 a, .int .i64 d] 59)).heap.size := by simp
  clear hW0
  generalize w.alloc (.cells #[.int .i64 a, .int .i64 d] 59) = W at *
  have hb0 := Below.refl W.heap.size W
  go_region_held3 (fun w' => w'.cell? ⟨w.heap.size, 0, none⟩ = some (.int .i64 a) ∧ w'.cell? ⟨w.heap.size, 1, none⟩ = some (.int .i64 d)) (first | go_keep | (exact ⟨by rw [HBN.out.cell (p := ⟨w.heap.size, 0, none⟩) hg]; exact hbx0, by rw [HBN.out.cell (p := ⟨w.heap.size, 1, none⟩) hg]; exact hbx1⟩) | (exact ⟨by rw [HBM.out.cell (p := ⟨w.heap.size, 0, none⟩) hg]; exact hbx0, by rw [HBM.out.cell (p := ⟨w.heap.size, 1, none⟩) hg]; exact hbx1⟩) | (exact ⟨by rw [HBQ.out.cell (p := ⟨w.heap.size, 0, none⟩) hg]; exact hbx0, by rw [HBQ.out.cell (p := ⟨w.heap.size, 1, none⟩) hg]; exact hbx1⟩))
    (first
      | (go_at_call 41
         refine (others s _ _ (HS0.out.below (by repeat (with_reducible first | exact HBM.out | exact hb0 | refine Below.drew ?_ | refine Below.alloc ?_ (by first | (simp; done) | (simp; omega) | omega) _)))).mono ?_
         rintro e wo ⟨u, o, rfl, hwo, hmo, hbo⟩
         have HWO := Lib.hid hwo
         have HMO := Lib.hid hmo
         have HBN := Lib.hid (show Below W.heap.size W wo from Below.trans (show Below W.heap.size W _ by repeat (with_reducible first | exact HBM.out | exact hb0 | refine Below.drew ?_ | refine Below.alloc ?_ (by first | (simp; done) | (simp; omega) | omega) _)) (hbo.mono (by first | (simp; done) | (simp; omega) | omega)))
         have HNO := Lib.hid hbo
         have hns := HBN.out.size
         clear hwo hmo hbo)
      | (go_at_call 33
         refine (of_ [(a, d)] _ _ (by repeat (with_reducible first | exact spRow_one _ _ _ _ | exact (spRow_one _ _ _ _).below HNO.out | exact (spRow_one _ _ _ _).drew1.below HNO.out | refine SpRow.drew1 ?_)) (by simp) HXS.out).mono ?_
         rintro e wf ⟨u1, s1, rfl, hu1, hs1, hbf⟩
         have HU1 := Lib.hid hu1
         have HS1 := Lib.hid hs1
         have HFO := Lib.hid hbf
         have HBM := Lib.hid (show Below W.heap.size W wf from Below.trans (show Below W.heap.size W _ by repeat (with_reducible first | exact HBN.out | exact hb0 | refine Below.drew ?_ | refine Below.alloc ?_ (by first | (simp; done) | (simp; omega) | omega) _)) (hbf.mono (by first | (simp; done) | (simp; omega) | omega)))
         have hms := HBM.out.size
         have HW1 : Hid (WideAt wf u1 s1) := ⟨hu1, hs1.1, fun y hy => by have := hs1.2.2.2 y hy; unfold Small at this; unfold least behind; omega, by have := hs1.2.2.1; simp at this; omega⟩
         clear hu1 hs1 hbf)
      | (go_at_call 35
         refine (both o s1 _ _ _ (by repeat (with_reducible first | exact HWO.out | exact HWO.out.below HFO.out | exact HWO.out.drew1.below HFO.out | exact (HWO.out.allocX _).below HFO.out | exact (HWO.out.allocX _).drew1.below HFO.out | refine WideAt.drew1 ?_)) (by repeat (with_reducible first | exact HW1.out | exact HW1.out.below HNO.out | exact HW1.out.drew1.below HNO.out | refine WideAt.drew1 ?_))).mono ?_
         rintro e wb ⟨r, q, rfl, hr, hq1, hq2, _, hbb⟩
         have HR := Lib.hid hr
         have HQ1 := Lib.hid hq1
         have HQ2 := Lib.hid hq2
         have HBQ := Lib.hid (show Below W.heap.size W wb from Below.trans (show Below W.heap.size W _ by repeat (with_reducible first | exact HBM.out | exact HBN.out | exact hb0 | refine Below.drew ?_ | refine Below.alloc ?_ (by first | (simp; done) | (simp; omega) | omega) _)) (hbb.mono (by first | (simp; done) | (simp; omega) | omega)))
         clear hr hq1 hq2 hbb)
      | fail)
  all_goals go_wp2_with fail
  all_goals go_ret
  all_goals
    refine ⟨_, q, rfl, setAt_of HR.out HQ1.out (small_of_mem (s := [(a, d)]) HQ1.out (fun n h => (HS1.out.2.1 n).1 ((HQ2.out n).1 h).2) HXS.out), fun n => ?_, HW0.out.trans (HBQ.out.mono hgw)⟩
    rw [HQ2.out n, HMO.out n, HS1.out.2.1 n, HXE.out]
    refine ⟨fun h => ⟨h.2, h.1.2.2⟩, fun h => ⟨⟨?_, ?_, h.2⟩, h.1⟩⟩
    all_goals
      obtain ⟨z, hz, z1, z2⟩ := h.1
      have := HXS.out z hz
      unfold Small at this
      first | (unfold least; omega) | (unfold behind; omega)
end Go.Proofs.Ytgfdgcpbmjhmmaa
