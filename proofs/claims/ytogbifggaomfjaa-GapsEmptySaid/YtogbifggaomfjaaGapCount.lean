/- gaps.Count. Conditions: the row lies as a row does. -/
import Derived.Test.YtogbifggaomfjaaGapEach
namespace Go.Proofs.Ytogbifggaomfjaa
open Go.RowKit Sp
set_option linter.unusedVariables false

set_option maxHeartbeats 1000000 in
set_option maxRecDepth 100000 in
theorem count1 (a b n : Int) (g : Nat) (w : World) (h1 : 0 ≤ a) (h2 : a < 4294967296) (h3 : 0 ≤ b) (h4 : b < 4294967296) (hn : 0 ≤ n ∧ n ≤ 17592186044416) (hh : w.heap[g]? = some (.cells #[.int .i64 n] 3 (0, 0))) :
    Calls Try.prog 66 #[.int .u32 a, .int .u32 b, .pointer (some ⟨g, 0, none⟩)] w fun e w' => e = .returned (.tuple #[]) ∧ w'.heap[g]? = some (.cells #[.int .i64 (n + sz a b)] 3 (0, 0)) ∧ Below g w w' := by
  have HC := Lib.hid (fun W => g_size a b W h1 h2 h3 h4)
  have hs := sz_bd a b
  have c0 := cell_of_one hh
  have f0 := free_of_one hh
  have HH := Lib.hid hh
  clear hh
  generalize sz a b = s at *
  have hw : IntKind.i64.wrap (n + s) = n + s := by simp [IntKind.wrap, IntKind.bits, IntKind.signed]; omega
  have HW := Lib.hid hw
  clear hw
  go_enter Try.func66, Try.ntmps66
  go_region_with (go_at_call 67; refine (HC.out _).mono ?_; rintro e w' ⟨rfl, rfl⟩)
  all_goals go_end0
  all_goals rw [HW.out]
  all_goals exact ⟨rfl, one_setCell HH.out, ((Below.refl g w).setCell (p := ⟨g, 0, none⟩) (Nat.le_refl _) _).drew⟩

set_option maxHeartbeats 1000000 in
theorem g_count (l : List Int) (v : Value) (w : World) (h : NumRow w v l) (hl : ∀ x, x ∈ l → 0 ≤ x ∧ x < 4294967296) :
    Calls Try.prog 22 #[v] w fun e w' => e = .returned (.int .i64 (cnt l)) ∧ Below w.heap.size w w' := by
  have hsm := h.small
  have HR := Lib.hid h
  have HL := Lib.hid hl
  have HB := Lib.hid ((Below.refl _ w).alloc (Nat.le_refl _) (.cells #[.int .i64 0] 3))
  have HE := Lib.hid (each_count l v (.pointer (some ⟨w.heap.size, 0, none⟩)) (w.alloc (.cells #[.int .i64 0] 3)) (fun k W => W.heap[w.heap.size]? = some (.cells #[.int .i64 (cnt (l.take (2 * k)))] 3 (0, 0)) ∧ Below w.heap.size w W) hl hsm ⟨heap_alloc_new w _, HB.out⟩
    (fun k W hW => h.below hW.2) (fun k W n hW => ⟨hW.1, below_drewN' hW.2 n⟩)
    (fun k W hk hW => by
      have hc := cnt_bd (l.take (2 * k))
      have hlt := List.length_take_le (2 * k) l
      refine (count1 _ _ _ _ W (hl _ (List.getElem_mem _)).1 (hl _ (List.getElem_mem _)).2 (hl _ (List.getElem_mem _)).1 (hl _ (List.getElem_mem _)).2 (by omega) hW.1).mono ?_
      rintro e w' ⟨rfl, hh, hb⟩
      exact ⟨rfl, by rw [cnt_take hk]; exact hh, hW.2.trans hb⟩))
  clear h hl
  go_enter Try.func22, Try.ntmps22
  go_wp2_with fail
  refine HE.out.mono ?_
  rintro e w1 ⟨rfl, k, hk1, hk2, hh, hb⟩
  rw [cnt_full hk1 hk2] at hh
  have c0 := cell_of_one hh
  have HB2 := Lib.hid hb
  clear hh hb HE
  go_wp2_with fail
  go_ret
  exact ⟨rfl, HB2.out⟩
end Go.Proofs.Ytogbifggaomfjaa
