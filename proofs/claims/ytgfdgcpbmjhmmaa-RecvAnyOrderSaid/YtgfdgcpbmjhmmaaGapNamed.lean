/- gaps.Named. Conditions: the numbers fit their kinds, the pairs have not too many numbers. -/
import Derived.Test.YtgfdgcpbmjhmmaaGapNamed1
namespace Go.Proofs.Ytgfdgcpbmjhmmaa
open Go.RowKit Sp Go.Maps
set_option linter.unusedVariables false

theorem cnt_take_le : ∀ (l : List Int) (k : Nat), cnt (l.take k) ≤ cnt l
  | [], k => by simp
  | [a], k => by rcases k with _ | k <;> simp [cnt]
  | a :: b :: r, 0 => by have := (cnt_bd (a :: b :: r)).1; simp [cnt] at this ⊢; exact this
  | a :: b :: r, 1 => by have := (cnt_bd (a :: b :: r)).1; simp [cnt] at this ⊢; exact this
  | a :: b :: r, k + 2 => by
    have := cnt_take_le r k
    simp only [List.take_succ_cons, cnt]
    omega

def unitV (kd sq n ps mr : Int) (v : Value) (se : Bool) (d : ByteArray) : Value := .agg #[.int .i64 kd, .int .i64 sq, .int .u32 n, .int .u32 ps, .int .u32 mr, v, .bool se, .string d]
def unitO (kd sq n ps mr : Int) (v : Value) (se : Bool) (d : ByteArray) : Obj := .cells #[.int .i64 kd, .int .i64 sq, .int .u32 n, .int .u32 ps, .int .u32 mr, v, .bool se, .string d] 50

set_option maxHeartbeats 4000000 in
set_option maxRecDepth 100000 in
theorem g_named (kd sq n ps mr : Int) (v : Value) (se : Bool) (d : ByteArray) (l : List Int) (w : World) (h : NumRow w v l) (hl : ∀ x, x ∈ l → 0 ≤ x ∧ x < 4294967296) (hc : cnt l ≤ 60000) (hk : kd = 11 ∨ kd = 12) :
    Calls Try.prog 20 #[.agg #[.int .i64 kd, .int .i64 sq, .int .u32 n, .int .u32 ps, .int .u32 mr, v, .bool se, .string d]] w fun e w' => ∃ u, e = .returned u ∧ NumRow w' u (named [] l) ∧ Below w.heap.size w w' := by
  have hmm := @run_makeMap Try.prog
  obtain ⟨A, cap, rfl⟩ := h.form
  have HR := Lib.hid h
  have HCN := Lib.hid hc
  have HL := Lib.hid hl
  obtain ⟨O, hO⟩ : ∃ O, O = Obj.cells #[.int .i64 kd, .int .i64 sq, .int .u32 n, .int .u32 ps, .int .u32 mr, .slice A l.length cap, .bool se, .string d] 50 := ⟨_, rfl⟩
  have c0 : (w.alloc O).cell? ⟨w.heap.size, 0, none⟩ = some (.int .i64 kd) := by have hn := heap_alloc_new w O; rw [hO] at hn ⊢; rw [cell_of_row _ _ 0 _ _ (0, 0) hn]; rfl
  have c5 : (w.alloc O).cell? ⟨w.heap.size, 5, none⟩ = some (.slice A l.length cap) := by have hn := heap_alloc_new w O; rw [hO] at hn ⊢; rw [cell_of_row _ _ 5 _ _ (0, 0) hn]; rfl
  have HO := Lib.hid hO
  have hs1 : (w.alloc O).heap.size = w.heap.size + 1 := by simp
  have hb1 := (Below.refl _ w).alloc (Nat.le_refl _) O
  have HB1 := Lib.hid hb1
  have HS1 := Lib.hid hs1
  obtain ⟨W1, hW1⟩ : ∃ W1, W1 = w.alloc O := ⟨_, rfl⟩
  rw [hO] at hW1
  rw [← hO] at hW1
  have H1 := Lib.hid hW1
  have hW4 : ∃ W4, W4 = (((w.alloc O).alloc (.cells #[.slice none 0 0] 39)).alloc (.map #[] 0)).alloc (.cells #[.map (some (w.heap.size + 2))] 66) := ⟨_, rfl⟩
  have hst : NamSt ((((w.alloc O).alloc (.cells #[.slice none 0 0] 39)).alloc (.map #[] 0)).alloc (.cells #[.map (some (w.heap.size + 2))] 66)) (w.heap.size + 4) (w.heap.size + 1) (w.heap.size + 3) (w.heap.size + 2) [] 0 (.slice none 0 0) := by
    have a1 := heap_alloc_new (w.alloc O) (.cells #[.slice none 0 0] 39)
    have a2 := heap_alloc_new (((w.alloc O).alloc (.cells #[.slice none 0 0] 39)).alloc (.map #[] 0)) (.cells #[.map (some (w.heap.size + 2))] 66)
    have a3 := World.ownsMap_made (H := Unit) ((w.alloc O).alloc (.cells #[.slice none 0 0] 39)) Try.prog 28 (unitElem (H := Unit))
    simp only [World.size_alloc] at a1 a2 a3
    have b2 := ((Below.refl (w.heap.size + 2) ((w.alloc O).alloc (.cells #[.slice none 0 0] 39))).alloc (by simp) (.map #[] 0)).alloc (by simp) (.cells #[.map (some (w.heap.size + 2))] 66)
    exact ⟨(b2.block _ (by omega)).trans a1, a2, World.ownsRow_nil _ _ _ _, a3.alloc _, by simp⟩
  have hbw : Below w.heap.size w ((((w.alloc O).alloc (.cells #[.slice none 0 0] 39)).alloc (.map #[] 0)).alloc (.cells #[.map (some (w.heap.size + 2))] 66)) :=
    ((hb1.alloc (by simp) _).alloc (by simp; omega) _).alloc (by simp; omega) _
  have c5' : ((((w.alloc O).alloc (.cells #[.slice none 0 0] 39)).alloc (.map #[] 0)).alloc (.cells #[.map (some (w.heap.size + 2))] 66)).cell? ⟨w.heap.size, 5, none⟩ = some (.slice A l.length cap) := by
    have b2 := (((Below.refl (w.heap.size + 1) (w.alloc O)).alloc (by simp) (.cells #[.slice none 0 0] 39)).alloc (by simp) (.map #[] 0)).alloc (by simp) (.cells #[.map (some (w.heap.size + 2))] 66)
    rw [b2.cell (p := ⟨w.heap.size, 5, none⟩) (by exact Nat.lt_succ_self _)]
    exact c5
  have HE := Lib.hid (each_named l (.slice A l.length cap) (.pointer (some ⟨w.heap.size + 1, 0, none⟩)) (.pointer (some ⟨w.heap.size + 3, 0, none⟩)) _
    (fun k W => ∃ u n, NamSt W (w.heap.size + 4) (w.heap.size + 1) (w.heap.size + 3) (w.heap.size + 2) (named [] (l.take (2 * k))) n u ∧ (n : Int) ≤ cnt (l.take (2 * k)) ∧ Below w.heap.size w W) hl h.small
    ⟨_, 0, hst, by simp [cnt], hbw⟩ (fun k W ⟨u, n, _, _, hB⟩ => h.below hB) (fun k W m ⟨u, n, g1, g2, g3⟩ => ⟨u, n, g1.drewN m, g2, below_drewN' g3 m⟩)
    (fun k W hk ⟨u, n, g1, g2, g3⟩ => by
      have hct := cnt_take hk
      have hle : cnt (l.take (2 * (k + 1))) ≤ cnt l := cnt_take_le l (2 * (k + 1))
      have hnl := named_len (l.take (2 * k)) []
      simp only [List.length_nil] at hnl
      have hsz := sz_bd l[2 * k] l[2 * k + 1]
      refine (named1 _ _ w.heap.size (w.heap.size + 4) (w.heap.size + 1) (w.heap.size + 3) (w.heap.size + 2) n W _ u ?_ ?_ ⟨by omega, by omega, by omega, by omega, by omega, by omega⟩ g1 (by omega) (by omega)).mono ?_
      · have := hl _ (List.getElem_mem (show 2 * k < l.length by omega)); omega
      · have := hl _ (List.getElem_mem hk); omega
      · rintro e w' ⟨rfl, u', n', k1, k2, k3⟩
        exact ⟨rfl, u', n', by rw [named_take hk]; exact k1, by omega, g3.trans k3⟩))
  clear h hl hc hst hbw hb1 hW4 hW1 H1 HO c5'
  clear W1
  subst hO
  have hkd : (kd != 11) = false ∨ ((kd != 11) = true ∧ (kd != 12) = false) := by rcases hk with rfl | rfl; exact .inl rfl; exact .inr ⟨rfl, rfl⟩
  rcases hkd with e1 | ⟨e1, e2⟩
  all_goals
    go_enter Try.func20, Try.ntmps20
    go_wp2_with fail
    refine HE.out.mono ?_
    rintro e w1 ⟨rfl, k, hk1, hk2, u, n', g1, g2, g3⟩
    rw [named_full hk1 hk2] at g1
    have cl := cell_of_one g1.l
    have HRW := Lib.hid (numRow_own g1.row (by have := named_len l []; simp only [List.length_nil] at this; have := HCN.out; omega))
    have HB := Lib.hid g3
    clear g1 g2 g3 HE
    go_wp2_with fail
    go_ret
    exact ⟨_, rfl, HRW.out, HB.out⟩

/-- Of a unit of another kind no numbers are named. -/
theorem g_named_not (kd sq n ps mr : Int) (v : Value) (se : Bool) (d : ByteArray) (w : World) (hk : kd ≠ 11 ∧ kd ≠ 12) :
    Calls Try.prog 20 #[.agg #[.int .i64 kd, .int .i64 sq, .int .u32 n, .int .u32 ps, .int .u32 mr, v, .bool se, .string d]] w fun e w' => e = .returned (.slice none 0 0) ∧ Below w.heap.size w w' := by
  have hb1 := Lib.hid ((Below.refl _ w).alloc (Nat.le_refl _) (Obj.cells #[.int .i64 kd, .int .i64 sq, .int .u32 n, .int .u32 ps, .int .u32 mr, v, .bool se, .string d] 50))
  have c0 : (w.alloc (Obj.cells #[.int .i64 kd, .int .i64 sq, .int .u32 n, .int .u32 ps, .int .u32 mr, v, .bool se, .string d] 50)).cell? ⟨w.heap.size, 0, none⟩ = some (.int .i64 kd) := by rw [cell_of_row _ _ 0 _ _ (0, 0) (heap_alloc_new w _)]; rfl
  have e1 : (kd != 11) = true := by rw [bne_iff_ne]; exact hk.1
  have e2 : (kd != 12) = true := by rw [bne_iff_ne]; exact hk.2
  go_enter Try.func20, Try.ntmps20
  go_wp2_with fail
  go_ret
  exact ⟨rfl, hb1.out⟩
end Go.Proofs.Ytgfdgcpbmjhmmaa
