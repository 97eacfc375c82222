/- The contract of span's Has. Conditions: the set is of numbers that may be, written in one way, its row is not long. -/
import Derived.Test.YtimmineopkmdmaaSpanList
namespace Go.Proofs.Ytimmineopkmdmaa
open Go.RowKit Sp Go.Sort
set_option linter.unusedVariables false

/-- Which span may have x: behind all that end at x or ahead of it. -/
def place (s : List Span) (x : Int) : Nat := s.countP fun y => !decide (x < y.2)
theorem place_le (s : List Span) (x : Int) : place s x ≤ s.length := List.countP_le_length
theorem place_mem : ∀ {s : List Span} (x : Int), Canon s → ((∃ y, s[place s x]? = some y ∧ y.1 ≤ x) ↔ Mem s x)
  | [], x, _ => by
    constructor
    · rintro ⟨y, h, _⟩; simp at h
    · rintro ⟨y, h, _⟩; cases h
  | y :: t, x, h => by
    obtain ⟨h1, h2, h3⟩ := canon_cons.1 h
    have ih := place_mem x h3
    rw [mem_cons]
    by_cases hx : x < y.2
    · have hp : place (y :: t) x = 0 := by
        unfold place
        rw [List.countP_eq_zero]
        intro z hz
        rcases List.mem_cons.1 hz with rfl | hz
        · simp [hx]
        · have := h2 z hz
          have := h3.1 z hz
          simp
          omega
      rw [hp]
      constructor
      · rintro ⟨z, hz, hz1⟩
        simp at hz
        subst hz
        exact .inl ⟨hz1, hx⟩
      · rintro (hm | ⟨z, hz, hm, _⟩)
        · exact ⟨y, rfl, hm.1⟩
        · have := h2 z hz
          omega
    · have hp : place (y :: t) x = place t x + 1 := by
        unfold place
        rw [List.countP_cons]
        simp [hx]
      rw [hp, List.getElem?_cons_succ, ih]
      exact ⟨.inr, fun h => h.elim (fun h => absurd h.2 hx) id⟩
theorem place_mono {s : List Span} (h : Canon s) (x : Int) (a b : Nat) (hab : a ≤ b) (hb : b < s.length) (hx : x < (s.toArray[a]!).2) : x < (s.toArray[b]!).2 := by
  by_cases e : a = b
  · subst e; exact hx
  · have hp := List.pairwise_iff_getElem.1 h.2 a b (by omega) hb (by omega)
    have h1 := h.1 s[b] (List.getElem_mem hb)
    rw [getElem!_pos s.toArray a (by simp; omega)] at hx
    rw [getElem!_pos s.toArray b (by simpa using hb)]
    simp at hx ⊢
    omega

set_option maxHeartbeats 2000000 in
/-- The search's own question. -/
theorem has1 (bx bs blk off cap n : Nat) (x d : Int) (i : Nat) (W : World) (hi : i < n) (hx : W.cell? ⟨bx, 0, none⟩ = some (.int .i64 x))
    (hs : W.cell? ⟨bs, 0, none⟩ = some (.slice (some ⟨blk, off, none⟩) n cap)) (hc : W.cell? ⟨blk, off + i * 2 + 1, none⟩ = some (.int .i64 d)) :
    Calls Try.prog 35 (#[.int .i64 i] ++ #[.pointer (some ⟨bx, 0, none⟩), .pointer (some ⟨bs, 0, none⟩)]) W fun e w' => e = .returned (.bool (decide (x < d))) ∧ ∃ q, w' = W.drewN q := by
  have hiz : (i : Int) < (n : Int) := by omega
  go_enter Try.func35, Try.ntmps35
  go_wp2_with fail
  go_quiet (fail)
  go_wp2_with fail
  go_ret
  exact ⟨by first | rfl | simp, nq, rfl⟩

set_option maxHeartbeats 2000000 in
set_option maxRecDepth 100000 in
theorem has (s : List Span) (v : Value) (x : Int) (w : World) (h : WideAt w v s) :
    Calls Try.prog 13 #[v, .int .i64 x] w fun e w' => e = .returned (.bool (decide (x ∈ nums s))) ∧ Below w.heap.size w w' := by
  obtain ⟨A, cap, rfl⟩ := h.form
  have hfew := h.few
  have HS := Lib.hid h
  clear h
  obtain ⟨W0, hW0⟩ : ∃ W0, W0 = (w.alloc (.cells #[.slice A s.length cap] 27)).alloc (.cells #[.int .i64 x] 3) := ⟨_, rfl⟩
  have hsize : W0.heap.size = w.heap.size + 1 + 1 := by rw [hW0]; simp
  have hB0 : Below w.heap.size w W0 := by rw [hW0]; exact ((Below.refl _ w).alloc (Nat.le_refl _) _).alloc (by simp) _
  have cs : W0.cell? ⟨w.heap.size, 0, none⟩ = some (.slice A s.length cap) := by rw [hW0]; exact cell_alloc_sl _ (cell_new_sl w _ _)
  have cx : W0.cell? ⟨w.heap.size + 1, 0, none⟩ = some (.int .i64 x) := by rw [hW0]; have := cell_new_sl (w.alloc (.cells #[.slice A s.length cap] 27)) (.int .i64 x) 3; rwa [World.size_alloc] at this
  have eg : ∀ args w, (callFunc 35 args).run Try.prog w = .ok (.enter 35 args) w := enters_of Try.func35 (by kernel_rfl) rfl
  have hrow := HS.out.row.below hB0
  have hS := Any.sort_Search Try.laySearch 35 #[.pointer (some ⟨w.heap.size + 1, 0, none⟩), .pointer (some ⟨w.heap.size, 0, none⟩)] s.length (fun i => decide (x < (s.toArray[i]!).2)) W0 eg (by omega)
    (fun m os i hi => by
      have ex := List.getElem?_eq_getElem hi
      obtain ⟨b, off, rfl, hbl, c0, c1⟩ := hrow.get ex
      have ee : s.toArray[i]! = s[i] := by rw [getElem!_pos s.toArray i (by simpa using hi)]; simp
      rw [ee]
      exact (has1 (w.heap.size + 1) w.heap.size b off cap s.length x s[i].2 i _ hi (cell_grown (by simp [hsize]) cx m os) (cell_grown (by simp [hsize]; omega) cs m os) (cell_grown (by exact hbl) c1 m os)).mono
        fun _ _ ⟨he, q, hq⟩ => ⟨he, q, #[], by rw [hq, grow_empty]⟩) (fun a b hab hb h => by simp only [decide_eq_true_eq] at h ⊢; exact place_mono HS.out.canon x a b hab hb h)
  have hcp := Lib.countP_range s.toArray (fun y => !decide (x < y.2))
  rw [List.size_toArray] at hcp
  rw [hcp] at hS
  rw [show (s.toArray.toList.countP fun y => !decide (x < y.2)) = place s x from rfl] at hS
  change Calls Try.prog 34 _ _ _ at hS
  have HP := Lib.hid (place_mem x HS.out.canon)
  have hpl := place_le s x
  generalize place s x = p at *
  have HSS := Lib.hid hS
  have HC := Lib.hid cs
  have HX := Lib.hid cx
  have HR := Lib.hid hrow
  have HB := Lib.hid hB0
  clear hS cs cx eg hcp hrow hB0
  go_enter Try.func13, Try.ntmps13
  go_wp2_with (go_at_call 34; rw [← hW0]; refine HSS.out.mono ?_; rintro e w' ⟨rfl, q, os, rfl⟩; clear hW0)
  have hbW := below_grown_sl w.heap.size W0 q os (by omega)
  have HW := Lib.hid (HB.out.trans hbW)
  have cs : (grow (W0.drewN q) os).cell? ⟨w.heap.size, 0, none⟩ = some (.slice A s.length cap) := cell_grown (by simp [hsize]; omega) HC.out q os
  have cx : (grow (W0.drewN q) os).cell? ⟨w.heap.size + 1, 0, none⟩ = some (.int .i64 x) := cell_grown (by simp [hsize]) HX.out q os
  have HR2 := Lib.hid (HS.out.row.below HW.out)
  clear hbW
  generalize grow (W0.drewN q) os = W at *
  by_cases hlt : p < s.length
  · have ex := List.getElem?_eq_getElem hlt
    obtain ⟨b, off, rfl, hbl, c0, c1⟩ := HR2.out.get ex
    have HD : Hid (decide (s[p].1 ≤ x) = decide (x ∈ nums s)) := by
      show _ = _
      congr 1
      rw [eq_iff_iff, mem_nums, ← HP.out]
      exact ⟨fun h => ⟨_, ex, h⟩, fun ⟨y, hy, h⟩ => by rw [ex] at hy; injection hy with hy; subst hy; exact h⟩
    generalize s[p] = y at *
    generalize y.1 = a at *
    have hd : decide ((p : Int) < (s.length : Int)) = true := by simp only [decide_eq_true_eq]; omega
    have i1 : (0 : Int) ≤ (p : Int) := by omega
    clear ex c1 HP
    go_wp2_with fail
    go_quiet (fail)
    go_wp2_with fail
    go_ret
    exact ⟨by first | (rw [← HD.out]; done) | (rw [← HD.out]; rfl), below_drewN' HW.out _⟩
  · have HD : Hid (false = decide (x ∈ nums s)) := by
      show _ = _
      rw [eq_comm, decide_eq_false_iff_not, mem_nums, ← HP.out]
      rintro ⟨y, hy, _⟩
      rw [List.getElem?_eq_none (by omega)] at hy
      cases hy
    have hd : decide ((p : Int) < (s.length : Int)) = false := by simp only [decide_eq_false_iff_not]; omega
    go_wp2_with fail
    go_quiet (fail)
    go_wp2_with fail
    go_ret
    exact ⟨by first | (rw [← HD.out]; done) | (rw [← HD.out]; rfl), below_drewN' HW.out _⟩
end Go.Proofs.Ytimmineopkmdmaa
