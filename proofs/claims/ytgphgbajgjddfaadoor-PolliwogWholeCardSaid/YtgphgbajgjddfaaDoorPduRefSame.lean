/- What the document's Check answers is what the program's answers. Conditions: the numbers are from 0 on. -/
import Derived.Test.YtgphgbajgjddfaaDoorPduRefBox
namespace Go.Proofs.YtgphgbajgjddfaaDoor
open Go.RowKit
set_option linter.unusedVariables false
set_option linter.unusedSimpArgs false

theorem kind_all (k : Nat) (hk : 1 ≤ k ∧ k ≤ 15) : hasSQi (k : Int) = hasSQ k ∧ hasNi (k : Int) = hasN k ∧ mostI (k : Int) = most k ∧ memB (k : Int) [10, 11] = hasPS k ∧ memB (k : Int) [11, 12] = hasMR k ∧ ((k : Int) != 3) = !hasSelf k := by
  have hc : k = 1 ∨ k = 2 ∨ k = 3 ∨ k = 4 ∨ k = 5 ∨ k = 6 ∨ k = 7 ∨ k = 8 ∨ k = 9 ∨ k = 10 ∨ k = 11 ∨ k = 12 ∨ k = 13 ∨ k = 14 ∨ k = 15 := by omega
  rcases hc with rfl | rfl | rfl | rfl | rfl | rfl | rfl | rfl | rfl | rfl | rfl | rfl | rfl | rfl | rfl <;> exact ⟨by decide, by decide, by decide, by decide, by decide, by decide⟩
theorem low_fits (x : Int) (h : 0 ≤ x) (b : Bool) : (lowB x = true ∧ (!b && x != 0) = false) ↔ fitsV x b 16777215 = true := by
  unfold lowB fitsV
  cases b
  · simp; omega
  · simp; omega
theorem sq_fits (x : Int) (b : Bool) : (decide (x < 0) = false ∧ decide (255 < x) = false ∧ (!b && x != 0) = false) ↔ fitsV x b 255 = true := by
  unfold fitsV
  cases b
  · simp; omega
  · simp; omega
theorem v15_big (xs : List Int) (h : ∀ x, x ∈ xs → 0 ≤ x) : v15 xs = anyBig xs := by
  unfold v15 anyBig
  induction xs with
  | nil => rfl
  | cons a l ih =>
    rw [List.any_cons, List.any_cons, ih (fun x hx => h x (List.mem_cons_of_mem _ hx))]
    congr 1
    have := h a List.mem_cons_self
    unfold lowB
    by_cases c : 16777215 < a
    · rw [decide_eq_true c, decide_eq_false (by omega)]; rfl
    · rw [decide_eq_false c, decide_eq_true (by omega)]; rfl
theorem v12_list (k m : Nat) : v12 (k : Int) m = !(if listOf k = 2 then ((m : Int) % 2 == 0) else if listOf k = 1 then ((m : Int) == 2) else ((m : Int) == 0)) := by
  unfold v12 listOf
  by_cases k11 : k = 11
  · subst k11; simp; rfl
  · have f1 : (((k : Nat) : Int) == 11) = false := by rw [beq_eq_false_iff_ne]; omega
    have f2 : (((k : Nat) : Int) != 11) = true := by rw [bne_iff_ne]; omega
    rw [f1, f2, if_neg k11]
    by_cases k12 : k = 12
    · subst k12; simp; rfl
    · have f3 : (((k : Nat) : Int) == 12) = false := by rw [beq_eq_false_iff_ne]; omega
      have f4 : (((k : Nat) : Int) != 12) = true := by rw [bne_iff_ne]; omega
      rw [f3, f4, if_neg k12]
      by_cases h0 : 0 < m
      · simp [h0]; omega
      · simp [h0]; omega
theorem rCheck_is (k sq n ps mr : Int) (xs : List Int) (se : Bool) (d : ByteArray) (h1 : 0 ≤ n) (h2 : 0 ≤ ps) (h3 : 0 ≤ mr) (hx : ∀ x, x ∈ xs → 0 ≤ x) : rCheck k sq n ps mr xs se d = checkA k sq n ps mr xs se d := by
  unfold rCheck checkA
  by_cases hk : 1 ≤ k ∧ k ≤ 15
  · rw [if_pos hk, if_pos hk]
    obtain ⟨m, rfl⟩ : ∃ m : Nat, k = (m : Int) := ⟨k.toNat, by omega⟩
    rw [Int.toNat_natCast]
    obtain ⟨e1, e2, e3, e4, e5, e6⟩ := kind_all m (by omega)
    unfold checkV
    have h4 : v4 (m : Int) xs.length d = tooBigV m xs.length d := by unfold v4 tooBigV; rw [e3, Bool.or_comm]
    rw [h4]
    split
    · rfl
    · have key : (v7 m sq n ps mr d || v8 m sq n se || v9 m ps mr || v12 m xs.length || v15 xs) = true ↔ ¬ (numbersV m sq n ps mr && listFitsV m xs && dataV m se d) = true := by
        rw [v15_big xs hx, v12_list]
        unfold v7 v8 v9 numbersV listFitsV dataV
        rw [e1, e2, e3, e4, e5, e6]
        have f1 := sq_fits sq (hasSQ m)
        have f2 := low_fits n h1 (hasN m)
        have f3 := low_fits ps h2 (hasPS m)
        have f4 := low_fits mr h3 (hasMR m)
        have g1 : (d.toList == []) = d.toList.isEmpty := by cases d.toList <;> rfl
        have g2 : (most m == 0) = !decide (0 < most m) := by
          have := most_le m
          by_cases c : 0 < most m
          · rw [decide_eq_true c, beq_eq_false_iff_ne.2 (by omega)]; rfl
          · rw [decide_eq_false c, beq_iff_eq.2 (by omega)]; rfl
        rw [g1, g2]
        generalize fitsV sq (hasSQ m) 255 = F1 at *
        generalize fitsV n (hasN m) 16777215 = F2 at *
        generalize fitsV ps (hasPS m) 16777215 = F3 at *
        generalize fitsV mr (hasMR m) 16777215 = F4 at *
        generalize (!hasSQ m && sq != 0) = q1 at *
        generalize (!hasN m && n != 0) = q2 at *
        generalize (!hasPS m && ps != 0) = q3 at *
        generalize (!hasMR m && mr != 0) = q4 at *
        generalize lowB n = l1 at *
        generalize lowB ps = l2 at *
        generalize lowB mr = l3 at *
        generalize decide (sq < 0) = s1 at *
        generalize decide (255 < sq) = s2 at *
        generalize decide (0 < most m) = mo at *
        generalize d.toList.isEmpty = de at *
        generalize hasSelf m = hs at *
        generalize anyBig xs = ab at *
        generalize (if listOf m = 2 then ((xs.length : Int) % 2 == 0) else if listOf m = 1 then ((xs.length : Int) == 2) else ((xs.length : Int) == 0)) = li at *
        have b1 : F1 = (!s1 && !s2 && !q1) := by cases F1 <;> cases s1 <;> cases s2 <;> cases q1 <;> simp_all
        have b2 : F2 = (l1 && !q2) := by cases F2 <;> cases l1 <;> cases q2 <;> simp_all
        have b3 : F3 = (l2 && !q3) := by cases F3 <;> cases l2 <;> cases q3 <;> simp_all
        have b4 : F4 = (l3 && !q4) := by cases F4 <;> cases l3 <;> cases q4 <;> simp_all
        rw [b1, b2, b3, b4]
        clear f1 f2 f3 f4 b1 b2 b3 b4 e1 e2 e3 e4 e5 e6 g1 g2
        cases s1 <;> (try simp) <;> cases s2 <;> (try simp) <;> cases q1 <;> (try simp) <;> cases l1 <;> (try simp) <;> cases q2 <;> (try simp) <;> cases l2 <;> (try simp) <;> cases q3 <;> (try simp) <;> cases l3 <;> (try simp) <;> cases q4 <;> (try simp) <;> cases ab <;> (try simp) <;> cases li <;> (try simp) <;> cases mo <;> (try simp) <;> cases de <;> (try simp) <;> cases hs <;> (try simp)
      by_cases c : (numbersV m sq n ps mr && listFitsV m xs && dataV m se d) = true
      · rw [if_pos c, if_neg (fun h => key.1 h c)]
      · rw [if_neg c, if_pos (key.2 c)]
  · rw [if_neg hk, if_neg hk]
end Go.Proofs.YtgphgbajgjddfaaDoor
