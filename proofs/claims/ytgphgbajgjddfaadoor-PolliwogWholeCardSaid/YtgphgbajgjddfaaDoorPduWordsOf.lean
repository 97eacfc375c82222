/- The contract of package pdu's wordsOf, of the bytes of words. Conditions: the words fit their kind; there are not many. -/
import Derived.Test.YtgphgbajgjddfaaDoorPduBytes
import Derived.Deep.OwnRows
namespace Go.Proofs.YtgphgbajgjddfaaDoor
open Go.RowKit
set_option linter.unusedVariables false
set_option linter.unusedSimpArgs false

/-- What is in word j when i bytes have been taken. -/
def part (ws : List Int) (i j : Nat) : Int := ws.getD j 0 / 256 ^ (4 - min 4 (i - 4 * j))
def byteAtW (x : Int) (r : Nat) : Int := (wordB x).getD r 0
theorem flat_len (ws : List Int) : (ws.flatMap wordB).length = 4 * ws.length := by
  induction ws with
  | nil => rfl
  | cons a l ih => rw [List.flatMap_cons, List.length_append, ih]; simp [wordB]; omega
theorem flat_at (ws : List Int) (q r : Nat) (hq : q < ws.length) (hr : r < 4) : (ws.flatMap wordB).getD (4 * q + r) 0 = byteAtW (ws.getD q 0) r := by
  induction ws generalizing q with
  | nil => simp at hq
  | cons a l ih =>
    rw [List.flatMap_cons]
    cases q with
    | zero =>
      rw [List.getD_eq_getElem?_getD, List.getElem?_append_left (by simp [wordB]; omega), ← List.getD_eq_getElem?_getD]
      rw [Nat.mul_zero, Nat.zero_add]
      rfl
    | succ q =>
      rw [List.getD_eq_getElem?_getD, List.getElem?_append_right (by simp [wordB]; omega), ← List.getD_eq_getElem?_getD]
      rw [show 4 * (q + 1) + r - (wordB a).length = 4 * q + r by simp [wordB]; omega, ih q (by simpa using hq)]
      simp
theorem wordB_in {x : Int} (h : 0 ≤ x ∧ x < 4294967296) : ∀ b, b ∈ wordB x → 0 ≤ b ∧ b < 256 := by
  intro b hb
  unfold wordB at hb
  simp only [List.mem_cons, List.not_mem_nil, or_false] at hb
  rcases hb with rfl | rfl | rfl | rfl <;> omega
theorem part_step (x : Int) (r : Nat) (h : 0 ≤ x ∧ x < 4294967296) (hr : r < 4) : x / 256 ^ (4 - r) * 256 + byteAtW x r = x / 256 ^ (4 - (r + 1)) ∧ 0 ≤ x / 256 ^ (4 - r) ∧ x / 256 ^ (4 - r) < 16777216 ∧ 0 ≤ byteAtW x r ∧ byteAtW x r < 256 := by
  have e0 : byteAtW x 0 = x / 16777216 := rfl
  have e1 : byteAtW x 1 = x / 65536 % 256 := rfl
  have e2 : byteAtW x 2 = x / 256 % 256 := rfl
  have e3 : byteAtW x 3 = x % 256 := rfl
  have p4 : (256 : Int) ^ (4 - 0) = 4294967296 := by decide
  have p3 : (256 : Int) ^ (4 - 1) = 16777216 := by decide
  have p2 : (256 : Int) ^ (4 - 2) = 65536 := by decide
  have p1 : (256 : Int) ^ (4 - 3) = 256 := by decide
  have p0 : (256 : Int) ^ (4 - 4) = 1 := by decide
  have hc : r = 0 ∨ r = 1 ∨ r = 2 ∨ r = 3 := by omega
  rcases hc with rfl | rfl | rfl | rfl
  · rw [e0, p4, p3]; omega
  · rw [e1, p3, p2]; omega
  · rw [e2, p2, p1]; omega
  · rw [e3, p1, p0]; omega
theorem part_here (ws : List Int) (q r : Nat) (hr : r < 4) : part ws (4 * q + r) q = ws.getD q 0 / 256 ^ (4 - r) ∧ part ws (4 * q + r + 1) q = ws.getD q 0 / 256 ^ (4 - (r + 1)) := by
  unfold part
  rw [show min 4 (4 * q + r - 4 * q) = r by omega, show min 4 (4 * q + r + 1 - 4 * q) = r + 1 by omega]
  exact ⟨rfl, rfl⟩
theorem part_there (ws : List Int) (q r j : Nat) (hr : r < 4) (hj : j ≠ q) : part ws (4 * q + r + 1) j = part ws (4 * q + r) j := by
  unfold part
  rw [show min 4 (4 * q + r + 1 - 4 * j) = min 4 (4 * q + r - 4 * j) by omega]
theorem part_none (ws : List Int) (j : Nat) (h : ∀ x, x ∈ ws → 0 ≤ x ∧ x < 4294967296) : part ws 0 j = 0 := by
  unfold part
  rw [show min 4 (0 - 4 * j) = 0 by omega, show (256 : Int) ^ (4 - 0) = 4294967296 by decide]
  rw [List.getD_eq_getElem?_getD]
  cases hx : ws[j]? with
  | none => rfl
  | some x =>
    have := h x (List.mem_of_getElem? hx)
    simp only [Option.getD_some]
    omega
theorem part_all (ws : List Int) (j : Nat) (hj : j < ws.length) : part ws (4 * ws.length) j = ws.getD j 0 := by
  unfold part
  rw [show min 4 (4 * ws.length - 4 * j) = 4 by omega, show (256 : Int) ^ (4 - 4) = 1 by decide, Int.ediv_one]

theorem byte_str (l : List Int) (hl : ∀ b, b ∈ l → 0 ≤ b ∧ b < 256) (i : Nat) (hi : i < (strOfNums l).size) : (((strOfNums l)[i].toNat : Nat) : Int) = l.getD i 0 := by
  have hi2 : i < l.length := by rw [strOfNums_size] at hi; exact hi
  have e : nums (strOfNums l) = l.map fun n => (UInt8.ofNat n.toNat).toNat := nums_strOfNums l
  have e2 : (nums (strOfNums l))[i]? = some ((strOfNums l)[i]).toNat := by
    unfold nums
    rw [List.getElem?_map]
    have : (strOfNums l).data.toList[i]? = some (strOfNums l)[i] := by
      rw [Array.getElem?_toList]
      exact Array.getElem?_eq_getElem hi
    rw [this]; rfl
  rw [e, List.getElem?_map, List.getElem?_eq_getElem hi2] at e2
  simp only [Option.map_some, Option.some.injEq] at e2
  rw [← e2, List.getD_eq_getElem?_getD, List.getElem?_eq_getElem hi2]
  have := hl _ (List.getElem_mem hi2)
  simp only [Option.getD_some, UInt8.toNat_ofNat']
  omega

theorem rowIs_drew {w : World} {g n : Nat} {t : TypeId} {f : Nat → Value} (h : w.rowIs g t n f) : w.drew.rowIs g t n f := h
theorem rowIs_lt {w : World} {g n : Nat} {t : TypeId} {f : Nat → Value} (h : w.rowIs g t n f) : g < w.heap.size := by
  obtain ⟨c, hb, _⟩ := h
  exact (Array.getElem?_eq_some_iff.1 hb).1
theorem or_byte (a b : Int) (ha : 0 ≤ a ∧ a < 16777216) (hb : 0 ≤ b ∧ b < 256) : bits .or .u32 (a * 256) (b % 4294967296) = a * 256 + b := by
  obtain ⟨x, rfl⟩ := Int.eq_ofNat_of_zero_le ha.1
  obtain ⟨y, rfl⟩ := Int.eq_ofNat_of_zero_le hb.1
  rw [show (y : Int) % 4294967296 = (y : Int) by omega, show (x : Int) * 256 = ((2 ^ 8 * x : Nat) : Int) by omega, u32_or_nat _ _ (by omega) (by omega), or_add x y 8 (by omega)]
  omega

set_option maxHeartbeats 2000000 in
set_option maxRecDepth 100000 in
theorem pdu_wordsOf (ws : List Int) (w : World) (h : ∀ x, x ∈ ws → 0 ≤ x ∧ x < 4294967296) (hl : ws.length ≤ 1000) :
    Calls Tryd.prog 34 #[.string (strOfNums (ws.flatMap wordB))] w fun e w' => e = .returned (.slice (some ⟨w.heap.size, 0, none⟩) ws.length ws.length) ∧ NumRow w' (.slice (some ⟨w.heap.size, 0, none⟩) ws.length ws.length) ws ∧ w.heap.size < w'.heap.size ∧ Below w.heap.size w w' := by
  have hsz : (strOfNums (ws.flatMap wordB)).size = 4 * ws.length := by rw [strOfNums_size, flat_len]
  have hby : ∀ i (hi : i < (strOfNums (ws.flatMap wordB)).size), (((strOfNums (ws.flatMap wordB))[i].toNat : Nat) : Int) = (ws.flatMap wordB).getD i 0 := byte_str _ (fun b hb => by
    obtain ⟨x, hx, hb⟩ := List.mem_flatMap.1 hb
    exact wordB_in (h x hx) b hb)
  have HBY := Lib.hid hby
  have HH := Lib.hid h
  clear hby h
  generalize strOfNums (ws.flatMap wordB) = T at *
  have hq : ((T.size : Int) / 4) = (ws.length : Int) := by omega
  have HSZ := Lib.hid hsz
  clear hsz
  go_enter Tryd.func34, Tryd.ntmps34
  have hmk := run_make_row' (P := Tryd.prog) 30 29 (.int .u32 0) 4 Tryd.underlying30 infoNum0 rfl .i64 .i64 ws.length (by omega) (by omega)
  go_wp2_with fail
  go_loopw [11] (fun i wr => ∃ k : Nat, k ≤ T.size ∧ i = .int .i64 k ∧ Hid (wr.rowIs w.heap.size 29 ws.length (fun j => .int .u32 (part ws k j))) ∧ Hid (Below w.heap.size w wr)) (fun i _ => T.size - (intOf i).toNat)
  case atStart => exact ⟨0, by omega, rfl, (World.rowIs_made w (.int .u32 0) ws.length _).congr (fun j _ => by rw [part_none ws j HH.out]), (Below.refl _ w).alloc (Nat.le_refl _) _⟩
  case round =>
    obtain ⟨k, hk, rfl, HR, HB⟩ := hrel
    by_cases hlt : k < T.size
    · obtain ⟨q, r, hr, hqr⟩ : ∃ q r, r < 4 ∧ k = 4 * q + r := ⟨k / 4, k % 4, by omega, by omega⟩
      have hql : q < ws.length := by have := HSZ.out; omega
      have hx := HH.out _ (List.getElem_mem hql)
      have hgx : ws.getD q 0 = ws[q] := by rw [List.getD_eq_getElem?_getD, List.getElem?_eq_getElem hql]; rfl
      have hb := HBY.out k hlt
      rw [show (ws.flatMap wordB).getD k 0 = byteAtW (ws.getD q 0) r by rw [hqr]; exact flat_at ws q r hql hr] at hb
      have hst := part_step (ws.getD q 0) r (by rw [hgx]; exact hx) hr
      obtain ⟨p1, p2⟩ := part_here ws q r hr
      rw [← hqr] at p1 p2
      rw [← p1, ← p2] at hst
      obtain ⟨s1, s2, s3, s4, s5⟩ := hst
      have hcell : wr.cell? ⟨w.heap.size, q, none⟩ = some (.int .u32 (part ws k q)) := HR.out.cell hql
      have hfr : wr.frozen? ⟨w.heap.size, q, none⟩ = false := HR.out.frozen q
      have hdiv : ((k : Int) / 4) = (q : Int) := by omega
      have hor : bits .or .u32 (part ws k q * 256) (((T[k].toNat : Nat) : Int) % 4294967296) = part ws (k + 1) q := by
        rw [hb, or_byte _ _ ⟨s2, s3⟩ ⟨s4, s5⟩, s1]
      have HOR := Lib.hid hor
      have HPT : Hid (∀ j, j ≠ q → part ws (k + 1) j = part ws k j) := fun j hj => by rw [hqr]; exact part_there ws q r j hr hj
      have hq0 : (0 : Int) ≤ (q : Int) := by omega
      have hq1 : (q : Int) < (ws.length : Int) := by omega
      clear hor hqr hb p1 p2 s1 hgx hx s4 s5
      generalize hold : part ws k q = old at *
      go_upto_region 5 with fail
      go_region
      all_goals go_wp2_with fail
      all_goals go_roundw
      case rel =>
        refine ⟨k + 1, by omega, by go_num, ?_, ((HB.out.setCell (Nat.le_refl _) _).drew)⟩
        have h1 := (HR.out.set q (.int .u32 (bits .or .u32 (old * 256) (((T[k].toNat : Nat) : Int) % 4294967296)))).congr (g := fun j => .int .u32 (part ws (k + 1) j)) (fun j _ => by
          by_cases e : j = q
          · subst e; simp [HOR.out]
          · simp [e, HPT.out j e])
        exact rowIs_drew h1
      case measure => simp [intOf]; omega
    · have hkl : k = 4 * ws.length := by have := HSZ.out; omega
      subst hkl
      go_wp2_with fail
      go_ret
      have hrow := HR.out.congr (g := fun j => Value.int .u32 (ws.getD j 0)) (fun j hj => by rw [part_all ws j hj])
      have hz : w.heap.size < wr.heap.size := rowIs_lt HR.out
      refine ⟨rfl, ⟨_, _, rfl, by omega, .inr ⟨w.heap.size, 0, rfl, hz, fun j x hj => ?_⟩⟩, hz, HB.out⟩
      have hjl : j < ws.length := (List.getElem?_eq_some_iff.1 hj).1
      rw [Nat.zero_add, hrow.cell hjl, List.getD_eq_getElem?_getD, hj]
      rfl
end Go.Proofs.YtgphgbajgjddfaaDoor
