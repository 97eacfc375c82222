/- Unlike units have unlike bytes: the mathematics. Conditions: both may be. -/
import Derived.Test.YtnocckgbcjienabDoorPduParse
namespace Go.Proofs.YtnocckgbcjienabDoor
open Go.RowKit
set_option linter.unusedVariables false
set_option linter.unusedSimpArgs false

theorem strI_inj {a b : List Int} (ha : ∀ x, x ∈ a → 0 ≤ x ∧ x < 256) (hb : ∀ x, x ∈ b → 0 ≤ x ∧ x < 256) (h : strOfNums a = strOfNums b) : a = b := by
  have e : nums (strOfNums a) = nums (strOfNums b) := by rw [h]
  rw [nums_strI a ha, nums_strI b hb] at e
  have back : ∀ l : List Int, (∀ x, x ∈ l → 0 ≤ x ∧ x < 256) → (l.map Int.toNat).map Int.ofNat = l := by
    intro l hl
    rw [List.map_map]
    conv => rhs; rw [← List.map_id l]
    apply List.map_congr_left
    intro x hx
    have := hl x hx
    show ((x.toNat : Nat) : Int) = x
    omega
  rw [← back a ha, ← back b hb, e]
theorem wordB_in2 (x : Int) (h : 0 ≤ x ∧ x < 4294967296) : ∀ b, b ∈ wordB x → 0 ≤ b ∧ b < 256 := by
  intro b hb
  unfold wordB at hb
  simp only [List.mem_cons, List.not_mem_nil, or_false] at hb
  omega
theorem wordB_inj {x y : Int} (hx : 0 ≤ x ∧ x < 4294967296) (hy : 0 ≤ y ∧ y < 4294967296) (h : wordB x = wordB y) : x = y := by
  unfold wordB at h
  injection h with h1 h
  injection h with h2 h
  injection h with h3 h
  injection h with h4 h
  omega
theorem flat_in (l : List Int) (h : ∀ x, x ∈ l → 0 ≤ x ∧ x < 4294967296) : ∀ b, b ∈ l.flatMap wordB → 0 ≤ b ∧ b < 256 := by
  intro b hb
  obtain ⟨x, hx, hb⟩ := List.mem_flatMap.1 hb
  exact wordB_in2 x (h x hx) b hb
theorem flat_inj : ∀ (a b : List Int) (ha : ∀ x, x ∈ a → 0 ≤ x ∧ x < 4294967296) (hb : ∀ x, x ∈ b → 0 ≤ x ∧ x < 4294967296) (h : a.flatMap wordB = b.flatMap wordB), a = b
  | [], [], _, _, _ => rfl
  | [], y :: b, _, _, h => by simp [wordB] at h
  | x :: a, [], _, _, h => by simp [wordB] at h
  | x :: a, y :: b, ha, hb, h => by
    rw [List.flatMap_cons, List.flatMap_cons] at h
    have hl : (wordB x).length = (wordB y).length := rfl
    obtain ⟨h1, h2⟩ := List.append_inj h hl
    rw [wordB_inj (ha x (by simp)) (hb y (by simp)) h1, flat_inj a b (fun z hz => ha z (by simp [hz])) (fun z hz => hb z (by simp [hz])) h2]
theorem opt_inj {b : Bool} {x y : Int} {a c : List Int} (h0 : b = false → x = 0 ∧ y = 0) (hl : a.length = c.length) (h : a ++ (if b = true then [x] else []) = c ++ (if b = true then [y] else [])) : a = c ∧ x = y := by
  obtain ⟨h1, h2⟩ := List.append_inj h hl
  refine ⟨h1, ?_⟩
  cases b with
  | true =>
    rw [if_pos rfl, if_pos rfl] at h2
    injection h2
  | false =>
    obtain ⟨h3, h4⟩ := h0 rfl
    rw [h3, h4]
theorem pduB_inj {k sq n ps mr : Int} {xs : List Int} {se : Bool} {d : ByteArray} {k' sq' n' ps' mr' : Int} {xs' : List Int} {se' : Bool} {d' : ByteArray} {j j' : Nat} (hkj : k = (j : Int)) (hkj' : k' = (j' : Int)) (hk : 1 ≤ j ∧ j ≤ 15) (hk' : 1 ≤ j' ∧ j' ≤ 15)
    (h : checkV j sq n ps mr xs se d = 0) (h' : checkV j' sq' n' ps' mr' xs' se' d' = 0) (hx : ∀ x, x ∈ xs → 0 ≤ x) (hx' : ∀ x, x ∈ xs' → 0 ≤ x) (e : pduB j sq n ps mr xs se d = pduB j' sq' n' ps' mr' xs' se' d') :
    k = k' ∧ sq = sq' ∧ n = n' ∧ ps = ps' ∧ mr = mr' ∧ xs = xs' ∧ se = se' ∧ d = d' := by
  obtain ⟨U1, U2, U3, U4, U5, U6, U7⟩ := unit_ok h
  obtain ⟨V1, V2, V3, V4, V5, V6, V7⟩ := unit_ok h'
  obtain ⟨q1, q2, q3, q4⟩ := seam_is hk h (fillOf d.size) rfl
  obtain ⟨p1, p2, p3, p4⟩ := seam_is hk' h' (fillOf d'.size) rfl
  have hin := allWords_in j sq n ps mr xs se d (by omega) U3 U4 U5 U6 hx U7
  have hin' := allWords_in j' sq' n' ps' mr' xs' se' d' (by omega) V3 V4 V5 V6 hx' V7
  have q : ∀ (b : Bool) (x : Int), (if b = true then [x] else []).length ≤ 1 := fun b x => by cases b <;> simp
  have hwl : ∀ (k : Nat) (sq ps mr : Int) (xs : List Int), xs.length ≤ 128 → (wordsL k sq ps mr xs).length ≤ 131 := by
    intro k sq ps mr xs h
    unfold wordsL
    simp only [List.length_append]
    have q1 := q (hasSQ k) sq; have q2 := q (hasPS k) ps; have q3 := q (hasMR k) mr
    omega
  have hf : fillOf d.size ≤ 3 := by unfold fillOf; omega
  have hf' : fillOf d'.size ≤ 3 := by unfold fillOf; omega
  have hP := parts d (fillOf d.size) (wordsL j sq ps mr xs) (lastW (fillOf d.size) j n se) hf U2 (hwl _ _ _ _ _ U1)
  have hP' := parts d' (fillOf d'.size) (wordsL j' sq' ps' mr' xs') (lastW (fillOf d'.size) j' n' se') hf' V2 (hwl _ _ _ _ _ V1)
  have hs : pduB j sq n ps mr xs se d = strOfNums (dataI d ++ List.replicate (fillOf d.size) 0 ++ (wordsL j sq ps mr xs ++ [lastW (fillOf d.size) j n se]).flatMap wordB) := rfl
  have hs' : pduB j' sq' n' ps' mr' xs' se' d' = strOfNums (dataI d' ++ List.replicate (fillOf d'.size) 0 ++ (wordsL j' sq' ps' mr' xs' ++ [lastW (fillOf d'.size) j' n' se']).flatMap wordB) := rfl
  rw [← hs] at hP
  rw [← hs', ← e] at hP'
  generalize pduB j sq n ps mr xs se d = s at *
  have he : d.size + fillOf d.size + 4 * (wordsL j sq ps mr xs).length = d'.size + fillOf d'.size + 4 * (wordsL j' sq' ps' mr' xs').length := by
    have a := hP.size; have b := hP'.size; omega
  have hl1 := hP.last
  have hl2 := hP'.last
  rw [← he, hl1] at hl2
  have hLi := lastW_in (fillOf d.size) j n se hf (by omega) U4
  have hLi' := lastW_in (fillOf d'.size) j' n' se' hf' (by omega) V4
  have hL : lastW (fillOf d.size) j n se = lastW (fillOf d'.size) j' n' se' := by
    have := flat_inj _ _ (fun x hx => by rw [List.mem_singleton.1 hx]; exact hLi) (fun x hx => by rw [List.mem_singleton.1 hx]; exact hLi') (strI_inj (flat_in _ fun x hx => by rw [List.mem_singleton.1 hx]; exact hLi) (flat_in _ fun x hx => by rw [List.mem_singleton.1 hx]; exact hLi') hl2)
    injection this
  obtain ⟨m, hm⟩ : ∃ m : Nat, n = (m : Int) := ⟨n.toNat, by omega⟩
  obtain ⟨m', hm'⟩ : ∃ m : Nat, n' = (m : Int) := ⟨n'.toNat, by omega⟩
  subst hm hm'
  obtain ⟨a1, a2, a3, a4⟩ := last_parts (fillOf d.size) j m se hf (by omega) (by omega)
  obtain ⟨b1, b2, b3, b4⟩ := last_parts (fillOf d'.size) j' m' se' hf' (by omega) (by omega)
  rw [hL] at a1 a2 a3 a4
  have ek : j = j' := by have := a1.symm.trans b1; omega
  have en : m = m' := by have := a2.symm.trans b2; omega
  have ese : se = se' := a3.symm.trans b3
  have ef : fillOf d.size = fillOf d'.size := by have := a4.symm.trans b4; omega
  subst ek en ese
  rw [he] at q1
  have eds : d.size = d'.size := by have := q1.symm.trans p1; omega
  have hd1 := hP.data
  have hd2 := hP'.data
  rw [← eds, hd1] at hd2
  subst hd2
  have hw1 := hP.words
  have hw2 := hP'.words
  rw [← he, hw1] at hw2
  have hWi : ∀ x, x ∈ wordsL j sq ps mr xs → 0 ≤ x ∧ x < 4294967296 := fun x hx => hin x (List.mem_append_left _ hx)
  have hWi' : ∀ x, x ∈ wordsL j sq' ps' mr' xs' → 0 ≤ x ∧ x < 4294967296 := fun x hx => hin' x (List.mem_append_left _ hx)
  have hW := flat_inj _ _ hWi hWi' (strI_inj (flat_in _ hWi) (flat_in _ hWi') hw2)
  unfold wordsL at hW he
  have hlen : xs.length = xs'.length := by
    simp only [List.length_append] at he
    have r : ∀ (b : Bool) (x y : Int), (if b = true then [x] else []).length = (if b = true then [y] else []).length := fun b x y => by cases b <;> rfl
    have r1 := r (hasSQ j) sq sq'; have r2 := r (hasPS j) ps ps'; have r3 := r (hasMR j) mr mr'
    omega
  have r : ∀ (b : Bool) (x y : Int), (if b = true then [x] else []).length = (if b = true then [y] else []).length := fun b x y => by cases b <;> rfl
  obtain ⟨hW, emr⟩ := opt_inj (fun h => ⟨q4 h, p4 h⟩) (by simp only [List.length_append]; rw [hlen, r (hasSQ j) sq sq', r (hasPS j) ps ps']) hW
  obtain ⟨hW, eps⟩ := opt_inj (fun h => ⟨q3 h, p3 h⟩) (by simp only [List.length_append]; rw [hlen, r (hasSQ j) sq sq']) hW
  obtain ⟨exs, esq⟩ := opt_inj (fun h => ⟨q2 h, p2 h⟩) hlen hW
  exact ⟨by rw [hkj, hkj'], esq, rfl, eps, emr, exs, rfl, rfl⟩
end Go.Proofs.YtnocckgbcjienabDoor
