/- Plain facts on the pairs of numbers that name a set, counted from a base on, no Go in sight. No conditions but those that each says. -/
import Derived.Test.YtgfdgcpbmjhmmaaSpanMath
namespace Go.Proofs.Ytgfdgcpbmjhmmaa.Sp

/-- The pairs of a set, counted from a base on. -/
def prs (b : Int) (s : List Span) : List Int := s.flatMap fun x => [(b + x.1) % 16777216, (b + x.2) % 16777216]
theorem prs_append (b : Int) (s t : List Span) : prs b (s ++ t) = prs b s ++ prs b t := by simp [prs]
theorem prs_cons (b : Int) (x : Span) (s : List Span) : prs b (x :: s) = (b + x.1) % 16777216 :: (b + x.2) % 16777216 :: prs b s := rfl
theorem prs_length (b : Int) : ∀ s : List Span, (prs b s).length = 2 * s.length
  | [] => rfl
  | x :: s => by rw [prs_cons]; simp only [List.length_cons]; rw [prs_length b s]; omega
theorem prs_flat (b : Int) : ∀ s : List Span, prs b s = (flat s).map fun y => (b + y) % 16777216
  | [] => rfl
  | x :: s => by rw [prs_cons, prs_flat b s]; simp [flat]
theorem prs_bd (b : Int) (s : List Span) : ∀ x, x ∈ prs b s → 0 ≤ x ∧ x < 16777216 := by
  intro x hx
  rw [prs_flat] at hx
  obtain ⟨y, _, rfl⟩ := List.mem_map.1 hx
  omega

/-- How many numbers a pair has. -/
def sz (a b : Int) : Int := if (b - a) % 16777216 ≤ 8388608 then (b - a) % 16777216 else 0
theorem sz_bd (a b : Int) : 0 ≤ sz a b ∧ sz a b ≤ 8388608 := by unfold sz; split <;> omega
/-- How many numbers the pairs have together. -/
def cnt : List Int → Int
  | a :: b :: r => sz a b + cnt r
  | [] => 0
  | [_] => 0
theorem cnt_bd : ∀ l : List Int, 0 ≤ cnt l ∧ cnt l ≤ 8388608 * l.length
  | [] => by simp [cnt]
  | [a] => by simp [cnt]
  | a :: b :: r => by
    have := cnt_bd r
    have := sz_bd a b
    simp only [cnt, List.length_cons]
    omega
theorem cnt_append2 : ∀ (l : List Int) (a b : Int), l.length % 2 = 0 → cnt (l ++ [a, b]) = cnt l + sz a b
  | [], a, b, _ => by simp [cnt]
  | [c], a, b, h => by simp at h
  | c :: d :: r, a, b, h => by
    have := cnt_append2 r a b (by simp at h; omega)
    simp only [List.cons_append, cnt]
    omega
theorem cnt_odd : ∀ (l : List Int) (a : Int), l.length % 2 = 0 → cnt (l ++ [a]) = cnt l
  | [], a, _ => by simp [cnt]
  | [c], a, h => by simp at h
  | c :: d :: r, a, h => by
    have := cnt_odd r a (by simp at h; omega)
    simp only [List.cons_append, cnt]
    omega
theorem take_two {l : List Int} {k : Nat} (h : 2 * k + 1 < l.length) : l.take (2 * (k + 1)) = l.take (2 * k) ++ [l[2 * k], l[2 * k + 1]] := by
  rw [show 2 * (k + 1) = 2 * k + 1 + 1 by omega, List.take_succ_eq_append_getElem h, List.take_succ_eq_append_getElem (by omega), List.append_assoc]
  rfl
theorem cnt_take {l : List Int} {k : Nat} (h : 2 * k + 1 < l.length) : cnt (l.take (2 * (k + 1))) = cnt (l.take (2 * k)) + sz l[2 * k] l[2 * k + 1] := by
  rw [take_two h]
  exact cnt_append2 _ _ _ (by rw [List.length_take]; omega)
theorem cnt_full {l : List Int} {k : Nat} (h1 : 2 * k ≤ l.length) (h2 : l.length ≤ 2 * k + 1) : cnt (l.take (2 * k)) = cnt l := by
  by_cases h : l.length = 2 * k
  · rw [List.take_of_length_le (by omega)]
  · have e : l = l.take (2 * k) ++ [l[2 * k]'(by omega)] := by
      rw [← List.take_succ_eq_append_getElem, List.take_of_length_le (by omega)]
    exact (cnt_odd _ _ (by rw [List.length_take]; omega)).symm.trans (congrArg cnt e.symm)
theorem cnt_prs (b : Int) : ∀ s : List Span, (∀ x, x ∈ s → 0 ≤ x.2 - x.1 ∧ x.2 - x.1 ≤ 8388608) → cnt (prs b s) = lenOf s
  | [], _ => rfl
  | x :: s, h => by
    have h1 := h x List.mem_cons_self
    have ih := cnt_prs b s fun y hy => h y (List.mem_cons_of_mem _ hy)
    rw [prs_cons]
    show sz _ _ + cnt (prs b s) = _
    rw [ih]
    unfold lenOf
    rw [List.map_cons, List.sum_cons]
    have : sz ((b + x.1) % 16777216) ((b + x.2) % 16777216) = x.2 - x.1 := by
      unfold sz
      rw [show ((b + x.2) % 16777216 - (b + x.1) % 16777216) % 16777216 = x.2 - x.1 by omega, if_pos h1.2]
    rw [this]

/-- Is each number further from the base than the one ahead of it, and none too far? -/
def riseB (b far : Int) : Int → List Int → Bool
  | _, [] => true
  | last, x :: r => decide (last < (x - b) % 16777216) && (decide ((x - b) % 16777216 ≤ far) && riseB b far ((x - b) % 16777216) r)
/-- How far the number ahead of the k-th one is. -/
def lastAt (b : Int) (l : List Int) (k : Nat) : Int := if k = 0 then -1 else (l.getD (k - 1) 0 - b) % 16777216
theorem lastAt_bd (b : Int) (l : List Int) (k : Nat) : -1 ≤ lastAt b l k ∧ lastAt b l k < 16777216 := by unfold lastAt; split <;> omega
theorem lastAt_next (b : Int) (l : List Int) (k : Nat) (h : k < l.length) : lastAt b l (k + 1) = (l[k] - b) % 16777216 := by
  unfold lastAt
  rw [if_neg (by omega)]
  simp [List.getD, h]
theorem rise_drop (b far : Int) (l : List Int) (k : Nat) (h : k < l.length) :
    riseB b far (lastAt b l k) (l.drop k) = (decide (lastAt b l k < (l[k] - b) % 16777216) && (decide ((l[k] - b) % 16777216 ≤ far) && riseB b far (lastAt b l (k + 1)) (l.drop (k + 1)))) := by
  rw [List.drop_eq_getElem_cons h, lastAt_next b l k h]
  rfl
/-- The spans that pairs are. -/
def spansOf (b : Int) : List Int → List Span
  | x :: y :: r => ((x - b) % 16777216, (y - b) % 16777216) :: spansOf b r
  | [] => []
  | [_] => []
theorem spansOf_append2 (b : Int) : ∀ (l : List Int) (x y : Int), l.length % 2 = 0 → spansOf b (l ++ [x, y]) = spansOf b l ++ [((x - b) % 16777216, (y - b) % 16777216)]
  | [], x, y, _ => by simp [spansOf]
  | [c], x, y, h => by simp at h
  | c :: d :: r, x, y, h => by
    have := spansOf_append2 b r x y (by simp at h; omega)
    simp only [List.cons_append, spansOf]
    rw [this]
theorem spansOf_take (b : Int) {l : List Int} {k : Nat} (h : 2 * k + 1 < l.length) : spansOf b (l.take (2 * (k + 1))) = spansOf b (l.take (2 * k)) ++ [((l[2 * k] - b) % 16777216, (l[2 * k + 1] - b) % 16777216)] := by
  rw [take_two h]
  exact spansOf_append2 b _ _ _ (by rw [List.length_take]; omega)
theorem spansOf_length (b : Int) : ∀ l : List Int, 2 * (spansOf b l).length ≤ l.length
  | [] => by simp [spansOf]
  | [a] => by simp [spansOf]
  | a :: c :: r => by have := spansOf_length b r; simp only [spansOf, List.length_cons]; omega
theorem spansOf_prs (b : Int) : ∀ s : List Span, (∀ x, x ∈ s → 0 ≤ x.1 ∧ x.1 < 16777216 ∧ 0 ≤ x.2 ∧ x.2 < 16777216) → spansOf b (prs b s) = s
  | [], _ => rfl
  | x :: s, h => by
    have h1 := h x List.mem_cons_self
    rw [prs_cons]
    show (_, _) :: spansOf b (prs b s) = _
    rw [spansOf_prs b s fun y hy => h y (List.mem_cons_of_mem _ hy)]
    congr 1
    ext <;> simp <;> omega
theorem prs_spansOf (b : Int) : ∀ l : List Int, l.length % 2 = 0 → (∀ x, x ∈ l → 0 ≤ x ∧ x < 16777216) → prs b (spansOf b l) = l
  | [], _, _ => rfl
  | [a], h, _ => by simp at h
  | x :: y :: r, h, hb => by
    have ih := prs_spansOf b r (by simp at h; omega) fun z hz => hb z (by simp [hz])
    have h1 := hb x (by simp)
    have h2 := hb y (by simp)
    show prs b ((_, _) :: spansOf b r) = _
    rw [prs_cons, ih]
    congr 1
    · simp only; omega
    · congr 1; simp only; omega
theorem rise_bd (b far : Int) : ∀ (l : List Int) (last : Int), riseB b far last l = true → ∀ x, x ∈ spansOf b l → last < x.1 ∧ x.1 < x.2 ∧ x.2 ≤ far
  | [], _, _, x, hx => by simp [spansOf] at hx
  | [a], _, _, x, hx => by simp [spansOf] at hx
  | p :: q :: r, last, h, x, hx => by
    simp only [riseB, Bool.and_eq_true, decide_eq_true_eq] at h
    simp only [spansOf, List.mem_cons] at hx
    rcases hx with rfl | hx
    · simp only; omega
    · have := rise_bd b far r _ h.2.2.2.2 x hx
      omega
theorem rise_canon (b far : Int) : ∀ (l : List Int) (last : Int), riseB b far last l = true → Canon (spansOf b l)
  | [], _, _ => canon_nil
  | [a], _, _ => canon_nil
  | p :: q :: r, last, h => by
    simp only [riseB, Bool.and_eq_true, decide_eq_true_eq] at h
    refine canon_cons.2 ⟨h.2.2.1, fun y hy => ?_, rise_canon b far r _ h.2.2.2.2⟩
    exact (rise_bd b far r _ h.2.2.2.2 y hy).1
theorem rise_prs (b far : Int) : ∀ (s : List Span) (last : Int), Canon s → (∀ x, x ∈ s → last < x.1 ∧ 0 ≤ x.1 ∧ x.2 ≤ far ∧ x.2 < 16777216) → riseB b far last (prs b s) = true
  | [], _, _, _ => rfl
  | x :: s, last, hc, h => by
    obtain ⟨h1, h2, h3⟩ := canon_cons.1 hc
    have hx := h x List.mem_cons_self
    rw [prs_cons]
    simp only [riseB, Bool.and_eq_true, decide_eq_true_eq]
    rw [show ((b + x.1) % 16777216 - b) % 16777216 = x.1 by omega, show ((b + x.2) % 16777216 - b) % 16777216 = x.2 by omega]
    refine ⟨hx.1, by omega, h1, hx.2.2.1, rise_prs b far s _ h3 fun y hy => ?_⟩
    have := h2 y hy
    have := h y (List.mem_cons_of_mem _ hy)
    exact ⟨by omega, by omega, by omega, by omega⟩
/-- The last number too far: the list isn't right. -/
theorem rise_far (b far : Int) : ∀ (l : List Int) (last : Int) (x : Int), x ∈ l → far < (x - b) % 16777216 → riseB b far last l = false
  | [], _, x, hx, _ => by cases hx
  | y :: l, last, x, hx, h => by
    rcases List.mem_cons.1 hx with rfl | hx
    · simp only [riseB]; rw [decide_eq_false (show ¬ (x - b) % 16777216 ≤ far by omega)]; simp
    · simp only [riseB]; rw [rise_far b far l _ x hx h]; simp

/-! ### The document's pairs -/

def pairStep (b : Int) (out : List Int) (prev : Option Int) (x : Int) : List Int :=
  if prev = some (x - 1) then out.dropLast ++ [(b + x + 1) % 16777216] else out ++ [(b + x) % 16777216, (b + x + 1) % 16777216]
def pairs (b : Int) (out : List Int) : Option Int → List Int → List Int
  | _, [] => out
  | prev, x :: l => pairs b (pairStep b out prev x) (some x) l
theorem pairs_ends (b : Int) : ∀ (l out : List Int) (prev : Option Int), pairs b (out.map fun y => (b + y) % 16777216) prev l = (ends out prev l).map fun y => (b + y) % 16777216
  | [], out, prev => rfl
  | x :: l, out, prev => by
    show pairs b (pairStep b _ prev x) (some x) l = (ends (endStep out prev x) (some x) l).map _
    rw [← pairs_ends b l (endStep out prev x) (some x)]
    congr 1
    unfold pairStep endStep
    split
    · simp [Int.add_assoc, List.map_dropLast]
    · simp [Int.add_assoc]
theorem pairs_nums (b : Int) {s : List Span} (h : Canon s) : pairs b [] none (nums s) = prs b s := by
  have := pairs_ends b (nums s) [] none
  rw [ends_set h] at this
  rw [prs_flat]
  exact this
theorem pairs_snoc (b : Int) : ∀ (l out : List Int) (prev : Option Int) (x : Int), pairs b out prev (l ++ [x]) = pairStep b (pairs b out prev l) (l.getLast?.or prev) x
  | [], out, prev, x => by simp [pairs]
  | a :: l, out, prev, x => by
    rw [List.cons_append]
    show pairs b (pairStep b out prev a) (some a) (l ++ [x]) = pairStep b (pairs b (pairStep b out prev a) (some a) l) _ x
    rw [pairs_snoc b l, List.getLast?_cons]
    cases l.getLast? <;> rfl
theorem pairs_take (b : Int) {l : List Int} {k : Nat} (hk : k < l.length) : pairs b [] none (l.take (k + 1)) = pairStep b (pairs b [] none (l.take k)) (if k = 0 then none else l[k - 1]?) l[k] := by
  rw [List.take_succ_eq_append_getElem hk, pairs_snoc]
  congr 1
  rw [Option.or_none]
  split
  · subst k; rfl
  · rw [List.getLast?_take]
    rename_i h0
    rw [if_neg h0, List.getElem?_eq_getElem (by omega)]
    rfl
theorem pairStep_len (b : Int) (out : List Int) (prev : Option Int) (x : Int) : 1 ≤ (pairStep b out prev x).length ∧ (pairStep b out prev x).length ≤ out.length + 2 := by
  unfold pairStep; split <;> simp <;> omega

/-! ### Named: each number once, in the order of the pairs -/

/-- The numbers of a pair. -/
def pairNums (a b : Int) : List Int := (List.range (sz a b).toNat).map fun i : Nat => (a + (i : Int)) % 16777216
/-- What is added, unless it's there. -/
def ins (out : List Int) (x : Int) : List Int := if x ∈ out then out else out ++ [x]
def named (out : List Int) : List Int → List Int
  | a :: b :: r => named ((pairNums a b).foldl ins out) r
  | [] => out
  | [_] => out
theorem named_append2 : ∀ (l out : List Int) (a b : Int), l.length % 2 = 0 → named out (l ++ [a, b]) = (pairNums a b).foldl ins (named out l)
  | [], out, a, b, _ => by simp [named]
  | [c], out, a, b, h => by simp at h
  | c :: d :: r, out, a, b, h => by
    simp only [List.cons_append, named]
    exact named_append2 r _ a b (by simp at h; omega)
theorem named_odd : ∀ (l out : List Int) (a : Int), l.length % 2 = 0 → named out (l ++ [a]) = named out l
  | [], out, a, _ => by simp [named]
  | [c], out, a, h => by simp at h
  | c :: d :: r, out, a, h => by
    simp only [List.cons_append, named]
    exact named_odd r _ a (by simp at h; omega)
theorem named_take {l : List Int} {k : Nat} (h : 2 * k + 1 < l.length) : named [] (l.take (2 * (k + 1))) = (pairNums l[2 * k] l[2 * k + 1]).foldl ins (named [] (l.take (2 * k))) := by
  rw [take_two h]
  exact named_append2 _ _ _ _ (by rw [List.length_take]; omega)
theorem named_full {l : List Int} {k : Nat} (h1 : 2 * k ≤ l.length) (h2 : l.length ≤ 2 * k + 1) : named [] (l.take (2 * k)) = named [] l := by
  by_cases h : l.length = 2 * k
  · rw [List.take_of_length_le (by omega)]
  · have e : l = l.take (2 * k) ++ [l[2 * k]'(by omega)] := by
      rw [← List.take_succ_eq_append_getElem, List.take_of_length_le (by omega)]
    exact (named_odd _ _ _ (by rw [List.length_take]; omega)).symm.trans (congrArg (named []) e.symm)
theorem pairNums_len (a b : Int) : (pairNums a b).length = (sz a b).toNat := by simp [pairNums]
theorem pairNums_take (a b : Int) (i : Nat) (h : (i : Int) < sz a b) : (pairNums a b).take (i + 1) = (pairNums a b).take i ++ [(a + (i : Int)) % 16777216] := by
  have hl : i < (pairNums a b).length := by rw [pairNums_len]; omega
  rw [List.take_succ_eq_append_getElem hl]
  simp [pairNums]
theorem ins_len (out : List Int) (x : Int) : out.length ≤ (ins out x).length ∧ (ins out x).length ≤ out.length + 1 := by unfold ins; split <;> simp
theorem foldl_ins_len : ∀ (xs out : List Int), out.length ≤ (xs.foldl ins out).length ∧ (xs.foldl ins out).length ≤ out.length + xs.length
  | [], out => by simp
  | x :: xs, out => by
    have h1 := ins_len out x
    have h2 := foldl_ins_len xs (ins out x)
    simp only [List.foldl_cons, List.length_cons]
    omega
theorem named_len : ∀ (l out : List Int), ((named out l).length : Int) ≤ out.length + cnt l
  | [], out => by simp [named, cnt]
  | [a], out => by simp [named, cnt]
  | a :: b :: r, out => by
    have h1 := named_len r ((pairNums a b).foldl ins out)
    have h2 := foldl_ins_len (pairNums a b) out
    rw [pairNums_len] at h2
    have := sz_bd a b
    simp only [named, cnt]
    omega
theorem ins_nodup {out : List Int} (h : out.Nodup) (x : Int) : (ins out x).Nodup := by
  unfold ins
  split
  · exact h
  · rename_i hx
    rw [List.nodup_append]
    exact ⟨h, by simp, fun a ha b hb => by simp at hb; subst hb; exact fun e => hx (e ▸ ha)⟩
theorem ins_bd {out : List Int} (h : ∀ y, y ∈ out → 0 ≤ y ∧ y < 16777216) {x : Int} (hx : 0 ≤ x ∧ x < 16777216) : ∀ y, y ∈ ins out x → 0 ≤ y ∧ y < 16777216 := by
  unfold ins
  split
  · exact h
  · intro y hy
    rcases List.mem_append.1 hy with hy | hy
    · exact h y hy
    · simp at hy; subst hy; exact hx
/-- One pair: its numbers, in their order. -/
theorem foldl_ins_fresh : ∀ (n : Nat) (out : List Int) (c : Int), n ≤ 16777216 → (∀ j : Nat, j < n → (c + (j : Int)) % 16777216 ∉ out) → ((List.range n).map fun i : Nat => (c + (i : Int)) % 16777216).foldl ins out = out ++ (List.range n).map fun i : Nat => (c + (i : Int)) % 16777216
  | 0, out, c, _, _ => by simp
  | n + 1, out, c, hn, h => by
    rw [List.range_succ, List.map_append, List.foldl_append, foldl_ins_fresh n out c (by omega) (fun j hj => h j (by omega))]
    simp only [List.map_cons, List.map_nil, List.foldl_cons, List.foldl_nil]
    unfold ins
    rw [if_neg, List.append_assoc]
    rw [List.mem_append]
    rintro (hm | hm)
    · exact h n (by omega) hm
    · obtain ⟨j, hj, he⟩ := List.mem_map.1 hm
      rw [List.mem_range] at hj
      omega
theorem named_two (a b : Int) : named [] [a, b] = pairNums a b := by
  show (pairNums a b).foldl ins [] = _
  have := sz_bd a b
  have h := foldl_ins_fresh (sz a b).toNat [] a (by omega) (by simp)
  simpa [pairNums] using h
end Go.Proofs.Ytgfdgcpbmjhmmaa.Sp
