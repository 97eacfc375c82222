/- Plain facts on sets of whole numbers as rising spans, no Go in sight: each set is written in one way; what the spans of a rising list of numbers are. No conditions but those that each says. -/
namespace Go.Proofs.Ytgfdgcpbmjhmmaa.Sp

abbrev Span := Int × Int

/-- n is a number of one of the spans. -/
def Mem (s : List Span) (n : Int) : Prop := ∃ x, x ∈ s ∧ x.1 ≤ n ∧ n < x.2
/-- Rising, none empty, a number between any two. -/
def Canon (s : List Span) : Prop := (∀ x, x ∈ s → x.1 < x.2) ∧ s.Pairwise (fun x y => x.2 < y.1)

theorem mem_nil (n : Int) : ¬ Mem [] n := fun ⟨_, h, _⟩ => by cases h
theorem mem_cons (x : Span) (s : List Span) (n : Int) : Mem (x :: s) n ↔ (x.1 ≤ n ∧ n < x.2) ∨ Mem s n := by
  constructor
  · rintro ⟨y, hy, h⟩
    rcases List.mem_cons.1 hy with rfl | hy
    · exact .inl h
    · exact .inr ⟨y, hy, h⟩
  · rintro (h | ⟨y, hy, h⟩)
    · exact ⟨x, List.mem_cons_self, h⟩
    · exact ⟨y, List.mem_cons_of_mem _ hy, h⟩
theorem mem_append (s t : List Span) (n : Int) : Mem (s ++ t) n ↔ Mem s n ∨ Mem t n := by
  constructor
  · rintro ⟨y, hy, h⟩
    rcases List.mem_append.1 hy with hy | hy
    · exact .inl ⟨y, hy, h⟩
    · exact .inr ⟨y, hy, h⟩
  · rintro (⟨y, hy, h⟩ | ⟨y, hy, h⟩)
    · exact ⟨y, List.mem_append_left _ hy, h⟩
    · exact ⟨y, List.mem_append_right _ hy, h⟩
theorem mem_one (x : Span) (n : Int) : Mem [x] n ↔ x.1 ≤ n ∧ n < x.2 := by rw [mem_cons]; exact ⟨fun h => h.elim id fun h => absurd h (mem_nil n), .inl⟩
theorem mem_perm {s t : List Span} (h : s.Perm t) (n : Int) : Mem s n ↔ Mem t n :=
  ⟨fun ⟨x, hx, hn⟩ => ⟨x, h.mem_iff.1 hx, hn⟩, fun ⟨x, hx, hn⟩ => ⟨x, h.mem_iff.2 hx, hn⟩⟩

theorem canon_nil : Canon [] := ⟨fun _ h => (by cases h), .nil⟩
theorem canon_cons {x : Span} {s : List Span} : Canon (x :: s) ↔ x.1 < x.2 ∧ (∀ y, y ∈ s → x.2 < y.1) ∧ Canon s := by
  constructor
  · rintro ⟨h1, h2⟩
    rw [List.pairwise_cons] at h2
    exact ⟨h1 x List.mem_cons_self, h2.1, fun y hy => h1 y (List.mem_cons_of_mem _ hy), h2.2⟩
  · rintro ⟨h1, h2, h3, h4⟩
    refine ⟨fun y hy => ?_, List.pairwise_cons.2 ⟨h2, h4⟩⟩
    rcases List.mem_cons.1 hy with rfl | hy
    · exact h1
    · exact h3 y hy
theorem canon_snoc {s : List Span} {x : Span} : Canon (s ++ [x]) ↔ Canon s ∧ x.1 < x.2 ∧ ∀ y, y ∈ s → y.2 < x.1 := by
  unfold Canon
  rw [List.pairwise_append]
  constructor
  · rintro ⟨h1, h2, h3, h4⟩
    exact ⟨⟨fun y hy => h1 y (List.mem_append_left _ hy), h2⟩, h1 x (by simp), fun y hy => h4 y hy x (by simp)⟩
  · rintro ⟨⟨h1, h2⟩, h3, h4⟩
    refine ⟨fun y hy => ?_, h2, by simp, fun y hy z hz => ?_⟩
    · rcases List.mem_append.1 hy with hy | hy
      · exact h1 y hy
      · simp at hy; subst hy; exact h3
    · simp at hz; subst hz; exact h4 y hy
theorem canon_one {x : Span} (h : x.1 < x.2) : Canon [x] := canon_cons.2 ⟨h, by simp, canon_nil⟩

/-- Each set is written in one way. -/
theorem canon_unique : ∀ (s t : List Span), Canon s → Canon t → (∀ n, Mem s n ↔ Mem t n) → s = t
  | [], [], _, _, _ => rfl
  | [], y :: t, _, ht, h => absurd ((h y.1).2 ⟨y, List.mem_cons_self, by have := (canon_cons.1 ht).1; omega⟩) (mem_nil _)
  | x :: s, [], hs, _, h => absurd ((h x.1).1 ⟨x, List.mem_cons_self, by have := (canon_cons.1 hs).1; omega⟩) (mem_nil _)
  | x :: s, y :: t, hs, ht, h => by
    obtain ⟨hx, hxs, hs'⟩ := canon_cons.1 hs
    obtain ⟨hy, hyt, ht'⟩ := canon_cons.1 ht
    have far : ∀ {z : Span} {u : List Span} (n : Int), Canon u → (∀ y, y ∈ u → z.2 < y.1) → n ≤ z.2 → ¬ Mem u n := by
      intro z u n _ hu hn ⟨w, hw, h1, _⟩
      have := hu w hw
      omega
    have e1 : x.1 = y.1 := by
      have a := (h x.1).1 ((mem_cons _ _ _).2 (.inl ⟨by omega, hx⟩))
      have b := (h y.1).2 ((mem_cons _ _ _).2 (.inl ⟨by omega, hy⟩))
      rw [mem_cons] at a b
      rcases a with a | a
      · rcases b with b | b
        · omega
        · obtain ⟨w, hw, h1, _⟩ := b; have := hxs w hw; omega
      · obtain ⟨w, hw, h1, _⟩ := a
        have := hyt w hw
        rcases b with b | b
        · omega
        · obtain ⟨v, hv, h2, _⟩ := b; have := hxs v hv; omega
    have e2 : x.2 = y.2 := by
      rcases Int.lt_trichotomy x.2 y.2 with h1 | h1 | h1
      · have a := (h x.2).2 ((mem_cons _ _ _).2 (.inl ⟨by omega, h1⟩))
        rw [mem_cons] at a
        rcases a with a | a
        · omega
        · exact absurd a (far x.2 hs' hxs (by omega))
      · exact h1
      · have a := (h y.2).1 ((mem_cons _ _ _).2 (.inl ⟨by omega, h1⟩))
        rw [mem_cons] at a
        rcases a with a | a
        · omega
        · exact absurd a (far y.2 ht' hyt (by omega))
    have exy : x = y := by cases x; cases y; simp_all
    subst exy
    rw [canon_unique s t hs' ht' fun n => ?_]
    have hn := h n
    rw [mem_cons, mem_cons] at hn
    constructor
    · intro hm
      have : ¬ (x.1 ≤ n ∧ n < x.2) := fun hh => far n hs' hxs (by omega) hm
      exact (hn.1 (.inr hm)).resolve_left this
    · intro hm
      have : ¬ (x.1 ≤ n ∧ n < x.2) := fun hh => far n ht' hyt (by omega) hm
      exact (hn.2 (.inr hm)).resolve_left this

/-! ### The numbers of a set, rising -/

def range (a b : Int) : List Int := (List.range (b - a).toNat).map fun i : Nat => a + (i : Int)
theorem mem_range (a b n : Int) : n ∈ range a b ↔ a ≤ n ∧ n < b := by
  unfold range
  rw [List.mem_map]
  constructor
  · rintro ⟨i, hi, rfl⟩; rw [List.mem_range] at hi; omega
  · rintro ⟨h1, h2⟩; exact ⟨(n - a).toNat, by rw [List.mem_range]; omega, by omega⟩
theorem length_range (a b : Int) : (range a b).length = (b - a).toNat := by simp [range]
theorem range_empty {a b : Int} (h : b ≤ a) : range a b = [] := by unfold range; rw [show (b - a).toNat = 0 by omega]; rfl
theorem range_snoc {a b : Int} (h : a ≤ b) : range a (b + 1) = range a b ++ [b] := by
  unfold range
  rw [show (b + 1 - a).toNat = (b - a).toNat + 1 by omega, List.range_succ, List.map_append]
  simp; omega
theorem range_cons {a b : Int} (h : a < b) : range a b = a :: range (a + 1) b := by
  unfold range
  rw [show (b - a).toNat = (b - (a + 1)).toNat + 1 by omega, List.range_succ_eq_map, List.map_cons, List.map_map]
  congr 1
  · omega
  · apply List.map_congr_left; intro i _; simp; omega
theorem pairwise_range (a b : Int) : (range a b).Pairwise (· < ·) := by
  unfold range
  rw [List.pairwise_map]
  exact (List.pairwise_lt_range).imp fun h => by omega

def nums (s : List Span) : List Int := s.flatMap fun x => range x.1 x.2
theorem nums_cons (x : Span) (s : List Span) : nums (x :: s) = range x.1 x.2 ++ nums s := rfl
theorem nums_append (s t : List Span) : nums (s ++ t) = nums s ++ nums t := by unfold nums; rw [List.flatMap_append]
theorem mem_nums (s : List Span) (n : Int) : n ∈ nums s ↔ Mem s n := by
  unfold nums
  rw [List.mem_flatMap]
  constructor
  · rintro ⟨x, hx, h⟩; exact ⟨x, hx, (mem_range _ _ _).1 h⟩
  · rintro ⟨x, hx, h⟩; exact ⟨x, hx, (mem_range _ _ _).2 h⟩
theorem nums_rise : ∀ {s : List Span}, Canon s → (nums s).Pairwise (· < ·)
  | [], _ => .nil
  | x :: s, h => by
    obtain ⟨h1, h2, h3⟩ := canon_cons.1 h
    rw [nums_cons, List.pairwise_append]
    refine ⟨pairwise_range _ _, nums_rise h3, fun a ha b hb => ?_⟩
    rw [mem_range] at ha
    rw [mem_nums] at hb
    obtain ⟨y, hy, hb⟩ := hb
    have := h2 y hy
    omega
/-- Two rising lists with the same numbers are one. -/
theorem rise_unique : ∀ (l m : List Int), l.Pairwise (· < ·) → m.Pairwise (· < ·) → (∀ n, n ∈ l ↔ n ∈ m) → l = m
  | [], [], _, _, _ => rfl
  | [], b :: m, _, _, h => absurd ((h b).2 List.mem_cons_self) (by simp)
  | a :: l, [], _, _, h => absurd ((h a).1 List.mem_cons_self) (by simp)
  | a :: l, b :: m, hl, hm, h => by
    rw [List.pairwise_cons] at hl hm
    have e : a = b := by
      have h1 := (h a).1 List.mem_cons_self
      have h2 := (h b).2 List.mem_cons_self
      rcases List.mem_cons.1 h1 with h1 | h1
      · exact h1
      · rcases List.mem_cons.1 h2 with h2 | h2
        · exact h2.symm
        · have := hl.1 b h2; have := hm.1 a h1; omega
    subst e
    rw [rise_unique l m hl.2 hm.2 fun n => ?_]
    constructor
    · intro hn
      rcases List.mem_cons.1 ((h n).1 (List.mem_cons_of_mem _ hn)) with e | e
      · subst e; have := hl.1 n hn; omega
      · exact e
    · intro hn
      rcases List.mem_cons.1 ((h n).2 (List.mem_cons_of_mem _ hn)) with e | e
      · subst e; have := hm.1 n hn; omega
      · exact e
/-- A rising list with a set's numbers is the set's list. -/
theorem nums_eq {s : List Span} {l : List Int} (hs : Canon s) (hl : l.Pairwise (· < ·)) (h : ∀ n, n ∈ l ↔ Mem s n) : l = nums s :=
  rise_unique l (nums s) hl (nums_rise hs) fun n => by rw [h n, mem_nums]

def lenOf (s : List Span) : Int := (s.map fun x => x.2 - x.1).sum
theorem lenOf_nums : ∀ {s : List Span}, Canon s → lenOf s = (nums s).length
  | [], _ => rfl
  | x :: s, h => by
    obtain ⟨h1, _, h3⟩ := canon_cons.1 h
    have ih := lenOf_nums h3
    unfold lenOf at ih ⊢
    rw [List.map_cons, List.sum_cons, ih, nums_cons, List.length_append, length_range]
    omega

/-! ### The document's spans of a rising list: two ends a span, one behind the other -/

def flat (s : List Span) : List Int := s.flatMap fun x => [x.1, x.2]
/-- What stands in the list of ends, behind one number more. -/
def endStep (out : List Int) (prev : Option Int) (x : Int) : List Int :=
  if prev = some (x - 1) then out.dropLast ++ [x + 1] else out ++ [x, x + 1]
def ends (out : List Int) : Option Int → List Int → List Int
  | _, [] => out
  | prev, x :: l => ends (endStep out prev x) (some x) l
theorem ends_range (out : List Int) (a : Int) : ∀ (k : Nat) (c : Int) (rest : List Int), ends (out ++ [a, c]) (some (c - 1)) (range c (c + k) ++ rest) = ends (out ++ [a, c + k]) (some (c + k - 1)) rest
  | 0, c, rest => by rw [range_empty (by omega)]; simp
  | k + 1, c, rest => by
    rw [range_cons (by omega), List.cons_append]
    show ends (endStep (out ++ [a, c]) (some (c - 1)) c) (some c) _ = _
    have e : endStep (out ++ [a, c]) (some (c - 1)) c = out ++ [a, c + 1] := by
      unfold endStep
      rw [if_pos rfl, show out ++ [a, c] = (out ++ [a]) ++ [c] by simp, List.dropLast_concat]
      simp
    rw [e]
    have h := ends_range out a k (c + 1) rest
    rw [show c + 1 - 1 = c by omega, show c + 1 + (k : Int) = c + ((k + 1 : Nat) : Int) by omega] at h
    rw [h]
theorem ends_nums : ∀ (s : List Span) (out : List Int) (prev : Option Int), Canon s → (∀ p, prev = some p → ∀ x, x ∈ s → p + 1 < x.1) → ends out prev (nums s) = out ++ flat s
  | [], out, prev, _, _ => by simp [nums, flat, ends]
  | x :: s, out, prev, h, hp => by
    obtain ⟨h1, h2, h3⟩ := canon_cons.1 h
    rw [nums_cons, range_cons h1, List.cons_append]
    show ends (endStep out prev x.1) (some x.1) _ = _
    have e : endStep out prev x.1 = out ++ [x.1, x.1 + 1] := by
      unfold endStep
      rw [if_neg]
      intro hh
      have := hp _ hh x List.mem_cons_self
      omega
    rw [e]
    have hr := ends_range out x.1 (x.2 - (x.1 + 1)).toNat (x.1 + 1) (nums s)
    rw [show x.1 + 1 - 1 = x.1 by omega, show x.1 + 1 + ((x.2 - (x.1 + 1)).toNat : Int) = x.2 by omega] at hr
    rw [hr, ends_nums s _ _ h3 fun p hp' y hy => ?_]
    · simp [flat]
    · have := h2 y hy
      simp at hp'
      omega
theorem ends_set {s : List Span} (h : Canon s) : ends [] none (nums s) = flat s := by
  have := ends_nums s [] none h (fun p hp => by cases hp)
  simpa using this

theorem nums_inj {s t : List Span} (hs : Canon s) (ht : Canon t) (h : nums s = nums t) : s = t :=
  canon_unique s t hs ht fun n => by rw [← mem_nums, h, mem_nums]

/-! ### joined: rising spans, that may lie over one another or side by side -/

def joinStep (acc : List Span) (x : Span) : List Span :=
  match acc.getLast? with
  | none => [x]
  | some z => if z.2 < x.1 then acc ++ [x] else acc.dropLast ++ [(z.1, max z.2 x.2)]
theorem joinStep_nil (x : Span) : joinStep [] x = [x] := rfl
theorem joinStep_snoc (init : List Span) (z x : Span) : joinStep (init ++ [z]) x = if z.2 < x.1 then init ++ [z] ++ [x] else init ++ [(z.1, max z.2 x.2)] := by
  unfold joinStep
  rw [List.getLast?_concat]
  simp only [List.dropLast_concat]
/-- acc is a set, no span of it begins behind x, ... -/
theorem join_ok {acc : List Span} {x : Span} (h : Canon acc) (hx : x.1 < x.2) (hb : ∀ z, z ∈ acc → z.1 ≤ x.1) :
    Canon (joinStep acc x) ∧ (∀ z, z ∈ joinStep acc x → z.1 ≤ x.1) ∧ (∀ n, Mem (joinStep acc x) n ↔ Mem acc n ∨ (x.1 ≤ n ∧ n < x.2)) ∧ (joinStep acc x).length ≤ acc.length + 1 := by
  rcases List.eq_nil_or_concat acc with rfl | ⟨init, z, rfl⟩
  · rw [joinStep_nil]
    exact ⟨canon_one hx, by simp, fun n => by rw [mem_one]; exact ⟨.inr, fun h => h.elim (fun h => absurd h (mem_nil n)) id⟩, by simp⟩
  · rw [List.concat_eq_append] at h hb ⊢
    rw [joinStep_snoc]
    obtain ⟨h1, h2, h3⟩ := canon_snoc.1 h
    have hz := hb z (by simp)
    split
    · rename_i hlt
      refine ⟨canon_snoc.2 ⟨h, hx, fun y hy => ?_⟩, fun y hy => ?_, fun n => by rw [mem_append, mem_one], by simp⟩
      · rcases List.mem_append.1 hy with hy | hy
        · have := h3 y hy; omega
        · simp at hy; subst hy; exact hlt
      · rcases List.mem_append.1 hy with hy | hy
        · exact hb y hy
        · simp at hy; subst hy; omega
    · rename_i hge
      refine ⟨canon_snoc.2 ⟨h1, by simp; omega, h3⟩, fun y hy => ?_, fun n => ?_, by simp⟩
      · rcases List.mem_append.1 hy with hy | hy
        · exact hb y (List.mem_append_left _ hy)
        · simp at hy; subst hy; exact hz
      · rw [mem_append, mem_append, mem_one, mem_one]
        constructor
        · rintro (hm | hm)
          · exact .inl (.inl hm)
          · simp only at hm
            by_cases hc : n < z.2
            · exact .inl (.inr ⟨hm.1, hc⟩)
            · refine .inr ⟨by omega, ?_⟩
              have := hm.2
              omega
        · rintro ((hm | hm) | hm)
          · exact .inl hm
          · exact .inr ⟨hm.1, by simp only; omega⟩
          · exact .inr ⟨by omega, by simp only; omega⟩

/-! ### others: all numbers that may be and aren't -/

def least : Int := -1099511627776
def behind : Int := 1099511627777
/-- All numbers of a set may be. -/
def Within (s : List Span) : Prop := ∀ x, x ∈ s → least ≤ x.1 ∧ x.2 ≤ behind
/-- Behind a first part s of a set: what isn't there, up to where it goes on. -/
structure OthersAt (s o : List Span) (frm : Int) : Prop where
  canon : Canon o
  low : least ≤ frm
  top : frm ≤ behind
  ends_ : ∀ z, z ∈ o → z.2 < frm
  lows : ∀ z, z ∈ o → least ≤ z.1
  last : ∀ z, z ∈ s → z.2 ≤ frm
  tight : frm = least ∨ ∃ z, z ∈ s ∧ z.2 = frm
  mem : ∀ n, n < frm → least ≤ n → (Mem o n ↔ ¬ Mem s n)
theorem othersAt_nil : OthersAt [] [] least := ⟨canon_nil, by decide, by decide, by simp, by simp, by simp, .inl rfl, fun n h1 h2 => by omega⟩
theorem othersAt_step {s o : List Span} {frm : Int} {x : Span} (h : OthersAt s o frm) (hx : x.1 < x.2) (hs : ∀ z, z ∈ s → z.2 < x.1) (hw1 : least ≤ x.1) (hw2 : x.2 ≤ behind) :
    OthersAt (s ++ [x]) (if frm < x.1 then o ++ [(frm, x.1)] else o) x.2 := by
  have hfx : frm ≤ x.1 := by
    rcases h.tight with e | ⟨z, hz, e⟩
    · omega
    · have := hs z hz; omega
  have hS : ∀ n, Mem s n → n < frm := fun n ⟨z, hz, h1, h2⟩ => by have := h.last z hz; omega
  have hO : ∀ n, Mem o n → n < frm := fun n ⟨z, hz, h1, h2⟩ => by have := h.ends_ z hz; omega
  split
  · rename_i hlt
    refine ⟨canon_snoc.2 ⟨h.canon, hlt, h.ends_⟩, by omega, hw2, fun z hz => ?_, fun z hz => ?_, fun z hz => ?_, .inr ⟨x, by simp, rfl⟩, fun n h1 h2 => ?_⟩
    · rcases List.mem_append.1 hz with hz | hz
      · have := h.ends_ z hz; omega
      · simp at hz; subst hz; exact hx
    · rcases List.mem_append.1 hz with hz | hz
      · exact h.lows z hz
      · simp at hz; subst hz; exact h.low
    · rcases List.mem_append.1 hz with hz | hz
      · have := h.last z hz; omega
      · simp at hz; subst hz; omega
    · rw [mem_append, mem_append, mem_one, mem_one]
      simp only
      by_cases hn : n < frm
      · have := h.mem n hn h2
        constructor
        · rintro (hm | hm)
          · rintro (hm2 | hm2)
            · exact this.1 hm hm2
            · omega
          · omega
        · intro hm
          exact .inl (this.2 fun hh => hm (.inl hh))
      · constructor
        · rintro (hm | hm)
          · exact absurd (hO n hm) hn
          · rintro (hm2 | hm2)
            · exact hn (hS n hm2)
            · omega
        · intro hm
          refine .inr ⟨by omega, ?_⟩
          by_cases hc : n < x.1
          · exact hc
          · exact absurd (.inr ⟨by omega, h1⟩) hm
  · rename_i hge
    have he : frm = x.1 := by omega
    refine ⟨h.canon, by omega, hw2, fun z hz => ?_, h.lows, fun z hz => ?_, .inr ⟨x, by simp, rfl⟩, fun n h1 h2 => ?_⟩
    · have := h.ends_ z hz; omega
    · rcases List.mem_append.1 hz with hz | hz
      · have := h.last z hz; omega
      · simp at hz; subst hz; omega
    · rw [mem_append, mem_one]
      by_cases hn : n < frm
      · have := h.mem n hn h2
        constructor
        · intro hm
          rintro (hm2 | hm2)
          · exact this.1 hm hm2
          · omega
        · intro hm
          exact this.2 fun hh => hm (.inl hh)
      · constructor
        · intro hm; exact absurd (hO n hm) hn
        · intro hm; exact absurd (.inr ⟨by omega, h1⟩) hm
/-- All of them. -/
theorem others_end {s o : List Span} {frm : Int} (h : OthersAt s o frm) :
    Canon (if frm < behind then o ++ [(frm, behind)] else o) ∧ Within (if frm < behind then o ++ [(frm, behind)] else o) ∧ ∀ n, Mem (if frm < behind then o ++ [(frm, behind)] else o) n ↔ least ≤ n ∧ n < behind ∧ ¬ Mem s n := by
  have hS : ∀ n, Mem s n → n < frm := fun n ⟨z, hz, h1, h2⟩ => by have := h.last z hz; omega
  have hO : ∀ n, Mem o n → n < frm ∧ least ≤ n := fun n ⟨z, hz, h1, h2⟩ => by have := h.ends_ z hz; have := h.lows z hz; omega
  have hb := h.top
  have hlow := h.low
  split
  · rename_i hlt
    refine ⟨canon_snoc.2 ⟨h.canon, hlt, h.ends_⟩, fun z hz => ?_, fun n => ?_⟩
    · rcases List.mem_append.1 hz with hz | hz
      · have := h.ends_ z hz; have := h.lows z hz; omega
      · simp at hz; subst hz; exact ⟨h.low, Int.le_refl _⟩
    · rw [mem_append, mem_one]
      simp only
      constructor
      · rintro (hm | hm)
        · have h1 := hO n hm
          exact ⟨h1.2, by omega, (h.mem n h1.1 h1.2).1 hm⟩
        · exact ⟨by omega, by omega, fun hh => by have := hS n hh; omega⟩
      · rintro ⟨h1, h2, h3⟩
        by_cases hn : n < frm
        · exact .inl ((h.mem n hn h1).2 h3)
        · exact .inr ⟨by omega, h2⟩
  · refine ⟨h.canon, fun z hz => ?_, fun n => ?_⟩
    · have := h.ends_ z hz; have := h.lows z hz; omega
    · constructor
      · intro hm
        have h1 := hO n hm
        exact ⟨h1.2, by omega, (h.mem n h1.1 h1.2).1 hm⟩
      · rintro ⟨h1, h2, h3⟩
        exact (h.mem n (by omega) h1).2 h3

/-! ### Both: two sets, span by span -/

/-- b: what both have ahead of what is left of them, s and t; S and T: the whole sets. -/
structure BothAt (S T s t b : List Span) : Prop where
  cs : Canon s
  ct : Canon t
  cb : Canon b
  apart : ∀ z, z ∈ b → ∀ x, x ∈ s → ∀ y, y ∈ t → z.2 < max x.1 y.1
  mem : ∀ n, (Mem S n ∧ Mem T n) ↔ Mem b n ∨ (Mem s n ∧ Mem t n)
theorem bothAt_start {S T : List Span} (hs : Canon S) (ht : Canon T) : BothAt S T S T [] := ⟨hs, ht, canon_nil, by simp, fun n => ⟨.inr, fun h => h.elim (fun h => absurd h (mem_nil n)) id⟩⟩
def meet (x y : Span) : Span := (max x.1 y.1, min x.2 y.2)
theorem bothAt_step {S T s t b : List Span} {x y : Span} (h : BothAt S T (x :: s) (y :: t) b) :
    BothAt S T (if x.2 < y.2 then s else x :: s) (if x.2 < y.2 then y :: t else t) (if max x.1 y.1 < min x.2 y.2 then b ++ [meet x y] else b) := by
  obtain ⟨hx, hxs, hs⟩ := canon_cons.1 h.cs
  obtain ⟨hy, hyt, ht⟩ := canon_cons.1 h.ct
  have hsn : ∀ n, Mem s n → x.2 < n := fun n ⟨z, hz, h1, _⟩ => by have := hxs z hz; omega
  have htn : ∀ n, Mem t n → y.2 < n := fun n ⟨z, hz, h1, _⟩ => by have := hyt z hz; omega
  have hap : ∀ z, z ∈ b → z.2 < max x.1 y.1 := fun z hz => h.apart z hz x List.mem_cons_self y List.mem_cons_self
  have cb : Canon (if max x.1 y.1 < min x.2 y.2 then b ++ [meet x y] else b) := by
    split
    · rename_i hm
      exact canon_snoc.2 ⟨h.cb, hm, hap⟩
    · exact h.cb
  have mb : ∀ z, z ∈ (if max x.1 y.1 < min x.2 y.2 then b ++ [meet x y] else b) → z ∈ b ∨ z.2 = min x.2 y.2 := by
    intro z hz
    split at hz
    · rcases List.mem_append.1 hz with hz | hz
      · exact .inl hz
      · simp at hz; subst hz; exact .inr rfl
    · exact .inl hz
  have mm : ∀ n, Mem (if max x.1 y.1 < min x.2 y.2 then b ++ [meet x y] else b) n ↔ Mem b n ∨ (max x.1 y.1 ≤ n ∧ n < min x.2 y.2) := by
    intro n
    split
    · rw [mem_append, mem_one]; rfl
    · rename_i hm
      exact ⟨.inl, fun hh => hh.elim id fun hh => by omega⟩
  by_cases hlt : x.2 < y.2
  · rw [if_pos hlt, if_pos hlt]
    refine ⟨hs, h.ct, cb, fun z hz u hu v hv => ?_, fun n => ?_⟩
    · rcases mb z hz with hz | hz
      · exact h.apart z hz u (List.mem_cons_of_mem _ hu) v hv
      · have := hxs u hu; omega
    · rw [h.mem n, mm n, mem_cons, mem_cons]
      constructor
      · rintro (hm | ⟨hm | hm, hm2 | hm2⟩)
        · exact .inl (.inl hm)
        · exact .inl (.inr (by omega))
        · have := htn n hm2; omega
        · exact .inr ⟨hm, .inl hm2⟩
        · exact .inr ⟨hm, .inr hm2⟩
      · rintro ((hm | hm) | ⟨hm, hm2⟩)
        · exact .inl hm
        · exact .inr ⟨.inl (by omega), .inl (by omega)⟩
        · exact .inr ⟨.inr hm, hm2⟩
  · rw [if_neg hlt, if_neg hlt]
    refine ⟨h.cs, ht, cb, fun z hz u hu v hv => ?_, fun n => ?_⟩
    · rcases mb z hz with hz | hz
      · exact h.apart z hz u hu v (List.mem_cons_of_mem _ hv)
      · have := hyt v hv; omega
    · rw [h.mem n, mm n, mem_cons, mem_cons]
      constructor
      · rintro (hm | ⟨hm | hm, hm2 | hm2⟩)
        · exact .inl (.inl hm)
        · exact .inl (.inr (by omega))
        · exact .inr ⟨.inl hm, hm2⟩
        · have := hsn n hm; omega
        · exact .inr ⟨.inr hm, hm2⟩
      · rintro ((hm | hm) | ⟨hm, hm2⟩)
        · exact .inl hm
        · exact .inr ⟨.inl (by omega), .inl (by omega)⟩
        · exact .inr ⟨hm, .inr hm2⟩
theorem bothAt_end {S T s t b : List Span} (h : BothAt S T s t b) (he : s = [] ∨ t = []) : Canon b ∧ ∀ n, Mem b n ↔ Mem S n ∧ Mem T n :=
  ⟨h.cb, fun n => by
    rw [h.mem n]
    refine ⟨.inl, fun hh => hh.elim id fun ⟨h1, h2⟩ => ?_⟩
    rcases he with rfl | rfl
    · exact absurd h1 (mem_nil n)
    · exact absurd h2 (mem_nil n)⟩

/-! ### The document's rising lists -/

/-- A rising list with a number. -/
def put (l : List Int) (x : Int) : List Int := if x ∈ l then l else l.filter (· < x) ++ x :: l.filter (x < ·)
theorem put_rise {l : List Int} (h : l.Pairwise (· < ·)) (x : Int) : (put l x).Pairwise (· < ·) := by
  unfold put
  split
  · exact h
  · rw [List.pairwise_append]
    refine ⟨h.filter _, List.pairwise_cons.2 ⟨fun a ha => by simpa using (List.mem_filter.1 ha).2, h.filter _⟩, fun a ha b hb => ?_⟩
    have h1 : a < x := by simpa using (List.mem_filter.1 ha).2
    rcases List.mem_cons.1 hb with rfl | hb
    · exact h1
    · have h2 : x < b := by simpa using (List.mem_filter.1 hb).2
      omega
theorem mem_put (l : List Int) (x n : Int) : n ∈ put l x ↔ n = x ∨ n ∈ l := by
  unfold put
  split
  · rename_i hx
    exact ⟨.inr, fun h => h.elim (fun h => h ▸ hx) id⟩
  · rw [List.mem_append, List.mem_cons, List.mem_filter, List.mem_filter]
    simp only [decide_eq_true_eq]
    constructor
    · rintro (h | h | h)
      · exact .inr h.1
      · exact .inl h
      · exact .inr h.1
    · rintro (h | h)
      · exact .inr (.inl h)
      · rename_i hx
        rcases Int.lt_trichotomy n x with h1 | h1 | h1
        · exact .inl ⟨h, h1⟩
        · exact absurd (h1 ▸ h) hx
        · exact .inr (.inr ⟨h, h1⟩)
theorem length_put (l : List Int) (x : Int) : (put l x).length ≤ l.length + 1 := by
  unfold put
  split
  · omega
  · have : (l.filter (· < x)).length + (l.filter (x < ·)).length ≤ l.length := by
      rename_i hx
      clear hx
      induction l with
      | nil => simp
      | cons a l ih =>
        simp only [List.filter_cons]
        by_cases h1 : a < x
        · have h2 : ¬ x < a := by omega
          simp [h1, h2] at ih ⊢; omega
        · by_cases h2 : x < a <;> simp [h1, h2] at ih ⊢ <;> omega
    simp
    omega
end Go.Proofs.Ytgfdgcpbmjhmmaa.Sp
