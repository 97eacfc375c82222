/- The sets that SpanApart speaks of: that there are such, and how long they are. Plain facts. -/
import Derived.Test.YtimmineopkmdmaaSpanApartInv
namespace Go.Proofs.Ytimmineopkmdmaa.Ap
open Go Go.RowKit Go.Proofs.Ytimmineopkmdmaa Reg Sp
set_option linter.unusedVariables false
set_option linter.unusedSimpArgs false

theorem exists_set (l : List Span) (hb : ∀ x, x ∈ l → Small x) : ∃ s', IsSet s' l := by
  refine ⟨((full l).mergeSort fun x y => decide (x.1 ≤ y.1)).foldl joinStep [], isSet_of (List.mergeSort_perm _ _) ?_ hb⟩
  have h := List.pairwise_mergeSort (le := fun x y : Span => decide (x.1 ≤ y.1)) (fun a b c h1 h2 => by simp at h1 h2 ⊢; omega) (fun a b => by simp; omega) (full l)
  exact h.imp fun h => by simpa using h
/-- Of any numbers, each a small one, there is the set. -/
theorem exists_nums (ns : List Int) (hb : ∀ n, n ∈ ns → -4096 ≤ n ∧ n < 4096) : ∃ s', Canon s' ∧ ∀ n, Mem s' n ↔ n ∈ ns := by
  obtain ⟨s', h⟩ := exists_set (ns.map fun n => (n, n + 1)) (fun x hx => by
    obtain ⟨n, hn, rfl⟩ := List.mem_map.1 hx
    have := hb n hn
    unfold Small; simp only; omega)
  refine ⟨s', h.1, fun n => ?_⟩
  rw [h.2.1 n]
  constructor
  · rintro ⟨x, hx, h1, h2⟩
    obtain ⟨m, hm, rfl⟩ := List.mem_map.1 hx
    simp only at h1 h2
    obtain rfl : n = m := by omega
    exact hm
  · intro hn
    exact ⟨(n, n + 1), List.mem_map.2 ⟨n, hn, rfl⟩, by simp, by simp only; omega⟩
theorem mem_small {s : List Span} (hs : ∀ x, x ∈ s → Small x) {n : Int} (h : Mem s n) : -4096 ≤ n ∧ n < 4096 := by
  obtain ⟨x, hx, h1, h2⟩ := h
  have := hs x hx
  unfold Small at this
  omega
theorem small_of_mem2 {s : List Span} (hc : Canon s) (h : ∀ n, Mem s n → -4096 ≤ n ∧ n < 4096) : ∀ x, x ∈ s → Small x := by
  intro x hx
  have h0 := hc.1 x hx
  have h1 := h x.1 ⟨x, hx, Int.le_refl _, h0⟩
  have h2 := h (x.2 - 1) ⟨x, hx, by omega, by omega⟩
  unfold Small
  omega
theorem exists_add (s : List Span) (c : Span) (hs : ∀ x, x ∈ s → Small x) (hc : Small c) : ∃ T, Canon T ∧ (∀ n, Mem T n ↔ Mem s n ∨ Mem [c] n) ∧ ∀ x, x ∈ T → Small x := by
  have hb : ∀ x, x ∈ s ++ [c] → Small x := fun x hx => by
    rcases List.mem_append.1 hx with hx | hx
    · exact hs x hx
    · simp at hx; subst hx; exact hc
  obtain ⟨T, h⟩ := exists_set (s ++ [c]) hb
  exact ⟨T, h.1, fun n => by rw [h.2.1 n, mem_append], h.2.2.2⟩
theorem exists_sift (s : List Span) (p : Int → Bool) (hs : ∀ x, x ∈ s → Small x) : ∃ T, Canon T ∧ (∀ n, Mem T n ↔ Mem s n ∧ p n = true) ∧ ∀ x, x ∈ T → Small x := by
  obtain ⟨T, h1, h2⟩ := exists_nums ((nums s).filter p) (fun n hn => mem_small hs ((mem_nums s n).1 (List.mem_filter.1 hn).1))
  have hm : ∀ n, Mem T n ↔ Mem s n ∧ p n = true := fun n => by rw [h2 n, List.mem_filter, mem_nums]
  exact ⟨T, h1, hm, small_of_mem2 h1 fun n h => mem_small hs ((hm n).1 h).1⟩
def inB (c : Span) (n : Int) : Bool := decide (c.1 ≤ n) && decide (n < c.2)
theorem inB_iff (c : Span) (n : Int) : inB c n = true ↔ Mem [c] n := by rw [mem_one]; unfold inB; simp
theorem exists_drop (s : List Span) (c : Span) (hs : ∀ x, x ∈ s → Small x) : ∃ T, Canon T ∧ (∀ n, Mem T n ↔ Mem s n ∧ ¬ Mem [c] n) ∧ ∀ x, x ∈ T → Small x := by
  obtain ⟨T, h1, h2, h3⟩ := exists_sift s (fun n => !inB c n) hs
  exact ⟨T, h1, fun n => by rw [h2 n, ← inB_iff]; simp, h3⟩
theorem exists_gaps (s : List Span) (c : Span) (hc : Small c) : ∃ T, Canon T ∧ (∀ n, Mem T n ↔ Mem [c] n ∧ ¬ Mem s n) ∧ ∀ x, x ∈ T → Small x := by
  obtain ⟨T, h1, h2, h3⟩ := exists_sift [c] (fun n => decide (n ∉ nums s)) (fun x hx => by simp at hx; subst hx; exact hc)
  exact ⟨T, h1, fun n => by rw [h2 n, decide_eq_true_eq, mem_nums], h3⟩
theorem nums_nodup {s : List Span} (h : Canon s) : (nums s).Nodup := (nums_rise h).imp fun h => by omega
/-- What is added is what wasn't there. -/
theorem len_gaps {s SA G : List Span} {c : Span} (hs : Canon s) (hA : Canon SA) (hG : Canon G) (mA : ∀ n, Mem SA n ↔ Mem s n ∨ Mem [c] n) (mG : ∀ n, Mem G n ↔ Mem [c] n ∧ ¬ Mem s n) : lenOf SA - lenOf s = lenOf G := by
  have hp : (nums SA).Perm (nums s ++ nums G) := by
    rw [List.perm_ext_iff_of_nodup (nums_nodup hA) (List.nodup_append.2 ⟨nums_nodup hs, nums_nodup hG, fun a h1 b h2 e => by
      subst e
      rw [mem_nums] at h1 h2
      exact ((mG a).1 h2).2 h1⟩)]
    intro n
    rw [List.mem_append, mem_nums, mem_nums, mem_nums, mA n, mG n]
    constructor
    · rintro (h | h)
      · exact .inl h
      · by_cases h2 : Mem s n
        · exact .inl h2
        · exact .inr ⟨h, h2⟩
    · rintro (h | h)
      · exact .inl h
      · exact .inr h.1
  have := hp.length_eq
  rw [List.length_append] at this
  rw [lenOf_nums hs, lenOf_nums hA, lenOf_nums hG]
  omega
theorem len_bounds {s : List Span} (hc : Canon s) (hs : ∀ x, x ∈ s → Small x) : 0 ≤ lenOf s ∧ lenOf s ≤ 8192 := by
  rw [lenOf_nums hc]
  refine ⟨by omega, ?_⟩
  have := rise_len 4096 (nums s) (-4096) (by decide) (nums_rise hc) fun n hn => mem_small hs ((mem_nums s n).1 hn)
  omega

/-- All the sets of the law. -/
structure Sets (I : Ins) : Prop where
  cs : Canon I.s
  ss : ∀ x, x ∈ I.s → Small x
  sa : Small I.a
  sb : Small I.b
  cSA : Canon I.SA
  mSA : ∀ n, Mem I.SA n ↔ Mem I.s n ∨ Mem [I.a] n
  cSAmB : Canon I.SAmB
  mSAmB : ∀ n, Mem I.SAmB n ↔ Mem I.SA n ∧ ¬ Mem [I.b] n
  mSAmB' : ∀ n, Mem I.SAmB n ↔ Mem I.SmB n ∨ Mem [I.a] n
  cSmB : Canon I.SmB
  mSmB : ∀ n, Mem I.SmB n ↔ Mem I.s n ∧ ¬ Mem [I.b] n
  cSAB : Canon I.SAB
  mSAB : ∀ n, Mem I.SAB n ↔ Mem I.SA n ∨ Mem [I.b] n
  mSAB' : ∀ n, Mem I.SAB n ↔ Mem I.SB n ∨ Mem [I.a] n
  cSB : Canon I.SB
  mSB : ∀ n, Mem I.SB n ↔ Mem I.s n ∨ Mem [I.b] n
  cSmA : Canon I.SmA
  mSmA : ∀ n, Mem I.SmA n ↔ Mem I.s n ∧ ¬ Mem [I.a] n
  cSmAB : Canon I.SmAB
  mSmAB : ∀ n, Mem I.SmAB n ↔ Mem I.SmA n ∧ ¬ Mem [I.b] n
  mSmAB' : ∀ n, Mem I.SmAB n ↔ Mem I.SmB n ∧ ¬ Mem [I.a] n
  cG : Canon I.G
  mG : ∀ n, Mem I.G n ↔ Mem [I.a] n ∧ ¬ Mem I.s n
  len : lenOf I.SA - lenOf I.s = lenOf I.G
  lenB : 0 ≤ lenOf I.G ∧ lenOf I.G ≤ 8192
theorem sets_of (s : List Span) (a b : Span) (su : Value) (ga gb : Nat) (cs : Canon s) (ss : ∀ x, x ∈ s → Small x) (sa : Small a) (sb : Small b) (hap : ∀ n, ¬ (Mem [a] n ∧ Mem [b] n)) :
    ∃ SA SAmB SmB SAB SB SmA SmAB G, Sets ⟨s, a, b, su, ga, gb, SA, SAmB, SmB, SAB, SB, SmA, SmAB, G⟩ := by
  obtain ⟨SA, cSA, mSA, sSA⟩ := exists_add s a ss sa
  obtain ⟨SAmB, cSAmB, mSAmB, _⟩ := exists_drop SA b sSA
  obtain ⟨SmB, cSmB, mSmB, sSmB⟩ := exists_drop s b ss
  obtain ⟨SAB, cSAB, mSAB, _⟩ := exists_add SA b sSA sb
  obtain ⟨SB, cSB, mSB, sSB⟩ := exists_add s b ss sb
  obtain ⟨SmA, cSmA, mSmA, sSmA⟩ := exists_drop s a ss
  obtain ⟨SmAB, cSmAB, mSmAB, _⟩ := exists_drop SmA b sSmA
  obtain ⟨G, cG, mG, sG⟩ := exists_gaps s a sa
  refine ⟨SA, SAmB, SmB, SAB, SB, SmA, SmAB, G, cs, ss, sa, sb, cSA, mSA, cSAmB, mSAmB, fun n => ?_, cSmB, mSmB, cSAB, mSAB, fun n => ?_, cSB, mSB, cSmA, mSmA, cSmAB, mSmAB, fun n => ?_, cG, mG, len_gaps cs cSA cG mSA mG, len_bounds cG sG⟩
  · show Mem SAmB n ↔ Mem SmB n ∨ Mem [a] n
    rw [mSAmB n, mSA n, mSmB n]
    have := hap n
    constructor
    · rintro ⟨h | h, h2⟩
      · exact .inl ⟨h, h2⟩
      · exact .inr h
    · rintro (⟨h, h2⟩ | h)
      · exact ⟨.inl h, h2⟩
      · exact ⟨.inr h, fun h2 => this ⟨h, h2⟩⟩
  · show Mem SAB n ↔ Mem SB n ∨ Mem [a] n
    rw [mSAB n, mSA n, mSB n]
    constructor
    · rintro ((h | h) | h)
      · exact .inl (.inl h)
      · exact .inr h
      · exact .inl (.inr h)
    · rintro ((h | h) | h)
      · exact .inl (.inl h)
      · exact .inr h
      · exact .inl (.inr h)
  · show Mem SmAB n ↔ Mem SmB n ∧ ¬ Mem [a] n
    rw [mSmAB n, mSmA n, mSmB n]
    exact ⟨fun h => ⟨⟨h.1.1, h.2⟩, h.1.2⟩, fun h => ⟨⟨h.1.1, h.2⟩, h.1.2⟩⟩
end Go.Proofs.Ytimmineopkmdmaa.Ap
