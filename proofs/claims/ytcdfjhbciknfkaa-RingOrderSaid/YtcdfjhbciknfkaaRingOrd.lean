/- A row of package ring of strings and two lists that a law grows beside it: each call's effect. Conditions: no two of them share a block. -/
import Derived.Test.YtcdfjhbciknfkaaRingSessStr
import Derived.Test.YtcdfjhbciknfkaaAppendSrc
namespace Go.Proofs.Ytcdfjhbciknfkaa.string
open Go.RowKit
set_option linter.unusedVariables false

abbrev VI (l : List ByteArray) : List Value := l.map .string
theorem own_kept {w w' : World} {base n : Nat} {e : TypeId} {v : Value} {l : List Value} (h : w.ownsRow base e 1 v n l) (hb : ∀ k, v.ownBlock = some k → w'.heap[k]? = w.heap[k]?) : w'.ownsRow base e 1 v n l := by
  refine ⟨h.1, ?_⟩
  rcases h.2 with hn | ⟨g, cap, cur, rfl, hg, hgg, rest⟩
  · exact .inl hn
  · exact .inr ⟨g, cap, cur, rfl, hg, by rw [hb g rfl]; exact hgg, rest⟩
/-- The law's state: the row in block r is xs; vi and vo are lists of the law's own, of ins and of outs. -/
def Ord (w0 w : World) (r most : Nat) (xs : List ByteArray) (vi : Value) (ins : List ByteArray) (vo : Value) (outs : List ByteArray) : Prop :=
  ∃ S : Nat → Prop, RingIn T 9 w S r (VI xs) most ∧ (∀ k, S k → w0.heap.size ≤ k) ∧ Below w0.heap.size w0 w ∧
    w.ownsRow w0.heap.size 9 1 vi ins.length (VI ins) ∧ w.ownsRow w0.heap.size 9 1 vo outs.length (VI outs) ∧
    (∀ k, vi.ownBlock = some k → ¬ S k) ∧ (∀ k, vo.ownBlock = some k → ¬ S k) ∧ (∀ k, vi.ownBlock = some k → vo.ownBlock ≠ some k)
theorem Ord.sess {w0 w : World} {r most : Nat} {xs ins outs : List ByteArray} {vi vo : Value} (h : Ord w0 w r most xs vi ins vo outs) : Sess w0 w r (VI xs) most := ⟨h.choose, h.choose_spec.1, h.choose_spec.2.1, h.choose_spec.2.2.1⟩
theorem Ord.bel {w0 w : World} {r most : Nat} {xs ins outs : List ByteArray} {vi vo : Value} (h : Ord w0 w r most xs vi ins vo outs) : Below w0.heap.size w0 w := h.sess.bel
theorem Ord.le {w0 w : World} {r most : Nat} {xs ins outs : List ByteArray} {vi vo : Value} (h : Ord w0 w r most xs vi ins vo outs) : xs.length ≤ most := by have := h.sess.le; rwa [List.length_map] at this
theorem Ord.rowIn {w0 w : World} {r most : Nat} {xs ins outs : List ByteArray} {vi vo : Value} (h : Ord w0 w r most xs vi ins vo outs) : w.ownsRow w0.heap.size 9 1 vi ins.length (VI ins) := h.choose_spec.2.2.2.1
theorem Ord.rowOut {w0 w : World} {r most : Nat} {xs ins outs : List ByteArray} {vi vo : Value} (h : Ord w0 w r most xs vi ins vo outs) : w.ownsRow w0.heap.size 9 1 vo outs.length (VI outs) := h.choose_spec.2.2.2.2.1
theorem Ord.start {w0 w : World} {r most : Nat} {xs : List ByteArray} (h : Sess w0 w r (VI xs) most) : Ord w0 w r most xs (.slice none 0 0) [] (.slice none 0 0) [] := by
  obtain ⟨S, h1, h2, h3⟩ := h
  exact ⟨S, h1, h2, h3, World.ownsRow_nil w _ _ _, World.ownsRow_nil w _ _ _, fun k hk => (by cases hk), fun k hk => (by cases hk), fun k hk => (by cases hk)⟩
theorem Ord.below {w0 w w' : World} {r most : Nat} {xs ins outs : List ByteArray} {vi vo : Value} (h : Ord w0 w r most xs vi ins vo outs) (hb : Below w.heap.size w w') : Ord w0 w' r most xs vi ins vo outs := by
  obtain ⟨S, h1, h2, h3, h4, h5, h6, h7, h8⟩ := h
  exact ⟨S, h1.below hb, h2, h3.trans (hb.mono h3.size), own_kept h4 fun k hk => hb.block k (h4.lt k hk).2, own_kept h5 fun k hk => hb.block k (h5.lt k hk).2, h6, h7, h8⟩
theorem Ord.drewN {w0 w : World} {r most : Nat} {xs ins outs : List ByteArray} {vi vo : Value} (h : Ord w0 w r most xs vi ins vo outs) (n : Nat) : Ord w0 (w.drewN n) r most xs vi ins vo outs := h.below ⟨rfl, rfl, rfl, Nat.le_refl _, fun _ _ => rfl⟩
/-- What writes to the row's blocks alone. -/
theorem Ord.step {w0 w w' : World} {S S' : Nat → Prop} {r most : Nat} {xs ins outs : List ByteArray} {vi vo : Value} (hS' : ∀ k, S' k → S k ∨ w.heap.size ≤ k) (h1 : RingIn T 9 w' S' r (VI xs) most) (hk : Kept S w w')
    (h2 : ∀ k, S k → w0.heap.size ≤ k) (h3 : Below w0.heap.size w0 w) (h4 : w.ownsRow w0.heap.size 9 1 vi ins.length (VI ins)) (h5 : w.ownsRow w0.heap.size 9 1 vo outs.length (VI outs))
    (h6 : ∀ k, vi.ownBlock = some k → ¬ S k) (h7 : ∀ k, vo.ownBlock = some k → ¬ S k) (h8 : ∀ k, vi.ownBlock = some k → vo.ownBlock ≠ some k) : Ord w0 w' r most xs vi ins vo outs :=
  ⟨S', h1, fun k hk' => (hS' k hk').elim (h2 k) (Nat.le_trans h3.size), h3.trans (hk.below h3.size h2), own_kept h4 fun k hk' => hk.block k (h4.lt k hk').2 (h6 k hk'), own_kept h5 fun k hk' => hk.block k (h5.lt k hk').2 (h7 k hk'),
    fun k hk' hs => (hS' k hs).elim (h6 k hk') fun h => by have := (h4.lt k hk').2; omega, fun k hk' hs => (hS' k hs).elim (h7 k hk') fun h => by have := (h5.lt k hk').2; omega, h8⟩

theorem o_putYes {w0 w : World} {r most : Nat} {xs ins outs : List ByteArray} {vi vo : Value} (h : Ord w0 w r most xs vi ins vo outs) (hroom : xs.length < most) (x : ByteArray) :
    Calls Try.prog 41 #[.pointer (some ⟨r, 0, none⟩), .string x] w fun e w' => e = .returned (.int .i64 0) ∧ Ord w0 w' r most (xs ++ [x]) vi ins vo outs := by
  obtain ⟨S, h1, h2, h3, h4, h5, h6, h7, h8⟩ := h
  refine (putYes w S r most (VI xs) h1 (by rw [List.length_map]; exact hroom) x).mono fun e w' ⟨he, h9, hk⟩ => ⟨he, Ord.step (S := S) (S' := Plus S w w') (fun k hk => hk.elim .inl fun h => .inr h.1) ?_ hk h2 h3 h4 h5 h6 h7 h8⟩
  rw [show VI (xs ++ [x]) = VI xs ++ [.string x] by simp]
  exact h9
theorem o_putNo {w0 w : World} {r most : Nat} {xs ins outs : List ByteArray} {vi vo : Value} (h : Ord w0 w r most xs vi ins vo outs) (hfull : xs.length = most) (x : ByteArray) :
    Calls Try.prog 41 #[.pointer (some ⟨r, 0, none⟩), .string x] w fun e w' => e = .returned (.int .i64 7) ∧ Ord w0 w' r most xs vi ins vo outs := by
  have h0 := h
  obtain ⟨S, h1, _⟩ := h
  exact (putNo w S r most (VI xs) h1 (by rw [List.length_map]; exact hfull) x).mono fun e w' ⟨he, q, hq⟩ => ⟨he, by rw [hq]; exact h0.drewN q⟩
theorem o_takeYes {w0 w : World} {r most : Nat} {x : ByteArray} {xs ins outs : List ByteArray} {vi vo : Value} (h : Ord w0 w r most (x :: xs) vi ins vo outs) :
    Calls Try.prog 42 #[.pointer (some ⟨r, 0, none⟩)] w fun e w' => e = .returned (.tuple #[.string x, .int .i64 0]) ∧ Ord w0 w' r most xs vi ins vo outs := by
  obtain ⟨S, h1, h2, h3, h4, h5, h6, h7, h8⟩ := h
  exact (takeYes w S r most x (VI xs) h1).mono fun e w' ⟨he, h9, hk⟩ => ⟨he, Ord.step (S := S) (S' := S) (fun k hk => .inl hk) h9 hk h2 h3 h4 h5 h6 h7 h8⟩
theorem o_takeNo {w0 w : World} {r most : Nat} {ins outs : List ByteArray} {vi vo : Value} (h : Ord w0 w r most [] vi ins vo outs) :
    Calls Try.prog 42 #[.pointer (some ⟨r, 0, none⟩)] w fun e w' => e = .returned (.tuple #[.string ⟨#[]⟩, .int .i64 9]) ∧ w = w' := s_takeNo h.sess
theorem o_clear {w0 w : World} {r most : Nat} {xs ins outs : List ByteArray} {vi vo : Value} (h : Ord w0 w r most xs vi ins vo outs) :
    Calls Try.prog 43 #[.pointer (some ⟨r, 0, none⟩)] w fun e w' => ∃ u, e = .returned u ∧ RowV w' u (VI xs) ∧ Ord w0 w' r most [] vi ins vo outs := by
  obtain ⟨S, h1, h2, h3, h4, h5, h6, h7, h8⟩ := h
  exact (clear_ w S r most (VI xs) h1).mono fun e w' ⟨u, he, hu, h9, hk⟩ => ⟨u, he, hu.imp id fun h => ⟨h.1, _, h.2⟩, Ord.step (S := S) (S' := S) (fun k hk => .inl hk) h9 hk h2 h3 h4 h5 h6 h7 h8⟩

theorem Ord.addIn {w0 w w' : World} {r most n : Nat} {xs ins zs outs : List ByteArray} {vi vo v' : Value} (h : Ord w0 w r most xs vi ins vo outs) (hg : w.grownBy w' vi.ownBlock) (hown : w'.ownsRow w0.heap.size 9 1 v' n (VI zs)) (hn : n = zs.length) (hv : v'.ownBlock = vi.ownBlock ∨ v'.ownBlock = some w.heap.size) :
    Ord w0 w' r most xs v' zs vo outs := by
  subst hn
  obtain ⟨S, h1, h2, h3, h4, h5, h6, h7, h8⟩ := h
  refine ⟨S, h1.of_blocks (fun _ h => h) (fun k hk => hg.block k (h1.lt k hk) fun e => h6 k e.symm hk) (fun k hk => Nat.lt_of_lt_of_le (h1.lt k hk) hg.size), h2, h3.grown hg h3.size (fun k hk => (h4.lt k hk).1), hown, own_kept h5 fun k hk => hg.block k (h5.lt k hk).2 fun e => h8 k e.symm hk, fun k hk hS => ?_, h7, fun k hk => ?_⟩
  · rcases hv with hv | hv
    · exact h6 k (by rw [← hv]; exact hk) hS
    · rw [hv] at hk; injection hk with hk; have := h1.lt k hS; omega
  · rcases hv with hv | hv
    · exact h8 k (by rw [← hv]; exact hk)
    · rw [hv] at hk; injection hk with hk; intro h; have := (h5.lt k h).2; omega
theorem Ord.addOut {w0 w w' : World} {r most n : Nat} {xs ins zs outs : List ByteArray} {vi vo v' : Value} (h : Ord w0 w r most xs vi ins vo outs) (hg : w.grownBy w' vo.ownBlock) (hown : w'.ownsRow w0.heap.size 9 1 v' n (VI zs)) (hn : n = zs.length) (hv : v'.ownBlock = vo.ownBlock ∨ v'.ownBlock = some w.heap.size) :
    Ord w0 w' r most xs vi ins v' zs := by
  subst hn
  obtain ⟨S, h1, h2, h3, h4, h5, h6, h7, h8⟩ := h
  refine ⟨S, h1.of_blocks (fun _ h => h) (fun k hk => hg.block k (h1.lt k hk) fun e => h7 k e.symm hk) (fun k hk => Nat.lt_of_lt_of_le (h1.lt k hk) hg.size), h2, h3.grown hg h3.size (fun k hk => (h5.lt k hk).1), own_kept h4 fun k hk => hg.block k (h4.lt k hk).2 fun e => h8 k hk e.symm, hown, h6, fun k hk hS => ?_, fun k hk => ?_⟩
  · rcases hv with hv | hv
    · exact h7 k (by rw [← hv]; exact hk) hS
    · rw [hv] at hk; injection hk with hk; have := h1.lt k hS; omega
  · rcases hv with hv | hv
    · rw [hv]; exact h8 k hk
    · rw [hv]; intro h; injection h with h; have := (h4.lt k hk).2; omega
end Go.Proofs.Ytcdfjhbciknfkaa.string
