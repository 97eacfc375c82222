/- A row of package ring and a list beside it that a law keeps in memory of its own: each call's effect on both. Conditions: the two share no block. -/
import Derived.Test.YtcdfjhbciknfkaaRingAwake
namespace Go.Proofs.Ytcdfjhbciknfkaa.int
open Go.RowKit
set_option linter.unusedVariables false

/-- A list of numbers in memory, in no block of S. -/
def RowOut (S : Nat → Prop) (w : World) (v : Value) (ys : List Int) : Prop :=
  ∃ (A : Option Addr) (cap : Nat), v = .slice A ys.length cap ∧ ys.length ≤ cap ∧ cap ≤ maxLen ∧ (ys = [] ∨ ∃ b off, A = some ⟨b, off, none⟩ ∧ b < w.heap.size ∧ ¬ S b ∧ ∀ i x, ys[i]? = some x → w.cell? ⟨b, off + i, none⟩ = some (.int .i64 x))
theorem rowOut_nil (S : Nat → Prop) (w : World) : RowOut S w (.slice none 0 0) [] := ⟨none, 0, rfl, Nat.le_refl _, by decide, .inl rfl⟩
theorem RowOut.row {S : Nat → Prop} {w : World} {v : Value} {ys : List Int} (h : RowOut S w v ys) (hl : ys.length ≤ 1048576) : IntRow w v ys := by
  obtain ⟨A, cap, rfl, _, _, hc⟩ := h
  exact ⟨A, cap, rfl, hl, hc.imp id fun ⟨b, off, e, hb, _, hc⟩ => ⟨b, off, e, hb, hc⟩⟩
theorem RowOut.next {S S' : Nat → Prop} {w w' : World} {v : Value} {ys : List Int} (h : RowOut S w v ys) (hs : w.heap.size ≤ w'.heap.size) (hb : ∀ b, b < w.heap.size → ¬ S b → w'.heap[b]? = w.heap[b]?) (hS : ∀ b, b < w.heap.size → S' b → S b) : RowOut S' w' v ys := by
  obtain ⟨A, cap, rfl, h1, h2, hc⟩ := h
  refine ⟨A, cap, rfl, h1, h2, hc.imp id fun ⟨b, off, e, hl, hn, hc⟩ => ⟨b, off, e, Nat.lt_of_lt_of_le hl hs, fun h => hn (hS b hl h), fun i x hx => ?_⟩⟩
  rw [World.cell?_of_block (w := w) (hb b hl hn)]
  exact hc i x hx

/-- The law's state: the row in block r is xs; beside it lie the lists `outs`. -/
def Two (w0 w : World) (r most : Nat) (xs : List Int) (outs : List (Value × List Int)) : Prop :=
  ∃ S : Nat → Prop, RingIn T 3 w S r (VI xs) most ∧ (∀ k, S k → w0.heap.size ≤ k) ∧ Below w0.heap.size w0 w ∧ ∀ p, p ∈ outs → RowOut S w p.1 p.2
theorem Two.sess {w0 w : World} {r most : Nat} {xs : List Int} {outs : List (Value × List Int)} (h : Two w0 w r most xs outs) : Sess w0 w r (VI xs) most := ⟨h.choose, h.choose_spec.1, h.choose_spec.2.1, h.choose_spec.2.2.1⟩
theorem Two.bel {w0 w : World} {r most : Nat} {xs : List Int} {outs : List (Value × List Int)} (h : Two w0 w r most xs outs) : Below w0.heap.size w0 w := h.sess.bel
theorem Two.le {w0 w : World} {r most : Nat} {xs : List Int} {outs : List (Value × List Int)} (h : Two w0 w r most xs outs) : xs.length ≤ most := by have := h.sess.le; rwa [List.length_map] at this
theorem Two.out {w0 w : World} {r most : Nat} {xs ys : List Int} {outs : List (Value × List Int)} {v : Value} (h : Two w0 w r most xs outs) (hm : (v, ys) ∈ outs) : ∃ S, RowOut S w v ys := ⟨_, h.choose_spec.2.2.2 _ hm⟩
theorem Two.row {w0 w : World} {r most : Nat} {xs ys : List Int} {outs : List (Value × List Int)} {v : Value} (h : Two w0 w r most xs outs) (hm : (v, ys) ∈ outs) (hl : ys.length ≤ 1048576) : IntRow w v ys := (h.choose_spec.2.2.2 _ hm).row hl
theorem Two.sub {w0 w : World} {r most : Nat} {xs : List Int} {outs outs' : List (Value × List Int)} (h : Two w0 w r most xs outs) (hs : ∀ p, p ∈ outs' → p ∈ outs) : Two w0 w r most xs outs' := by
  obtain ⟨S, h1, h2, h3, h4⟩ := h
  exact ⟨S, h1, h2, h3, fun p hp => h4 p (hs p hp)⟩
theorem Two.below {w0 w w' : World} {r most : Nat} {xs : List Int} {outs : List (Value × List Int)} (h : Two w0 w r most xs outs) (hb : Below w.heap.size w w') : Two w0 w' r most xs outs := by
  obtain ⟨S, h1, h2, h3, h4⟩ := h
  exact ⟨S, h1.below hb, h2, h3.trans (hb.mono h3.size), fun p hp => (h4 p hp).next hb.size (fun b hl _ => hb.block b hl) (fun _ _ h => h)⟩
/-- Something laid anew beside. -/
theorem Two.add {w0 w w' : World} {r most : Nat} {xs zs : List Int} {outs : List (Value × List Int)} {u : Value} (h : Two w0 w r most xs outs) (hb : Below w.heap.size w w') (hu : RowOut (fun k => k < w.heap.size) w' u zs) : Two w0 w' r most xs ((u, zs) :: outs) := by
  obtain ⟨S, h1, h2, h3, h4⟩ := h
  refine ⟨S, h1.below hb, h2, h3.trans (hb.mono h3.size), fun p hp => ?_⟩
  rcases List.mem_cons.1 hp with rfl | hp
  · exact hu.next (Nat.le_refl _) (fun _ _ _ => rfl) (fun b _ hS => h1.lt b hS)
  · exact (h4 p hp).next hb.size (fun b hl _ => hb.block b hl) (fun _ _ h => h)
theorem Two.drewN {w0 w : World} {r most : Nat} {xs : List Int} {outs : List (Value × List Int)} (h : Two w0 w r most xs outs) (n : Nat) : Two w0 (w.drewN n) r most xs outs := h.below ⟨rfl, rfl, rfl, Nat.le_refl _, fun _ _ => rfl⟩
theorem Two.start {w0 w : World} {r most : Nat} {xs : List Int} (h : Sess w0 w r (VI xs) most) : Two w0 w r most xs [(.slice none 0 0, [])] := by
  obtain ⟨S, h1, h2, h3⟩ := h
  exact ⟨S, h1, h2, h3, fun p hp => by simp at hp; subst hp; exact rowOut_nil S w⟩
theorem Two.nil {w0 w : World} {r most : Nat} {xs : List Int} {outs : List (Value × List Int)} (h : Two w0 w r most xs outs) : Two w0 w r most xs [(.slice none 0 0, [])] := Two.start h.sess
theorem Two.form {w0 w : World} {r most : Nat} {xs ys : List Int} {outs : List (Value × List Int)} {v : Value} (h : Two w0 w r most xs outs) (hm : (v, ys) ∈ outs) : ∃ A cap, v = .slice A ys.length cap ∧ ys.length ≤ cap ∧ cap ≤ maxLen ∧ (ys = [] ∨ ∃ b off, A = some ⟨b, off, none⟩ ∧ ∀ i x, ys[i]? = some x → w.cell? ⟨b, off + i, none⟩ = some (.int .i64 x)) := by
  obtain ⟨S, A, cap, e, h1, h2, h3⟩ := h.out hm
  exact ⟨A, cap, e, h1, h2, h3.imp id fun ⟨b, off, e, _, _, hc⟩ => ⟨b, off, e, hc⟩⟩
/-- Two numbers that were laid in a block of their own. -/
theorem pairOut {w : World} {x y : Int} {t : TypeId} : RowOut (fun k => k < w.heap.size) (w.alloc (.cells #[.int .i64 x, .int .i64 y] t)) (.slice (some ⟨w.heap.size, 0, none⟩) 2 2) [x, y] := by
  refine ⟨_, 2, rfl, by simp, by decide, .inr ⟨w.heap.size, 0, rfl, by simp, by omega, fun i z hz => ?_⟩⟩
  rw [Nat.zero_add, cell_blk (heap_alloc_new w _)]
  match i with
  | 0 => simp at hz; subst hz; rfl
  | 1 => simp at hz; subst hz; rfl
  | i + 2 => simp at hz
theorem Two.pair {w0 w : World} {r most g : Nat} {x y : Int} {xs : List Int} {outs : List (Value × List Int)} (h : Two w0 w r most xs outs) (hm : (.slice (some ⟨g, 0, none⟩) 2 2, [x, y]) ∈ outs) : w.cell? ⟨g, 0, none⟩ = some (.int .i64 x) ∧ w.cell? ⟨g, 1, none⟩ = some (.int .i64 y) := by
  obtain ⟨A, cap, e, _, _, hc⟩ := h.form hm
  rw [Value.slice.injEq] at e
  obtain ⟨e, _, _⟩ := e
  rcases hc with hc | ⟨b, off, e2, hc⟩
  · cases hc
  · rw [← e] at e2
    injection e2 with e2
    injection e2 with e3 e4
    subst e3 e4
    exact ⟨hc 0 x rfl, hc 1 y rfl⟩

theorem t_putYes {w0 w : World} {r most : Nat} {xs : List Int} {outs : List (Value × List Int)} (h : Two w0 w r most xs outs) (hroom : xs.length < most) (x : Int) :
    Calls Try.prog 37 #[.pointer (some ⟨r, 0, none⟩), .int .i64 x] w fun e w' => e = .returned (.int .i64 0) ∧ Two w0 w' r most (xs ++ [x]) outs := by
  obtain ⟨S, h1, h2, h3, h4⟩ := h
  refine (putYes w S r most (VI xs) h1 (by rw [List.length_map]; exact hroom) x).mono fun e w' ⟨he, h5, hk⟩ => ⟨he, Plus S w w', ?_, fun k hk' => hk'.elim (h2 k) fun h => Nat.le_trans h3.size h.1, h3.trans (hk.below h3.size h2), fun p hp => (h4 p hp).next hk.size (fun b hl hn => hk.block b hl hn) fun b hl hS => hS.elim id fun h => by have := h.1; omega⟩
  rw [show VI (xs ++ [x]) = VI xs ++ [.int .i64 x] by simp]
  exact h5
theorem t_putNo {w0 w : World} {r most : Nat} {xs : List Int} {outs : List (Value × List Int)} (h : Two w0 w r most xs outs) (hfull : xs.length = most) (x : Int) :
    Calls Try.prog 37 #[.pointer (some ⟨r, 0, none⟩), .int .i64 x] w fun e w' => e = .returned (.int .i64 7) ∧ Two w0 w' r most xs outs := by
  have h0 := h
  obtain ⟨S, h1, h2, h3, h4⟩ := h
  exact (putNo w S r most (VI xs) h1 (by rw [List.length_map]; exact hfull) x).mono fun e w' ⟨he, q, hq⟩ => ⟨he, by rw [hq]; exact h0.drewN q⟩
theorem t_takeYes {w0 w : World} {r most : Nat} {x : Int} {xs : List Int} {outs : List (Value × List Int)} (h : Two w0 w r most (x :: xs) outs) :
    Calls Try.prog 31 #[.pointer (some ⟨r, 0, none⟩)] w fun e w' => e = .returned (.tuple #[.int .i64 x, .int .i64 0]) ∧ Two w0 w' r most xs outs := by
  obtain ⟨S, h1, h2, h3, h4⟩ := h
  exact (takeYes w S r most x (VI xs) h1).mono fun e w' ⟨he, h5, hk⟩ => ⟨he, S, h5, h2, h3.trans (hk.below h3.size h2), fun p hp => (h4 p hp).next hk.size (fun b hl hn => hk.block b hl hn) fun _ _ h => h⟩
theorem t_clear {w0 w : World} {r most : Nat} {xs : List Int} {outs : List (Value × List Int)} (h : Two w0 w r most xs outs) (hl : xs.length ≤ 1048576) :
    Calls Try.prog 33 #[.pointer (some ⟨r, 0, none⟩)] w fun e w' => ∃ u, e = .returned u ∧ IntRow w' u xs ∧ Two w0 w' r most [] outs := by
  obtain ⟨S, h1, h2, h3, h4⟩ := h
  exact (clear_ w S r most (VI xs) h1).mono fun e w' ⟨u, he, hu, h5, hk⟩ => ⟨u, he, intRow_of (hu.imp id fun h => ⟨h.1, _, h.2⟩) hl, S, h5, h2, h3.trans (hk.below h3.size h2), fun p hp => (h4 p hp).next hk.size (fun b hl hn => hk.block b hl hn) fun _ _ h => h⟩
theorem t_all {w0 w : World} {r most : Nat} {xs : List Int} (h : Sess w0 w r (VI xs) most) (hl : xs.length ≤ 1048576) :
    Calls Try.prog 35 #[.pointer (some ⟨r, 0, none⟩)] w fun e w' => ∃ u, e = .returned u ∧ IntRow w' u xs ∧ Below w.heap.size w w' :=
  (s_all h).mono fun e w' ⟨u, he, hu, hb⟩ => ⟨u, he, intRow_of hu hl, hb⟩

theorem Two.at {w0 w : World} {r most n cap b off j : Nat} {x : Int} {xs ys : List Int} {outs : List (Value × List Int)} (h : Two w0 w r most ys outs) (hm : (.slice (some ⟨b, off, none⟩) n cap, xs) ∈ outs) (hj : xs[j]? = some x) : w.cell? ⟨b, off + j, none⟩ = some (.int .i64 x) := by
  obtain ⟨A, c, e, _, _, hc⟩ := h.form hm
  rw [Value.slice.injEq] at e
  obtain ⟨e, _, _⟩ := e
  rcases hc with hc | ⟨b', off', e2, hc⟩
  · rw [hc] at hj; simp at hj
  · rw [← e] at e2
    injection e2 with e2
    injection e2 with e3 e4
    subst e3 e4
    exact hc j x hj
/-- The list without its first one. -/
theorem two_tail {w0 w : World} {r most : Nat} {x : Int} {xs zs : List Int} {outs : List (Value × List Int)} {A : Option Addr} {n cap : Nat} (h : Two w0 w r most zs outs) (hm : (.slice A n cap, x :: xs) ∈ outs) (b off : Nat) (hA : A = some ⟨b, off, none⟩) (B : Option Addr) (hB : xs = [] ∨ B = some ⟨b, off + 1, none⟩) :
    Two w0 w r most zs [(.slice B (n - 1) (cap - 1), xs)] := by
  obtain ⟨S, g1, g2, g3, g4⟩ := h
  refine ⟨S, g1, g2, g3, fun p hp => ?_⟩
  simp at hp
  subst hp
  have g5 : RowOut S w (.slice A n cap) (x :: xs) := g4 _ hm
  obtain ⟨A', c', he, h1, h2, h3⟩ := g5
  rw [Value.slice.injEq] at he
  obtain ⟨rfl, rfl, rfl⟩ := he
  show RowOut S w (.slice B ((x :: xs).length - 1) (cap - 1)) xs
  rw [List.length_cons] at h1 ⊢
  refine ⟨B, cap - 1, rfl, by omega, by omega, ?_⟩
  rcases hB with hB | hB
  · exact .inl hB
  · rcases h3 with h3 | ⟨b', off', e, hl, hn, hc⟩
    · cases h3
    · rw [hA] at e
      injection e with e
      injection e with e1 e2
      subst e1 e2
      exact .inr ⟨_, _, hB, hl, hn, fun i y hy => by have := hc (i + 1) y (by simpa using hy); rwa [show off + (i + 1) = off + 1 + i by omega] at this⟩
end Go.Proofs.Ytcdfjhbciknfkaa.int
