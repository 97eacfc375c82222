/- What it is for a row of package ring to lie in memory, whatever its elements: its four cells, its places round about; and what a call that writes to it alone keeps. Plain facts, no program. -/
import Derived.WalkKit
import Derived.Below
import Derived.Laws.AppendOwn
import Derived.Laws.CopyOwn
import Derived.Lib.Hide
import Derived.Deep.Draws
namespace Go.Proofs.Ytgfdgcpbmjhmmaa
open Go.RowKit
set_option linter.unusedVariables false

/-- All that lay there is as it was, but for the blocks of S. -/
structure Kept (S : Nat → Prop) (w w' : World) : Prop where
  os : w'.os = w.os
  tape : w'.tape = w.tape
  output : w'.output = w.output
  size : w.heap.size ≤ w'.heap.size
  block : ∀ k, k < w.heap.size → ¬ S k → w'.heap[k]? = w.heap[k]?

/-- S, and the blocks that came since. -/
def Plus (S : Nat → Prop) (w w' : World) : Nat → Prop := fun k => S k ∨ (w.heap.size ≤ k ∧ k < w'.heap.size)

theorem Kept.refl (S : Nat → Prop) (w : World) : Kept S w w := ⟨rfl, rfl, rfl, Nat.le_refl _, fun _ _ _ => rfl⟩
theorem Kept.trans {S : Nat → Prop} {a b c : World} (h : Kept S a b) (k : Kept (Plus S a b) b c) : Kept S a c :=
  ⟨k.os.trans h.os, k.tape.trans h.tape, k.output.trans h.output, Nat.le_trans h.size k.size, fun i hi hs => by
    rw [k.block i (Nat.lt_of_lt_of_le hi h.size) (fun hp => by rcases hp with hp | hp; exact hs hp; omega)]
    exact h.block i hi hs⟩
theorem Kept.mono {S S' : Nat → Prop} {a b : World} (h : Kept S a b) (hs : ∀ k, S k → S' k) : Kept S' a b := ⟨h.os, h.tape, h.output, h.size, fun k hk hn => h.block k hk fun hS => hn (hs k hS)⟩
theorem Kept.below {S : Nat → Prop} {a b : World} {B : Nat} (h : Kept S a b) (hB : B ≤ a.heap.size) (hS : ∀ k, S k → B ≤ k) : Below B a b :=
  ⟨h.os, h.tape, h.output, h.size, fun k hk => h.block k (by omega) fun hs => by have := hS k hs; omega⟩
theorem Kept.of_below {S : Nat → Prop} {a b : World} (h : Below a.heap.size a b) : Kept S a b := ⟨h.os, h.tape, h.output, h.size, fun k hk _ => h.block k hk⟩
theorem Kept.drewN {S : Nat → Prop} {a b : World} (h : Kept S a b) (n : Nat) : Kept S a (b.drewN n) := ⟨h.os, h.tape, h.output, h.size, h.block⟩
theorem Kept.setCell {S : Nat → Prop} {a b : World} (h : Kept S a b) {p : Addr} (hp : S p.block) (u : Value) : Kept S a (b.setCell p u) :=
  ⟨h.os, h.tape, h.output, by simpa [World.setCell] using h.size, fun k hk hs => by
    rw [Below.heap_setCell _ _ _ _ (fun e => hs (by rw [e]; exact hp))]; exact h.block k hk hs⟩
theorem Plus.trans {S : Nat → Prop} {a b c : World} (h1 : a.heap.size ≤ b.heap.size) (h2 : b.heap.size ≤ c.heap.size) {k : Nat} (h : Plus (Plus S a b) b c k) : Plus S a c k := by
  rcases h with (h | h) | h
  · exact .inl h
  · exact .inr ⟨h.1, by omega⟩
  · exact .inr ⟨by omega, h.2⟩

/-- The places: none yet, or a block of n cells that holds l from `first` on, round about. -/
def Places (E : TypeId) (w : World) (S : Nat → Prop) (r : Nat) (pl : Value) (first : Nat) (l : List Value) (most : Nat) : Prop :=
  (pl = .slice none 0 0 ∧ first = 0 ∧ l = []) ∨
  ∃ (g n : Nat) (cur : Array Value), pl = .slice (some ⟨g, 0, none⟩) n n ∧ S g ∧ g ≠ r ∧ w.heap[g]? = some (.cells cur E (0, 0)) ∧ cur.size = n ∧ 0 < n ∧ n ≤ most ∧ first < n ∧ l.length ≤ n ∧
    ∀ i, i < l.length → cur[(first + i) % n]? = l[i]?

/-- A row of l, of at most `most`, in block r; its blocks are of S. -/
structure RingIn (T E : TypeId) (w : World) (S : Nat → Prop) (r : Nat) (l : List Value) (most : Nat) : Prop where
  at_ : ∃ (pl : Value) (first : Nat), w.heap[r]? = some (.cells #[pl, .int .i64 (first : Int), .int .i64 (l.length : Int), .int .i64 (most : Int)] T (0, 0)) ∧ Places E w S r pl first l most
  mine : S r
  lt : ∀ k, S k → k < w.heap.size
  le : l.length ≤ most
  few : most ≤ 4096
  one : ∀ v ∈ l, v.oneCell' = true

theorem Places.of_blocks {E : TypeId} {w w' : World} {S S' : Nat → Prop} {r : Nat} {pl : Value} {first : Nat} {l : List Value} {most : Nat} (h : Places E w S r pl first l most)
    (hS : ∀ k, S k → S' k) (hb : ∀ k, S k → w'.heap[k]? = w.heap[k]?) : Places E w' S' r pl first l most := by
  rcases h with h | ⟨g, n, cur, h1, h2, h3, h4, rest⟩
  · exact .inl h
  · exact .inr ⟨g, n, cur, h1, hS g h2, h3, by rw [hb g h2]; exact h4, rest⟩
/-- What a call that touches no block of S leaves of it. -/
theorem RingIn.of_blocks {T E : TypeId} {w w' : World} {S S' : Nat → Prop} {r : Nat} {l : List Value} {most : Nat} (h : RingIn T E w S r l most)
    (hS : ∀ k, S k → S' k) (hb : ∀ k, S k → w'.heap[k]? = w.heap[k]?) (hl : ∀ k, S' k → k < w'.heap.size) : RingIn T E w' S' r l most := by
  obtain ⟨pl, first, h1, h2⟩ := h.at_
  exact ⟨⟨pl, first, by rw [hb r h.mine]; exact h1, h2.of_blocks hS hb⟩, hS r h.mine, hl, h.le, h.few, h.one⟩
theorem RingIn.kept {T E : TypeId} {w w' : World} {S S0 : Nat → Prop} {r : Nat} {l : List Value} {most : Nat} (h : RingIn T E w S r l most) (hk : Kept S0 w w') (hd : ∀ k, S k → ¬ S0 k) : RingIn T E w' S r l most :=
  h.of_blocks (fun _ h => h) (fun k hS => hk.block k (h.lt k hS) (hd k hS)) (fun k hS => Nat.lt_of_lt_of_le (h.lt k hS) hk.size)
theorem RingIn.below {T E : TypeId} {w w' : World} {S : Nat → Prop} {r : Nat} {l : List Value} {most : Nat} (h : RingIn T E w S r l most) (hk : Below w.heap.size w w') : RingIn T E w' S r l most :=
  h.kept (Kept.of_below (S := fun _ => False) hk) (fun _ _ h => h)
theorem RingIn.drewN {T E : TypeId} {w : World} {S : Nat → Prop} {r : Nat} {l : List Value} {most : Nat} (h : RingIn T E w S r l most) (n : Nat) : RingIn T E (w.drewN n) S r l most :=
  h.of_blocks (fun _ h => h) (fun _ _ => rfl) h.lt

theorem cell_blk {w : World} {g : Nat} {cs : Array Value} {t : TypeId} (h : w.heap[g]? = some (.cells cs t (0, 0))) (i : Nat) : w.cell? ⟨g, i, none⟩ = cs[i]? := by
  simp [World.cell?, h]
theorem frozen_blk {w : World} {g : Nat} {cs : Array Value} {t : TypeId} (h : w.heap[g]? = some (.cells cs t (0, 0))) (i : Nat) : w.frozen? ⟨g, i, none⟩ = false := by
  simp [World.frozen?, h]
theorem heap_set_same {w : World} {g : Nat} {cs : Array Value} {t : TypeId} (h : w.heap[g]? = some (.cells cs t (0, 0))) (i : Nat) (u : Value) : (w.setCell ⟨g, i, none⟩ u).heap[g]? = some (.cells (cs.setIfInBounds i u) t (0, 0)) := by
  simp [World.setCell, Array.getElem?_modify, h]

/-- The four cells of a row and its places, as a call reads them. -/
structure RingCells (w : World) (r : Nat) (pl : Value) (first many most : Nat) : Prop where
  c0 : w.cell? ⟨r, 0, none⟩ = some pl
  c1 : w.cell? ⟨r, 1, none⟩ = some (.int .i64 (first : Int))
  c2 : w.cell? ⟨r, 2, none⟩ = some (.int .i64 (many : Int))
  c3 : w.cell? ⟨r, 3, none⟩ = some (.int .i64 (most : Int))
  f0 : ∀ i, w.frozen? ⟨r, i, none⟩ = false
theorem ringCells {w : World} {r : Nat} {T : TypeId} {pl : Value} {first many most : Nat} (h : w.heap[r]? = some (.cells #[pl, .int .i64 (first : Int), .int .i64 (many : Int), .int .i64 (most : Int)] T (0, 0))) : RingCells w r pl first many most :=
  ⟨by rw [cell_blk h]; rfl, by rw [cell_blk h]; rfl, by rw [cell_blk h]; rfl, by rw [cell_blk h]; rfl, fun i => frozen_blk h i⟩

theorem RingCells.of_blocks {w w' : World} {r : Nat} {pl : Value} {first many most : Nat} (h : RingCells w r pl first many most) (hb : w'.heap[r]? = w.heap[r]?) : RingCells w' r pl first many most :=
  ⟨by rw [World.cell?_of_block (w := w) hb]; exact h.c0, by rw [World.cell?_of_block (w := w) hb]; exact h.c1, by rw [World.cell?_of_block (w := w) hb]; exact h.c2, by rw [World.cell?_of_block (w := w) hb]; exact h.c3,
    fun i => by rw [World.frozen?_of_block (w := w) hb]; exact h.f0 i⟩
theorem RingCells.setOther {w : World} {r : Nat} {pl : Value} {first many most : Nat} (h : RingCells w r pl first many most) {p : Addr} (hp : r ≠ p.block) (u : Value) : RingCells (w.setCell p u) r pl first many most :=
  h.of_blocks (Below.heap_setCell _ _ _ _ hp)
theorem RingCells.lt {w : World} {r : Nat} {pl : Value} {first many most : Nat} (h : RingCells w r pl first many most) : r < w.heap.size := block_lt_of_cell h.c0

/-- What copied answers: a new row whose first cells are l. -/
def Copied (E : TypeId) (w : World) (size : Nat) (l : List Value) (e : Ending) (w' : World) : Prop :=
  ∃ arr : Array Value, e = .returned (.slice (some ⟨w.heap.size, 0, none⟩) size size) ∧ w'.heap[w.heap.size]? = some (.cells arr E (0, 0)) ∧ arr.size = size ∧ (∀ i, i < l.length → arr[i]? = l[i]?) ∧ Below w.heap.size w w'

def plLen : Value → Nat
  | .slice _ n _ => n
  | _ => 0
theorem Places.len_le {E : TypeId} {w : World} {S : Nat → Prop} {r : Nat} {pl : Value} {first : Nat} {l : List Value} {most : Nat} (h : Places E w S r pl first l most) : l.length ≤ plLen pl ∧ plLen pl ≤ most := by
  rcases h with ⟨rfl, _, rfl⟩ | ⟨g, n, cur, rfl, _, _, _, _, _, h1, _, h2, _⟩
  · exact ⟨by simp, Nat.zero_le _⟩
  · exact ⟨h2, h1⟩

/-- What All answers: nil of none, else a new row that is l. -/
def AllOut (E : TypeId) (w : World) (l : List Value) (e : Ending) (w' : World) : Prop :=
  ∃ v : Value, e = .returned v ∧ ((l = [] ∧ v = .slice none 0 0) ∨ (l ≠ [] ∧ v = .slice (some ⟨w.heap.size, 0, none⟩) l.length l.length ∧ w'.heap[w.heap.size]? = some (.cells l.toArray E (0, 0)))) ∧ Below w.heap.size w w'
theorem allOut_of {E : TypeId} {w w' : World} {l : List Value} {e : Ending} (h0 : l ≠ []) (h : Copied E w l.length l e w') : AllOut E w l e w' := by
  obtain ⟨arr, he, hh, hs, hc, hb⟩ := h
  refine ⟨_, he, .inr ⟨h0, rfl, ?_⟩, hb⟩
  have e : arr = l.toArray := by
    apply Array.ext_getElem?
    intro i
    by_cases hi : i < l.length
    · rw [hc i hi]; simp
    · rw [Array.getElem?_eq_none (by omega), Array.getElem?_eq_none (by simp; omega)]
  rw [← e]; exact hh

/-- Behind a change of the row's own cells alone. -/
theorem below_kept {S : Nat → Prop} {w w2 w3 : World} (h : Below w.heap.size w w2) (h2 : ∀ k, ¬ S k → w3.heap[k]? = w2.heap[k]?) (h3 : w3.os = w2.os ∧ w3.tape = w2.tape ∧ w3.output = w2.output ∧ w3.heap.size = w2.heap.size) : Kept S w w3 :=
  ⟨h3.1.trans h.os, h3.2.1.trans h.tape, h3.2.2.1.trans h.output, by rw [h3.2.2.2]; exact h.size, fun k hk hs => (h2 k hs).trans (h.block k hk)⟩

theorem mod_of_lt2' {a n : Nat} (h : a < n + n) (hn : 0 < n) : a % n = if a < n then a else a - n := by
  split
  · exact Nat.mod_eq_of_lt (by assumption)
  · rw [Nat.mod_eq_sub_mod (by omega), Nat.mod_eq_of_lt (by omega)]
/-- The row behind one taken. -/
theorem took_ring {T E : TypeId} {w W : World} {S : Nat → Prop} {r g n first most : Nat} {x z : Value} {l : List Value} {cur : Array Value} (hk : Kept S w W) (hmine : S r) (hlt : ∀ k, S k → k < w.heap.size) (hle : l.length + 1 ≤ most) (hfew : most ≤ 4096) (hone : ∀ v ∈ x :: l, v.oneCell' = true)
    (hSg : S g) (hgr : g ≠ r) (hn : cur.size = n) (h1 : n ≤ most) (h2 : first < n) (hl : l.length + 1 ≤ n) (hcur : ∀ i, i < (x :: l).length → cur[(first + i) % n]? = (x :: l)[i]?)
    (hr' : W.heap[r]? = some (.cells #[.slice (some ⟨g, 0, none⟩) n n, .int .i64 (((first + 1) % n : Nat) : Int), .int .i64 (l.length : Int), .int .i64 (most : Int)] T (0, 0))) (hg' : W.heap[g]? = some (.cells (cur.setIfInBounds first z) E (0, 0))) :
    RingIn T E W S r l most := by
  have hn0 : 0 < n := by omega
  refine ⟨⟨_, _, hr', .inr ⟨g, n, _, rfl, hSg, hgr, hg', by simpa using hn, hn0, h1, Nat.mod_lt _ hn0, by omega, fun i hi => ?_⟩⟩, hmine, fun k hk' => Nat.lt_of_lt_of_le (hlt k hk') hk.size, by omega, hfew, fun v hv => hone v (List.mem_cons_of_mem _ hv)⟩
  have h := hcur (i + 1) (by simp; omega)
  have e : ((first + 1) % n + i) % n = (first + (i + 1)) % n := by rw [Nat.mod_add_mod]; congr 1; omega
  have hne : ¬ first = (first + (i + 1)) % n := by
    intro he
    by_cases hc : first + (i + 1) < n
    · rw [Nat.mod_eq_of_lt hc] at he; omega
    · rw [Nat.mod_eq_sub_mod (by omega), Nat.mod_eq_of_lt (by omega)] at he; omega
  rw [e, Array.getElem?_setIfInBounds, if_neg hne, h]
  simp

/-- A row whose places are none. -/
theorem none_ring {T E : TypeId} {w W : World} {S : Nat → Prop} {r most : Nat} (hk : Kept S w W) (hmine : S r) (hlt : ∀ k, S k → k < W.heap.size) (hfew : most ≤ 4096)
    (hr' : W.heap[r]? = some (.cells #[.slice none 0 0, .int .i64 0, .int .i64 0, .int .i64 (most : Int)] T (0, 0))) : RingIn T E W S r [] most :=
  ⟨⟨_, 0, hr', .inl ⟨rfl, rfl, rfl⟩⟩, hmine, hlt, Nat.zero_le _, hfew, by simp⟩
/-- A row whose places are just what stands in it. -/
theorem full_ring {T E : TypeId} {W : World} {S : Nat → Prop} {r g most : Nat} {l : List Value} (hmine : S r) (hSg : S g) (hgr : g ≠ r) (hlt : ∀ k, S k → k < W.heap.size) (h0 : l ≠ []) (hle : l.length ≤ most) (hfew : most ≤ 4096) (hone : ∀ v ∈ l, v.oneCell' = true)
    (hr' : W.heap[r]? = some (.cells #[.slice (some ⟨g, 0, none⟩) l.length l.length, .int .i64 0, .int .i64 (l.length : Int), .int .i64 (most : Int)] T (0, 0))) (hg' : W.heap[g]? = some (.cells l.toArray E (0, 0))) :
    RingIn T E W S r l most := by
  have hn : 0 < l.length := by
    rcases Nat.eq_zero_or_pos l.length with h | h
    · exact absurd (List.eq_nil_of_length_eq_zero h) h0
    · exact h
  exact ⟨⟨_, 0, hr', .inr ⟨g, l.length, _, rfl, hSg, hgr, hg', by simp, hn, hle, hn, Nat.le_refl _, fun i hi => by rw [Nat.zero_add, Nat.mod_eq_of_lt hi]; simp⟩⟩, hmine, hlt, hle, hfew, hone⟩

/-- The row behind one put, where there was a place. -/
theorem put_ring {T E : TypeId} {w W : World} {S S' : Nat → Prop} {r g n first most : Nat} {x : Value} {l : List Value} {cur : Array Value} (hmine : S' r) (hlt : ∀ k, S' k → k < W.heap.size) (hle : l.length + 1 ≤ most) (hfew : most ≤ 4096) (hone : ∀ v ∈ l, v.oneCell' = true) (hx : x.oneCell' = true)
    (hSg : S' g) (hgr : g ≠ r) (hn : cur.size = n) (h1 : n ≤ most) (h2 : first < n) (hl : l.length + 1 ≤ n) (hcur : ∀ i, i < l.length → cur[(first + i) % n]? = l[i]?)
    (hr' : W.heap[r]? = some (.cells #[.slice (some ⟨g, 0, none⟩) n n, .int .i64 (first : Int), .int .i64 ((l.length + 1 : Nat) : Int), .int .i64 (most : Int)] T (0, 0))) (hg' : W.heap[g]? = some (.cells (cur.setIfInBounds ((first + l.length) % n) x) E (0, 0))) :
    RingIn T E W S' r (l ++ [x]) most := by
  have hn0 : 0 < n := by omega
  have hlen : (l ++ [x]).length = l.length + 1 := by simp
  refine ⟨⟨_, _, by rw [hlen]; exact hr', .inr ⟨g, n, _, rfl, hSg, hgr, hg', by simpa using hn, hn0, h1, h2, by rw [hlen]; exact hl, fun i hi => ?_⟩⟩, hmine, hlt, by rw [hlen]; exact hle, hfew, fun v hv => ?_⟩
  · rw [hlen] at hi
    rw [Array.getElem?_setIfInBounds]
    by_cases hc : i < l.length
    · have hne : ¬ (first + l.length) % n = (first + i) % n := by
        rw [mod_of_lt2' (by omega) hn0, mod_of_lt2' (by omega) hn0]
        split <;> split <;> omega
      rw [if_neg hne, hcur i hc, List.getElem?_append_left hc]
    · have hi2 : i = l.length := by omega
      subst hi2
      rw [if_pos rfl, if_pos (by rw [hn]; exact Nat.mod_lt _ hn0)]
      simp
  · rcases List.mem_append.1 hv with hv | hv
    · exact hone v hv
    · simp at hv; subst hv; exact hx

theorem allOut_nil {E : TypeId} {w : World} {e : Ending} {w' : World} (h : AllOut E w [] e w') : e = .returned (.slice none 0 0) ∧ Below w.heap.size w w' := by
  obtain ⟨v, he, hv, hb⟩ := h
  rcases hv with ⟨_, rfl⟩ | ⟨h, _⟩
  · exact ⟨he, hb⟩
  · exact absurd rfl h
theorem allOut_some {E : TypeId} {w : World} {l : List Value} {e : Ending} {w' : World} (h0 : l ≠ []) (h : AllOut E w l e w') :
    e = .returned (.slice (some ⟨w.heap.size, 0, none⟩) l.length l.length) ∧ w'.heap[w.heap.size]? = some (.cells l.toArray E (0, 0)) ∧ Below w.heap.size w w' := by
  obtain ⟨v, he, hv, hb⟩ := h
  rcases hv with ⟨h, _⟩ | ⟨_, rfl, h⟩
  · exact absurd h h0
  · exact ⟨he, h, hb⟩
theorem RingIn.drew {T E : TypeId} {w : World} {S : Nat → Prop} {r : Nat} {l : List Value} {most : Nat} (h : RingIn T E w S r l most) : RingIn T E w.drew S r l most := h.drewN 1

theorem splice_two {α : Type} (L a b : List α) (c : Nat) (hc : c = a.length) (h : a.length + b.length ≤ L.length) : (splice (splice L 0 a) c b).take (a.length + b.length) = a ++ b ∧ (splice (splice L 0 a) c b).length = L.length := by
  subst hc
  have e1 : splice L 0 a = a ++ L.drop a.length := by simp [splice]
  have e2 : splice (splice L 0 a) a.length b = a ++ (b ++ L.drop (a.length + b.length)) := by
    rw [e1]
    unfold splice
    rw [List.take_left, List.drop_append]
    simp
  refine ⟨?_, by rw [e2]; simp; omega⟩
  rw [e2, ← List.append_assoc, ← List.length_append, List.take_left]

/-- Where the cells that are copied lie. -/
def SrcOk (w : World) (dp sp : Option Addr) (g off : Nat) (cs : List Value) : Prop :=
  0 < cs.length → dp = some ⟨g, off, none⟩ ∧ ∃ ad, sp = some ad ∧ ∀ j v, cs[j]? = some v → w.cell? (ad.add j) = some v

theorem min_two {n first size a len : Nat} (hls : size = len ∨ (len = n ∧ n ≤ size)) (hmin : a = (n - first) ∧ n - first ≤ size ∨ a = size ∧ size < n - first) (h1 : first < n) (hl : len ≤ n) (hsa : ¬ size = a) : len - a = Nat.min first (size - a) := by
  show len - a = min first (size - a)
  omega

end Go.Proofs.Ytgfdgcpbmjhmmaa
