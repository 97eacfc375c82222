/- Package ring's calls on one row that a law itself has made, all that lay there before being as it was. Conditions: the row is the law's own. -/
import Derived.Test.YtogbifggaomfjaaRingPut2Str
namespace Go.Proofs.Ytogbifggaomfjaa.string
open Go.RowKit
set_option linter.unusedVariables false

/-- A row of the law's own in block r. -/
def Sess (w0 w : World) (r : Nat) (l : List Value) (most : Nat) : Prop :=
  ∃ S : Nat → Prop, RingIn T 9 w S r l most ∧ (∀ k, S k → w0.heap.size ≤ k) ∧ Below w0.heap.size w0 w
theorem Sess.bel {w0 w : World} {r most : Nat} {l : List Value} (h : Sess w0 w r l most) : Below w0.heap.size w0 w := h.choose_spec.2.2
theorem Sess.le {w0 w : World} {r most : Nat} {l : List Value} (h : Sess w0 w r l most) : l.length ≤ most := h.choose_spec.1.le
theorem Sess.few {w0 w : World} {r most : Nat} {l : List Value} (h : Sess w0 w r l most) : most ≤ 4096 := h.choose_spec.1.few
theorem Sess.one {w0 w : World} {r most : Nat} {l : List Value} (h : Sess w0 w r l most) : ∀ v ∈ l, v.oneCell' = true := h.choose_spec.1.one
theorem Sess.below {w0 w w' : World} {r most : Nat} {l : List Value} (h : Sess w0 w r l most) (hb : Below w.heap.size w w') : Sess w0 w' r l most := by
  obtain ⟨S, h1, h2, h3⟩ := h
  exact ⟨S, h1.below hb, h2, h3.trans (hb.mono h3.size)⟩
theorem Sess.drewN {w0 w : World} {r most : Nat} {l : List Value} (h : Sess w0 w r l most) (n : Nat) : Sess w0 (w.drewN n) r l most := h.below ⟨rfl, rfl, rfl, Nat.le_refl _, fun _ _ => rfl⟩
theorem Sess.drew {w0 w : World} {r most : Nat} {l : List Value} (h : Sess w0 w r l most) : Sess w0 w.drew r l most := h.drewN 1
theorem Sess.next {w0 w w' : World} {S : Nat → Prop} {r most : Nat} {l : List Value} (h1 : RingIn T 9 w' (Plus S w w') r l most) (hk : Kept S w w') (h2 : ∀ k, S k → w0.heap.size ≤ k) (h3 : Below w0.heap.size w0 w) : Sess w0 w' r l most :=
  ⟨_, h1, fun k hk' => hk'.elim (h2 k) fun h => Nat.le_trans h3.size h.1, h3.trans (hk.below h3.size h2)⟩

/-- A row of values that a call answers. -/
def RowV (w : World) (v : Value) (l : List Value) : Prop :=
  (l = [] ∧ v = .slice none 0 0) ∨ (l ≠ [] ∧ ∃ g, v = .slice (some ⟨g, 0, none⟩) l.length l.length ∧ w.heap[g]? = some (.cells l.toArray 9 (0, 0)))

theorem s_new (w : World) (m : Int) (k : Nat) (hm : (m < 0 ∧ k = 0) ∨ (4096 < m ∧ k = 4096) ∨ (m = k ∧ k ≤ 4096)) (b1 : -9223372036854775808 ≤ m) (b2 : m ≤ 9223372036854775807) :
    Calls Try.prog 79 #[.int .i64 m] w fun e w' => ∃ r : Nat, e = .returned (.pointer (some ⟨r, 0, none⟩)) ∧ Sess w w' r [] k :=
  (new w m k hm b1 b2).mono fun e w' ⟨r, he, h1, h2⟩ => ⟨r, he, _, h1, fun k hk => hk.1, h2⟩

theorem s_putYes {w0 w : World} {r most : Nat} {l : List Value} (h : Sess w0 w r l most) (hroom : l.length < most) (x : ByteArray) :
    Calls Try.prog 80 #[.pointer (some ⟨r, 0, none⟩), .string x] w fun e w' => e = .returned (.int .i64 0) ∧ Sess w0 w' r (l ++ [.string x]) most := by
  obtain ⟨S, h1, h2, h3⟩ := h
  exact (putYes w S r most l h1 hroom x).mono fun e w' ⟨he, h4, hk⟩ => ⟨he, Sess.next h4 hk h2 h3⟩

theorem s_putNo {w0 w : World} {r most : Nat} {l : List Value} (h : Sess w0 w r l most) (hfull : l.length = most) (x : ByteArray) :
    Calls Try.prog 80 #[.pointer (some ⟨r, 0, none⟩), .string x] w fun e w' => e = .returned (.int .i64 7) ∧ Sess w0 w' r l most := by
  have h0 := h
  obtain ⟨S, h1, h2, h3⟩ := h
  exact (putNo w S r most l h1 hfull x).mono fun e w' ⟨he, q, hq⟩ => ⟨he, by rw [hq]; exact h0.drewN q⟩

theorem s_takeYes {w0 w : World} {r most : Nat} {l : List Value} {x : ByteArray} (h : Sess w0 w r (.string x :: l) most) :
    Calls Try.prog 83 #[.pointer (some ⟨r, 0, none⟩)] w fun e w' => e = .returned (.tuple #[.string x, .int .i64 0]) ∧ Sess w0 w' r l most := by
  obtain ⟨S, h1, h2, h3⟩ := h
  exact (takeYes w S r most x l h1).mono fun e w' ⟨he, h4, hk⟩ => ⟨he, S, h4, h2, h3.trans (hk.below h3.size h2)⟩

theorem s_takeNo {w0 w : World} {r most : Nat} (h : Sess w0 w r [] most) :
    Calls Try.prog 83 #[.pointer (some ⟨r, 0, none⟩)] w fun e w' => e = .returned (.tuple #[.string ⟨#[]⟩, .int .i64 9]) ∧ w = w' := by
  obtain ⟨S, h1, h2, h3⟩ := h
  exact takeNo w S r most h1

theorem s_firstYes {w0 w : World} {r most : Nat} {l : List Value} {x : ByteArray} (h : Sess w0 w r (.string x :: l) most) :
    Calls Try.prog 99 #[.pointer (some ⟨r, 0, none⟩)] w fun e w' => e = .returned (.tuple #[.string x, .int .i64 0]) ∧ ∃ q, w' = w.drewN q := by
  obtain ⟨S, h1, h2, h3⟩ := h
  exact firstYes w S r most x l h1

theorem s_firstNo {w0 w : World} {r most : Nat} (h : Sess w0 w r [] most) :
    Calls Try.prog 99 #[.pointer (some ⟨r, 0, none⟩)] w fun e w' => e = .returned (.tuple #[.string ⟨#[]⟩, .int .i64 9]) ∧ w = w' := by
  obtain ⟨S, h1, h2, h3⟩ := h
  exact firstNo w S r most h1

theorem s_len {w0 w : World} {r most : Nat} {l : List Value} (h : Sess w0 w r l most) :
    Calls Try.prog 82 #[.pointer (some ⟨r, 0, none⟩)] w fun e w' => e = .returned (.int .i64 (l.length : Int)) ∧ w = w' := by
  obtain ⟨S, h1, h2, h3⟩ := h
  exact len w S r most l h1

theorem s_room {w0 w : World} {r most : Nat} {l : List Value} (h : Sess w0 w r l most) :
    Calls Try.prog 96 #[.pointer (some ⟨r, 0, none⟩)] w fun e w' => e = .returned (.int .i64 (((most - l.length : Nat)) : Int)) ∧ ∃ q, w' = w.drewN q := by
  obtain ⟨S, h1, h2, h3⟩ := h
  exact room w S r most l h1

theorem s_all {w0 w : World} {r most : Nat} {l : List Value} (h : Sess w0 w r l most) :
    Calls Try.prog 90 #[.pointer (some ⟨r, 0, none⟩)] w fun e w' => ∃ v, e = .returned v ∧ RowV w' v l ∧ Below w.heap.size w w' := by
  obtain ⟨S, h1, h2, h3⟩ := h
  exact (all w S r most l h1).mono fun e w' ⟨v, he, hv, hb⟩ => ⟨v, he, hv.imp id fun h => ⟨h.1, _, h.2⟩, hb⟩

theorem s_atYes {w0 w : World} {r most k : Nat} {l : List Value} {x : ByteArray} (h : Sess w0 w r l most) (hk : l[k]? = some (.string x)) :
    Calls Try.prog 118 #[.pointer (some ⟨r, 0, none⟩), .int .i64 (k : Int)] w fun e w' => e = .returned (.tuple #[.string x, .bool true]) ∧ ∃ q, w' = w.drewN q := by
  obtain ⟨S, h1, h2, h3⟩ := h
  exact atYes w S r most l h1 k x hk

theorem s_atNo {w0 w : World} {r most : Nat} {l : List Value} (h : Sess w0 w r l most) (i : Int) (hi : i < 0 ∨ (l.length : Int) ≤ i) (b1 : -9223372036854775808 ≤ i) (b2 : i ≤ 9223372036854775807) :
    Calls Try.prog 118 #[.pointer (some ⟨r, 0, none⟩), .int .i64 i] w fun e w' => e = .returned (.tuple #[.string ⟨#[]⟩, .bool false]) ∧ w = w' := by
  obtain ⟨S, h1, h2, h3⟩ := h
  exact atNo w S r most l h1 i hi b1 b2


end Go.Proofs.Ytogbifggaomfjaa.string
