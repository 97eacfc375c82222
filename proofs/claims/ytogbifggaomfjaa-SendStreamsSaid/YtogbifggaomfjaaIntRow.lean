/- Rows of whole numbers, and the document's own calls Same and Has on them: what each answers. Conditions: the rows lie as rows do. -/
import Derived.Test.YtogbifggaomfjaaRows
import Derived.WalkKit
import Derived.Lib.Hide
import Derived.Deep.Draws
import Derived.Deep.QuietTactic
import Derived.BigQuiet
import Derived.Laws.AppendOwn
import Derived.Below
namespace Go.Proofs.Ytogbifggaomfjaa
open Go.RowKit
set_option linter.unusedVariables false

/-- v is a row of the numbers xs. -/
def IntRow (w : World) (v : Value) (xs : List Int) : Prop :=
  ∃ (A : Option Addr) (cap : Nat), v = .slice A xs.length cap ∧ xs.length ≤ 1048576 ∧ (xs = [] ∨ ∃ b off, A = some ⟨b, off, none⟩ ∧ b < w.heap.size ∧ ∀ i x, xs[i]? = some x → w.cell? ⟨b, off + i, none⟩ = some (.int .i64 x))
theorem intRow_nil (w : World) : IntRow w (.slice none 0 0) [] := ⟨none, 0, rfl, by decide, .inl rfl⟩
theorem IntRow.below {w w' : World} {v : Value} {xs : List Int} (h : IntRow w v xs) (hb : Below w.heap.size w w') : IntRow w' v xs := by
  obtain ⟨A, cap, rfl, hl, hc⟩ := h
  refine ⟨A, cap, rfl, hl, hc.imp id fun ⟨b, off, e, hbl, hc⟩ => ⟨b, off, e, Nat.lt_of_lt_of_le hbl hb.size, fun i x hx => ?_⟩⟩
  rw [hb.cell (p := ⟨b, off + i, none⟩) hbl]
  exact hc i x hx
theorem IntRow.of_heap {w w' : World} {v : Value} {xs : List Int} (h : IntRow w v xs) (e : w.heap = w'.heap) : IntRow w' v xs := by
  obtain ⟨A, cap, rfl, hl, hc⟩ := h
  exact ⟨A, cap, rfl, hl, hc.imp id fun ⟨b, off, e1, hbl, hc⟩ => ⟨b, off, e1, by rw [← e]; exact hbl, fun i x hx => by rw [← hc i x hx]; simp [World.cell?, e]⟩⟩
theorem IntRow.drewN {w : World} {v : Value} {xs : List Int} (h : IntRow w v xs) (n : Nat) : IntRow (w.drewN n) v xs := h.of_heap rfl
/-- A row that was appended to. -/
theorem intRow_own {w : World} {base : Nat} {e : TypeId} {v : Value} {xs : List Int} (h : w.ownsRow base e 1 v xs.length (xs.map (Value.int .i64))) (hl : xs.length ≤ 1048576) : IntRow w v xs := by
  rcases h.2 with ⟨rfl, h0⟩ | ⟨g, cap, cur, rfl, _, hg, _⟩
  · rw [List.eq_nil_of_length_eq_zero h0]; exact intRow_nil w
  · refine ⟨_, cap, rfl, hl, .inr ⟨g, 0, rfl, (Array.getElem?_eq_some_iff.1 hg).1, fun i x hx => ?_⟩⟩
    have hc := h.cells (g := g) rfl i (.int .i64 x) (by rw [List.getElem?_map, hx]; rfl)
    rw [Addr.add_lit, Nat.zero_add] at hc
    rw [Nat.zero_add]; exact hc

def sameB (xs ys : List Int) : Bool := decide (xs = ys)

theorem take_succ_eq {xs ys : List Int} {k : Nat} (hx : k < xs.length) (hy : k < ys.length) (h : xs.take k = ys.take k) (he : xs[k] = ys[k]) : xs.take (k + 1) = ys.take (k + 1) := by
  rw [List.take_succ_eq_append_getElem hx, List.take_succ_eq_append_getElem hy, h, he]

theorem ref_same (u v : Value) (xs ys : List Int) (w : World) (h1 : IntRow w u xs) (h2 : IntRow w v ys) :
    Calls Try.prog 30 #[u, v] w fun e w' => e = .returned (.bool (sameB xs ys)) ∧ ∃ q, w' = w.drewN q := by
  obtain ⟨A, ca, rfl, hlx, h1⟩ := h1
  obtain ⟨B, cb, rfl, hly, h2⟩ := h2
  by_cases hl : xs.length = ys.length
  · have hlb : ((xs.length : Int) != (ys.length : Int)) = false := by rw [bne_eq_false_iff_eq]; omega
    have Hl := Lib.hid hl
    have H1 := Lib.hid h1
    have H2 := Lib.hid h2
    clear hl h1 h2
    go_enter Try.func30, Try.ntmps30
    go_wp2_with fail
    go_loopw [13] (fun i wr => ∃ k q : Nat, k ≤ xs.length ∧ i = .int .i64 k ∧ wr = w.drewN q ∧ Hid (xs.take k = ys.take k)) (fun i _ => xs.length - (intOf i).toNat)
    case atStart => exact ⟨0, 0, by omega, rfl, rfl, by show _ = _; simp⟩
    case round =>
      obtain ⟨k, q, hk, rfl, rfl, HT⟩ := hrel
      by_cases hlt : k < xs.length
      · have hlt2 : k < ys.length := by rw [← Hl.out]; exact hlt
        obtain ⟨b, off, rfl, hb, hc1⟩ := H1.out.resolve_left (fun e => by rw [e] at hlt; simp at hlt)
        obtain ⟨b', off', rfl, hb', hc2⟩ := H2.out.resolve_left (fun e => by rw [e] at hlt2; simp at hlt2)
        have ex := List.getElem?_eq_getElem hlt
        have ey := List.getElem?_eq_getElem hlt2
        have c1 := hc1 k _ ex
        have c2 := hc2 k _ ey
        have Hn := Lib.hid (take_succ_eq hlt hlt2 HT.out)
        have Hd : Hid (xs[k] ≠ ys[k] → xs ≠ ys) := fun h e => h (by subst e; rfl)
        clear hc1 hc2 ex ey
        generalize hX : xs[k] = X at *
        generalize hY : ys[k] = Y at *
        clear hX hY
        have i1 : (0 : Int) ≤ (k : Int) := by omega
        have i2 : (k : Int) < (xs.length : Int) := by omega
        have i3 : (k : Int) < (ys.length : Int) := by omega
        by_cases hXY : X = Y
        · have hbe : (X != Y) = false := by rw [bne_eq_false_iff_eq]; exact hXY
          have HXY := Lib.hid hXY
          clear hXY
          go_wp2_with fail
          go_quiet (fail)
          go_wp2_with fail
          go_roundw
          case rel => exact ⟨k + 1, _, by omega, by go_num, rfl, Hn.out HXY.out⟩
          case measure => simp [intOf]; omega
        · have hbe : (X != Y) = true := by rw [bne_iff_ne]; exact hXY
          have HXY := Lib.hid hXY
          clear hXY
          go_wp2_with fail
          go_quiet (fail)
          go_wp2_with fail
          go_ret
          exact ⟨by rw [sameB, decide_eq_false (Hd.out HXY.out)]; rfl, q + nq, by rw [World.drewN_drewN]⟩
      · go_wp2_with fail
        go_ret
        have e : xs = ys := by have h := HT.out; rw [List.take_of_length_le (by omega), List.take_of_length_le (by have := Hl.out; omega)] at h; exact h
        exact ⟨by rw [sameB, decide_eq_true e]; rfl, _, rfl⟩
  · have hlb : ((xs.length : Int) != (ys.length : Int)) = true := by rw [bne_iff_ne]; omega
    have Hl := Lib.hid hl
    clear hl h1 h2
    go_enter Try.func30, Try.ntmps30
    go_wp2_with fail
    go_ret
    exact ⟨by rw [sameB, decide_eq_false (fun e => Hl.out (by rw [e]))]; rfl, 0, rfl⟩
end Go.Proofs.Ytogbifggaomfjaa
