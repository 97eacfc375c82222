/- What package event's two variables hold: their cells, off the laid data. Conditions: the variables lie as their initialisers leave them. -/
import Derived.Test.YtnocckgbcjienaaDoorRows
import Derived.Test.YtnocckgbcjienaaDoorStrRow
import Derived.ProofKit
import Derived.OpenShut
import Derived.ChangeArms
import Derived.LaidMore
import Derived.LaidSub
import Derived.Lay
import Derived.ChangeBears2
import Derived.MakeChecks
namespace Go.Proofs.YtnocckgbcjienaaDoor
open Go.ChangeShapes Go.WideShapes Go.ChangeAt Go.RowKit
set_option linter.unusedVariables false

def litV : DataW Unit → Value
  | .lit (.int k n) => .int k n
  | .lit (.bool b) => .bool b
  | .lit (.string s) => .string ⟨s.toArray⟩
  | _ => undef
def partsOf : DataW Unit → List (DataW Unit)
  | .agg l => l
  | _ => []
def roomV (r j : Nat) : Value := litV ((partsOf ((partsOf Rows.laid_polliwog_event_rooms).getD r .nil)).getD j .nil)
def wordV (r : Nat) : Value := litV ((partsOf Rows.laid_polliwog_event_words).getD r .nil)

theorem scalar_lit {enc : TypeId × Value → Unit} {w : World} {base : Nat} {spare : Nat → Bool} {held : Bool} {fuel : Nat} {t : TypeId} {cs : List Value} {x : DataW Unit × List MemPlace}
    (hs : Tryd.prog.underlying t = some .bool ∨ (∃ k, Tryd.prog.underlying t = some (.int k)) ∨ Tryd.prog.underlying t = some .string) (h : DataW.trod enc Tryd.prog w base spare held fuel t cs = some x) : cs = [litV x.1] := by
  rcases hs with hs | ⟨k, hs⟩ | hs
  · obtain ⟨b, rfl, rfl⟩ := DataW.trod_bool hs h; rfl
  · obtain ⟨n, rfl, rfl, _⟩ := DataW.trod_int hs h; rfl
  · obtain ⟨s, rfl, rfl, _⟩ := DataW.trod_string hs h; rfl

theorem word_cell {W : World} (h : laidMetH Tryd.prog [("polliwog/event.words", Rows.laid_polliwog_event_words)] W) (r : Nat) (hr : r < 13) : W.cell? ⟨1, r, none⟩ = some (wordV r) := by
  rw [MakeChecks.laidMetH_plain _ _ _ (by kernel_rfl)] at h
  obtain ⟨ps, ⟨g, t, cs, fuel, p, q, hg, ht, hv, hd, _, _⟩, _, _⟩ := h
  obtain rfl := Option.some.inj ((show Tryd.prog.globalNamed "polliwog/event.words" = some 1 by kernel_rfl).symm.trans hg)
  obtain rfl := Option.some.inj ((show (Tryd.prog.globals[1]?).map (·.type) = some 51 by kernel_rfl).symm.trans ht)
  obtain ⟨xs, m, _, ex, _, hl, hel⟩ := DataW.trod_array Tryd.underlying51 hd
  have hE := hel r hr
  rw [show Tryd.prog.cellsOf 9 = 1 by kernel_rfl, Nat.mul_one, List.getElem?_eq_getElem (by omega)] at hE
  have e1 := scalar_lit (.inr (.inr Tryd.underlying9)) hE
  have e3 : xs.map (·.1) = partsOf Rows.laid_polliwog_event_words := congrArg partsOf (Prod.mk.inj ex).1.symm
  have e4 : (xs[r]).1 = (partsOf Rows.laid_polliwog_event_words).getD r .nil := by
    rw [← e3, List.getD_eq_getElem?_getD, List.getElem?_map, List.getElem?_eq_getElem (by omega)]; rfl
  rw [e4] at e1
  rw [World.var?_cell hg hv r]
  have h0 : ((cs.toList.drop r).take 1)[0]? = some (wordV r) := by rw [e1]; rfl
  simpa using h0

theorem room_cell {W : World} (h : laidMetH Tryd.prog [("polliwog/event.rooms", Rows.laid_polliwog_event_rooms)] W) (r j : Nat) (hr : r < 12) (hj : j < 2) : W.cell? ⟨0, r * 2 + j, none⟩ = some (roomV r j) := by
  rw [MakeChecks.laidMetH_plain _ _ _ (by kernel_rfl)] at h
  obtain ⟨ps, ⟨g, t, cs, fuel, p, q, hg, ht, hv, hd, _, _⟩, _, _⟩ := h
  obtain rfl := Option.some.inj ((show Tryd.prog.globalNamed "polliwog/event.rooms" = some 0 by kernel_rfl).symm.trans hg)
  obtain rfl := Option.some.inj ((show (Tryd.prog.globals[0]?).map (·.type) = some 48 by kernel_rfl).symm.trans ht)
  obtain ⟨xs, m, _, ex, _, hl, hel⟩ := DataW.trod_array Tryd.underlying48 hd
  have hE := hel r hr
  rw [show Tryd.prog.cellsOf 47 = 2 by kernel_rfl, List.getElem?_eq_getElem (by omega)] at hE
  obtain ⟨ys, m2, _, ey, _, hl2, hf⟩ := DataW.trod_struct Tryd.underlying47 hE
  have e3 : xs.map (·.1) = partsOf Rows.laid_polliwog_event_rooms := congrArg partsOf (Prod.mk.inj ex).1.symm
  have e4 : (xs[r]).1 = (partsOf Rows.laid_polliwog_event_rooms).getD r .nil := by
    rw [← e3, List.getD_eq_getElem?_getD, List.getElem?_map, List.getElem?_eq_getElem (by omega)]; rfl
  have e5 : ys.map (·.1) = partsOf (xs[r]).1 := by rw [ey]; rfl
  have hsz : ys.length = 2 := hl2
  have e6 : (ys[j]).1 = (partsOf ((partsOf Rows.laid_polliwog_event_rooms).getD r .nil)).getD j .nil := by
    rw [← e4, ← e5, List.getD_eq_getElem?_getD, List.getElem?_map, List.getElem?_eq_getElem (by omega)]; rfl
  have e7 : ((((cs.toList.drop (r * 2)).take 2).drop j).take 1) = [litV (ys[j]).1] := by
    have hy : ys[j]? = some ys[j] := List.getElem?_eq_getElem (by omega)
    have hc : j = 0 ∨ j = 1 := by omega
    rcases hc with rfl | rfl
    · have hG : DataW.trod (fun _ => ()) Tryd.prog W 0 (fun _ => true) false m2 3 ((((cs.toList.drop (r * 2)).take 2).drop 0).take (Tryd.prog.cellsOf 3)) = ys[0]? := hf 0 _ rfl
      have hF := hG.trans hy
      rw [show Tryd.prog.cellsOf 3 = 1 by kernel_rfl] at hF
      exact scalar_lit (.inr (.inl ⟨_, Tryd.underlying3⟩)) hF
    · have hG : DataW.trod (fun _ => ()) Tryd.prog W 0 (fun _ => true) false m2 3 ((((cs.toList.drop (r * 2)).take 2).drop 1).take (Tryd.prog.cellsOf 3)) = ys[1]? := hf 1 _ rfl
      have hF := hG.trans hy
      rw [show Tryd.prog.cellsOf 3 = 1 by kernel_rfl] at hF
      exact scalar_lit (.inr (.inl ⟨_, Tryd.underlying3⟩)) hF
  rw [e6] at e7
  rw [World.var?_cell hg hv (r * 2 + j)]
  have h0 : ((((cs.toList.drop (r * 2)).take 2).drop j).take 1)[0]? = some (roomV r j) := by rw [e7]; rfl
  rw [List.getElem?_take_of_lt (by omega), List.getElem?_drop, Nat.add_zero, List.getElem?_take_of_lt hj, List.getElem?_drop] at h0
  simpa using h0

def roomD (k : Nat) : Int := if k = 1 ∨ k = 3 ∨ k = 4 then 64 else if k = 7 ∨ k = 8 ∨ k = 9 then 200 else 0
def roomN (k : Nat) : Int := if k = 10 then 64 else 0
theorem room_all : ∀ k, k < 12 → roomV k 0 = .int .i64 (roomD k) ∧ roomV k 1 = .int .i64 (roomN k) := by
  intro k hk
  have hc : k = 0 ∨ k = 1 ∨ k = 2 ∨ k = 3 ∨ k = 4 ∨ k = 5 ∨ k = 6 ∨ k = 7 ∨ k = 8 ∨ k = 9 ∨ k = 10 ∨ k = 11 := by omega
  rcases hc with rfl | rfl | rfl | rfl | rfl | rfl | rfl | rfl | rfl | rfl | rfl | rfl <;> exact ⟨rfl, rfl⟩
def wordS (k : Nat) : ByteArray := match wordV k with
  | .string s => s
  | _ => ByteArray.empty
theorem word_str (k : Nat) (hk : k < 13) : wordV k = .string (wordS k) := by
  have hc : k = 0 ∨ k = 1 ∨ k = 2 ∨ k = 3 ∨ k = 4 ∨ k = 5 ∨ k = 6 ∨ k = 7 ∨ k = 8 ∨ k = 9 ∨ k = 10 ∨ k = 11 ∨ k = 12 := by omega
  rcases hc with rfl | rfl | rfl | rfl | rfl | rfl | rfl | rfl | rfl | rfl | rfl | rfl | rfl <;> rfl
/-- The two variables lie as they were made. -/
structure VarsIn (W : World) : Prop where
  room : ∀ r j, r < 12 → j < 2 → W.cell? ⟨0, r * 2 + j, none⟩ = some (roomV r j)
  word : ∀ r, r < 13 → W.cell? ⟨1, r, none⟩ = some (wordV r)
theorem pos_of_cell {W : World} {b i : Nat} {v : Value} (h : W.cell? ⟨b, i, none⟩ = some v) : b < W.heap.size := by
  rcases Nat.lt_or_ge b W.heap.size with e | e
  · exact e
  · exfalso
    unfold World.cell? at h
    have : W.heap[b]? = none := by rw [Array.getElem?_eq_none_iff]; omega
    simp [this] at h
theorem VarsIn.two {W : World} (h : VarsIn W) : 1 < W.heap.size := pos_of_cell (h.word 0 (by decide))
theorem VarsIn.next {W W' : World} (h : VarsIn W) (hb : Below W.heap.size W W') : VarsIn W' :=
  ⟨fun r j hr hj => by rw [hb.cell (p := ⟨0, r * 2 + j, none⟩) (by have := h.two; show 0 < _; omega)]; exact h.room r j hr hj,
   fun r hr => by rw [hb.cell (p := ⟨1, r, none⟩) h.two]; exact h.word r hr⟩
theorem VarsIn.room0 {W : World} (h : VarsIn W) {k : Nat} (hk : k < 12) : W.cell? ⟨0, k * 2, none⟩ = some (.int .i64 (roomD k)) := by
  have := h.room k 0 hk (by decide); rw [Nat.add_zero, (room_all k hk).1] at this; exact this
theorem VarsIn.room1 {W : World} (h : VarsIn W) {k : Nat} (hk : k < 12) : W.cell? ⟨0, k * 2 + 1, none⟩ = some (.int .i64 (roomN k)) := by
  have := h.room k 1 hk (by decide); rw [(room_all k hk).2] at this; exact this
theorem VarsIn.word0 {W : World} (h : VarsIn W) {k : Nat} (hk : k < 13) : W.cell? ⟨1, k, none⟩ = some (.string (wordS k)) := by
  rw [← word_str k hk]; exact h.word k hk
theorem vars_in {l : List (String × DataW Unit)} {W : World} (h : laidMetH Tryd.prog l W) (hf : l.filter (fun x => x.1 == "polliwog/event.rooms") = [("polliwog/event.rooms", Rows.laid_polliwog_event_rooms)]) (hw : l.filter (fun x => x.1 == "polliwog/event.words") = [("polliwog/event.words", Rows.laid_polliwog_event_words)]) : VarsIn W :=
  ⟨fun r j hr hj => by
    have h2 := h.filter (fun x => x.1 == "polliwog/event.rooms")
    rw [hf] at h2
    exact room_cell h2 r j hr hj, fun r hr => by
    have h2 := h.filter (fun x => x.1 == "polliwog/event.words")
    rw [hw] at h2
    exact word_cell h2 r hr⟩
end Go.Proofs.YtnocckgbcjienaaDoor
