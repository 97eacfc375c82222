/- Own's unit, whole; a row's store at a step of a region that draws. Plain laws, and off own_is. -/
import Derived.Test.YtnocckgbcjienabDoorPduSizesLaw
import Derived.Test.YtnocckgbcjienabDoorPduSameLaw
import Derived.Test.YtnocckgbcjienabDoorPduRefBytes
import Derived.Test.YtnocckgbcjienabDoorPduInj
namespace Go.Proofs.YtnocckgbcjienabDoor
open Go.RowKit
set_option linter.unusedVariables false
set_option linter.unusedSimpArgs false

theorem step_store_row {P : Program} {ops : Array Oper} {o : Oper} {a : Act} {w : World} {K : Act → World → Prop} {Q : Exit → Act → World → Prop} {E : Prop} (hgd : o.guard = none) (ty : TypeId) (x y : Operand) (ho : o.op = .store ty x y)
    (g : Nat) (cells : Array Value) (hx : a.eval x = .pointer (some ⟨g, 0, none⟩)) (hy : a.eval y = .agg cells)
    (t : TypeId) (old : Array Value) (hg : w.heap[g]? = some (.cells old t (0, 0))) (hi : (P.info? ty).map (·.size) = some cells.size)
    (hold : old.size = cells.size) (h1 : cells.all (·.oneCell') = true)
    (h : K (a.put o.dst undef) (w.setRow g cells)) : if Region.wanted o (yielded ops a.tmps) = true then Oper.wp P o a w K Q else E := by
  have hw : Region.wanted o (yielded ops a.tmps) = true := by simp [Region.wanted, hgd]
  rw [if_pos hw]
  exact wp_store_row ty x y ho g cells hx hy t old hg hi hold h1 h
theorem irow_setRow {w : World} {g : Nat} {cs : Array Value} {A : Option Addr} {n c : Nat} {xs : List Int} (h : IRow w (.slice A n c) xs) (hne : ∀ r, (Value.slice A n c).ownBlock = some r → r ≠ g) : IRow (w.setRow g cs) (.slice A n c) xs := by
  obtain ⟨A', c', e, h1, h2⟩ := h
  injection e with e1 e2 e3
  subst e1 e2 e3
  refine ⟨A, c, rfl, h1, h2.imp id fun ⟨b, off, ea, hb, hc⟩ => ⟨b, off, ea, by rw [setRow_size]; exact hb, fun i x hx => ?_⟩⟩
  subst ea
  rw [World.cell?_of_block (w := w) (setRow_other _ _ _ _ (hne b rfl))]
  exact hc i x hx
theorem rbox_setRow {w : World} {R g : Nat} {cs : Array Value} {k sq n ps mr : Int} {l : Value} {se : Bool} {d : ByteArray} (h : RBox w R k sq n ps mr l se d) (hne : R ≠ g) : RBox (w.setRow g cs) R k sq n ps mr l se d := by
  have hb : (w.setRow g cs).heap[R]? = w.heap[R]? := setRow_other _ _ _ _ hne
  obtain ⟨x0, x1, x2, x3, x4, x5, x6, x7⟩ := h
  exact ⟨by rw [World.cell?_of_block (w := w) hb]; exact x0, by rw [World.cell?_of_block (w := w) hb]; exact x1, by rw [World.cell?_of_block (w := w) hb]; exact x2, by rw [World.cell?_of_block (w := w) hb]; exact x3, by rw [World.cell?_of_block (w := w) hb]; exact x4, by rw [World.cell?_of_block (w := w) hb]; exact x5, by rw [World.cell?_of_block (w := w) hb]; exact x6, by rw [World.cell?_of_block (w := w) hb]; exact x7⟩
set_option maxRecDepth 100000 in
theorem own_unit (k sq n ps mr : Int) (p : Option Addr) (len cap : Nat) (xs : List Int) (se : Bool) (d : ByteArray) (w : World) (hlen : len = xs.length) (hr : IRow w (.slice p len cap) xs) (hxl : xs.length ≤ 1000)
    (h1 : 0 ≤ n ∧ n < 4294967296) (h2 : 0 ≤ ps ∧ ps < 4294967296) (h3 : 0 ≤ mr ∧ mr < 4294967296) (hxs : ∀ x, x ∈ xs → 0 ≤ x ∧ x < 4294967296) :
    Calls Tryd.prog 12 #[.agg #[.int .i64 k, .int .i64 sq, .int .i64 n, .int .i64 ps, .int .i64 mr, .slice p len cap, .bool se, .string d]] w fun e w' => ∃ A c, e = .returned (.agg #[.int .i64 k, .int .i64 sq, .int .u32 n, .int .u32 ps, .int .u32 mr, .slice A xs.length c, .bool se, .string d]) ∧ NumRow w' (.slice A xs.length c) xs ∧ Below w.heap.size w w' ∧ w.heap.size ≤ w'.heap.size := by
  refine (own_is k sq n ps mr p len cap xs se d w hlen hr hxl).mono ?_
  rintro e w' ⟨l, rfl, hrow, hb⟩
  rw [in32_id h1, in32_id h2, in32_id h3]
  have hmap : xs.map in32 = xs := by
    have : xs.map in32 = xs.map id := List.map_congr_left fun x hx => in32_id (hxs x hx)
    rw [this, List.map_id]
  rw [hmap] at hrow
  obtain ⟨A, c, e, _⟩ := id hrow
  subst e
  exact ⟨A, c, rfl, hrow, hb, hb.size⟩
end Go.Proofs.YtnocckgbcjienabDoor
