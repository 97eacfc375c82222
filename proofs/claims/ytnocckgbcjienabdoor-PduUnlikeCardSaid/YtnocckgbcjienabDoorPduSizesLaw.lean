/- The walk of the law PduSizes (begun). Conditions: the unit's row lies as a row does. -/
import Derived.Test.YtnocckgbcjienabDoorPduOwn
import Derived.Test.YtnocckgbcjienabDoorPduRefCheck
import Derived.Test.YtnocckgbcjienabDoorPduRefSame
import Derived.Test.YtnocckgbcjienabDoorPduDoor
import Derived.Test.YtnocckgbcjienabDoorUnitIn
namespace Go.Proofs.YtnocckgbcjienabDoor
open Go.RowKit
set_option linter.unusedVariables false
set_option linter.unusedSimpArgs false

theorem pduB_size (k : Nat) (sq n ps mr : Int) (xs : List Int) (se : Bool) (d : ByteArray) :
    (pduB k sq n ps mr xs se d).size = d.size + fillOf d.size + 4 * (xs.length + (if hasSQ k = true then 1 else 0) + (if hasPS k = true then 1 else 0) + (if hasMR k = true then 1 else 0) + 1) := by
  unfold pduB pduL allWords wordsL
  rw [strOfNums_size, List.length_append, List.length_append, dataI_len, List.length_replicate, flat_len, List.length_append, List.length_append, List.length_append, List.length_append]
  repeat' split
  all_goals rfl
theorem size_eq {P D c : Nat} {W : Int} (hs : P = D + (4 - D % 4) % 4 + 4 * c) (hD : D ≤ 210) (hc : W = (c : Int)) (hb : c ≤ 200) :
    ((P : Int) == IntKind.i64.wrap (IntKind.i64.wrap (IntKind.i64.wrap ((IntKind.i64.wrap ((D : Int) + 3)).tdiv 4) * 4) + IntKind.i64.wrap (4 * W))) = true := by
  have ws : ∀ x : Int, 0 ≤ x → x < 1000000 → IntKind.i64.wrap x = x := fun x h0 h1 => by rw [IntKind.wrap_i64]; omega
  have e2 : ((D : Int) + 3).tdiv 4 = (((D + 3) / 4 : Nat) : Int) := by
    rw [show ((D : Int) + 3) = ((D + 3 : Nat) : Int) by omega]; rfl
  rw [hc, ws ((D : Int) + 3) (by omega) (by omega), e2, ws (((D + 3) / 4 : Nat) : Int) (by omega) (by omega)]
  have e3 := ws ((((D + 3) / 4 : Nat) : Int) * 4) (by omega) (by omega)
  have e4 := ws (4 * (c : Int)) (by omega) (by omega)
  rw [e3, e4, ws _ (by omega) (by omega), beq_iff_eq]
  omega
set_option maxRecDepth 100000 in
theorem own_bytes (k sq n ps mr : Int) (p : Option Addr) (len cap : Nat) (xs : List Int) (se : Bool) (d : ByteArray) (w : World) (hS : ShapesIn w) (hlen : len = xs.length) (hr : IRow w (.slice p len cap) xs) (hxl : xs.length ≤ 1000)
    (h1 : 0 ≤ n ∧ n < 4294967296) (h2 : 0 ≤ ps ∧ ps < 4294967296) (h3 : 0 ≤ mr ∧ mr < 4294967296) (hxs : ∀ x, x ∈ xs → 0 ≤ x ∧ x < 4294967296) :
    Calls Tryd.prog 12 #[.agg #[.int .i64 k, .int .i64 sq, .int .i64 n, .int .i64 ps, .int .i64 mr, .slice p len cap, .bool se, .string d]] w fun e w' => ∃ v, e = .returned v ∧ Below w.heap.size w w' ∧
      ∀ W, Below w'.heap.size w' W → Calls Tryd.prog 15 #[v] W fun e w2 => e = .returned (.string (bytesA k sq n ps mr xs se d)) ∧ Below W.heap.size W w2 := by
  refine (own_is k sq n ps mr p len cap xs se d w hlen hr hxl).mono ?_
  rintro e w' ⟨l, rfl, hrow, hb⟩
  rw [in32_id h1, in32_id h2, in32_id h3]
  have hmap : xs.map in32 = xs := by
    have : xs.map in32 = xs.map id := List.map_congr_left fun x hx => in32_id (hxs x hx)
    rw [this, List.map_id]
  rw [hmap] at hrow
  refine ⟨_, rfl, hb, fun W hW => ?_⟩
  obtain ⟨A, c, e, _⟩ := id hrow
  subst e
  exact pdu_bytesA k sq n ps mr A xs.length c xs se d W ((hS.next hb).next hW) rfl (hrow.below hW) h1 h2 h3 (fun x hx => (hxs x hx).1)

end Go.Proofs.YtnocckgbcjienabDoor
