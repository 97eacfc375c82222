/- Rows of numbers of 24 bits' kind (uint32), and what slices.ContainsFunc answers of one. Conditions: the row lies as a row does. -/
import Derived.Test.YtgphgbajgjddfaaDoorPduFns
namespace Go.Proofs.YtgphgbajgjddfaaDoor
open Go.RowKit
set_option linter.unusedVariables false
set_option linter.unusedSimpArgs false

/-- v is a row of the numbers xs. -/
def NumRow (w : World) (v : Value) (xs : List Int) : Prop :=
  ∃ (A : Option Addr) (cap : Nat), v = .slice A xs.length cap ∧ xs.length ≤ 1048576 ∧ (xs = [] ∨ ∃ b off, A = some ⟨b, off, none⟩ ∧ b < w.heap.size ∧ ∀ i x, xs[i]? = some x → w.cell? ⟨b, off + i, none⟩ = some (.int .u32 x))
theorem numRow_nil (w : World) : NumRow w (.slice none 0 0) [] := ⟨none, 0, rfl, by decide, .inl rfl⟩
theorem NumRow.below {w w' : World} {v : Value} {xs : List Int} (h : NumRow w v xs) (hb : Below w.heap.size w w') : NumRow w' v xs := by
  obtain ⟨A, cap, rfl, hl, hc⟩ := h
  refine ⟨A, cap, rfl, hl, hc.imp id fun ⟨b, off, e, hbl, hc⟩ => ⟨b, off, e, Nat.lt_of_lt_of_le hbl hb.size, fun i x hx => ?_⟩⟩
  rw [hb.cell (p := ⟨b, off + i, none⟩) hbl]
  exact hc i x hx

theorem num_big (x : Int) (w : World) : Calls Tryd.prog 39 #[.int .u32 x] w fun e w' => e = .returned (.bool (decide (16777215 < x))) ∧ w = w' := by
  go_enter Tryd.func39, Tryd.ntmps39
  go_wp2_with fail
  go_ret
  exact ⟨rfl, rfl⟩

def anyBig (xs : List Int) : Bool := xs.any fun x => decide (16777215 < x)
set_option maxRecDepth 100000 in
theorem index_big (v : Value) (xs : List Int) (w : World) (h : NumRow w v xs) :
    Calls Tryd.prog 58 #[v, .func (.func 39) #[] #[]] w fun e w' => ∃ r : Int, e = .returned (.int .i64 r) ∧ decide (0 ≤ r) = anyBig xs ∧ w = w' := by
  obtain ⟨A, cap, rfl, hl, hc⟩ := h
  have HC := Lib.hid hc
  clear hc
  go_enter Tryd.func58, Tryd.ntmps58
  go_wp2_with fail
  go_loopw [8] (fun i wr => ∃ k : Nat, k ≤ xs.length ∧ i = .int .i64 k ∧ Hid (anyBig (xs.take k) = false) ∧ w = wr) (fun i _ => xs.length - (intOf i).toNat)
  case atStart => exact ⟨0, by omega, rfl, rfl, rfl⟩
  case round =>
    obtain ⟨k, hk, rfl, HK, rfl⟩ := hrel
    by_cases hlt : k < xs.length
    · obtain ⟨x, hx⟩ : ∃ x, xs[k]? = some x := ⟨xs[k], List.getElem?_eq_getElem hlt⟩
      have hne : xs ≠ [] := by rintro rfl; simp at hlt
      obtain ⟨b, off, rfl, hb, hcell⟩ := HC.out.resolve_left hne
      have hcx := hcell k x hx
      have hk0 : (0 : Int) ≤ (k : Int) := by omega
      have hk1 : (k : Int) < (xs.length : Int) := by omega
      have hlx : (k : Int) ≤ 1048576 := by omega
      have htk : anyBig (xs.take (k + 1)) = (anyBig (xs.take k) || decide (16777215 < x)) := by
        unfold anyBig
        have hxs : xs[k] = x := by rw [List.getElem?_eq_getElem hlt] at hx; exact Option.some.inj hx
        rw [List.take_succ_eq_append_getElem hlt, List.any_append, hxs]; simp
      have HNB := Lib.hid (fun W => num_big x W)
      have HTK := Lib.hid htk
      have HX := Lib.hid hx
      clear hcell hne htk hx
      cases hbig : decide (16777215 < x) with
      | true =>
        rw [hbig] at HNB
        go_wp2_with fail
        refine (HNB.out _).mono ?_
        rintro e w2 ⟨rfl, rfl⟩
        go_wp2_with fail
        go_ret
        refine ⟨_, rfl, ?_, rfl⟩
        rw [decide_eq_true hk0]
        symm
        unfold anyBig
        rw [List.any_eq_true]
        exact ⟨x, List.mem_of_getElem? HX.out, hbig⟩
      | false =>
        rw [hbig] at HNB
        go_wp2_with fail
        refine (HNB.out _).mono ?_
        rintro e w2 ⟨rfl, rfl⟩
        go_wp2_with fail
        go_roundw
        case rel => exact ⟨k + 1, by omega, by go_num, (by show _ = _; rw [HTK.out, HK.out, hbig]; rfl), by first | rfl | trivial⟩
        case measure => simp [intOf]; omega
    · have hkl : k = xs.length := by omega
      subst hkl
      have hall := HK.out
      rw [List.take_length] at hall
      have HALL := Lib.hid hall
      clear hall
      go_wp2_with fail
      go_ret
      exact ⟨-1, rfl, by rw [HALL.out]; rfl, rfl⟩

theorem contains_big (v : Value) (xs : List Int) (w : World) (h : NumRow w v xs) :
    Calls Tryd.prog 38 #[v, .func (.func 39) #[] #[]] w fun e w' => e = .returned (.bool (anyBig xs)) ∧ w = w' := by
  have HI := Lib.hid (fun (_ : Unit) => index_big v xs w h)
  go_enter Tryd.func38, Tryd.ntmps38
  go_wp2_with fail
  refine (HI.out ()).mono ?_
  rintro e w2 ⟨r, rfl, hr, rfl⟩
  go_wp2_with fail
  go_ret
  exact ⟨rfl, rfl⟩
end Go.Proofs.YtgphgbajgjddfaaDoor
