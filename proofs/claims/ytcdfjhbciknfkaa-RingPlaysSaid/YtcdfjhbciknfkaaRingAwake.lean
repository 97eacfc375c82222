/- The fixed fact of layer ring's statements. No conditions. -/
import Derived.Test.YtcdfjhbciknfkaaRingSessInt
import Derived.Test.YtcdfjhbciknfkaaIntRow
namespace Go.Proofs.Ytcdfjhbciknfkaa.int
open Go.RowKit
set_option linter.unusedVariables false

/-- A row of numbers as Values. -/
abbrev VI (xs : List Int) : List Value := xs.map (Value.int .i64)
theorem intRow_of {w : World} {v : Value} {xs : List Int} (h : RowV w v (VI xs)) (hl : xs.length ≤ 1048576) : IntRow w v xs := by
  rcases h with ⟨h0, rfl⟩ | ⟨h0, g, rfl, hg⟩
  · rw [List.map_eq_nil_iff.1 h0]; exact intRow_nil w
  · refine ⟨_, (VI xs).length, by rw [List.length_map], hl, .inr ⟨g, 0, rfl, (Array.getElem?_eq_some_iff.1 hg).1, fun i x hx => ?_⟩⟩
    rw [cell_blk hg, Nat.zero_add]
    simp [hx]

theorem ring_awake (w : World) : Calls Try.prog 28 #[] w fun e w' => e = .returned (.bool true) ∧ Below w.heap.size w w' := by
  go_enter Try.func28, Try.ntmps28
  go_wp2_with fail
  refine (s_new _ 2 2 (.inr (.inr ⟨rfl, by omega⟩)) (by omega) (by omega)).mono ?_
  rintro e w1 ⟨r, rfl, h1⟩
  have H1 := Lib.hid h1
  clear h1
  go_wp2_with fail
  refine (s_putYes H1.out (by simp) 5).mono ?_
  rintro e w2 ⟨rfl, h2⟩
  have H2 := Lib.hid h2
  clear h2 H1
  go_wp2_with fail
  refine (s_putYes H2.out (by simp) 6).mono ?_
  rintro e w3 ⟨rfl, h3⟩
  have H3 := Lib.hid h3
  clear h3 H2
  go_wp2_with fail
  refine (s_putNo H3.out (by simp) 7).mono ?_
  rintro e w4 ⟨rfl, h4⟩
  have H4 : Hid (Sess w w4 r (.int .i64 5 :: [.int .i64 6]) 2) := h4
  clear h4 H3
  go_wp2_with fail
  refine (s_takeYes H4.out).mono ?_
  rintro e w5 ⟨rfl, h5⟩
  have H5 := Lib.hid h5
  clear h5 H4
  go_wp2_with fail
  refine (s_len H5.out).mono ?_
  rintro e w6 ⟨rfl, rfl⟩
  go_wp2_with fail
  refine (s_room H5.out).mono ?_
  rintro e w6 ⟨rfl, q, rfl⟩
  go_wp2_with fail
  go_ret
  exact ⟨rfl, (H5.out.drewN q).bel⟩
end Go.Proofs.Ytcdfjhbciknfkaa.int
