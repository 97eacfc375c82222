/- The walk of SeqAdds: of any number and any list the call returns true. Conditions: the number fits its kind, the list reads as a row of numbers. -/
import Derived.Test.YtamnmablodgdjaaSeqLaws
import Derived.OpenShut
namespace Go.Proofs.Ytamnmablodgdjaa
open Go.RowKit
set_option linter.unusedVariables false

/-- A slice of numbers that came in: nil, or a row of cells. -/
def IsRow (k : IntKind) (w : World) (a : Option Addr) (len cap : Nat) (zs : List Int) : Prop :=
  (a = none ∧ len = 0 ∧ cap = 0 ∧ zs = []) ∨
  ∃ x, a = some x ∧ len ≤ cap ∧ cap ≤ maxLen ∧ zs.length = cap ∧ (∀ i, i < zs.length → w.cell? (x.add i) = some (.int k (zs.getD i 0))) ∧ ∀ n ∈ zs, (Lit.int k n).wf = true

theorem isRow_cells {k : IntKind} {w : World} {A : Option Addr} {len cap : Nat} {zs : List Int} (h : IsRow k w A len cap zs) :
    len ≤ 9223372036854775807 ∧ (len = 0 ∨ ∃ b off, A = some ⟨b, off, none⟩ ∧ ∀ i, i < len → w.cell? ⟨b, off + i, none⟩ = some (.int k (zs.getD i 0))) := by
  rcases h with ⟨rfl, rfl, rfl, rfl⟩ | ⟨x, rfl, hl, hm, hz, hcell, hwz⟩
  · exact ⟨by decide, .inl rfl⟩
  · refine ⟨by unfold maxLen at hm; omega, ?_⟩
    by_cases h0 : len = 0
    · exact .inl h0
    · obtain ⟨b, off, spot⟩ := x
      have hc := hcell 0 (by omega)
      have hspot : spot = none := by simpa [Addr.add] using World.cell?_spot hc
      subst hspot
      exact .inr ⟨b, off, rfl, fun k hk => by
        have h1 := hcell k (by omega)
        by_cases hk0 : k = 0
        · subst hk0; simpa [Addr.add] using h1
        · simpa [Addr.add, hk0] using h1⟩

theorem clamp_bd (z : Int) : -1099511627776 ≤ (if -1099511627776 < (if 1099511627776 < z then 1099511627776 else z) then (if 1099511627776 < z then 1099511627776 else z) else -1099511627776) ∧
    (if -1099511627776 < (if 1099511627776 < z then 1099511627776 else z) then (if 1099511627776 < z then 1099511627776 else z) else -1099511627776) ≤ 1099511627776 := by
  split <;> (try split) <;> omega

theorem walk_SeqAdds (a : Int) (A : Option Addr) (len cap : Nat) (zs : List Int) (w : World) (a1 : 0 ≤ a) (a2 : a < 4294967296) (h : IsRow .i64 w A len cap zs) :
    Calls Try.prog 7 #[.int .u32 a, .slice A len cap] w fun e w' => e = .returned (.bool true) ∧ w = w' := by
  obtain ⟨hlen, hc⟩ := isRow_cells h
  clear h
  go_enter Try.func7, Try.ntmps7
  go_wp2_with (first | (go_at_call 14; refine (seq_awake _).mono ?_; rintro e w1 ⟨rfl, rfl⟩) | (go_at_call 15; refine (ref_of _ _ (by omega) (by omega)).mono ?_; rintro e w1 ⟨rfl, rfl⟩) | (go_at_call 17; refine (seq_low _ _ (by omega) (by omega)).mono ?_; rintro e w1 ⟨rfl, rfl⟩) | (go_at_call 18; refine (seq_add _ _ _ (by omega) (by omega) (by omega) (by omega)).mono ?_; rintro e w1 ⟨rfl, rfl⟩))
  go_loop [5, 6, 7] (fun x s i => ∃ (k : Nat) (n : Int), k ≤ 30 ∧ i = .int .i64 k ∧ s = .int .i64 n ∧ -1099511627776 * (k : Int) ≤ n ∧ n ≤ 1099511627776 * (k : Int) ∧ x = .int .u32 ((a + n) % 16777216)) (fun _ _ i => 30 - (intOf i).toNat)
  case atStart => exact ⟨0, 0, by omega, rfl, rfl, by omega, by omega, by simp⟩
  case round =>
    obtain ⟨k, n, hk, rfl, rfl, hn1, hn2, rfl⟩ := hrel
    by_cases h1 : k < len
    · obtain ⟨b, off, rfl, hcell⟩ : ∃ b off, A = some ⟨b, off, none⟩ ∧ ∀ i, i < len → w.cell? ⟨b, off + i, none⟩ = some (.int .i64 (zs.getD i 0)) := by
        rcases hc with rfl | h
        · omega
        · exact h
      have hz := hcell k h1
      clear hcell hc
      generalize zs.getD k 0 = z at hz
      by_cases h2 : k < 30
      · go_wp2_with (first | (go_at_call 14; refine (seq_awake _).mono ?_; rintro e w1 ⟨rfl, rfl⟩) | (go_at_call 15; refine (ref_of _ _ (by omega) (by omega)).mono ?_; rintro e w1 ⟨rfl, rfl⟩) | (go_at_call 17; refine (seq_low _ _ (by omega) (by omega)).mono ?_; rintro e w1 ⟨rfl, rfl⟩) | (go_at_call 18; refine (seq_add _ _ _ (by omega) (by omega) (by omega) (by omega)).mono ?_; rintro e w1 ⟨rfl, rfl⟩))
        go_round
        case rel =>
          refine ⟨k + 1, _, by omega, by go_num, rfl, ?_, ?_, by rw [Int.add_assoc]⟩ <;> (have hb := clamp_bd z; omega)
        case measure => simp [intOf]; omega
      · go_wp2_with (first | (go_at_call 14; refine (seq_awake _).mono ?_; rintro e w1 ⟨rfl, rfl⟩) | (go_at_call 15; refine (ref_of _ _ (by omega) (by omega)).mono ?_; rintro e w1 ⟨rfl, rfl⟩) | (go_at_call 17; refine (seq_low _ _ (by omega) (by omega)).mono ?_; rintro e w1 ⟨rfl, rfl⟩) | (go_at_call 18; refine (seq_add _ _ _ (by omega) (by omega) (by omega) (by omega)).mono ?_; rintro e w1 ⟨rfl, rfl⟩))
        go_ret
        exact ⟨rfl, rfl⟩
    · clear hc
      go_wp2_with (first | (go_at_call 14; refine (seq_awake _).mono ?_; rintro e w1 ⟨rfl, rfl⟩) | (go_at_call 15; refine (ref_of _ _ (by omega) (by omega)).mono ?_; rintro e w1 ⟨rfl, rfl⟩) | (go_at_call 17; refine (seq_low _ _ (by omega) (by omega)).mono ?_; rintro e w1 ⟨rfl, rfl⟩) | (go_at_call 18; refine (seq_add _ _ _ (by omega) (by omega) (by omega) (by omega)).mono ?_; rintro e w1 ⟨rfl, rfl⟩))
      go_ret
      exact ⟨rfl, rfl⟩
end Go.Proofs.Ytamnmablodgdjaa
