/- The contract of seq.Run: a new row of the numbers, one behind the other. Conditions: the arguments fit their kinds. -/
import Derived.Test.YtamnmablodgdjaaSeqLaws
import Derived.Deep.OwnRows
import Derived.StillTailTactics
namespace Go.Proofs.Ytamnmablodgdjaa
open Go.RowKit
set_option linter.unusedVariables false

def numAt (a : Int) (i : Nat) : Value := .int .u32 ((a + (i : Int)) % 16777216)
theorem info24 : (Try.prog.info? 24).map (fun i => (i.zero, i.size, i.bytes)) = some (some (.int .u32 0), 1, 4) := by kernel_rfl

theorem seq_run (a n : Int) (m : Nat) (w : World) (h1 : 0 ≤ a) (h2 : a < 4294967296) (h3 : n = m ∨ (n < 0 ∧ m = 0)) (h4 : m ≤ 65535) :
    Calls Try.prog 23 #[.int .u32 a, .int .i64 n] w fun e w' => e = .returned (.slice (some ⟨w.heap.size, 0, none⟩) m m) ∧ w'.rowIs w.heap.size 24 m (numAt a) ∧ Below w.heap.size w w' := by
  have hmk := run_make_row' (P := Try.prog) 35 24 (.int .u32 0) 4 Try.underlying35 info24 rfl .i64 .i64 m (by omega) (by omega)
  have h3' : n ≤ 65535 := by omega
  have h5 : n = m ∨ n < 0 := by omega
  rcases h3 with rfl | ⟨hn, rfl⟩
  · go_enter Try.func23, Try.ntmps23
    go_wp2_with fail
    go_loopw [13] (fun i wr => ∃ k : Nat, k ≤ m ∧ i = .int .i64 k ∧ wr.rowIs w.heap.size 24 m (fun j => if j < k then numAt a j else .int .u32 0) ∧ Below w.heap.size w wr) (fun i _ => m - (intOf i).toNat)
    case atStart => exact ⟨0, by omega, rfl, (World.rowIs_made w (.int .u32 0) m _).congr (fun j _ => by simp), (Below.refl _ w).alloc (Nat.le_refl _) _⟩
    case round =>
      obtain ⟨k, hk, rfl, hrow, hbel⟩ := hrel
      by_cases hlt : k < m
      · have hcell : wr.cell? ⟨w.heap.size, k, none⟩ = some (.int .u32 0) := by rw [hrow.cell hlt]; simp
        have hfr : wr.frozen? ⟨w.heap.size, k, none⟩ = false := hrow.frozen k
        have Hrow := Lib.hid hrow
        clear hrow
        go_wp2_with (go_at_call 18; refine (seq_add _ _ _ (by omega) (by omega) (by omega) (by omega)).mono ?_; rintro e w1 ⟨rfl, rfl⟩)
        go_roundw
        case rel =>
          refine ⟨k + 1, by omega, by go_num, (Hrow.out.set k _).congr (fun j _ => ?_), hbel.setCell (Nat.le_refl _) _⟩
          by_cases e : j = k
          · subst e; simp [numAt]
          · have e2 : (j < k + 1) = (j < k) := by rw [eq_iff_iff]; omega
            simp [e, e2]
        case measure => simp [intOf]; omega
      · go_wp2_with fail
        go_ret
        refine ⟨by first | rfl | trace_state, hrow.congr (fun j hj => by rw [if_pos (by omega)]), hbel⟩
  · simp only [Int.ofNat_zero] at hmk
    go_enter Try.func23, Try.ntmps23
    go_wp2_with fail
    go_loopw [13] (fun i wr => i = .int .i64 0 ∧ wr.rowIs w.heap.size 24 0 (numAt a) ∧ Below w.heap.size w wr) (fun i _ => 0)
    case atStart => exact ⟨rfl, (World.rowIs_made w (.int .u32 0) 0 _).congr (fun j hj => by omega), (Below.refl _ w).alloc (Nat.le_refl _) _⟩
    case round =>
      obtain ⟨rfl, hrow, hbel⟩ := hrel
      go_wp2_with fail
      go_ret
      exact ⟨rfl, hrow, hbel⟩

theorem walk_SeqRuns (a n : Int) (w : World) (a1 : 0 ≤ a) (a2 : a < 4294967296) (n1 : -9223372036854775808 ≤ n) (n2 : n ≤ 9223372036854775807) :
    Calls Try.prog 6 #[.int .u32 a, .int .i64 n] w fun e w' => e = .returned (.bool true) ∧ Below w.heap.size w w' := by
  obtain ⟨m, hm, hm2⟩ : ∃ m : Nat, m ≤ 2000 ∧ ((2000 < n ∧ m = 2000) ∨ (n < 0 ∧ m = 0) ∨ n = m) := by
    by_cases h : 2000 < n
    · exact ⟨2000, by omega, .inl ⟨h, rfl⟩⟩
    · by_cases h2 : n < 0
      · exact ⟨0, by omega, .inr (.inl ⟨h2, rfl⟩)⟩
      · exact ⟨n.toNat, by omega, .inr (.inr (by omega))⟩
  rcases hm2 with ⟨h, hm3⟩ | ⟨h, hm3⟩ | hm3
  · clear hm hm3
    obtain ⟨m, hmu, hml⟩ : ∃ m : Nat, m ≤ 2000 ∧ 2000 ≤ m := ⟨2000, by omega, by omega⟩
    have hne : ((m : Int) != 2000) = false := by rw [bne_eq_false_iff_eq]; omega
    go_enter Try.func6, Try.ntmps6
    go_wp2_with fail
    refine (seq_awake _).mono ?_
    rintro e w1 ⟨rfl, rfl⟩
    go_wp2_with fail
    refine (seq_run _ _ m _ (by omega) (by omega) (by omega) (by omega)).mono ?_
    rintro e w1 ⟨rfl, hrow, hbel⟩
    have hcell : ∀ k, k < m → w1.cell? ⟨w.heap.size, k, none⟩ = some (numAt a k) := fun k hk => hrow.cell hk
    clear hrow
    go_wp2_with fail
    go_loop [22] (fun i => ∃ k : Nat, k ≤ m ∧ i = .int .i64 k) (fun i => m - (intOf i).toNat)
    case atStart => exact ⟨0, by omega, rfl⟩
    case round =>
      obtain ⟨k, hk, rfl⟩ := hrel
      by_cases hlt : k < m
      · have hc := hcell k hlt
        clear hcell
        unfold numAt at hc
        have hf1 : ((a + (k : Int)) % 16777216 - a) % 16777216 = k := by omega
        go_wp2_with (first | (go_at_call 15; refine (ref_of _ _ (by omega) (by omega)).mono ?_; rintro e w1 ⟨rfl, rfl⟩) | (go_at_call 19; refine (seq_to _ _ _ (by omega) (by omega) (by omega) (by omega)).mono ?_; rintro e w1 ⟨rfl, rfl⟩))
        go_round
        case rel => exact ⟨k + 1, by omega, by go_num⟩
        case measure => simp [intOf]; omega
      · go_wp2_with fail
        go_ret
        exact ⟨rfl, hbel⟩
  · subst hm3
    go_enter Try.func6, Try.ntmps6
    go_wp2_with fail
    refine (seq_awake _).mono ?_
    rintro e w1 ⟨rfl, rfl⟩
    go_wp2_with fail
    refine (seq_run _ _ 0 _ (by omega) (by omega) (by omega) (by omega)).mono ?_
    rintro e w1 ⟨rfl, hrow, hbel⟩
    have hcell : ∀ k, k < 0 → w1.cell? ⟨w.heap.size, k, none⟩ = some (numAt a k) := fun k hk => hrow.cell hk
    clear hrow
    go_wp2_with fail
    go_loop [22] (fun i => ∃ k : Nat, k ≤ 0 ∧ i = .int .i64 k) (fun i => 0 - (intOf i).toNat)
    case atStart => exact ⟨0, by omega, rfl⟩
    case round =>
      obtain ⟨k, hk, rfl⟩ := hrel
      by_cases hlt : k < 0
      · omega
      · go_wp2_with fail
        go_ret
        exact ⟨rfl, hbel⟩
  · subst hm3
    go_enter Try.func6, Try.ntmps6
    go_wp2_with fail
    refine (seq_awake _).mono ?_
    rintro e w1 ⟨rfl, rfl⟩
    go_wp2_with fail
    refine (seq_run _ _ m _ (by omega) (by omega) (by omega) (by omega)).mono ?_
    rintro e w1 ⟨rfl, hrow, hbel⟩
    have hcell : ∀ k, k < m → w1.cell? ⟨w.heap.size, k, none⟩ = some (numAt a k) := fun k hk => hrow.cell hk
    clear hrow
    go_wp2_with fail
    go_loop [22] (fun i => ∃ k : Nat, k ≤ m ∧ i = .int .i64 k) (fun i => m - (intOf i).toNat)
    case atStart => exact ⟨0, by omega, rfl⟩
    case round =>
      obtain ⟨k, hk, rfl⟩ := hrel
      by_cases hlt : k < m
      · have hc := hcell k hlt
        clear hcell
        unfold numAt at hc
        have hf1 : ((a + (k : Int)) % 16777216 - a) % 16777216 = k := by omega
        go_wp2_with (first | (go_at_call 15; refine (ref_of _ _ (by omega) (by omega)).mono ?_; rintro e w1 ⟨rfl, rfl⟩) | (go_at_call 19; refine (seq_to _ _ _ (by omega) (by omega) (by omega) (by omega)).mono ?_; rintro e w1 ⟨rfl, rfl⟩))
        go_round
        case rel => exact ⟨k + 1, by omega, by go_num⟩
        case measure => simp [intOf]; omega
      · go_wp2_with fail
        go_ret
        exact ⟨rfl, hbel⟩
end Go.Proofs.Ytamnmablodgdjaa
