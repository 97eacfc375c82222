/- The walk of EventData. Conditions: event's variables and the library's table lie as their initialisers leave them; the numbers are of 64 bits. -/
import Derived.Test.YtnocckgbcjienaaDoorEvLaws
import Derived.Deep.OwnRows
import Derived.Deep.CutBlock
namespace Go.Proofs.YtnocckgbcjienaaDoor
open Go.RowKit
set_option linter.unusedVariables false
set_option linter.unusedSimpArgs false

def zeros (n : Nat) : ByteArray := ⟨(List.replicate n 0).toArray⟩
theorem noughts_size (n : Nat) : (zeros n).size = n := by unfold zeros; simp [ByteArray.size]
theorem nums_zeros (n : Nat) : nums (zeros n) = List.replicate n 0 := by unfold nums zeros; simp
theorem strOf_replicate (n : Nat) : strOfNums (List.replicate n 0) = zeros n := by
  apply nums_inj
  rw [nums_zeros, nums_strOfNums, List.map_replicate]
  rfl
theorem made_zeros (W : World) (n : Nat) :
    Sem.run Tryd.prog (convert 43 9 (.slice (some ⟨W.heap.size, 0, none⟩) n n)) (W.alloc (.cells (madeCells #[.int .u8 0] n) 5)) = .ok (.string (zeros n)) (W.alloc (.cells (madeCells #[.int .u8 0] n) 5)) := by
  rw [← strOf_replicate]
  refine run_convert_bytes_arg (P := Tryd.prog) _ 43 5 Tryd.underlying43 Tryd.underlying5 W.heap.size 0 n n (List.replicate n 0) (by simp) ?_ 9 Tryd.underlying9
  intro i hi
  rw [Nat.zero_add, cell_of_row _ _ i _ _ (0, 0) (heap_alloc_new W _), ← Array.getElem?_toList, toList_madeCells_one]
  simp [hi]
theorem and255 (t : Int) : Go.bits .and .i64 t 255 = t % 256 := by
  have e3 : (BitVec.ofInt 64 255).toNat = 2 ^ 8 - 1 := by decide
  have e4 : (BitVec.ofInt 64 t &&& BitVec.ofInt 64 255).toNat = (t % 256).toNat := by
    rw [BitVec.toNat_and, BitVec.toNat_ofInt, e3, Nat.and_two_pow_sub_one_eq_mod]
    omega
  show IntKind.i64.wrap ((BitVec.ofInt 64 t &&& BitVec.ofInt 64 255).toNat : Nat) = _
  rw [e4, IntKind.wrap_i64]
  omega
set_option maxHeartbeats 8000000 in
set_option maxRecDepth 100000 in
theorem walk_EventData (kind n : Int) (w : World) (hS : VarsIn w) (htab : TabIn w) (h1 : -9223372036854775808 ≤ n) (h2 : n ≤ 9223372036854775807) :
    Calls Tryd.prog 8 #[.int .i64 kind, .int .i64 n] w fun e w' => e = .returned (.bool true) ∧ Below w.heap.size w w' := by
  have HS := Lib.hid hS
  have HT := Lib.hid htab
  clear hS htab
  go_enter Tryd.func8, Tryd.ntmps8
  go_wp2_with fail
  refine (ev_awake _ HS.out HT.out).mono ?_
  rintro e w1 ⟨rfl, hb1⟩
  have HB1 := Lib.hid hb1
  clear hb1
  go_upto_region 3 with fail
  go_cut [1] (fun s1 w' => ∃ N : Nat, s1 = .int .i64 (N : Int) ∧ Hid (N ≤ 300) ∧ w1 = w')
  case first =>
    go_wp2_with fail
    all_goals go_meet
    all_goals exact ⟨(max 0 (min n 300)).toNat, (by congr 1; omega), (by show _ ≤ _; omega), rfl⟩
  case rest =>
    obtain ⟨N, rfl, HN, rfl⟩ := hcut
    have hN := HN.out
    clear h1 h2 HN
    have hmk := run_make_row' (P := Tryd.prog) 43 5 (.int .u8 0) 1 Tryd.underlying43 infoByte1 rfl .i64 .i64 N (by omega) (by omega)
    have hcv := fun W => made_zeros W N
    have hzs := noughts_size N
    have b2 := fun (k : Int) (d : ByteArray) (W : World) => run_build (P := Tryd.prog) W 23 #[(0, .int .i64 k), (1, .string d)] #[.int .i64 k, .string d, .int .i64 0] (by kernel_rfl)
    have ha := and255 kind
    have hr : IntKind.i64.wrap ((kind % 256) % 9) = (kind % 256) % 9 := by rw [IntKind.wrap_i64]; omega
    have hk : 1 + kind % 256 % 9 = 1 ∨ 1 + kind % 256 % 9 = 2 ∨ 1 + kind % 256 % 9 = 3 ∨ 1 + kind % 256 % 9 = 4 ∨ 1 + kind % 256 % 9 = 5 ∨ 1 + kind % 256 % 9 = 6 ∨ 1 + kind % 256 % 9 = 7 ∨ 1 + kind % 256 % 9 = 8 ∨ 1 + kind % 256 % 9 = 9 := by omega
    generalize zeros N = Z at *
    go_upto_region 5 with fail
    have hb2 := (Below.refl w1.heap.size w1).alloc (Nat.le_refl _) (.cells (madeCells #[.int .u8 0] N) 5)
    generalize 1 + kind % 256 % 9 = K at *
    have hb3 := (Below.refl (w1.alloc (.cells (madeCells #[.int .u8 0] N) 5)).heap.size (w1.alloc (.cells (madeCells #[.int .u8 0] N) 5))).alloc (Nat.le_refl _) (.cells #[.int .i64 K, .string Z, .int .i64 0] 23)
    have HQ : Hid (RQ ((w1.alloc (.cells (madeCells #[.int .u8 0] N) 5)).alloc (.cells #[.int .i64 K, .string Z, .int .i64 0] 23)) (w1.heap.size + 1) K 0 Z) := by
      have h := req_new (w1.alloc (.cells (madeCells #[.int .u8 0] N) 5)) K 0 Z
      rw [World.size_alloc] at h
      exact h
    have HB2 := Lib.hid (HB1.out.trans ((hb2.trans (hb3.mono hb2.size)).mono HB1.out.size))
    clear hb2 hb3 hmk hcv b2 ha hr
    generalize (w1.alloc (.cells (madeCells #[.int .u8 0] N) 5)).alloc (.cells #[.int .i64 K, .string Z, .int .i64 0] 23) = w2 at *
    generalize w1.heap.size + 1 = g at *
    have HCK := Lib.hid (fun W (hW : VarsIn W) => ev_check K 0 Z W hW)
    have hcc : ∃ M : Int, (M = 64 ∨ M = 0 ∨ M = 200) ∧ (K = 1 ∧ M = 64 ∨ K = 2 ∧ M = 0 ∨ K = 3 ∧ M = 64 ∨ K = 4 ∧ M = 64 ∨ K = 5 ∧ M = 0 ∨ K = 6 ∧ M = 0 ∨ K = 7 ∧ M = 200 ∨ K = 8 ∧ M = 200 ∨ K = 9 ∧ M = 200) ∧ reqA K Z 0 = (if (N : Int) ≤ M then 0 else if M = 0 then 1 else 6) := by
      rcases hk with rfl | rfl | rfl | rfl | rfl | rfl | rfl | rfl | rfl
      · exact ⟨64, by omega, by omega, (req_data 1 64 Z 0 (by decide) rfl (by decide) rfl).trans (by rw [hzs]; repeat' split <;> omega)⟩
      · exact ⟨0, by omega, by omega, (req_none 2 Z 0 (by decide) rfl rfl).trans (by rw [hzs]; repeat' split <;> omega)⟩
      · exact ⟨64, by omega, by omega, (req_data 3 64 Z 0 (by decide) rfl (by decide) rfl).trans (by rw [hzs]; repeat' split <;> omega)⟩
      · exact ⟨64, by omega, by omega, (req_data 4 64 Z 0 (by decide) rfl (by decide) rfl).trans (by rw [hzs]; repeat' split <;> omega)⟩
      · exact ⟨0, by omega, by omega, (req_none 5 Z 0 (by decide) rfl rfl).trans (by rw [hzs]; repeat' split <;> omega)⟩
      · exact ⟨0, by omega, by omega, (req_none 6 Z 0 (by decide) rfl rfl).trans (by rw [hzs]; repeat' split <;> omega)⟩
      · exact ⟨200, by omega, by omega, (req_data 7 200 Z 0 (by decide) rfl (by decide) rfl).trans (by rw [hzs]; repeat' split <;> omega)⟩
      · exact ⟨200, by omega, by omega, (req_data 8 200 Z 0 (by decide) rfl (by decide) rfl).trans (by rw [hzs]; repeat' split <;> omega)⟩
      · exact ⟨200, by omega, by omega, (req_data 9 200 Z 0 (by decide) rfl (by decide) rfl).trans (by rw [hzs]; repeat' split <;> omega)⟩
    obtain ⟨M, hM, hKM, hC⟩ := hcc
    rw [hC] at HCK
    have HC := Lib.hid hC
    clear hk hC HC
    obtain ⟨x0, x1, x2⟩ := HQ.out
    go_upto_region 5 with fail
    go_cut [6] (fun s6 w' => s6 = .int .i64 M ∧ Hid (RQ w' g K 0 Z) ∧ Hid (Below w.heap.size w w'))
    case first =>
      have hgl : g < w2.heap.size := pos_of_cell x0
      have y0 : (w2.alloc (.cells #[.int .i64 64, .int .i64 0, .int .i64 64, .int .i64 64, .int .i64 0, .int .i64 0, .int .i64 200, .int .i64 200, .int .i64 200] 3)).cell? ⟨g, 0, none⟩ = some (.int .i64 K) := by
        rw [((Below.refl w2.heap.size w2).alloc (Nat.le_refl _) _).cell (p := ⟨g, 0, none⟩) hgl]; exact x0
      rcases hKM with ⟨rfl, rfl⟩ | ⟨rfl, rfl⟩ | ⟨rfl, rfl⟩ | ⟨rfl, rfl⟩ | ⟨rfl, rfl⟩ | ⟨rfl, rfl⟩ | ⟨rfl, rfl⟩ | ⟨rfl, rfl⟩ | ⟨rfl, rfl⟩
      all_goals
        go_wp2_with fail
        go_meet
        exact ⟨rfl, rq_next HQ.out ((Below.refl _ _).alloc (Nat.le_refl _) _), HB2.out.alloc HB2.out.size _⟩
    case rest =>
      obtain ⟨rfl, HQ3, HB3⟩ := hcut
      clear x0 x1 x2 HQ HB2 hKM
      obtain ⟨x0, x1, x2⟩ := HQ3.out
      by_cases hle : (N : Int) ≤ M
      · rw [if_pos hle] at HCK
        have d1 : decide ((N : Int) ≤ M) = true := decide_eq_true hle
        clear hle
        go_wp2_with fail
        refine (HCK.out _ (HS.out.next HB3.out)).mono ?_
        rintro e w4 ⟨rfl, hb4⟩
        have HB4 := Lib.hid (HB3.out.trans (hb4.mono HB3.out.size))
        clear hb4
        go_wp2_with fail
        go_ret
        exact ⟨by first | rfl | simp, HB4.out⟩
      · rw [if_neg hle] at HCK
        have d1 : decide ((N : Int) ≤ M) = false := decide_eq_false hle
        clear hle
        rcases hM with rfl | rfl | rfl
        all_goals
          have hn0 : ¬ (N = 0) := by have := of_decide_eq_false d1; omega
          first | rw [if_pos rfl] at HCK | rw [if_neg (by decide)] at HCK
          go_wp2_with fail
          refine (HCK.out _ (HS.out.next HB3.out)).mono ?_
          rintro e w4 ⟨rfl, hb4⟩
          have HB4 := Lib.hid (HB3.out.trans (hb4.mono HB3.out.size))
          clear hb4
          go_wp2_with fail
          go_ret
          exact ⟨by first | rfl | simp, HB4.out⟩
end Go.Proofs.YtnocckgbcjienaaDoor
