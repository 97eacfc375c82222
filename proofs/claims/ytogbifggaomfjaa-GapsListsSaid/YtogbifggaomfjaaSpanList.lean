/- The contract of span's List. Conditions: the set is of numbers that may be, of at most 65536 of them. -/
import Derived.Test.YtogbifggaomfjaaSpanPut
namespace Go.Proofs.Ytogbifggaomfjaa
open Go.RowKit Sp
set_option linter.unusedVariables false

theorem nums_take {s : List Span} {k : Nat} (hk : k < s.length) : nums (s.take (k + 1)) = nums (s.take k) ++ range s[k].1 s[k].2 := by
  rw [List.take_succ_eq_append_getElem hk, nums_append]
  congr 1
  simp [nums]
theorem nums_take_le (s : List Span) (k : Nat) : (nums (s.take k)).length ≤ (nums s).length := by
  have h := nums_append (s.take k) (s.drop k)
  rw [List.take_append_drop] at h
  rw [h, List.length_append]
  omega
theorem ownForm1 {w : World} {base n : Nat} {e : TypeId} {v : Value} {l : List Value} (h : w.ownsRow base e 1 v n l) : ∃ A cap, v = .slice A n cap ∧ n ≤ cap ∧ cap ≤ maxLen := by
  rcases h.2 with ⟨rfl, rfl⟩ | ⟨g, cap, cur, rfl, _, _, h1, h2, _⟩
  · exact ⟨none, 0, rfl, Nat.le_refl _, by decide⟩
  · exact ⟨_, cap, rfl, h1, h2⟩

theorem ne_own {v v' : Value} {g n : Nat} (h : v.ownBlock ≠ some g) (hv : v'.ownBlock = v.ownBlock ∨ v'.ownBlock = some n) (hn : g < n) : v'.ownBlock ≠ some g := by
  rcases hv with e | e
  · rw [e]; exact h
  · rw [e]; intro h; injection h with h; omega

set_option maxHeartbeats 1000000 in
set_option maxRecDepth 100000 in
theorem list (s : List Span) (v : Value) (w : World) (h : WideAt w v s) (hl : (nums s).length ≤ 65536) :
    Calls Try.prog 31 #[v] w fun e w' => ∃ u, e = .returned u ∧ IntRow w' u (nums s) ∧ Below w.heap.size w w' := by
  obtain ⟨A, cap, rfl⟩ := h.form
  have hfew := h.few
  have HS := Lib.hid h
  clear h
  obtain ⟨i0, hi, hz0, hz1, hz2⟩ := info_parts infoInt0
  have Hi := Lib.hid hi
  have Hz0 := Lib.hid hz0
  have Hz1 := Lib.hid hz1
  have Hz2 := Lib.hid hz2
  clear hi hz0 hz1 hz2
  go_enter Try.func31, Try.ntmps31
  go_wp2_with fail
  go_loopw [3, 9] (fun a i wr => ∃ (k : Nat) (v : Value), k ≤ s.length ∧ v = a ∧ i = .int .i64 k ∧ Hid (wr.ownsRow w.heap.size 3 1 v (nums (s.take k)).length ((nums (s.take k)).map (Value.int .i64))) ∧ Hid (Below w.heap.size w wr)) (fun _ i _ => s.length - (intOf i).toNat)
  case atStart => exact ⟨0, _, by omega, rfl, rfl, World.ownsRow_nil w _ _ _, Below.refl _ _⟩
  case round =>
    obtain ⟨k, v, hk, rfl, rfl, HO, HW⟩ := hrel
    by_cases hlt : k < s.length
    · have ex := List.getElem?_eq_getElem hlt
      obtain ⟨b, off, rfl, hbl, c0, c1⟩ := (HS.out.row.below HW.out).get ex
      have hc := HS.out.canon.1 _ (List.getElem_mem hlt)
      have hwi := HS.out.within _ (List.getElem_mem hlt)
      unfold least behind at hwi
      have hnt := nums_take hlt
      have hle := nums_take_le s (k + 1)
      rw [hnt, List.length_append, length_range] at hle
      have HNT := Lib.hid hnt
      clear ex hnt
      generalize s[k] = x at *
      generalize x.1 = a at *
      generalize x.2 = d at *
      generalize nums (s.take k) = L at *
      have hbx1 : (wr.alloc (.cells #[.int .i64 a, .int .i64 d] 32)).cell? ⟨wr.heap.size, 1, none⟩ = some (.int .i64 d) := by have h := cells_two_new wr (.int .i64 a) (.int .i64 d) 32 1 _ rfl; rwa [Addr.add_lit, Nat.zero_add] at h
      have hbx0 : (wr.alloc (.cells #[.int .i64 a, .int .i64 d] 32)).cell? ⟨wr.heap.size, 0, none⟩ = some (.int .i64 a) := by have h := cells_two_new wr (.int .i64 a) (.int .i64 d) 32 0 _ rfl; rwa [Addr.add_lit, Nat.zero_add] at h
      have HOW := Lib.hid (HO.out.alloc (.cells #[.int .i64 a, .int .i64 d] 32))
      have HWW := Lib.hid (HW.out.alloc HW.out.size (.cells #[.int .i64 a, .int .i64 d] 32))
      have hg : wr.heap.size < (wr.alloc (.cells #[.int .i64 a, .int .i64 d] 32)).heap.size := by simp
      have HNE : Hid (v.ownBlock ≠ some wr.heap.size) := fun h => by have := (HO.out.lt _ h).2; omega
      have HBX1 := Lib.hid hbx1
      clear HO HW
      go_upto_region 5 with fail
      clear c0 c1
      generalize wr.alloc (.cells #[.int .i64 a, .int .i64 d] 32) = W at *
      generalize wr.heap.size = g at *
      go_wp2_with fail
      go_loopw [3, 6] (fun b n w2 => ∃ (u : Value) (m : Int), u = b ∧ n = .int .i64 m ∧ a ≤ m ∧ m ≤ d ∧ Hid (w2.ownsRow w.heap.size 3 1 u (L ++ range a m).length ((L ++ range a m).map (Value.int .i64))) ∧ Hid (Below w.heap.size w w2) ∧ Hid (u.ownBlock ≠ some g) ∧ Hid (w2.cell? ⟨g, 1, none⟩ = some (.int .i64 d))) (fun _ n _ => (d - intOf n).toNat)
      case atStart => exact ⟨_, a, rfl, rfl, by omega, by omega, by rw [range_empty (Int.le_refl _), List.append_nil]; exact HOW, HWW, HNE, HBX1⟩
      case round =>
        obtain ⟨u, m, rfl, rfl, hm1, hm2, HO2, HW2, HNE2, HC2⟩ := hrel
        obtain ⟨Au, cu, rfl, hu1, hu2⟩ := ownForm1 HO2.out
        have hlm : (L ++ range a m).length = L.length + (m - a).toNat := by rw [List.length_append, length_range]
        have hc2 := HC2.out
        clear HC2 hbx0 hbx1 HBX1
        by_cases hmd : m < d
        · have hdm : decide (m < d) = true := by simp; exact hmd
          have hl65 : ((L ++ range a m).length : Int) < 65536 := by omega
          have hd65 : decide (((L ++ range a m).length : Int) < 65536) = true := by simp only [decide_eq_true_eq]; exact hl65
          have HRS : Hid (L ++ range a (m + 1) = L ++ range a m ++ [m]) := by show _ = _; rw [range_snoc hm1, List.append_assoc]
          clear hlm
          generalize L ++ range a m = L2 at *
          have hg2 : g < wr.heap.size := World.block_lt_of_cell? wr ⟨g, 1, none⟩ hc2
          have HCA : Hid ((wr.alloc (.cells #[.int .i64 m] 3)).cell? ⟨g, 1, none⟩ = some (.int .i64 d)) := by show _ = _; rw [((Below.refl _ wr).alloc (Nat.le_refl _) (.cells #[.int .i64 m] 3)).cell (p := ⟨g, 1, none⟩) hg2]; exact hc2
          go_wp2_with (at_builtin; refine wpList_append_src _ rfl (.tmp 26) (.tmp 28) 45 rfl w.heap.size 3 i0 (.int .i64 0) 1 8 Try.underlying45 Hi.out Hz0.out Hz1.out Hz2.out rfl (by decide) (.slice Au L2.length cu) L2.length (L2.map (Value.int .i64)) rfl (World.ownsRow.alloc HO2.out _) (some ⟨_, 0, none⟩) 1 1 [.int .i64 m] rfl rfl (fun h => by cases h) (one_src (one_new _ _ _)) (fun u hu => by simp at hu; subst hu; rfl) (by unfold maxLen; omega) (by omega) (by have := HW2.out.size; rw [World.size_alloc]; omega) ?_; intro v5 w5 hown4 hg4 hv4; have HO5 := Lib.hid hown4; have HW5 := Lib.hid ((HW2.out.alloc HW2.out.size _).grown hg4 (by rw [World.size_alloc]; have := HW2.out.size; omega) (fun j hj => (HO2.out.lt j hj).1)); have HC5 := Lib.hid (hg4.cell HCA.out (fun h => HNE2.out h.symm)); have HNE5 := Lib.hid (ne_own HNE2.out hv4 (by rw [World.size_alloc]; omega)); clear hown4 hg4 hv4)
          go_roundw
          case rel => exact ⟨v5, m + 1, rfl, by go_num, by omega, by omega, by rw [HRS.out, List.length_append, List.map_append]; exact HO5.out, HW5, HNE5, HC5⟩
          case measure => simp [intOf]; omega
        · have hmd2 : m = d := by omega
          subst hmd2
          clear hlm
          go_wp2_with fail
          go_roundw
          case rel => exact ⟨k + 1, _, by omega, rfl, by go_num, by rw [HNT.out]; exact HO2, HW2⟩
          case measure => simp [intOf]; omega
    · have hks : k = s.length := by omega
      subst hks
      rw [List.take_of_length_le (Nat.le_refl _)] at HO
      go_wp2_with fail
      go_ret
      exact ⟨_, rfl, intRow_own HO.out (by omega), HW.out⟩
end Go.Proofs.Ytogbifggaomfjaa
