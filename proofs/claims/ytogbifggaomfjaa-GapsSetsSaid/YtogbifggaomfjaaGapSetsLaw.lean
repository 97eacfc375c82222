/- The walk of the law GapsSets. Conditions: the slice lies as slices do, the numbers fit their kinds. -/
import Derived.Test.YtogbifggaomfjaaGapRefSet
import Derived.Test.YtogbifggaomfjaaIntIn
namespace Go.Proofs.Ytogbifggaomfjaa
open Go.RowKit Sp Go.Sort
set_option linter.unusedVariables false
set_option linter.unusedSimpArgs false

section
open Go.ChangeShapes Go.WideShapes Go.Deep Go.RowKit Go.Joins
variable {H : Type} {enc : TypeId × Value → H} {P : Program} {w : World} {base : Nat} {spare : Nat → Bool} {held : Bool}
theorem intCap_of {t e : TypeId} {fuel : Nat} {A : Option Addr} {len cap : Nat} {x : DataW H × List MemPlace} (ht : P.underlying t = some (.slice e)) (he : P.underlying e = some (.int .i64)) (hc : P.cellsOf e = 1)
    (h : DataW.trod enc P w base spare held fuel t [.slice A len cap] = some x) : len ≤ cap ∧ cap ≤ maxLen := by
  rcases open_ints ht he hc h with ⟨hcs, _⟩ | ⟨a, l, c, zs, hcs, _, hl, hm, _⟩
  · simp at hcs
    obtain ⟨rfl, rfl, rfl⟩ := hcs
    exact ⟨Nat.le_refl _, by decide⟩
  · simp at hcs
    obtain ⟨rfl, rfl, rfl⟩ := hcs
    exact ⟨hl, hm⟩
end

theorem and63 (t : Int) : Go.bits .and .i64 t 63 = t % 64 := by
  have e3 : (BitVec.ofInt 64 63).toNat = 2 ^ 6 - 1 := by decide
  have e4 : (BitVec.ofInt 64 t &&& BitVec.ofInt 64 63).toNat = (t % 64).toNat := by
    rw [BitVec.toNat_and, BitVec.toNat_ofInt, e3, Nat.and_two_pow_sub_one_eq_mod]
    omega
  show IntKind.i64.wrap ((BitVec.ofInt 64 t &&& BitVec.ofInt 64 63).toNat : Nat) = _
  rw [e4, IntKind.wrap_i64]
  omega

theorem nums_le : ∀ (q : List Span) (lo hi : Int), Canon q → (∀ x, x ∈ q → lo ≤ x.1 ∧ x.2 ≤ hi) → lo ≤ hi → ((nums q).length : Int) ≤ hi - lo
  | [], lo, hi, _, _, h => by simp [nums]; omega
  | x :: q, lo, hi, hc, hb, h => by
    obtain ⟨h1, h2, h3⟩ := canon_cons.1 hc
    have hx := hb x List.mem_cons_self
    have := nums_le q x.2 hi h3 (fun y hy => ⟨by have := h2 y hy; omega, (hb y (List.mem_cons_of_mem _ hy)).2⟩) (by omega)
    rw [nums_cons, List.length_append, length_range]
    omega

/-- What the law makes of a number that came in. -/
def ownOf (b x : Int) : Int := if -300 ≤ x ∧ x ≤ 300 then (b + x) % 16777216 else (b + 4 * (x % 64)) % 16777216
theorem ownOf_bd (b x : Int) : (0 ≤ ownOf b x ∧ ownOf b x < 16777216) ∧ ((ownOf b x - b) % 16777216 ≤ 4096 ∨ 8388608 < (ownOf b x - b) % 16777216) := by
  unfold ownOf; split <;> omega
def ownsOf (b : Int) (f : Nat → Int) (n : Nat) : List Int := (List.range n).map fun i => ownOf b (f i)
theorem ownsOf_succ (b : Int) (f : Nat → Int) (n : Nat) : ownsOf b f (n + 1) = ownsOf b f n ++ [ownOf b (f n)] := by simp [ownsOf, List.range_succ]
theorem ownsOf_len (b : Int) (f : Nat → Int) (n : Nat) : (ownsOf b f n).length = n := by simp [ownsOf]
theorem ownsOf_bd (b : Int) (f : Nat → Int) (n : Nat) : ∀ x, x ∈ ownsOf b f n → (0 ≤ x ∧ x < 16777216) ∧ ((x - b) % 16777216 ≤ 4096 ∨ 8388608 < (x - b) % 16777216) := by
  intro x hx
  obtain ⟨i, _, rfl⟩ := List.mem_map.1 hx
  exact ownOf_bd b _

/-- What is asked of the program behind the numbers are made: any way it goes, true. -/
theorem sets_ends {w w' : World} {b t : Int} {l : List Int} {e : Ending} (h : SetOut w b t l e w') :
    (∃ u, (l.length % 2 = 0 ∧ (t - b) % 16777216 ≤ 8388608 ∧ riseB b ((t - b) % 16777216) (-1) l = true) ∧ e = .returned (.tuple #[u, .bool true]) ∧ WideAt w' u (spansOf b l) ∧ Below w.heap.size w w') ∨
    (¬ (l.length % 2 = 0 ∧ (t - b) % 16777216 ≤ 8388608 ∧ riseB b ((t - b) % 16777216) (-1) l = true) ∧ e = .returned (.tuple #[.slice none 0 0, .bool false]) ∧ Below w.heap.size w w') := by
  obtain ⟨h1, h2⟩ := h
  by_cases hc : l.length % 2 = 0 ∧ (t - b) % 16777216 ≤ 8388608 ∧ riseB b ((t - b) % 16777216) (-1) l = true
  · rw [if_pos hc] at h1; obtain ⟨u, he, hw⟩ := h1; exact .inl ⟨u, hc, he, hw, h2⟩
  · rw [if_neg hc] at h1; exact .inr ⟨hc, h1, h2⟩

set_option maxHeartbeats 8000000 in
set_option maxRecDepth 100000 in
theorem sets_walk (b0 t0 : Int) (A : Option Addr) (ln cap : Nat) (w : World) (fi : Nat → Int) (N : Nat) (h : IntIn w A ln fi) (hc : ln ≤ cap ∧ cap ≤ maxLen) (hb : -9223372036854775808 ≤ b0 ∧ b0 ≤ 9223372036854775807) (ht : -9223372036854775808 ≤ t0 ∧ t0 ≤ 9223372036854775807) (hN : (20 < ln ∧ N = 20) ∨ (ln ≤ 20 ∧ N = ln)) :
    Calls Try.prog 6 #[.int .i64 b0, .int .i64 t0,   .slice A ln cap] w fun e w' => e = .returned (.bool true) ∧ Below w.heap.size w w' := by
  have HP := Lib.hid h
  unfold maxLen at hc
  have HLB := Lib.hid (fun W => seq_of b0 W hb.1 hb.2)
  have HLT := Lib.hid (fun W => seq_of t0 W ht.1 ht.2)
  have hbd : 0 ≤ b0 % 16777216 ∧ b0 % 16777216 < 16777216 := by omega
  have htd : 0 ≤ t0 % 16777216 ∧ t0 % 16777216 < 16777216 := by omega
  clear h hb ht
  generalize b0 % 16777216 = b at *
  generalize t0 % 16777216 = t at *
  obtain ⟨i0', hi, hz0, hz1, hz2⟩ := info_parts infoInt0
  have Hi := Lib.hid hi
  have Hz0 := Lib.hid hz0
  have Hz1 := Lib.hid hz1
  have Hz2 := Lib.hid hz2
  clear hi hz0 hz1 hz2
  have hN20 : N ≤ 20 ∧ N ≤ ln ∧ N ≤ cap := by omega
  have HL : Hid (∀ k, k < N → k < ln) := fun k hk => by omega
  rcases hN with ⟨hlen, hNe⟩ | ⟨hlen, hNe⟩
  · have hg : decide ((20 : Int) < (ln : Int)) = true := by simp; omega
    have hg2 : (20 : Int) ≤ (cap : Int) := by omega
    subst hNe
    go_enter Try.func6, Try.ntmps6
    go_wp2_with fail
    refine (gap_awake _).mono ?_
    rintro e w1 ⟨rfl, hb1⟩
    have HB1 := Lib.hid hb1
    have HP1 := Lib.hid (HP.out.below hb1)
    clear hb1
    go_upto_region 6 with (go_at_call 27; first | (with_reducible refine (HLB.out _).mono ?_; rintro e w' ⟨rfl, rfl⟩) | (with_reducible refine (HLT.out _).mono ?_; rintro e w' ⟨rfl, rfl⟩))
    go_wp2_with fail
    go_loopw [9, 29] (fun a i wr => ∃ (k : Nat) (v : Value), k ≤ 20 ∧ v = a ∧ i = .int .i64 k ∧ Hid (wr.ownsRow w1.heap.size 3 1 v k ((ownsOf b fi k).map (Value.int .i64))) ∧ Hid (Below w1.heap.size w1 wr)) (fun _ i _ => 20 - (intOf i).toNat)
    case atStart => exact ⟨0, _, by omega, rfl, rfl, World.ownsRow_nil _ _ _ _, Below.refl _ _⟩
    case round =>
      obtain ⟨k, v, hk, rfl, rfl, HO, HC⟩ := hrel
      by_cases hlt : k < 20
      · obtain ⟨g, off, rfl, hbl, c0, hx1, hx2⟩ := (HP1.out.below HC.out).get (HL.out k hlt)
        have HS := Lib.hid (ownsOf_succ b fi k)
        have HOW : Hid (ownOf b (fi k) = if -300 ≤ fi k ∧ fi k ≤ 300 then (b + fi k) % 16777216 else (b + 4 * (fi k % 64)) % 16777216) := rfl
        generalize fi k = x at *
        have i1 : decide ((k : Int) < (20 : Int)) = true := by simp only [decide_eq_true_eq]; omega
        have i0 : (0 : Int) ≤ (k : Int) := by omega
        have i2 : (k : Int) < (20 : Int) := by omega
        have ha := and63 x
        have hr := show 0 ≤ x % 64 ∧ x % 64 < 64 by omega
        generalize x % 64 = r at *
        by_cases hx : -300 ≤ x ∧ x ≤ 300
        · have e1 : decide (-300 ≤ x) = true := by simp; omega
          have e2 : decide (x ≤ 300) = true := by simp; omega
          have HA := Lib.hid (fun W => ref_of (b + x) W (by omega) (by omega))
          have HOE : Hid (ownOf b x = (b + x) % 16777216) := by show _ = _; rw [HOW.out, if_pos hx]
          generalize (b + x) % 16777216 = y at *
          rw [HOE.out] at HS
          go_wp2_with (first | (go_at_call 25; refine (HA.out _).mono ?_; rintro e w' ⟨rfl, rfl⟩) | (at_builtin; refine wpList_append_src _ rfl (.tmp 51) (.tmp 53) 45 rfl w1.heap.size 3 i0' (.int .i64 0) 1 8 Try.underlying45 Hi.out Hz0.out Hz1.out Hz2.out rfl (by decide) v k ((ownsOf b fi k).map (Value.int .i64)) rfl (World.ownsRow.alloc HO.out _) (some ⟨_, 0, none⟩) 1 1 [.int .i64 y] rfl rfl (fun h => by cases h) (one_src (one_new _ _ _)) (fun u hu => by simp at hu; subst hu; rfl) (by unfold maxLen; omega) (by omega) (by have := HC.out.size; rw [World.size_alloc]; omega) ?_; intro v5 w6 hown4 hg4 _; have HO5 := Lib.hid hown4; have HC5 := Lib.hid ((HC.out.alloc HC.out.size _).grown hg4 (by rw [World.size_alloc]; have := HC.out.size; omega) (fun j hj => (HO.out.lt j hj).1)); clear hown4 hg4))
          go_roundw
          case rel => exact ⟨k + 1, v5, by omega, rfl, by go_num, by have h := HO5.out; show World.ownsRow _ _ _ _ _ _ _; rw [HS.out, List.map_append]; exact h, HC5⟩
          case measure => simp [intOf]; omega
        · have e12 : decide (-300 ≤ x) = false ∨ (decide (-300 ≤ x) = true ∧ decide (x ≤ 300) = false) := by
            by_cases h : -300 ≤ x
            · exact .inr ⟨by simp; omega, by simp; omega⟩
            · exact .inl (by simp; omega)
          have HA := Lib.hid (fun W => ref_of (b + 4 * r) W (by omega) (by omega))
          have HOE : Hid (ownOf b x = (b + 4 * r) % 16777216) := by show _ = _; rw [HOW.out, if_neg hx]
          generalize (b + 4 * r) % 16777216 = y at *
          rw [HOE.out] at HS
          have HX := Lib.hid hx
          clear hx
          rcases e12 with e1 | ⟨e1, e2⟩
          all_goals
            go_wp2_with (first | (go_at_call 25; refine (HA.out _).mono ?_; rintro e w' ⟨rfl, rfl⟩) | (at_builtin; refine wpList_append_src _ rfl (.tmp 51) (.tmp 53) 45 rfl w1.heap.size 3 i0' (.int .i64 0) 1 8 Try.underlying45 Hi.out Hz0.out Hz1.out Hz2.out rfl (by decide) v k ((ownsOf b fi k).map (Value.int .i64)) rfl (World.ownsRow.alloc HO.out _) (some ⟨_, 0, none⟩) 1 1 [.int .i64 y] rfl rfl (fun h => by cases h) (one_src (one_new _ _ _)) (fun u hu => by simp at hu; subst hu; rfl) (by unfold maxLen; omega) (by omega) (by have := HC.out.size; rw [World.size_alloc]; omega) ?_; intro v5 w6 hown4 hg4 _; have HO5 := Lib.hid hown4; have HC5 := Lib.hid ((HC.out.alloc HC.out.size _).grown hg4 (by rw [World.size_alloc]; have := HC.out.size; omega) (fun j hj => (HO.out.lt j hj).1)); clear hown4 hg4))
            go_roundw
            case rel => exact ⟨k + 1, v5, by omega, rfl, by go_num, by have h := HO5.out; show World.ownsRow _ _ _ _ _ _ _; rw [HS.out, List.map_append]; exact h, HC5⟩
            case measure => simp [intOf]; omega
      · have hks : k = 20 := by omega
        have i1 : decide ((k : Int) < (20 : Int)) = false := by simp only [decide_eq_false_iff_not]; omega
        have HO1 : Hid (wr.ownsRow w1.heap.size 3 1 v 20 ((ownsOf b fi 20).map (Value.int .i64))) := by have h := HO.out; rw [hks] at h; exact h
        have HLE := Lib.hid (ownsOf_len b fi 20)
        have HBD := Lib.hid (ownsOf_bd b fi 20)
        have HO' : Hid (wr.ownsRow w1.heap.size 3 1 v (ownsOf b fi 20).length ((ownsOf b fi 20).map (Value.int .i64))) := by rw [HLE.out]; exact HO1.out
        have hol : (ownsOf b fi 20).length ≤ 20 := by rw [HLE.out]; omega
        generalize ownsOf b fi 20 = o at *
        have HIO := Lib.hid (intRow_own HO'.out (by omega))
        have HB := Lib.hid (HB1.out.trans (HC.out.mono HB1.out.size))
        clear HO HO1 HO' HC HB1
        have HONE := Lib.hid (fun (x : Int) (hx : x ∈ o) => (HBD.out x hx).1)
        have HONR := Lib.hid (fun (x : Int) (hx : x ∈ o) => (HBD.out x hx).2)
        go_wp2_with fail
        refine (nums_ v o wr HIO.out HONE.out (by omega)).mono ?_
        rintro e w3 ⟨un, rfl, hnr, hb3⟩
        have HB3 := Lib.hid (HB.out.trans (hb3.mono HB.out.size))
        have HIO3 := Lib.hid (HIO.out.below hb3)
        have HSET := Lib.hid (g_set b t o un w3 hnr hbd.1 (by omega) htd.1 (by omega) (fun x hx => by have := HONE.out x hx; omega) (by omega))
        clear hnr hb3 HIO HB
        go_wp2_with fail
        refine HSET.out.mono ?_
        intro e w4 hset
        rcases sets_ends hset with ⟨u4, hgood, rfl, hw4, hb4⟩ | ⟨hbad, rfl, hb4⟩
        · have HB4 := Lib.hid (HB3.out.trans (hb4.mono HB3.out.size))
          have HIO4 := Lib.hid (HIO3.out.below hb4)
          have HW4 := Lib.hid hw4
          have HGD := Lib.hid hgood
          have HRS := Lib.hid (ref_set b t o v w4 HIO4.out hbd htd HONE.out (by omega) HONR.out)
          clear hset hgood hw4 hb4 HSET HIO3 HB3
          go_wp2_with fail
          refine HRS.out.mono ?_
          rintro e w5 ⟨h5, hb5⟩
          rw [if_pos HGD.out] at h5
          obtain ⟨u5, rfl, hi5, hsm5⟩ := h5
          have HCN := Lib.hid (rise_canon b _ o (-1) HGD.out.2.2)
          have HNL := Lib.hid (nums_le _ 0 4096 HCN.out (fun x hx => by have := hsm5 x hx; omega) (by decide))
          have HSB : Hid (∀ n, Mem (spansOf b o) n → 0 ≤ n ∧ n < 8388609) := fun n ⟨y, hy, h1, h2⟩ => by have := hsm5 y hy; omega
          have HPS := Lib.hid (prs_spansOf b o HGD.out.1 HONE.out)
          have HB5 := Lib.hid (HB4.out.trans (hb5.mono HB4.out.size))
          have HW5 := Lib.hid (HW4.out.below hb5)
          have HI5 := Lib.hid hi5
          have HIO5 := Lib.hid (HIO4.out.below hb5)
          have hsl : (spansOf b o).length ≤ 10 := by have := spansOf_length b o; omega
          clear hi5 hsm5 hb5 HRS HW4 HIO4 HB4
          generalize spansOf b o = S at *
          have HLI := Lib.hid (list S u4 w5 HW5.out (by have := HNL.out; omega))
          have htt : (true != true) = false := rfl
          go_wp2_with fail
          refine HLI.out.mono ?_
          rintro e w6 ⟨v6, rfl, hv6, hb6⟩
          have HB6 := Lib.hid (HB5.out.trans (hb6.mono HB5.out.size))
          have HW6 := Lib.hid (HW5.out.below hb6)
          have HI6 := Lib.hid (HI5.out.below hb6)
          have HIO6 := Lib.hid (HIO5.out.below hb6)
          have HSM := Lib.hid (ref_same v6 u5 (nums S) (nums S) w6 hv6 HI6.out)
          have hsb : sameB (nums S) (nums S) = true := decide_eq_true rfl
          rw [hsb] at HSM
          clear hv6 hb6 hsb HLI HW5 HI5 HIO5 HB5
          go_wp2_with fail
          refine HSM.out.mono ?_
          rintro e w7 ⟨rfl, q7, rfl⟩
          have HB7 := Lib.hid (below_drewN' HB6.out q7)
          have HW7 : Hid (WideAt (w6.drewN q7) u4 S) := HW6.out.below ⟨rfl, rfl, rfl, Nat.le_refl _, fun _ _ => rfl⟩
          have HIO7 := Lib.hid (HIO6.out.drewN q7)
          generalize w6.drewN q7 = w7 at *
          have HGL := Lib.hid (g_list b S u4 w7 HW7.out hbd.1 (by omega) (by omega))
          clear HSM HB6 HW6 HI6 HIO6
          go_wp2_with fail
          refine HGL.out.mono ?_
          rintro e w8 ⟨ua, q, rfl, hq, hm, hr8, hb8⟩
          obtain rfl := list_all HCN.out hq hm HSB.out
          rw [HPS.out] at hr8
          have HB8 := Lib.hid (HB7.out.trans (hb8.mono HB7.out.size))
          have HSN := Lib.hid (num_same ua v o w8 hr8 (HIO7.out.below hb8) (fun x hx => by have := HONE.out x hx; omega))
          clear hq hm hr8 hb8 HGL
          go_wp2_with fail
          refine HSN.out.mono ?_
          rintro e w9 ⟨rfl, q9, rfl⟩
          go_wp2_with fail
          go_ret
          exact ⟨rfl, below_drewN' HB8.out q9⟩
        · have HB4 := Lib.hid (HB3.out.trans (hb4.mono HB3.out.size))
          have HIO4 := Lib.hid (HIO3.out.below hb4)
          have HBAD := Lib.hid hbad
          have HRS := Lib.hid (ref_set b t o v w4 HIO4.out hbd htd HONE.out (by omega) HONR.out)
          clear hset hbad hb4 HSET HIO3 HB3
          go_wp2_with fail
          refine HRS.out.mono ?_
          rintro e w5 ⟨h5, hb5⟩
          rw [if_neg HBAD.out] at h5
          subst h5
          have HB5 := Lib.hid (HB4.out.trans (hb5.mono HB4.out.size))
          have HLI := Lib.hid (list [] (.slice none 0 0) w5 ⟨spRow_nil w5, canon_nil, (fun x hx => by cases hx), by simp⟩ (by simp [nums]))
          have htt : (false != false) = false := rfl
          clear hb5 HRS HB4
          go_wp2_with fail
          refine HLI.out.mono ?_
          rintro e w6 ⟨v6, rfl, hv6, hb6⟩
          have HB6 := Lib.hid (HB5.out.trans (hb6.mono HB5.out.size))
          have HSM := Lib.hid (ref_same v6 (.slice none 0 0) (nums []) [] w6 hv6 (intRow_nil w6))
          have hsb : sameB (nums []) [] = true := by simp [sameB, nums]
          rw [hsb] at HSM
          clear hv6 hb6 hsb HLI HB5
          go_wp2_with fail
          refine HSM.out.mono ?_
          rintro e w7 ⟨rfl, q7, rfl⟩
          go_wp2_with fail
          go_ret
          exact ⟨rfl, below_drewN' HB6.out q7⟩
  · have hg : decide ((20 : Int) < (ln : Int)) = false := by simp; omega
    have hNe2 : ln = N := hNe.symm
    clear hNe
    subst hNe2
    go_enter Try.func6, Try.ntmps6
    go_wp2_with fail
    refine (gap_awake _).mono ?_
    rintro e w1 ⟨rfl, hb1⟩
    have HB1 := Lib.hid hb1
    have HP1 := Lib.hid (HP.out.below hb1)
    clear hb1
    go_upto_region 6 with (go_at_call 27; first | (with_reducible refine (HLB.out _).mono ?_; rintro e w' ⟨rfl, rfl⟩) | (with_reducible refine (HLT.out _).mono ?_; rintro e w' ⟨rfl, rfl⟩))
    go_wp2_with fail
    go_loopw [9, 29] (fun a i wr => ∃ (k : Nat) (v : Value), k ≤ ln ∧ v = a ∧ i = .int .i64 k ∧ Hid (wr.ownsRow w1.heap.size 3 1 v k ((ownsOf b fi k).map (Value.int .i64))) ∧ Hid (Below w1.heap.size w1 wr)) (fun _ i _ => ln - (intOf i).toNat)
    case atStart => exact ⟨0, _, by omega, rfl, rfl, World.ownsRow_nil _ _ _ _, Below.refl _ _⟩
    case round =>
      obtain ⟨k, v, hk, rfl, rfl, HO, HC⟩ := hrel
      by_cases hlt : k < ln
      · obtain ⟨g, off, rfl, hbl, c0, hx1, hx2⟩ := (HP1.out.below HC.out).get (HL.out k hlt)
        have HS := Lib.hid (ownsOf_succ b fi k)
        have HOW : Hid (ownOf b (fi k) = if -300 ≤ fi k ∧ fi k ≤ 300 then (b + fi k) % 16777216 else (b + 4 * (fi k % 64)) % 16777216) := rfl
        generalize fi k = x at *
        have i1 : decide ((k : Int) < (ln : Int)) = true := by simp only [decide_eq_true_eq]; omega
        have i0 : (0 : Int) ≤ (k : Int) := by omega
        have i2 : (k : Int) < (ln : Int) := by omega
        have ha := and63 x
        have hr := show 0 ≤ x % 64 ∧ x % 64 < 64 by omega
        generalize x % 64 = r at *
        by_cases hx : -300 ≤ x ∧ x ≤ 300
        · have e1 : decide (-300 ≤ x) = true := by simp; omega
          have e2 : decide (x ≤ 300) = true := by simp; omega
          have HA := Lib.hid (fun W => ref_of (b + x) W (by omega) (by omega))
          have HOE : Hid (ownOf b x = (b + x) % 16777216) := by show _ = _; rw [HOW.out, if_pos hx]
          generalize (b + x) % 16777216 = y at *
          rw [HOE.out] at HS
          go_wp2_with (first | (go_at_call 25; refine (HA.out _).mono ?_; rintro e w' ⟨rfl, rfl⟩) | (at_builtin; refine wpList_append_src _ rfl (.tmp 51) (.tmp 53) 45 rfl w1.heap.size 3 i0' (.int .i64 0) 1 8 Try.underlying45 Hi.out Hz0.out Hz1.out Hz2.out rfl (by decide) v k ((ownsOf b fi k).map (Value.int .i64)) rfl (World.ownsRow.alloc HO.out _) (some ⟨_, 0, none⟩) 1 1 [.int .i64 y] rfl rfl (fun h => by cases h) (one_src (one_new _ _ _)) (fun u hu => by simp at hu; subst hu; rfl) (by unfold maxLen; omega) (by omega) (by have := HC.out.size; rw [World.size_alloc]; omega) ?_; intro v5 w6 hown4 hg4 _; have HO5 := Lib.hid hown4; have HC5 := Lib.hid ((HC.out.alloc HC.out.size _).grown hg4 (by rw [World.size_alloc]; have := HC.out.size; omega) (fun j hj => (HO.out.lt j hj).1)); clear hown4 hg4))
          go_roundw
          case rel => exact ⟨k + 1, v5, by omega, rfl, by go_num, by have h := HO5.out; show World.ownsRow _ _ _ _ _ _ _; rw [HS.out, List.map_append]; exact h, HC5⟩
          case measure => simp [intOf]; omega
        · have e12 : decide (-300 ≤ x) = false ∨ (decide (-300 ≤ x) = true ∧ decide (x ≤ 300) = false) := by
            by_cases h : -300 ≤ x
            · exact .inr ⟨by simp; omega, by simp; omega⟩
            · exact .inl (by simp; omega)
          have HA := Lib.hid (fun W => ref_of (b + 4 * r) W (by omega) (by omega))
          have HOE : Hid (ownOf b x = (b + 4 * r) % 16777216) := by show _ = _; rw [HOW.out, if_neg hx]
          generalize (b + 4 * r) % 16777216 = y at *
          rw [HOE.out] at HS
          have HX := Lib.hid hx
          clear hx
          rcases e12 with e1 | ⟨e1, e2⟩
          all_goals
            go_wp2_with (first | (go_at_call 25; refine (HA.out _).mono ?_; rintro e w' ⟨rfl, rfl⟩) | (at_builtin; refine wpList_append_src _ rfl (.tmp 51) (.tmp 53) 45 rfl w1.heap.size 3 i0' (.int .i64 0) 1 8 Try.underlying45 Hi.out Hz0.out Hz1.out Hz2.out rfl (by decide) v k ((ownsOf b fi k).map (Value.int .i64)) rfl (World.ownsRow.alloc HO.out _) (some ⟨_, 0, none⟩) 1 1 [.int .i64 y] rfl rfl (fun h => by cases h) (one_src (one_new _ _ _)) (fun u hu => by simp at hu; subst hu; rfl) (by unfold maxLen; omega) (by omega) (by have := HC.out.size; rw [World.size_alloc]; omega) ?_; intro v5 w6 hown4 hg4 _; have HO5 := Lib.hid hown4; have HC5 := Lib.hid ((HC.out.alloc HC.out.size _).grown hg4 (by rw [World.size_alloc]; have := HC.out.size; omega) (fun j hj => (HO.out.lt j hj).1)); clear hown4 hg4))
            go_roundw
            case rel => exact ⟨k + 1, v5, by omega, rfl, by go_num, by have h := HO5.out; show World.ownsRow _ _ _ _ _ _ _; rw [HS.out, List.map_append]; exact h, HC5⟩
            case measure => simp [intOf]; omega
      · have hks : k = ln := by omega
        have i1 : decide ((k : Int) < (ln : Int)) = false := by simp only [decide_eq_false_iff_not]; omega
        have HO1 : Hid (wr.ownsRow w1.heap.size 3 1 v ln ((ownsOf b fi ln).map (Value.int .i64))) := by have h := HO.out; rw [hks] at h; exact h
        have HLE := Lib.hid (ownsOf_len b fi ln)
        have HBD := Lib.hid (ownsOf_bd b fi ln)
        have HO' : Hid (wr.ownsRow w1.heap.size 3 1 v (ownsOf b fi ln).length ((ownsOf b fi ln).map (Value.int .i64))) := by rw [HLE.out]; exact HO1.out
        have hol : (ownsOf b fi ln).length ≤ 20 := by rw [HLE.out]; omega
        generalize ownsOf b fi ln = o at *
        have HIO := Lib.hid (intRow_own HO'.out (by omega))
        have HB := Lib.hid (HB1.out.trans (HC.out.mono HB1.out.size))
        clear HO HO1 HO' HC HB1
        have HONE := Lib.hid (fun (x : Int) (hx : x ∈ o) => (HBD.out x hx).1)
        have HONR := Lib.hid (fun (x : Int) (hx : x ∈ o) => (HBD.out x hx).2)
        go_wp2_with fail
        refine (nums_ v o wr HIO.out HONE.out (by omega)).mono ?_
        rintro e w3 ⟨un, rfl, hnr, hb3⟩
        have HB3 := Lib.hid (HB.out.trans (hb3.mono HB.out.size))
        have HIO3 := Lib.hid (HIO.out.below hb3)
        have HSET := Lib.hid (g_set b t o un w3 hnr hbd.1 (by omega) htd.1 (by omega) (fun x hx => by have := HONE.out x hx; omega) (by omega))
        clear hnr hb3 HIO HB
        go_wp2_with fail
        refine HSET.out.mono ?_
        intro e w4 hset
        rcases sets_ends hset with ⟨u4, hgood, rfl, hw4, hb4⟩ | ⟨hbad, rfl, hb4⟩
        · have HB4 := Lib.hid (HB3.out.trans (hb4.mono HB3.out.size))
          have HIO4 := Lib.hid (HIO3.out.below hb4)
          have HW4 := Lib.hid hw4
          have HGD := Lib.hid hgood
          have HRS := Lib.hid (ref_set b t o v w4 HIO4.out hbd htd HONE.out (by omega) HONR.out)
          clear hset hgood hw4 hb4 HSET HIO3 HB3
          go_wp2_with fail
          refine HRS.out.mono ?_
          rintro e w5 ⟨h5, hb5⟩
          rw [if_pos HGD.out] at h5
          obtain ⟨u5, rfl, hi5, hsm5⟩ := h5
          have HCN := Lib.hid (rise_canon b _ o (-1) HGD.out.2.2)
          have HNL := Lib.hid (nums_le _ 0 4096 HCN.out (fun x hx => by have := hsm5 x hx; omega) (by decide))
          have HSB : Hid (∀ n, Mem (spansOf b o) n → 0 ≤ n ∧ n < 8388609) := fun n ⟨y, hy, h1, h2⟩ => by have := hsm5 y hy; omega
          have HPS := Lib.hid (prs_spansOf b o HGD.out.1 HONE.out)
          have HB5 := Lib.hid (HB4.out.trans (hb5.mono HB4.out.size))
          have HW5 := Lib.hid (HW4.out.below hb5)
          have HI5 := Lib.hid hi5
          have HIO5 := Lib.hid (HIO4.out.below hb5)
          have hsl : (spansOf b o).length ≤ 10 := by have := spansOf_length b o; omega
          clear hi5 hsm5 hb5 HRS HW4 HIO4 HB4
          generalize spansOf b o = S at *
          have HLI := Lib.hid (list S u4 w5 HW5.out (by have := HNL.out; omega))
          have htt : (true != true) = false := rfl
          go_wp2_with fail
          refine HLI.out.mono ?_
          rintro e w6 ⟨v6, rfl, hv6, hb6⟩
          have HB6 := Lib.hid (HB5.out.trans (hb6.mono HB5.out.size))
          have HW6 := Lib.hid (HW5.out.below hb6)
          have HI6 := Lib.hid (HI5.out.below hb6)
          have HIO6 := Lib.hid (HIO5.out.below hb6)
          have HSM := Lib.hid (ref_same v6 u5 (nums S) (nums S) w6 hv6 HI6.out)
          have hsb : sameB (nums S) (nums S) = true := decide_eq_true rfl
          rw [hsb] at HSM
          clear hv6 hb6 hsb HLI HW5 HI5 HIO5 HB5
          go_wp2_with fail
          refine HSM.out.mono ?_
          rintro e w7 ⟨rfl, q7, rfl⟩
          have HB7 := Lib.hid (below_drewN' HB6.out q7)
          have HW7 : Hid (WideAt (w6.drewN q7) u4 S) := HW6.out.below ⟨rfl, rfl, rfl, Nat.le_refl _, fun _ _ => rfl⟩
          have HIO7 := Lib.hid (HIO6.out.drewN q7)
          generalize w6.drewN q7 = w7 at *
          have HGL := Lib.hid (g_list b S u4 w7 HW7.out hbd.1 (by omega) (by omega))
          clear HSM HB6 HW6 HI6 HIO6
          go_wp2_with fail
          refine HGL.out.mono ?_
          rintro e w8 ⟨ua, q, rfl, hq, hm, hr8, hb8⟩
          obtain rfl := list_all HCN.out hq hm HSB.out
          rw [HPS.out] at hr8
          have HB8 := Lib.hid (HB7.out.trans (hb8.mono HB7.out.size))
          have HSN := Lib.hid (num_same ua v o w8 hr8 (HIO7.out.below hb8) (fun x hx => by have := HONE.out x hx; omega))
          clear hq hm hr8 hb8 HGL
          go_wp2_with fail
          refine HSN.out.mono ?_
          rintro e w9 ⟨rfl, q9, rfl⟩
          go_wp2_with fail
          go_ret
          exact ⟨rfl, below_drewN' HB8.out q9⟩
        · have HB4 := Lib.hid (HB3.out.trans (hb4.mono HB3.out.size))
          have HIO4 := Lib.hid (HIO3.out.below hb4)
          have HBAD := Lib.hid hbad
          have HRS := Lib.hid (ref_set b t o v w4 HIO4.out hbd htd HONE.out (by omega) HONR.out)
          clear hset hbad hb4 HSET HIO3 HB3
          go_wp2_with fail
          refine HRS.out.mono ?_
          rintro e w5 ⟨h5, hb5⟩
          rw [if_neg HBAD.out] at h5
          subst h5
          have HB5 := Lib.hid (HB4.out.trans (hb5.mono HB4.out.size))
          have HLI := Lib.hid (list [] (.slice none 0 0) w5 ⟨spRow_nil w5, canon_nil, (fun x hx => by cases hx), by simp⟩ (by simp [nums]))
          have htt : (false != false) = false := rfl
          clear hb5 HRS HB4
          go_wp2_with fail
          refine HLI.out.mono ?_
          rintro e w6 ⟨v6, rfl, hv6, hb6⟩
          have HB6 := Lib.hid (HB5.out.trans (hb6.mono HB5.out.size))
          have HSM := Lib.hid (ref_same v6 (.slice none 0 0) (nums []) [] w6 hv6 (intRow_nil w6))
          have hsb : sameB (nums []) [] = true := by simp [sameB, nums]
          rw [hsb] at HSM
          clear hv6 hb6 hsb HLI HB5
          go_wp2_with fail
          refine HSM.out.mono ?_
          rintro e w7 ⟨rfl, q7, rfl⟩
          go_wp2_with fail
          go_ret
          exact ⟨rfl, below_drewN' HB6.out q7⟩
end Go.Proofs.Ytogbifggaomfjaa
