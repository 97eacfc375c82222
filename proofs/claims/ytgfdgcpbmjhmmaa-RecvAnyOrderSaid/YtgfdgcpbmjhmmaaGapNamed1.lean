/- The closure of gaps.Named: a pair's numbers go to the list and into the set, each once. Conditions: the numbers are of 24 bits, the list isn't long. -/
import Derived.Test.YtgfdgcpbmjhmmaaGapSet1
import Derived.Test.YtgfdgcpbmjhmmaaSpanPut
import Derived.Maps.OwnSet
namespace Go.Proofs.Ytgfdgcpbmjhmmaa
open Go.RowKit Sp Go.Maps
set_option linter.unusedVariables false

theorem numLaw : Keyed Try.prog 28 := int_keyed Try.underlying28
theorem zeroUnit (w : World) : (zeroValue 69).run Try.prog w = .ok (.agg #[]) w := by kernel_rfl
theorem infoNum2 : (Try.prog.info? 28).map (fun i => (i.zero, i.size, i.bytes)) = some (some (.int .u32 0), 1, 4) := by kernel_rfl
/-- The set of the numbers of a list. -/
def setN (out : List Int) : DataW Unit := setOf (.agg []) (out.map (Lit.int .u32))
theorem any_u32 (x : Int) : ∀ l : List Int, l.any ((fun y : Lit => y.sameKey (.int .u32 x)) ∘ Lit.int .u32) = l.contains x
  | [] => rfl
  | a :: r => by
    rw [List.any_cons, List.contains_cons, any_u32 x r]
    congr 1
    show decide (IntKind.u32 = IntKind.u32 ∧ a = x) = (x == a)
    by_cases e : a = x
    · subst e
      simp
    · have e' : ¬ x = a := fun h => e h.symm
      simp [e, e']
theorem has_setN (out : List Int) (x : Int) : Maps.has (setN out) (.int .u32 x) = out.contains x := by
  unfold setN
  rw [has_setOf _ _ _ (fun y hy => by obtain ⟨_, _, rfl⟩ := List.mem_map.1 hy; trivial), List.any_map]
  exact any_u32 x _
theorem setN_snoc (out : List Int) (x : Int) : setN (out ++ [x]) = (setN out).put (.int .u32 x) (.agg []) := by
  unfold setN; rw [List.map_append, List.map_cons, List.map_nil, setOf_snoc]

/-- Where the closure's two variables lie, and what they hold. -/
structure NamAt (Bs B gl gm mb : Nat) : Prop where
  l : Bs ≤ gl ∧ gl < B
  m : Bs ≤ gm ∧ gm < B
  b : Bs ≤ mb ∧ mb < B
  lm : gl ≠ gm
  lb : gl ≠ mb
  mm : gm ≠ mb
structure NamSt (w : World) (B gl gm mb : Nat) (out : List Int) (n : Nat) (u : Value) : Prop where
  l : w.heap[gl]? = some (.cells #[u] 39 (0, 0))
  m : w.heap[gm]? = some (.cells #[.map (some mb)] 66 (0, 0))
  row : w.ownsRow B 28 1 u out.length (out.map (Value.int .u32))
  map : w.ownsMap Try.prog 28 (unitElem (H := Unit)) mb n (setN out)
  size : B ≤ w.heap.size
theorem NamSt.alloc {w : World} {B gl gm mb n : Nat} {out : List Int} {u : Value} (h : NamSt w B gl gm mb out n u) (o : Obj) : NamSt (w.alloc o) B gl gm mb out n u := by
  have hb := (Below.refl w.heap.size w).alloc (Nat.le_refl _) o
  exact ⟨by rw [hb.block _ (lt_of_block h.l)]; exact h.l, by rw [hb.block _ (lt_of_block h.m)]; exact h.m, h.row.alloc o, h.map.alloc o, Nat.le_trans h.size hb.size⟩
theorem NamSt.drewN {w : World} {B gl gm mb n : Nat} {out : List Int} {u : Value} (h : NamSt w B gl gm mb out n u) (k : Nat) : NamSt (w.drewN k) B gl gm mb out n u := ⟨h.l, h.m, h.row, h.map, h.size⟩
/-- Behind a store into the map. -/
theorem NamSt.put {w w1 : World} {Bs B gl gm mb n : Nat} {out : List Int} {u : Value} {D : DataW Unit} {k : Nat} (h : NamSt w B gl gm mb out n u) (hp : NamAt Bs B gl gm mb) (ho : w1.ownsMap Try.prog 28 (unitElem (H := Unit)) mb k D) (hg : w.grownBy w1 (some mb)) :
    w1.heap[gl]? = some (.cells #[u] 39 (0, 0)) ∧ w1.heap[gm]? = some (.cells #[.map (some mb)] 66 (0, 0)) ∧ w1.ownsRow B 28 1 u out.length (out.map (Value.int .u32)) ∧ B ≤ w1.heap.size := by
  refine ⟨(hg.block gl (lt_of_block h.l) (by simp; exact hp.lb)).trans h.l, (hg.block gm (lt_of_block h.m) (by simp; exact hp.mm)).trans h.m, h.row.kept hg (.inr fun e => ?_), Nat.le_trans h.size hg.size⟩
  have := (h.row.lt mb e).1
  have := hp.b.2
  omega
/-- Behind an append of one number, and the store of the list. -/
theorem nam_end {w1 w4 : World} {Bs B gl gm mb n : Nat} {out : List Int} {u v' : Value} {x : Int} (hp : NamAt Bs B gl gm mb) (hl : w1.heap[gl]? = some (.cells #[u] 39 (0, 0))) (hm : w1.heap[gm]? = some (.cells #[.map (some mb)] 66 (0, 0)))
    (hD : w1.ownsMap Try.prog 28 (unitElem (H := Unit)) mb n (setN (out ++ [x]))) (hB : Below B w1 w4) (hs : B ≤ w1.heap.size) (hr : w4.ownsRow B 28 1 v' (out.length + 1) (out.map (Value.int .u32) ++ [.int .u32 x])) (hg : ∃ g, v'.ownBlock = some g ∧ B ≤ g) (hmap : w4.ownsMap Try.prog 28 (unitElem (H := Unit)) mb n (setN (out ++ [x]))) :
    NamSt (w4.setCell ⟨gl, 0, none⟩ v') B gl gm mb (out ++ [x]) n v' := by
  obtain ⟨g, hgv, hgB⟩ := hg
  refine ⟨one_setCell ((hB.block gl hp.l.2).trans hl), box_other ((hB.block gm hp.m.2).trans hm) hp.lm _, ?_, hmap.setCell (by exact fun h => hp.lb h.symm) _, ?_⟩
  · rw [List.length_append, List.map_append]
    refine ownsRow_setCell_other hr (a := ⟨gl, 0, none⟩) ?_ _
    rw [hgv]
    have := hp.l.2
    simp; omega
  · have := hB.size
    simp [World.setCell]; omega

set_option maxHeartbeats 4000000 in
set_option maxRecDepth 100000 in
theorem named1 (a b : Int) (Bs B gl gm mb n : Nat) (w : World) (out : List Int) (u : Value) (h1 : 0 ≤ a ∧ a < 4294967296) (h2 : 0 ≤ b ∧ b < 4294967296) (hp : NamAt Bs B gl gm mb) (hst : NamSt w B gl gm mb out n u) (hlen : (out.length : Int) + sz a b ≤ 60000) (hn : n ≤ 100000) :
    Calls Try.prog 30 #[.int .u32 a, .int .u32 b, .pointer (some ⟨gl, 0, none⟩), .pointer (some ⟨gm, 0, none⟩)] w fun e w' => e = .returned (.tuple #[]) ∧ ∃ u' n', NamSt w' B gl gm mb ((pairNums a b).foldl ins out) n' u' ∧ n' ≤ n + (sz a b).toNat ∧ Below Bs w w' := by
  have HP := Lib.hid hp
  have HST := Lib.hid hst
  have HSZ := Lib.hid (fun W => g_size a b W h1.1 h1.2 h2.1 h2.2)
  have hs := sz_bd a b
  have HPT := Lib.hid (pairNums_take a b)
  have HPL := Lib.hid (pairNums_len a b)
  obtain ⟨i0, hi, hz0, hz1, hz2⟩ := info_parts infoNum2
  have Hi := Lib.hid hi
  have Hz0 := Lib.hid hz0
  have Hz1 := Lib.hid hz1
  have Hz2 := Lib.hid hz2
  clear hp hst hi hz0 hz1 hz2
  generalize pairNums a b = PN at *
  generalize sz a b = s at *
  go_enter Try.func30, Try.ntmps30
  go_wp2_with fail
  go_loopw [6] (fun i wr => ∃ (k n2 : Nat) (o : List Int) (u2 : Value), i = .int .i64 k ∧ (k : Int) ≤ s ∧ o.length ≤ out.length + k ∧ n2 ≤ n + k ∧ Hid (o = (PN.take k).foldl ins out) ∧ Hid (NamSt wr B gl gm mb o n2 u2) ∧ Hid (Below Bs w wr)) (fun i _ => (s - intOf i).toNat)
  case atStart => exact ⟨0, n, out, u, rfl, by omega, by omega, by omega, (by show _ = _; simp), HST, Below.refl _ _⟩
  case round =>
    obtain ⟨k, n2, o, u2, rfl, hk, hol, hn2, HO, HS, HW⟩ := hrel
    obtain ⟨A2, c2, rfl⟩ : ∃ A c, u2 = .slice A o.length c := by
      rcases HS.out.row.2 with ⟨e, h0⟩ | ⟨g, cap, cur, e, _⟩
      · exact ⟨none, 0, by rw [e, h0]⟩
      · exact ⟨_, _, e⟩
    have cl := cell_of_one HS.out.l
    by_cases hlt : (k : Int) < s
    · have e1 : decide ((k : Int) < s) = true := by simp; exact hlt
      have e2 : decide ((o.length : Int) < 65536) = true := by simp; omega
      have HA := Lib.hid (fun W => seq_add a k W h1.1 h1.2 (by omega) (by omega))
      have HT : Hid ((PN.take (k + 1)).foldl ins out = ins o ((a + (k : Int)) % 16777216)) := by show _ = _; rw [HPT.out k hlt, List.foldl_append, ← HO.out]; rfl
      have hxb : 0 ≤ (a + (k : Int)) % 16777216 ∧ (a + (k : Int)) % 16777216 < 16777216 := by omega
      generalize (a + (k : Int)) % 16777216 = x at *
      have hkey : keyOf Try.prog 28 (.int .u32 x) = some (.int .u32 x) := keyOf_int_mk Try.underlying28 (WalkArith.wf_u32 (by omega))
      have HKEY := Lib.hid hkey
      have HHAS := Lib.hid (has_setN o x)
      have cm := cell_of_one HS.out.m
      clear hkey
      by_cases hx : x ∈ o
      · have HT2 : Hid (o = (PN.take (k + 1)).foldl ins out) := by show _ = _; rw [HT.out]; unfold ins; rw [if_pos hx]
        have hhas : Maps.has (setN o) (.int .u32 x) = true := by rw [HHAS.out]; simpa using hx
        have HHS := Lib.hid hhas
        clear hhas hx
        go_wp2_with (first
          | (go_at_call 31; refine (HSZ.out _).mono ?_; rintro e w' ⟨rfl, rfl⟩)
          | (go_at_call 12; refine (HA.out _).mono ?_; rintro e w' ⟨rfl, rfl⟩)
          | (at_lookup; refine wpList_lookup_own_unit _ rfl _ _ 66 rfl 28 69 numLaw Try.underlying66 (zeroUnit _) mb n2 _ rfl HS.out.map _ _ rfl HKEY.out ?_; rw [HHS.out]))
        go_roundw
        case rel => exact ⟨k + 1, n2, o, _, by go_num, by omega, by omega, by omega, HT2, HS.out.alloc _, HW.out.alloc (Nat.le_trans (by have := HP.out.l; omega) HS.out.size) _⟩
        case measure => simp [intOf]; omega
      · have HT2 : Hid (o ++ [x] = (PN.take (k + 1)).foldl ins out) := by show _ = _; rw [HT.out]; unfold ins; rw [if_neg hx]
        have hhas : Maps.has (setN o) (.int .u32 x) = false := by rw [HHAS.out]; simpa using hx
        have HHS := Lib.hid hhas
        clear hhas hx
        have HS1 := Lib.hid (HS.out.alloc (.cells #[] 69))
        have HW1 := Lib.hid (HW.out.alloc (Nat.le_trans (by have := HP.out.l; omega) HS.out.size) (.cells #[] 69))
        have cm1 := cell_of_one HS1.out.m
        go_wp2_with (first
          | (go_at_call 31; refine (HSZ.out _).mono ?_; rintro e w' ⟨rfl, rfl⟩)
          | (go_at_call 12; refine (HA.out _).mono ?_; rintro e w' ⟨rfl, rfl⟩)
          | (at_lookup; refine wpList_lookup_own_unit _ rfl _ _ 66 rfl 28 69 numLaw Try.underlying66 (zeroUnit _) mb n2 _ rfl HS.out.map _ _ rfl HKEY.out ?_; rw [HHS.out])
          | (at_mapUpdate; refine wpList_mapUpdate_own _ rfl _ _ _ 66 rfl 28 69 numLaw Try.underlying66 (unitElem (H := Unit)) mb n2 _ rfl HS1.out.map (by unfold maxLen; omega) _ _ _ rfl rfl HKEY.out _ [] unitElem_mk ?_; intro w1 hown1 hgrow1; have HM1 := Lib.hid hown1; have HG1 := Lib.hid hgrow1; have HS2 := Lib.hid (HS1.out.put HP.out hown1 hgrow1); have cl2 := cell_of_one HS2.out.1; clear hown1 hgrow1)
          | (at_builtin; refine wpList_append_src _ rfl (.tmp 36) (.tmp 38) 39 rfl B 28 i0 (.int .u32 0) 1 4 Try.underlying39 Hi.out Hz0.out Hz1.out Hz2.out rfl (by decide) (.slice A2 o.length c2) o.length (o.map (Value.int .u32)) rfl (World.ownsRow.alloc HS2.out.2.2.1 _) (some ⟨_, 0, none⟩) 1 1 [.int .u32 x] rfl rfl (fun h => by cases h) (one_src (one_new _ _ _)) (fun u hu => by simp at hu; subst hu; rfl) (by unfold maxLen; omega) (by omega) (by have := HS2.out.2.2.2; rw [World.size_alloc]; omega) ?_
             intro v5 w6 hown4 hg4 _
             obtain ⟨g5, c5, rfl, hg51, hg52, _, _⟩ := ownFormS hown4 (by omega)
             have HO5 := Lib.hid hown4
             have HB5 := Lib.hid (((Below.refl B w1).alloc HS2.out.2.2.2 (.cells #[.int .u32 x] 28)).grown hg4 (by have := HS2.out.2.2.2; rw [World.size_alloc]; omega) (fun j hj => (HS2.out.2.2.1.lt j hj).1))
             have HM5 := Lib.hid ((HM1.out.alloc (.cells #[.int .u32 x] 28)).kept hg4 (fun e => by have h1 := (HS2.out.2.2.1.lt mb e.symm).1; have h2 := HP.out.b; omega))
             have f5 := free_of_one ((HB5.out.block gl HP.out.l.2).trans HS2.out.1)
             have c6 := cell_of_one ((HB5.out.block gl HP.out.l.2).trans HS2.out.1)
             have HG5 := Lib.hid hg51
             clear hown4 hg4))
        go_roundw
        case rel =>
          refine ⟨k + 1, n2 + 1, o ++ [x], _, by go_num, by omega, by simp; omega, by omega, HT2, nam_end HP.out HS2.out.1 HS2.out.2.1 (by rw [setN_snoc]; exact HM1.out) HB5.out HS2.out.2.2.2 HO5.out ⟨_, rfl, HG5.out⟩ (by rw [setN_snoc]; exact HM5.out), ?_⟩
          have hpl := HP.out.l
          have hpb := HP.out.b
          exact ((HW1.out.grown HG1.out (by have := HS1.out.size; omega) (fun j hj => by cases hj; exact hpb.1)).trans (HB5.out.mono (by omega))).setCell (p := ⟨gl, 0, none⟩) hpl.1 _
        case measure => simp [intOf]; omega
    · have e1 : decide ((k : Int) < s) = false := by simp; omega
      go_wp2_with (go_at_call 31; refine (HSZ.out _).mono ?_; rintro e w' ⟨rfl, rfl⟩)
      go_end0
      exact ⟨rfl, _, n2, by rw [← List.take_of_length_le (l := PN) (i := k) (by rw [HPL.out]; omega), ← HO.out]; exact HS.out, by omega, HW.out⟩
end Go.Proofs.Ytgfdgcpbmjhmmaa
