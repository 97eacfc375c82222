/- The document's Put on a rising list. Conditions: the list lies as a row does, rises, and is not long. -/
import Derived.Test.YtogbifggaomfjaaSpanLen
import Derived.Test.YtogbifggaomfjaaAppendSrc
namespace Go.Proofs.Ytogbifggaomfjaa
open Go.RowKit Sp
set_option linter.unusedVariables false

/-- What is done of a Put when k numbers have been looked at. -/
def PutAt (l : List Int) (x : Int) (k : Nat) (out : List Int) (done : Bool) : Prop :=
  (done = false ∧ out = l.take k ∧ ∀ y, y ∈ l.take k → y < x) ∨ (done = true ∧ out = (l.take k).filter (· < x) ++ x :: (l.take k).filter (x < ·) ∧ ∃ z, z ∈ l.take k ∧ x < z)
theorem filter_lt {l : List Int} {x : Int} (h : ∀ y, y ∈ l → y < x) : l.filter (· < x) = l ∧ l.filter (x < ·) = [] :=
  ⟨List.filter_eq_self.2 fun y hy => by simpa using h y hy, List.filter_eq_nil_iff.2 fun y hy => by have := h y hy; simp; omega⟩
theorem putAt_new {l : List Int} {x : Int} {k : Nat} {out : List Int} (hk : k < l.length) (h : PutAt l x k out false) (hy : x < l[k]) : PutAt l x (k + 1) (out ++ [x] ++ [l[k]]) true := by
  rcases h with ⟨_, rfl, h⟩ | ⟨h, _⟩
  · refine .inr ⟨rfl, ?_, l[k], by rw [List.take_succ_eq_append_getElem hk]; exact List.mem_append_right _ List.mem_cons_self, hy⟩
    obtain ⟨h1, h2⟩ := filter_lt h
    rw [List.take_succ_eq_append_getElem hk, List.filter_append, List.filter_append, h1, h2]
    have : ¬ l[k] < x := by omega
    simp [this, hy]
  · cases h
theorem putAt_low {l : List Int} {x : Int} {k : Nat} {out : List Int} (hk : k < l.length) (h : PutAt l x k out false) (hy : l[k] < x) : PutAt l x (k + 1) (out ++ [l[k]]) false := by
  rcases h with ⟨_, rfl, h⟩ | ⟨h, _⟩
  · refine .inl ⟨rfl, by rw [List.take_succ_eq_append_getElem hk], fun y hy' => ?_⟩
    rw [List.take_succ_eq_append_getElem hk, List.mem_append] at hy'
    rcases hy' with h' | h'
    · exact h y h'
    · simp at h'; omega
  · cases h
theorem putAt_high {l : List Int} {x : Int} {k : Nat} {out : List Int} (hr : l.Pairwise (· < ·)) (hk : k < l.length) (h : PutAt l x k out true) : PutAt l x (k + 1) (out ++ [l[k]]) true := by
  rcases h with ⟨h, _⟩ | ⟨_, rfl, z, hz, hxz⟩
  · cases h
  · have hzk : z < l[k] := by
      have hp := hr
      rw [← List.take_append_drop k l, List.pairwise_append] at hp
      exact hp.2.2 z hz _ (by rw [List.drop_eq_getElem_cons hk]; exact List.mem_cons_self)
    refine .inr ⟨rfl, ?_, z, by rw [List.take_succ_eq_append_getElem hk]; exact List.mem_append_left _ hz, hxz⟩
    rw [List.take_succ_eq_append_getElem hk, List.filter_append, List.filter_append]
    have h1 : ¬ l[k] < x := by omega
    have h2 : x < l[k] := by omega
    simp [h1, h2]
theorem putAt_end {l : List Int} {x : Int} {out : List Int} {done : Bool} (hx : x ∉ l) (h : PutAt l x l.length out done) : (if done then out else out ++ [x]) = put l x := by
  unfold put
  rw [if_neg hx]
  rcases h with ⟨rfl, rfl, h⟩ | ⟨rfl, rfl, _⟩
  · rw [List.take_of_length_le (Nat.le_refl _)] at h ⊢
    obtain ⟨h1, h2⟩ := filter_lt h
    rw [h1, h2]
    rfl
  · rw [List.take_of_length_le (Nat.le_refl _)]
    rfl
theorem one_src {w : World} {b : Nat} {x : Value} (h : w.cell? ⟨b, 0, none⟩ = some x) : ∀ ad, some (⟨b, 0, none⟩ : Addr) = some ad → ∀ j u, [x][j]? = some u → w.cell? (ad.add j) = some u := by
  intro ad he j u hj
  injection he with he
  subst he
  match j with
  | 0 => simp at hj; subst hj; rw [Addr.add_lit]; exact h
  | j + 1 => simp at hj
theorem one_new (w : World) (x : Value) (t : TypeId) : (w.alloc (.cells #[x] t)).cell? ⟨w.heap.size, 0, none⟩ = some x := by rw [cell_of_row _ _ 0 _ _ (0, 0) (heap_alloc_new w _)]; rfl
theorem infoInt0 : (Try.prog.info? 3).map (fun i => (i.zero, i.size, i.bytes)) = some (some (.int .i64 0), 1, 8) := by kernel_rfl

set_option maxHeartbeats 1000000 in
set_option maxRecDepth 100000 in
theorem ref_put (u : Value) (l : List Int) (x : Int) (w : World) (h : IntRow w u l) (hr : l.Pairwise (· < ·)) (hl : l.length ≤ 100000) :
    Calls Try.prog 69 #[u, .int .i64 x] w fun e w' => ∃ v, e = .returned v ∧ IntRow w' v (put l x) ∧ Below w.heap.size w w' ∧ (∀ g, v.ownBlock = some g → u.ownBlock = some g ∨ (w.heap.size ≤ g ∧ g < w'.heap.size)) := by
  have H := Lib.hid h
  have HR := Lib.hid hr
  have HHAS := Lib.hid (ref_has u l x w h)
  obtain ⟨A, ca, rfl, hlx, h1⟩ := h
  have H1 := Lib.hid h1
  clear h1 hr
  obtain ⟨i0, hi, hz0, hz1, hz2⟩ := info_parts infoInt0
  have Hi := Lib.hid hi
  have Hz0 := Lib.hid hz0
  have Hz1 := Lib.hid hz1
  have Hz2 := Lib.hid hz2
  clear hi hz0 hz1 hz2
  by_cases hx : x ∈ l
  · have hd : decide (x ∈ l) = true := by simp; exact hx
    have HP : Hid (put l x = l) := by show _ = _; unfold put; rw [if_pos hx]
    clear hx
    go_enter Try.func69, Try.ntmps69
    go_wp2_with fail
    refine HHAS.out.mono ?_
    rintro e w1 ⟨rfl, rfl⟩
    rw [hd]
    go_wp2_with fail
    go_ret
    exact ⟨_, rfl, by rw [HP.out]; exact H.out, Below.refl _ _, fun g h => .inl h⟩
  · have hd : decide (x ∈ l) = false := by simp; exact hx
    have HX := Lib.hid hx
    clear hx
    go_enter Try.func69, Try.ntmps69
    go_wp2_with fail
    refine HHAS.out.mono ?_
    rintro e w1 ⟨rfl, rfl⟩
    rw [hd]
    go_wp2_with fail
    have HO0 : Hid ((w.alloc (.cells #[] 3)).ownsRow w.heap.size 3 1 (.slice (some ⟨w.heap.size, 0, none⟩) 0 0) 0 []) := World.ownsRow_made w #[] 0 (Nat.le_refl _) (by decide) rfl
    have HB0 := Lib.hid ((Below.refl _ w).alloc (Nat.le_refl _) (.cells #[] 3))
    go_loopw [5, 6, 16] (fun a b i wr => ∃ (k : Nat) (v : Value) (out : List Int) (done : Bool), k ≤ l.length ∧ v = a ∧ b = .bool done ∧ i = .int .i64 k ∧ out.length ≤ 2 * k ∧ Hid (PutAt l x k out done) ∧ Hid (wr.ownsRow w.heap.size 3 1 v out.length (out.map (Value.int .i64))) ∧ Hid (Below w.heap.size w wr)) (fun _ _ i _ => l.length - (intOf i).toNat)
    case atStart => exact ⟨0, _, [], false, by omega, rfl, rfl, rfl, by simp, .inl ⟨rfl, rfl, by simp⟩, HO0, HB0⟩
    case round =>
      obtain ⟨k, v, out, done, hk, rfl, rfl, rfl, hol, HP, HO, HW⟩ := hrel
      clear HO0 HB0
      by_cases hlt : k < l.length
      · obtain ⟨b, off, rfl, hb, hc1⟩ := (H1.out.resolve_left (fun e => by rw [e] at hlt; simp at hlt))
        have ex := List.getElem?_eq_getElem hlt
        have c1 : wr.cell? ⟨b, off + k, none⟩ = some (.int .i64 l[k]) := by rw [HW.out.cell (p := ⟨b, off + k, none⟩) hb]; exact hc1 k _ ex
        have hne : l[k] ≠ x := fun e => HX.out (e ▸ List.getElem_mem hlt)
        have HN := Lib.hid (fun h => putAt_new (x := x) (out := out) hlt h)
        have HLo := Lib.hid (fun h => putAt_low (x := x) (out := out) hlt h)
        have HHi := Lib.hid (fun h => putAt_high (x := x) (out := out) HR.out hlt h)
        clear hc1 ex
        generalize l[k] = y at *
        cases done with
        | true =>
          go_wp2_with (at_builtin; refine wpList_append_src _ rfl (.tmp 31) (.tmp 33) 45 rfl w.heap.size 3 i0 (.int .i64 0) 1 8 Try.underlying45 Hi.out Hz0.out Hz1.out Hz2.out rfl (by decide) v out.length (out.map (Value.int .i64)) rfl (World.ownsRow.alloc HO.out _) (some ⟨_, 0, none⟩) 1 1 [.int .i64 y] rfl rfl (fun h => by cases h) (one_src (one_new _ _ _)) (fun u hu => by simp at hu; subst hu; rfl) (by unfold maxLen; omega) (by omega) (by have := HW.out.size; rw [World.size_alloc]; omega) ?_; intro v5 w5 hown4 hg4 _; have HO5 := Lib.hid hown4; have HW5 := Lib.hid ((HW.out.alloc HW.out.size _).grown hg4 (by rw [World.size_alloc]; have := HW.out.size; omega) (fun j hj => (HO.out.lt j hj).1)); clear hown4 hg4)
          go_roundw
          case rel => exact ⟨k + 1, v5, out ++ [y], true, by omega, rfl, rfl, by go_num, by simp; omega, HHi.out HP.out, by have h := HO5.out; rw [List.length_append, List.map_append]; exact h, HW5⟩
          case measure => simp [intOf]; omega
        | false =>
          by_cases hxy : x < y
          · have hdx : decide (x < y) = true := by simp; exact hxy
            go_wp2_with (at_builtin; first | (refine wpList_append_src _ rfl (.tmp 27) (.tmp 29) 45 rfl w.heap.size 3 i0 (.int .i64 0) 1 8 Try.underlying45 Hi.out Hz0.out Hz1.out Hz2.out rfl (by decide) v out.length (out.map (Value.int .i64)) rfl (World.ownsRow.alloc HO.out _) (some ⟨_, 0, none⟩) 1 1 [.int .i64 x] rfl rfl (fun h => by cases h) (one_src (one_new _ _ _)) (fun u hu => by simp at hu; subst hu; rfl) (by unfold maxLen; omega) (by omega) (by have := HW.out.size; rw [World.size_alloc]; omega) ?_; intro v4 w4 hown4 hg4 _; have HO4 := Lib.hid hown4; have HW4 := Lib.hid ((HW.out.alloc HW.out.size _).grown hg4 (by rw [World.size_alloc]; have := HW.out.size; omega) (fun j hj => (HO.out.lt j hj).1)); clear hown4 hg4) | (refine wpList_append_src _ rfl (.tmp 31) (.tmp 33) 45 rfl w.heap.size 3 i0 (.int .i64 0) 1 8 Try.underlying45 Hi.out Hz0.out Hz1.out Hz2.out rfl (by decide) v4 (out.length + 1) (out.map (Value.int .i64) ++ [.int .i64 x]) rfl (World.ownsRow.alloc HO4.out _) (some ⟨_, 0, none⟩) 1 1 [.int .i64 y] rfl rfl (fun h => by cases h) (one_src (one_new _ _ _)) (fun u hu => by simp at hu; subst hu; rfl) (by unfold maxLen; omega) (by omega) (by have := HW4.out.size; rw [World.size_alloc]; omega) ?_; intro v5 w5 hown4 hg4 _; have HO5 := Lib.hid hown4; have HW5 := Lib.hid ((HW4.out.alloc HW4.out.size _).grown hg4 (by rw [World.size_alloc]; have := HW4.out.size; omega) (fun j hj => (HO4.out.lt j hj).1)); clear hown4 hg4))
            go_roundw
            case rel => exact ⟨k + 1, v5, out ++ [x] ++ [y], true, by omega, rfl, rfl, by go_num, by simp; omega, HN.out HP.out hxy, by have h := HO5.out; rw [List.length_append, List.map_append, List.length_append, List.map_append]; exact h, HW5⟩
            case measure => simp [intOf]; omega
          · have hdx : decide (x < y) = false := by simp; omega
            go_wp2_with (at_builtin; refine wpList_append_src _ rfl (.tmp 31) (.tmp 33) 45 rfl w.heap.size 3 i0 (.int .i64 0) 1 8 Try.underlying45 Hi.out Hz0.out Hz1.out Hz2.out rfl (by decide) v out.length (out.map (Value.int .i64)) rfl (World.ownsRow.alloc HO.out _) (some ⟨_, 0, none⟩) 1 1 [.int .i64 y] rfl rfl (fun h => by cases h) (one_src (one_new _ _ _)) (fun u hu => by simp at hu; subst hu; rfl) (by unfold maxLen; omega) (by omega) (by have := HW.out.size; rw [World.size_alloc]; omega) ?_; intro v5 w5 hown4 hg4 _; have HO5 := Lib.hid hown4; have HW5 := Lib.hid ((HW.out.alloc HW.out.size _).grown hg4 (by rw [World.size_alloc]; have := HW.out.size; omega) (fun j hj => (HO.out.lt j hj).1)); clear hown4 hg4)
            go_roundw
            case rel => exact ⟨k + 1, v5, out ++ [y], false, by omega, rfl, rfl, by go_num, by simp; omega, HLo.out HP.out (by omega), by have h := HO5.out; rw [List.length_append, List.map_append]; exact h, HW5⟩
            case measure => simp [intOf]; omega
      · have hks : k = l.length := by omega
        subst hks
        have HE := Lib.hid (putAt_end HX.out HP.out)
        cases done with
        | true =>
          go_wp2_with fail
          go_ret
          exact ⟨_, rfl, by have h := HE.out; simp at h; rw [← h]; exact intRow_own HO.out (by omega), HW.out, fun g h => .inr (HO.out.lt g h)⟩
        | false =>
          go_wp2_with (at_builtin; refine wpList_append_src _ rfl (.tmp 38) (.tmp 40) 45 rfl w.heap.size 3 i0 (.int .i64 0) 1 8 Try.underlying45 Hi.out Hz0.out Hz1.out Hz2.out rfl (by decide) v out.length (out.map (Value.int .i64)) rfl (World.ownsRow.alloc HO.out _) (some ⟨_, 0, none⟩) 1 1 [.int .i64 x] rfl rfl (fun h => by cases h) (one_src (one_new _ _ _)) (fun u hu => by simp at hu; subst hu; rfl) (by unfold maxLen; omega) (by omega) (by have := HW.out.size; rw [World.size_alloc]; omega) ?_; intro v5 w5 hown4 hg4 _; have HO5 := Lib.hid hown4; have HW5 := Lib.hid ((HW.out.alloc HW.out.size _).grown hg4 (by rw [World.size_alloc]; have := HW.out.size; omega) (fun j hj => (HO.out.lt j hj).1)); clear hown4 hg4)
          go_ret
          exact ⟨_, rfl, by have h := HE.out; simp at h; rw [← h]; exact intRow_own (by have h := HO5.out; rw [List.length_append, List.map_append]; exact h) (by simp; omega), HW5.out, fun g h => .inr (HO5.out.lt g h)⟩
end Go.Proofs.Ytogbifggaomfjaa
