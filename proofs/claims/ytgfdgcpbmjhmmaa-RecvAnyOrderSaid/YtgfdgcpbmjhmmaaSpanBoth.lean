/- The contracts of span's others, Both, Drop, Gaps. Conditions: the sets are small, written in one way, the rows are not long. -/
import Derived.Test.YtgfdgcpbmjhmmaaSpanAdd
namespace Go.Proofs.Ytgfdgcpbmjhmmaa
open Go.RowKit Sp
set_option linter.unusedVariables false

/-- A set in a row, of numbers that may be. -/
structure WideAt (w : World) (v : Value) (s : List Span) : Prop where
  row : SpRow w v s
  canon : Canon s
  within : Within s
  few : s.length ≤ 10001
theorem SetAt.wide {w : World} {v : Value} {s : List Span} (h : SetAt w v s) : WideAt w v s :=
  ⟨h.row, h.canon, fun x hx => by have := h.small x hx; unfold Small at this; unfold least behind; omega, by have := h.few; omega⟩
theorem WideAt.below {w w' : World} {v : Value} {s : List Span} (h : WideAt w v s) (hb : Below w.heap.size w w') : WideAt w' v s := ⟨h.row.below hb, h.canon, h.within, h.few⟩
theorem WideAt.form {w : World} {v : Value} {s : List Span} (h : WideAt w v s) : ∃ A cap, v = .slice A s.length cap := by obtain ⟨A, cap, e, _⟩ := h.row; exact ⟨A, cap, e⟩
theorem SpRow.get {w : World} {A : Option Addr} {n cap k : Nat} {s : List Span} {x : Span} (h : SpRow w (.slice A n cap) s) (hk : s[k]? = some x) : ∃ b off, A = some ⟨b, off, none⟩ ∧ b < w.heap.size ∧ w.cell? ⟨b, off + k * 2, none⟩ = some (.int .i64 x.1) ∧ w.cell? ⟨b, off + k * 2 + 1, none⟩ = some (.int .i64 x.2) := by
  obtain ⟨A', c', e, _, _, _, hc⟩ := h
  rw [Value.slice.injEq] at e
  obtain ⟨rfl, rfl, rfl⟩ := e
  rcases hc with hc | ⟨b, off, e, hb, hc⟩
  · rw [hc] at hk; simp at hk
  · exact ⟨b, off, e, hb, hc k x hk⟩
theorem SpRow.caps {w : World} {A : Option Addr} {n cap : Nat} {s : List Span} (h : SpRow w (.slice A n cap) s) : n = s.length ∧ n ≤ cap ∧ cap ≤ maxLen := by
  obtain ⟨A', c', e, h1, h2, _, _⟩ := h
  rw [Value.slice.injEq] at e
  obtain ⟨rfl, rfl, rfl⟩ := e
  exact ⟨rfl, h1, h2⟩

theorem canon_take {s : List Span} (h : Canon s) {k : Nat} (hk : k < s.length) : ∀ z, z ∈ s.take k → z.2 < s[k].1 := by
  intro z hz
  have hp := h.2
  rw [← List.take_append_drop k s, List.pairwise_append] at hp
  exact hp.2.2 z hz _ (by rw [List.drop_eq_getElem_cons hk]; exact List.mem_cons_self)

/-- What others answers. -/
def OthersOut (w : World) (s : List Span) (e : Ending) (w' : World) : Prop :=
  ∃ u o, e = .returned u ∧ WideAt w' u o ∧ (∀ n, Mem o n ↔ least ≤ n ∧ n < behind ∧ ¬ Mem s n) ∧ Below w.heap.size w w'

set_option maxHeartbeats 1000000 in
set_option maxRecDepth 100000 in
theorem others (s : List Span) (v : Value) (w : World) (h : SetAt w v s) :
    Calls Try.prog 41 #[v] w (OthersOut w s) := by
  obtain ⟨A, cap, rfl⟩ := h.form
  have hfew := h.few
  have HS := Lib.hid h
  obtain ⟨_, hcap1, hcap2⟩ := h.row.caps
  unfold maxLen at hcap2
  clear h
  obtain ⟨i0, hi, hz0, hz1, hz2⟩ := info_parts infoSpan
  have Hi := Lib.hid hi
  have Hz0 := Lib.hid hz0
  have Hz1 := Lib.hid hz1
  have Hz2 := Lib.hid hz2
  clear hi hz0 hz1 hz2
  go_enter Try.func41, Try.ntmps41
  go_wp2_with fail
  go_loopw [3, 4, 9] (fun a f i wr => ∃ (k : Nat) (u : Value) (o : List Span) (frm : Int), k ≤ s.length ∧ u = a ∧ i = .int .i64 k ∧ f = .int .i64 frm ∧ o.length ≤ k ∧ Hid (OthersAt (s.take k) o frm) ∧ Hid (wr.ownsRow w.heap.size 59 2 u o.length (encs o)) ∧ Hid (Below w.heap.size w wr)) (fun _ _ i _ => s.length - (intOf i).toNat)
  case atStart => exact ⟨0, _, [], -1099511627776, by omega, rfl, rfl, rfl, by simp, othersAt_nil, World.ownsRow_nil w _ _ _, Below.refl _ _⟩
  case round =>
    obtain ⟨k, u, o, frm, hk, rfl, rfl, rfl, ho, HOA, HO, HW⟩ := hrel
    have hf1 : -1099511627776 ≤ frm := HOA.out.low
    have hf2 : frm ≤ 1099511627777 := HOA.out.top
    by_cases hlt : k < s.length
    · have ex := List.getElem?_eq_getElem hlt
      obtain ⟨b, off, rfl, hbl, c0, c1⟩ := (HS.out.row.below HW.out).get ex
      have hsm := HS.out.small _ (List.getElem_mem hlt)
      have hstep := othersAt_step HOA.out (HS.out.canon.1 _ (List.getElem_mem hlt)) (canon_take HS.out.canon hlt) (by have := hsm; unfold Small at this; unfold least; omega) (by have := hsm; unfold Small at this; unfold behind; omega)
      rw [← List.take_succ_eq_append_getElem hlt] at hstep
      unfold Small at hsm
      generalize s[k] = x at *
      generalize x.1 = a at *
      generalize x.2 = d at *
      obtain ⟨ha1, ha2, hd1, hd2⟩ := hsm
      have HST := Lib.hid hstep
      clear hstep ex
      by_cases hfa : frm < a
      · have hdf : decide (frm < a) = true := by simp; exact hfa
        have HST2 := Lib.hid (show OthersAt (s.take (k + 1)) (o ++ [(frm, a)]) d by have h := HST.out; rw [if_pos hfa] at h; exact h)
        clear HST
        have hbx0 : (wr.alloc (.cells #[.int .i64 a, .int .i64 d] 59)).cell? ⟨wr.heap.size, 0, none⟩ = some (.int .i64 a) := by have h := cells_two_new wr (.int .i64 a) (.int .i64 d) 59 0 _ rfl; rwa [Addr.add_lit, Nat.zero_add] at h
        have hbx1 : (wr.alloc (.cells #[.int .i64 a, .int .i64 d] 59)).cell? ⟨wr.heap.size, 1, none⟩ = some (.int .i64 d) := by have h := cells_two_new wr (.int .i64 a) (.int .i64 d) 59 1 _ rfl; rwa [Addr.add_lit, Nat.zero_add] at h
        have HOW := Lib.hid (HO.out.alloc (.cells #[.int .i64 a, .int .i64 d] 59))
        have HWW := Lib.hid (HW.out.alloc HW.out.size (.cells #[.int .i64 a, .int .i64 d] 59))
        have hsz : (wr.alloc (.cells #[.int .i64 a, .int .i64 d] 59)).heap.size = wr.heap.size + 1 := by simp
        have HSZ := Lib.hid hsz
        clear hsz
        have HN2 := Lib.hid (show Below w.heap.size w ((wr.alloc (.cells #[.int .i64 a, .int .i64 d] 59)).alloc (.cells #[.int .i64 frm, .int .i64 a] 59)) from HWW.out.alloc HWW.out.size _)
        have hbe : ((wr.alloc (.cells #[.int .i64 a, .int .i64 d] 59)).alloc (.cells #[.int .i64 frm, .int .i64 a] 59)).cell? ⟨wr.heap.size, 1, none⟩ = some (.int .i64 d) := by
          rw [((Below.refl _ (wr.alloc (.cells #[.int .i64 a, .int .i64 d] 59))).alloc (Nat.le_refl _) (.cells #[.int .i64 frm, .int .i64 a] 59)).cell (by rw [HSZ.out]; exact Nat.lt_succ_self _)]; exact hbx1
        have HBE := Lib.hid hbe
        have hne : u.ownBlock ≠ some wr.heap.size := fun h => by have := (HO.out.lt _ h).2; omega
        clear hbe
        go_wp2_with (at_builtin; refine wpList_append_own _ rfl (.tmp 17) (.tmp 22) 63 rfl w.heap.size 59 i0 (.agg #[.int .i64 0, .int .i64 0]) 2 16 Try.underlying63 Hi.out Hz0.out Hz1.out Hz2.out rfl (by decide) u o.length (encs o) rfl (HOW.out.alloc _) ⟨wr.heap.size + 1, 0, none⟩ 1 1 [.int .i64 frm, .int .i64 a] rfl rfl (cells_two_at _ _ _ _ _ HSZ.out) (fun u hu => by simp at hu; rcases hu with rfl | rfl <;> rfl) (by unfold maxLen; omega) (by omega) (by have := HWW.out.size; rw [World.size_alloc]; omega) ?_; intro v' w4 hown4 hg4 _; have HO4 := Lib.hid hown4; have HG4 := Lib.hid hg4; have hc4 := hg4.cell HBE.out (by exact fun h => hne h.symm); clear hown4 hg4)
        go_roundw
        case rel => exact ⟨k + 1, v', o ++ [(frm, a)], d, by omega, rfl, by go_num, rfl, by simp; omega, HST2, by have h := HO4.out; rw [List.length_append, encs_append]; exact h, HN2.out.grown HG4.out HN2.out.size (fun j hj => (HOW.out.lt j hj).1)⟩
        case measure => simp [intOf]; omega
      · have hdf : decide (frm < a) = false := by simp; omega
        have HST2 := Lib.hid (show OthersAt (s.take (k + 1)) o d by have h := HST.out; rw [if_neg hfa] at h; exact h)
        clear HST
        have HOW := Lib.hid (HO.out.alloc (.cells #[.int .i64 a, .int .i64 d] 59))
        have HWW := Lib.hid (HW.out.alloc HW.out.size (.cells #[.int .i64 a, .int .i64 d] 59))
        go_wp2_with fail
        go_roundw
        case rel => exact ⟨k + 1, u, o, d, by omega, rfl, by go_num, rfl, by omega, HST2, HOW, HWW⟩
        case measure => simp [intOf]; omega
    · have hks : k = s.length := by omega
      subst hks
      rw [List.take_of_length_le (Nat.le_refl _)] at HOA
      have hend := others_end HOA.out
      have HE := Lib.hid hend
      clear hend HOA
      by_cases hfb : frm < 1099511627777
      · have HE2 := Lib.hid (show Canon (o ++ [(frm, behind)]) ∧ Within (o ++ [(frm, behind)]) ∧ ∀ n, Mem (o ++ [(frm, behind)]) n ↔ least ≤ n ∧ n < behind ∧ ¬ Mem s n by have h := HE.out; rw [if_pos (show frm < behind from hfb)] at h; exact h)
        clear HE
        go_wp2_with (at_builtin; refine wpList_append_own _ rfl (.tmp 29) (.tmp 32) 63 rfl w.heap.size 59 i0 (.agg #[.int .i64 0, .int .i64 0]) 2 16 Try.underlying63 Hi.out Hz0.out Hz1.out Hz2.out rfl (by decide) u o.length (encs o) rfl (HO.out.alloc _) ⟨wr.heap.size, 0, none⟩ 1 1 [.int .i64 frm, .int .i64 1099511627777] rfl rfl (cells_two_new _ _ _ _) (fun u hu => by simp at hu; rcases hu with rfl | rfl <;> rfl) (by unfold maxLen; omega) (by omega) (by have := HW.out.size; rw [World.size_alloc]; omega) ?_; intro v' w4 hown4 hg4 _; have HO4 := Lib.hid hown4; have HG4 := Lib.hid hg4; clear hown4 hg4)
        go_ret
        exact ⟨_, o ++ [(frm, behind)], rfl, ⟨spRow_own (by have h := HO4.out; rw [List.length_append, encs_append]; exact h) (by simp; omega), HE2.out.1, HE2.out.2.1, by simp; omega⟩, HE2.out.2.2, (HW.out.alloc HW.out.size _).grown HG4.out (by rw [World.size_alloc]; have := HW.out.size; omega) (fun j hj => (HO.out.lt j hj).1)⟩
      · have HE2 := Lib.hid (show Canon o ∧ Within o ∧ ∀ n, Mem o n ↔ least ≤ n ∧ n < behind ∧ ¬ Mem s n by have h := HE.out; rw [if_neg (show ¬ frm < behind from hfb)] at h; exact h)
        clear HE
        go_wp2_with fail
        go_ret
        exact ⟨_, o, rfl, ⟨spRow_own HO.out (by omega), HE2.out.1, HE2.out.2.1, by omega⟩, HE2.out.2.2, HW.out⟩
end Go.Proofs.Ytgfdgcpbmjhmmaa
