/- The contract of span's Both. Conditions: the sets are written in one way, the rows are not long. -/
import Derived.Test.YtgfdgcpbmjhmmaaSpanBoth
import Derived.Deep.RegionHeld3
import Derived.BigQuiet
import Derived.Deep.DeepCutAuto
namespace Go.Proofs.Ytgfdgcpbmjhmmaa
open Go.RowKit Sp
set_option linter.unusedVariables false

def vlen : Value → Nat
  | .slice _ n _ => n
  | _ => 0
theorem SpRow.head {w : World} {A : Option Addr} {n cap : Nat} {x : Span} {s : List Span} (h : SpRow w (.slice A n cap) (x :: s)) : ∃ b off, A = some ⟨b, off, none⟩ ∧ b < w.heap.size ∧ w.cell? ⟨b, off, none⟩ = some (.int .i64 x.1) ∧ w.cell? ⟨b, off + 1, none⟩ = some (.int .i64 x.2) := by
  obtain ⟨b, off, e, h1, h2, h3⟩ := h.get (k := 0) (x := x) rfl
  rw [Nat.zero_mul, Nat.add_zero] at h2 h3
  exact ⟨b, off, e, h1, h2, h3⟩
/-- The row without its first one. -/
theorem SpRow.tail {w : World} {b off n cap : Nat} {x : Span} {s : List Span} (h : SpRow w (.slice (some ⟨b, off, none⟩) n cap) (x :: s)) (B : Option Addr) (hB : s = [] ∨ B = some ⟨b, off + 2, none⟩) : SpRow w (.slice B s.length (cap - 1)) s := by
  obtain ⟨A', c', he, h1, h2, h3, hc⟩ := h
  rw [Value.slice.injEq] at he
  obtain ⟨rfl, rfl, rfl⟩ := he
  rw [List.length_cons] at h1 h3
  refine ⟨B, cap - 1, rfl, by omega, by omega, by omega, ?_⟩
  rcases hB with hB | hB
  · exact .inl hB
  · rcases hc with hc | ⟨b', off', e, hl, hc⟩
    · cases hc
    · injection e with e
      injection e with e1 e2
      subst e1 e2
      exact .inr ⟨_, _, hB, hl, fun i y hy => by have := hc (i + 1) y (by simpa using hy); rwa [show off + (i + 1) * 2 = off + 2 + i * 2 by omega] at this⟩

theorem tailB {s : List Span} {c b o : Nat} (h : s.length + 1 ≤ c) : s = [] ∨ (if c = 1 then some (⟨b, o, none⟩ : Addr) else some ⟨b, o + 2, none⟩) = some ⟨b, o + 2, none⟩ := by
  by_cases hc : c = 1
  · exact .inl (List.eq_nil_of_length_eq_zero (by omega))
  · exact .inr (by rw [if_neg hc])

set_option maxHeartbeats 2000000 in
set_option maxRecDepth 100000 in
theorem both (S T : List Span) (v1 v2 : Value) (w : World) (h1 : WideAt w v1 S) (h2 : WideAt w v2 T) :
    Calls Try.prog 35 #[v1, v2] w fun e w' => ∃ r o, e = .returned r ∧ SpRow w' r o ∧ Canon o ∧ (∀ n, Mem o n ↔ Mem S n ∧ Mem T n) ∧ o.length ≤ S.length + T.length ∧ Below w.heap.size w w' := by
  obtain ⟨A1, c1, rfl⟩ := h1.form
  obtain ⟨A2, c2, rfl⟩ := h2.form
  have hf1 := h1.few
  have hf2 := h2.few
  have HB0 := Lib.hid (bothAt_start h1.canon h2.canon)
  have HR1 := Lib.hid h1.row
  have HR2 := Lib.hid h2.row
  clear h1 h2
  obtain ⟨i0, hi, hz0, hz1, hz2⟩ := info_parts infoSpan
  have Hi := Lib.hid hi
  have Hz0 := Lib.hid hz0
  have Hz1 := Lib.hid hz1
  have Hz2 := Lib.hid hz2
  clear hi hz0 hz1 hz2
  go_enter Try.func35, Try.ntmps35
  go_wp2_with fail
  go_loopw [0, 1, 5] (fun a b c wr => ∃ (s t o : List Span) (A1 A2 : Option Addr) (c1 c2 : Nat) (u : Value), a = .slice A1 s.length c1 ∧ b = .slice A2 t.length c2 ∧ u = c ∧ o.length + s.length + t.length ≤ S.length + T.length ∧
      Hid (BothAt S T s t o) ∧ Hid (SpRow w (.slice A1 s.length c1) s) ∧ Hid (SpRow w (.slice A2 t.length c2) t) ∧ Hid (wr.ownsRow w.heap.size 59 2 u o.length (encs o)) ∧ Hid (Below w.heap.size w wr)) (fun a b _ _ => vlen a + vlen b)
  case atStart => exact ⟨S, T, [], A1, A2, c1, c2, _, rfl, rfl, rfl, by simp, HB0, HR1, HR2, World.ownsRow_nil w _ _ _, Below.refl _ _⟩
  case round =>
    obtain ⟨s, t, o, A1, A2, c1, c2, u, rfl, rfl, rfl, hlen, HBA, HR1, HR2, HO, HW⟩ := hrel
    cases s with
    | nil =>
      go_wp2_with fail
      go_ret
      have hend := bothAt_end HBA.out (.inl rfl)
      exact ⟨_, o, rfl, spRow_own HO.out (by simp at hlen; omega), hend.1, hend.2, by simp at hlen; omega, HW.out⟩
    | cons x s =>
      cases t with
      | nil =>
        rw [List.length_cons] at *
        go_wp2_with fail
        go_ret
        have hend := bothAt_end HBA.out (.inr rfl)
        exact ⟨_, o, rfl, spRow_own HO.out (by simp at hlen; omega), hend.1, hend.2, by simp at hlen; omega, HW.out⟩
      | cons y t =>
        obtain ⟨b1, o1, rfl, hb1, p0, p1⟩ := (HR1.out.below HW.out).head
        obtain ⟨b2, o2, rfl, hb2, q0, q1⟩ := (HR2.out.below HW.out).head
        have hk1 := HR1.out.caps
        have hk2 := HR2.out.caps
        have HST := Lib.hid (bothAt_step HBA.out)
        have hp1 : (0 : Int) < (s.length : Int) + 1 := by omega
        have hp2 : (0 : Int) < (t.length : Int) + 1 := by omega
        simp only [List.length_cons] at *
        generalize hx1 : x.1 = xa at *
        generalize hx2 : x.2 = xd at *
        generalize hy1 : y.1 = ya at *
        generalize hy2 : y.2 = yd at *
        go_upto_region 3 with fail
        have HS4 := Lib.hid (And.intro p0 (And.intro p1 (And.intro q0 q1)))
        go_cut [6] (fun s6 w' => ∃ g, s6 = .pointer (some ⟨g, 0, none⟩) ∧ wr.heap.size ≤ g ∧ g < w'.heap.size ∧ w'.cell? ⟨g, 0, none⟩ = some (.int .i64 (max xa ya)) ∧ w'.cell? ⟨g, 1, none⟩ = some (.int .i64 (min xd yd)) ∧ Hid (Below wr.heap.size wr w'))
        case first =>
          go_region_held3 (fun w' => w'.cell? ⟨b1, o1, none⟩ = some (.int .i64 xa) ∧ w'.cell? ⟨b1, o1 + 1, none⟩ = some (.int .i64 xd) ∧ w'.cell? ⟨b2, o2, none⟩ = some (.int .i64 ya) ∧ w'.cell? ⟨b2, o2 + 1, none⟩ = some (.int .i64 yd)) (first | go_keep | exact ⟨by assumption, by assumption, by assumption, by assumption⟩) (fail)
          all_goals go_wp2_with fail
          all_goals go_meet
          all_goals exact ⟨_, rfl, Nat.le_refl _, by simp, by rw [World.cell?_drew, cell_of_row _ _ 0 _ _ (0, 0) (heap_alloc_new wr _)]; rfl, by rw [World.cell?_drew, cell_of_row _ _ 1 _ _ (0, 0) (heap_alloc_new wr _)]; rfl, ((Below.refl _ wr).alloc (Nat.le_refl _) _).drew⟩
        case rest =>
          obtain ⟨g, rfl, hg1, hg2, k0, k1, HB3⟩ := hcut
          have HW3 := Lib.hid (HW.out.trans (HB3.out.mono HW.out.size))
          have HO3 : Hid (wc.ownsRow w.heap.size 59 2 u o.length (encs o)) := HO.out.kept (row := none) ⟨HB3.out.os, HB3.out.tape, HB3.out.output, HB3.out.size, fun k hk _ => HB3.out.block k hk⟩ (by cases u.ownBlock <;> simp)
          have hne : u.ownBlock ≠ some g := fun h => by have := (HO.out.lt _ h).2; omega
          clear p0 p1 q0 q1 HO
          obtain ⟨w3, rfl⟩ : ∃ w3, w3 = wc := ⟨_, rfl⟩
          have HM : Hid (encs [meet x y] = [.int .i64 (max xa ya), .int .i64 (min xd yd)]) := by rw [← hx1, ← hx2, ← hy1, ← hy2]; rfl
          have HX2 := Lib.hid hx2
          have HY2 := Lib.hid hy2
          clear hx1 hx2 hy1 hy2
          generalize max xa ya = mx at *
          generalize min xd yd = mn at *
          go_upto_if 38 with fail
          go_cut [5] (fun s5 w' => ∃ (o' : List Span), o' = (if mx < mn then o ++ [meet x y] else o) ∧ o'.length ≤ o.length + 1 ∧ Hid (w'.ownsRow w.heap.size 59 2 s5 o'.length (encs o')) ∧ Hid (Below w.heap.size w w'))
          case first =>
            by_cases hm : mx < mn
            · have hdm : decide (mx < mn) = true := by simp; exact hm
              have HOW := Lib.hid (HO3.out.alloc (.cells #[.int .i64 mx, .int .i64 mn] 59))
              go_wp2_with (at_builtin; refine wpList_append_own _ rfl (.tmp 39) (.tmp 41) 63 rfl w.heap.size 59 i0 (.agg #[.int .i64 0, .int .i64 0]) 2 16 Try.underlying63 Hi.out Hz0.out Hz1.out Hz2.out rfl (by decide) u o.length (encs o) rfl HOW.out ⟨w3.heap.size, 0, none⟩ 1 1 [.int .i64 mx, .int .i64 mn] rfl rfl (cells_two_new _ _ _ _) (fun u hu => by simp at hu; rcases hu with rfl | rfl <;> rfl) (by unfold maxLen; omega) (by omega) (by have := HW3.out.size; rw [World.size_alloc]; omega) ?_; intro v' w4 hown4 hg4 _; have HO4 := Lib.hid hown4; have HG4 := Lib.hid hg4; clear hown4 hg4)
              go_meet
              refine ⟨o ++ [meet x y], by rw [if_pos hm], by simp, ?_, (HW3.out.alloc HW3.out.size _).grown HG4.out (by rw [World.size_alloc]; have := HW3.out.size; omega) (fun j hj => (HO3.out.lt j hj).1)⟩
              have h := HO4.out
              rw [List.length_append, encs_append, HM.out]
              exact h
            · have hdm : decide (mx < mn) = false := by simp; omega
              go_wp2_with fail
              go_meet
              exact ⟨o, by rw [if_neg (by omega)], by omega, HO3, HW3⟩
          case rest =>
            obtain ⟨o', ho', hol, HO4, HW4⟩ := hcut
            rw [← ho'] at HST
            clear HO3 HW3 HB3 k0 k1 ho' hne HB0
            obtain ⟨w4, rfl⟩ : ∃ w4, w4 = wc := ⟨_, rfl⟩
            obtain ⟨b3, o3, he1, _, _, p1⟩ := (HR1.out.below HW4.out).head
            injection he1 with he1
            injection he1 with he1 he2
            subst he1 he2
            obtain ⟨b4, o4, he1, _, _, q1⟩ := (HR2.out.below HW4.out).head
            injection he1 with he1
            injection he1 with he1 he2
            subst he1 he2
            rw [HX2.out] at p1
            rw [HY2.out] at q1
            by_cases hd : xd < yd
            · have hdd : decide (xd < yd) = true := by simp; exact hd
              rw [if_pos hd, if_pos hd] at HST
              go_wp2_with fail
              go_quiet (fail)
              go_wp2_with fail
              all_goals first | (exfalso; omega) | exact ⟨⟨s, y :: t, o', _, _, _, _, _, rfl, rfl, rfl, by simp only [List.length_cons]; omega, HST, HR1.out.tail _ (tailB hk1.2.1), HR2, by exact HO4.out, HW4.out.trans (Below.mk rfl rfl rfl (Nat.le_refl _) (fun _ _ => rfl))⟩, by simp [vlen]⟩
            · have hdd : decide (xd < yd) = false := by simp; omega
              rw [if_neg hd, if_neg hd] at HST
              go_wp2_with fail
              go_quiet (fail)
              go_wp2_with fail
              all_goals first | (exfalso; omega) | exact ⟨⟨x :: s, t, o', _, _, _, _, _, rfl, rfl, rfl, by simp only [List.length_cons]; omega, HST, HR1, HR2.out.tail _ (tailB hk2.2.1), by exact HO4.out, HW4.out.trans (Below.mk rfl rfl rfl (Nat.le_refl _) (fun _ _ => rfl))⟩, by simp [vlen]⟩
end Go.Proofs.Ytgfdgcpbmjhmmaa
