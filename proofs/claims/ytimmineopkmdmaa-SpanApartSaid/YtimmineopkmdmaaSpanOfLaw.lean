/- The walk of the law SpanOf. Conditions: the slice lies as a slice does. -/
import Derived.Test.YtimmineopkmdmaaSpanFew
import Derived.Test.YtimmineopkmdmaaSpanAwake
import Derived.Test.YtimmineopkmdmaaAppendSrcG
namespace Go.Proofs.Ytimmineopkmdmaa
open Go.RowKit Sp Go.Sort
set_option linter.unusedVariables false

theorem FewOut.small {out : List Span} {all : List Int} (h : FewOut out all) : ∀ x, x ∈ out → Small x := fun x hx => by have := h.tiny x hx; unfold Small; omega
theorem SpRow.kept {w w' : World} {v : Value} {s : List Span} (h : SpRow w v s) (hs : w.heap.size ≤ w'.heap.size) (hk : ∀ b i x, v.ownBlock = some b → w.cell? ⟨b, i, none⟩ = some x → w'.cell? ⟨b, i, none⟩ = some x) : SpRow w' v s := by
  obtain ⟨A, cap, rfl, h1, h2, h3, hc⟩ := h
  exact ⟨A, cap, rfl, h1, h2, h3, hc.imp id fun ⟨b, off, e, hbl, hc⟩ => ⟨b, off, e, Nat.lt_of_lt_of_le hbl hs, fun i x hx => ⟨hk b _ _ (by rw [e]; rfl) (hc i x hx).1, hk b _ _ (by rw [e]; rfl) (hc i x hx).2⟩⟩⟩
theorem IsSet.setAt {w : World} {u : Value} {s l : List Span} (hu : SpRow w u s) (hs : IsSet s l) (hl : l.length ≤ 24) : SetAt w u s := ⟨hu, hs.1, hs.2.2.2, by have := hs.2.2.1; omega⟩
/-- A set of the few's numbers has them. -/
theorem FewOut.nums {out s : List Span} {all : List Int} (h : FewOut out all) (hs : IsSet s out) : all = nums s := nums_eq hs.1 h.rise fun n => by rw [h.mem n, hs.2.1 n]
/-- The source of an append that is a row of spans. -/
theorem spRow_src2 {w : World} {A : Option Addr} {n cap : Nat} {s : List Span} (h : SpRow w (.slice A n cap) s) : ∀ ad, A = some ad → ∀ j u, (encs s)[j]? = some u → w.cell? (ad.add j) = some u := by
  intro ad he j u hj
  subst he
  have hlt : j < s.length * 2 := by have := (List.getElem?_eq_some_iff.1 hj).1; rw [encs_length] at this; exact this
  have hd : j / 2 < s.length := by omega
  have ex := List.getElem?_eq_getElem hd
  obtain ⟨b, off, e, _, c0, c1⟩ := h.get ex
  obtain ⟨g0, g1⟩ := encs_get s (j / 2) _ ex
  injection e with e
  subst e
  rw [Addr.add_lit]
  rcases Nat.mod_two_eq_zero_or_one j with hm | hm
  · rw [show j / 2 * 2 = j by omega] at g0 c0
    rw [g0] at hj; rw [← hj]; exact c0
  · rw [show j / 2 * 2 + 1 = j by omega] at g1
    rw [show off + j / 2 * 2 + 1 = off + j by omega] at c1
    rw [g1] at hj; rw [← hj]; exact c1

theorem spRow_nil0 {w : World} {A : Option Addr} {n cap : Nat} {s : List Span} (h : SpRow w (.slice A n cap) s) : A = none → n = 0 := by
  intro hA
  obtain ⟨A', c', e, _, _, _, hc⟩ := h
  rw [Value.slice.injEq] at e
  obtain ⟨rfl, rfl, rfl⟩ := e
  rcases hc with rfl | ⟨b, off, e, _⟩
  · rfl
  · rw [hA] at e; cases e
theorem encs_one2 (s : List Span) : ∀ u ∈ encs s, u.oneCell' = true := by
  intro u hu
  unfold encs at hu
  rw [List.mem_flatMap] at hu
  obtain ⟨x, _, hx⟩ := hu
  simp [encS] at hx
  rcases hx with rfl | rfl <;> rfl
theorem IsSet.self {s t : List Span} (hc : Canon s) (h : IsSet t s) : t = s := canon_unique _ _ h.1 hc h.2.1
theorem IsSet.twice {s t l : List Span} (hs : IsSet s l) (h : IsSet t (l ++ l)) : t = s := canon_unique _ _ h.1 hs.1 fun n => by rw [h.2.1 n, hs.2.1 n, mem_append]; exact ⟨fun h => h.elim id id, .inl⟩

set_option maxHeartbeats 1000000 in
set_option maxRecDepth 100000 in
theorem walk_SpanOf (A : Option Addr) (len cap : Nat) (x : Int) (w : World) (ps : Nat → Int × Int) (h : PairRow w A len ps) :
    Calls Try.prog 3 #[.slice A len cap, .int .i64 x] w fun e w' => e = .returned (.bool true) ∧ Below w.heap.size w w' := by
  have HP := Lib.hid h
  clear h
  obtain ⟨i0, hi, hz0, hz1, hz2⟩ := info_parts infoSpan
  have Hi := Lib.hid hi
  have Hz0 := Lib.hid hz0
  have Hz1 := Lib.hid hz1
  have Hz2 := Lib.hid hz2
  clear hi hz0 hz1 hz2
  go_enter Try.func3, Try.ntmps3
  go_wp2_with fail
  refine (span_awake _).mono ?_
  rintro e w1 ⟨rfl, hb1⟩
  have HB1 := Lib.hid hb1
  have HP1 := Lib.hid (HP.out.below hb1)
  clear hb1
  go_wp2_with fail
  refine (few ps A len cap _ HP1.out).mono ?_
  rintro e w2 ⟨fu, fv, out, all, rfl, hr, hi, hol, hF, hown, hb2⟩
  have HB2 := Lib.hid (HB1.out.trans (hb2.mono HB1.out.size))
  have HR2 := Lib.hid hr
  have HI2 := Lib.hid hi
  have HF := Lib.hid hF
  have HO2 := Lib.hid hown
  have hlo : out.length ≤ 12 := by omega
  obtain ⟨fa, fc, hfu⟩ : ∃ A cap, fu = .slice A out.length cap := by obtain ⟨A, cap, e, _⟩ := hr; exact ⟨A, cap, e⟩
  subst hfu
  have HL2 : Hid (w1.heap.size ≤ w2.heap.size) := hb2.size
  clear hr hi hol hF hown hb2
  go_wp2_with fail
  refine (ofNew out _ _ HR2.out (by omega) HF.out.small).mono ?_
  rintro e w3 ⟨su, s, rfl, hsu, hs, hb3, hnew⟩
  have HB3 := Lib.hid (HB2.out.trans (hb3.mono HB2.out.size))
  have HS3 := Lib.hid (IsSet.setAt hsu hs (by omega))
  have HIS := Lib.hid hs
  have HI3 := Lib.hid (HI2.out.below hb3)
  have HR3 := Lib.hid (HR2.out.below hb3)
  have HO3 := Lib.hid (HO2.out.kept (row := none) ⟨hb3.os, hb3.tape, hb3.output, hb3.size, fun k hk _ => hb3.block k hk⟩ (Classical.em _))
  have HNE : Hid (∀ b, su.ownBlock = some b → (Value.slice fa out.length fc).ownBlock ≠ some b) := fun b hb h => by
    have := hnew b hb
    have := (HO2.out.lt b h).2
    omega
  have HL3 : Hid (w1.heap.size ≤ w3.heap.size) := Nat.le_trans HL2.out hb3.size
  have hn := HF.out.nums hs
  have hnl : (nums s).length ≤ 65536 := by rw [← hn]; have := HF.out.few; omega
  have HNL := Lib.hid hnl
  have HI3 : Hid (IntRow w3 fv (nums s)) := by rw [← hn]; exact HI3
  obtain ⟨sa, sc, hsu'⟩ := HS3.out.form
  subst hsu'
  have hsl : s.length ≤ 12 := Nat.le_trans hs.2.2.1 (by omega)
  have HEQ := Lib.hid hn
  rw [hn] at HF
  clear hsu hs hb3 hnew hnl hn HI2 HR2
  go_wp2_with fail
  refine (is_ s _ _ w3 HS3.out.wide HNL.out HI3.out).mono ?_
  rintro e w4 ⟨rfl, hb4⟩
  have HC4 := Lib.hid hb4
  clear hb4
  go_wp2_with fail
  refine (has s _ x w4 (HS3.out.wide.below HC4.out)).mono ?_
  rintro e w5 ⟨rfl, hb5⟩
  have HC5 := Lib.hid (HC4.out.trans (hb5.mono HC4.out.size))
  clear hb5
  generalize hbb : decide (x ∈ nums s) = bb at *
  have HBB := Lib.hid hbb
  clear hbb
  go_wp2_with fail
  refine (ref_has fv (nums s) x w5 (HI3.out.below HC5.out)).mono ?_
  rintro e w5 ⟨rfl, rfl⟩
  rw [HBB.out]
  have hbq : (bb == bb) = true := by simp
  go_wp2_with fail
  refine (of_ s _ _ (HS3.out.row.below HC5.out) (by omega) HS3.out.small).mono ?_
  rintro e w6 ⟨u6, s6, rfl, hu6, hs6, hb6⟩
  obtain rfl := IsSet.self HS3.out.canon hs6
  have HU6 := Lib.hid hu6
  have HC6 := Lib.hid (HC5.out.trans (hb6.mono HC5.out.size))
  clear hu6 hs6 hb6
  go_wp2_with fail
  refine (same _ _ _ _ w6 (HS3.out.row.below HC6.out) HU6.out).mono ?_
  rintro e w7 ⟨rfl, q, rfl⟩
  rw [decide_eq_true rfl]
  have HC7 := Lib.hid (below_drewN' HC6.out q)
  clear HC4 HC5 HC6 HU6
  generalize w6.drewN q = w7 at *
  have HO7 := Lib.hid (HO3.out.kept (row := none) ⟨HC7.out.os, HC7.out.tape, HC7.out.output, HC7.out.size, fun k hk _ => HC7.out.block k hk⟩ (Classical.em _))
  have HR7 := Lib.hid (HR3.out.below HC7.out)
  have HS7 := Lib.hid (HS3.out.row.below HC7.out)
  have HB7 := Lib.hid (HB3.out.trans (HC7.out.mono HB3.out.size))
  have hb1s := HB1.out.size
  have HL1 : Hid (w1.heap.size ≤ w7.heap.size) := Nat.le_trans HL3.out HC7.out.size
  clear HO2 HO3 HR3
  go_wp2_with (at_builtin; (refine wpList_append_srcG _ (by first | rfl | simp [Region.wanted, yielded]) (.tmp 37) (.tmp 38) 22 rfl w1.heap.size 35 i0 (.agg #[.int .i64 0, .int .i64 0]) 2 16 Try.underlying22 Hi.out Hz0.out Hz1.out Hz2.out rfl (by decide) (.slice fa out.length fc) out.length (encs out) rfl HO7.out fa out.length fc (encs out) rfl (encs_length out) (spRow_nil0 HR7.out) (spRow_src2 HR7.out) (encs_one2 out) (by unfold maxLen; omega) (by omega) HL1.out ?_; intro u8 w8 hown8 hg8 _; have HU8 := Lib.hid (spRow_own (s := out ++ out) (by rw [List.length_append, encs_append]; exact hown8) (by simp; omega)); have HS8 := Lib.hid (HS7.out.kept hg8.size (fun b i x hb hx => hg8.cell hx (fun h => HNE.out b hb h.symm))); have HB8 := Lib.hid (HB7.out.grown hg8 HB7.out.size (fun j hj => Nat.le_trans hb1s (HO7.out.lt j hj).1)); clear hown8 hg8))
  refine (of_ (out ++ out) _ _ HU8.out (by simp; omega) (fun x hx => HF.out.small x (by simpa using hx))).mono ?_
  rintro e w9 ⟨u9, s9, rfl, hu9, hs9, hb9⟩
  obtain rfl := IsSet.twice HIS.out hs9
  have HU9 := Lib.hid hu9
  have HB9 := Lib.hid (HB8.out.trans (hb9.mono HB8.out.size))
  have HS9 := Lib.hid (HS8.out.below hb9)
  clear hu9 hs9 hb9
  go_wp2_with fail
  refine (same _ _ _ _ w9 HS9.out HU9.out).mono ?_
  rintro e w10 ⟨rfl, q, rfl⟩
  rw [decide_eq_true rfl]
  go_wp2_with fail
  go_ret
  exact ⟨rfl, below_drewN' HB9.out q⟩
end Go.Proofs.Ytimmineopkmdmaa
