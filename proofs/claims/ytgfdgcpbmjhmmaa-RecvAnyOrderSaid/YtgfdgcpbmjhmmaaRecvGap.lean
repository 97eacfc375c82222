/- Package recv's Gap. Conditions: the receiver is the law's own, its places and its gaps are near one another. -/
import Derived.Test.YtgfdgcpbmjhmmaaRecvStat
import Derived.Test.YtgfdgcpbmjhmmaaRecvDel
namespace Go.Proofs.Ytgfdgcpbmjhmmaa
open Go.RowKit Go.Maps Sp
set_option linter.unusedVariables false
variable {w0 w w' : World} {gr mb nb : Nat} {st window next behind most : Int} {bs : List (Int × ByteArray)} {inV unV : Value} {ib : List ByteArray} {un : List Span}

theorem results_tmp4 {fn : Func} {t u v x : Tmp} (h : fn.results = #[.tmp t, .tmp u, .tmp v, .tmp x]) (tmps : Array Value) (P : Program) (w : World) :
    (results fn tmps).run P w = .ok (.tuple #[tmps.getD t undef, tmps.getD u undef, tmps.getD v undef, tmps.getD x undef]) w := by
  simp [results, h]

/-- All of a gap came. -/
def Full (next : Int) (ks : List Int) (x : Span) : Prop := ∀ p, max x.1 next ≤ p → p < x.2 → p ∈ ks
/-- The first of a gap that is missing. -/
structure FirstOf (next : Int) (ks : List Int) (x : Span) (a b : Int) : Prop where
  lo : max x.1 next ≤ a
  lt : a < b
  hi : b ≤ x.2
  not : ∀ p, a ≤ p → p < b → ¬ p ∈ ks
  ahead : ∀ p, max x.1 next ≤ p → p < a → p ∈ ks
  beh : b = x.2 ∨ b ∈ ks
/-- What Gap answers. -/
def GapOut (w0 w : World) (gr mb : Nat) (st window next behind most : Int) (bs : List (Int × ByteArray)) (nb : Nat) (inV : Value) (ib : List ByteArray) (unV : Value) (un : List Span) (e : Ending) (w' : World) : Prop :=
  (∃ unV', e = .returned (.tuple #[.slice none 0 0, .int .u32 0, .int .u32 0, .bool false]) ∧ (∀ x ∈ un, Full next (bs.map (·.1)) x) ∧ RcvAt w0 w' gr mb st window next behind most bs nb inV ib unV' [] ∧ RCh w w' (Mine gr mb inV unV) (Mine gr mb inV unV')) ∨
  (∃ pre x r a b u unV', un = pre ++ x :: r ∧ (∀ y ∈ pre, Full next (bs.map (·.1)) y) ∧ FirstOf next (bs.map (·.1)) x a b ∧ e = .returned (.tuple #[u, .int .u32 ((st + next) % 16777216), .int .u32 ((st + max most (next + window - (ib.length : Int))) % 16777216), .bool true]) ∧ NumRow w' u [(st + a) % 16777216, (st + b) % 16777216] ∧ (∀ j, u.ownBlock = some j → ¬ Mine gr mb inV unV' j) ∧ RcvAt w0 w' gr mb st window next behind (max most (next + window - (ib.length : Int))) bs nb inV ib unV' r ∧ RCh w w' (Mine gr mb inV unV) (Mine gr mb inV unV'))

theorem gapCells_one (s : List Span) : ∀ u ∈ gapCells s, u.oneCell' = true := by
  intro u hu
  simp [gapCells] at hu
  obtain ⟨a, b, _, rfl | rfl⟩ := hu <;> rfl
theorem full_of {next a b : Int} {ks : List Int} {o : List Span} (h0 : o = []) (h : ∀ n, Mem o n ↔ (max (a - next) 0 ≤ n ∧ n < b - next) ∧ ¬ n + next ∈ ks) : Full next ks (a, b) := by
  intro p h1 h2
  apply Decidable.byContradiction
  intro hn
  have := (h (p - next)).2 ⟨⟨by simp only at h1; omega, by simp only at h2; omega⟩, by rw [show p - next + next = p by omega]; exact hn⟩
  rw [h0] at this
  exact mem_nil _ this
theorem first_of {next a b : Int} {ks : List Int} {y : Span} {o : List Span} (hc : Canon (y :: o)) (h : ∀ n, Mem (y :: o) n ↔ (max (a - next) 0 ≤ n ∧ n < b - next) ∧ ¬ n + next ∈ ks) : FirstOf next ks (a, b) (y.1 + next) (y.2 + next) := by
  obtain ⟨c1, c2, c3⟩ := canon_cons.1 hc
  have m1 := (h y.1).1 ⟨y, List.mem_cons_self, by omega, by omega⟩
  have m2 := (h (y.2 - 1)).1 ⟨y, List.mem_cons_self, by omega, by omega⟩
  refine ⟨by simp only; omega, by omega, by simp only; omega, fun p h1 h2 => ?_, fun p h1 h2 => ?_, ?_⟩
  · have := ((h (p - next)).1 ⟨y, List.mem_cons_self, by omega, by omega⟩).2
    rwa [show p - next + next = p by omega] at this
  · apply Decidable.byContradiction
    intro hn
    obtain ⟨z, hz, h3, h4⟩ := (h (p - next)).2 ⟨⟨by simp only at h1; omega, by omega⟩, by rw [show p - next + next = p by omega]; exact hn⟩
    rcases List.mem_cons.1 hz with rfl | hz
    · omega
    · have := c2 z hz
      omega
  · by_cases e : y.2 + next = b
    · exact .inl e
    · right
      apply Decidable.byContradiction
      intro hn
      obtain ⟨z, hz, h3, h4⟩ := (h y.2).2 ⟨⟨by omega, by omega⟩, hn⟩
      rcases List.mem_cons.1 hz with rfl | hz
      · omega
      · have := c2 z hz
        omega
theorem set_head {w : World} {y : Span} {o : List Span} {A : Option Addr} {n cap : Nat} (h : SetAt w (.slice A n cap) (y :: o)) : SetAt w (.slice A 1 cap) [y] := by
  obtain ⟨A', c', e, h1, h2, h3, h4⟩ := h.row
  rw [Value.slice.injEq] at e
  obtain ⟨rfl, rfl, rfl⟩ := e
  refine ⟨⟨A, cap, rfl, by simp at h1 ⊢; omega, h2, by simp, .inr ?_⟩, canon_one (canon_cons.1 h.canon).1, fun x hx => by simp at hx; subst hx; exact h.small x List.mem_cons_self, by simp⟩
  obtain ⟨b, off, e, hb, hc⟩ := h4.resolve_left (by simp)
  refine ⟨b, off, e, hb, fun i x hx => ?_⟩
  cases i with
  | zero => exact hc 0 x hx
  | succ i => simp at hx
theorem gap_list {st next a b : Int} {q : List Span} (hc : Canon q) (hab : a < b) (hb : 0 ≤ a - next ∧ b - next ≤ 8192) (h : ∀ n, Mem q n ↔ Mem [(a - next, b - next)] n ∧ (0 ≤ n ∧ n < 8388609)) : prs ((st + next) % 16777216) q = [(st + a) % 16777216, (st + b) % 16777216] := by
  have e : q = [(a - next, b - next)] := canon_unique _ _ hc (canon_one (by simp only; omega)) fun n => by
    rw [h n, mem_one]
    simp only
    constructor
    · exact fun h => h.1
    · exact fun h => ⟨h, by omega, by omega⟩
  subst e
  simp [prs]
  constructor <;> omega

set_option maxHeartbeats 8000000 in
set_option maxRecDepth 100000 in
theorem rcv_gap (h : RcvAt w0 w gr mb st window next behind most bs nb inV ib unV un) (hs : 0 ≤ st ∧ st < 4294967296) (hn : 0 ≤ next ∧ next ≤ 1000000) (hm : 0 ≤ most ∧ most ≤ 1000000) (hw : 1 ≤ window ∧ window ≤ 64) (hi : ib.length ≤ 1000) (hl : bs.length ≤ 1000) (hk : NearKeys next bs) (hul : un.length ≤ 1000) (hu : ∀ x ∈ un, (-4096 ≤ x.1 - next ∧ x.1 - next ≤ 4096) ∧ (-4096 ≤ x.2 - next ∧ x.2 - next ≤ 4096)) :
    Calls Try.prog 19 #[.pointer (some ⟨gr, 0, none⟩)] w (GapOut w0 w gr mb st window next behind most bs nb inV ib unV un) := by
  obtain ⟨M, hM⟩ : ∃ M, M = max most (next + window - (ib.length : Int)) := ⟨_, rfl⟩
  have hMb : 0 ≤ M ∧ M ≤ 2000000 := by omega
  obtain ⟨Ai, ci, rfl⟩ := ownForm h.inb
  have H := Lib.hid h
  have HU := Lib.hid hu
  have HK := Lib.hid hk
  have HMM := Lib.hid hM
  clear h hu hk hM
  go_enter Try.func19, Try.ntmps19
  go_wp2_with fail
  go_loopw [6] (fun m wr => ∃ (unV' : Value) (pre un' : List Span), Hid (un = pre ++ un') ∧ Hid (∀ y ∈ pre, Full next (bs.map (·.1)) y) ∧ Hid (RcvAt w0 wr gr mb st window next behind most bs nb (.slice Ai ib.length ci) ib unV' un') ∧ Hid (RCh w wr (Mine gr mb (.slice Ai ib.length ci) unV) (Mine gr mb (.slice Ai ib.length ci) unV'))) (fun _ wr => match wr.cell? ⟨gr, 7, none⟩ with | some v => lenV v | none => 0)
  case atStart => exact ⟨unV, [], un, rfl, (fun y hy => by cases hy), H, RCh.refl _ _⟩
  case round =>
    obtain ⟨unV', pre, un', HPR, HPF, HR, HC⟩ := hrel
    clear H
    obtain ⟨Au, cu, rfl⟩ := ownForm HR.out.unt
    have c7 := HR.out.cells.c7
    have HLV : Hid ((match wr.cell? ⟨gr, 7, none⟩ with | some v => lenV v | none => 0) = un'.length) := by rw [c7]; rfl
    cases un' with
    | nil =>
      simp only [List.length_nil] at c7
      go_wp2_with fail
      (try simp only [Exit.inBlock, Exit.then])
      refine bodyPost_ret (results_tmp4 rfl _ _ _) rfl ?_
      exact .inl ⟨_, rfl, fun x hx => HPF.out x (by rw [HPR.out] at hx; simpa using hx), HR.out, HC.out⟩
    | cons x r =>
      obtain ⟨a, b⟩ := x
      have HXU := Lib.hid (HU.out (a, b) (by rw [HPR.out]; simp))
      have hx := HXU.out
      have HMI := Lib.hid (rcv_missing HR.out hn hl HK.out a b hx.1 hx.2)
      have hUT := HR.out.unt
      simp only [List.length_cons] at c7
      obtain ⟨gu, rfl, hgu⟩ : ∃ gu, Au = some ⟨gu, 0, none⟩ ∧ gu < wr.heap.size := by
        rcases hUT.2 with ⟨e, _⟩ | ⟨g, cap, cur, e, _, hg, _⟩
        · rw [Value.slice.injEq] at e
          have := e.2.1
          simp at this
        · rw [Value.slice.injEq] at e
          exact ⟨g, e.1, rblk_lt hg⟩
      have cc := hUT.cells (g := gu) rfl
      have x0 : wr.cell? ⟨gu, 0, none⟩ = some (.int .i64 a) := by have := cc 0 (.int .i64 a) rfl; rwa [Addr.add_lit, Nat.zero_add] at this
      have x1 : wr.cell? ⟨gu, 1, none⟩ = some (.int .i64 b) := by have := cc 1 (.int .i64 b) rfl; rwa [Addr.add_lit, Nat.zero_add] at this
      clear cc hUT hx
      go_wp2_with fail
      refine HMI.out.mono ?_
      rintro e w1 ⟨u, o, rfl, hset, hmo, hbm, hnw⟩
      have HR1 := Lib.hid (HR.out.below hbm)
      have HC1 := Lib.hid (HC.out.below hbm)
      obtain ⟨Ao, co, rfl⟩ := hset.form
      have hoc := hset.row.caps
      have HSE := Lib.hid hset
      have HMO := Lib.hid hmo
      have hd0 := del_gaps (k := 1) HR1.out.unt (by simp) (by simp only [List.length_cons]; have h1 := congrArg List.length HPR.out; simp at h1; omega) (gapCells_one _)
      have HDE : Hid (Calls Try.prog 28 #[.slice (some ⟨gu, 0, none⟩) (r.length + 1) cu, .int .i64 0, .int .i64 1] w1 fun e w' => ∃ v', e = .returned v' ∧ w'.ownsRow w0.heap.size 59 2 v' r.length (gapCells r) ∧ w1.grownBy w' (some gu) ∧ v'.ownBlock = some gu) := hd0
      have hgu1 : gu < w1.heap.size := Nat.lt_of_lt_of_le hgu hbm.size
      have hne : gu ≠ gr := fun e => HR.out.sep.2.2.2.1 (by rw [e]; rfl)
      have c7 := HR1.out.cells.c7
      simp only [List.length_cons] at c7
      have HNW := Lib.hid hnw
      have HGU := Lib.hid hgu
      have HLT := Lib.hid HR.out.lt
      clear hset hmo hd0 hbm hnw HMI x0 x1 hgu
      go_wp2_with fail
      refine HDE.out.mono ?_
      rintro e w2 ⟨v', rfl, hown, hgr, hob⟩
      obtain ⟨Av, cv, rfl⟩ := ownForm hown
      have hlt1 := HR1.out.lt
      have c72 : w2.cell? ⟨gr, 7, none⟩ = some (.slice (some ⟨gu, 0, none⟩) (r.length + 1) cu) := by
        rw [World.cell?_of_block (w := w1) (hgr.block gr hlt1 (fun e => hne (Option.some.inj e).symm))]
        exact c7
      have f72 : w2.frozen? ⟨gr, 7, none⟩ = false := by
        rw [World.frozen?_of_block (w := w1) (hgr.block gr hlt1 (fun e => hne (Option.some.inj e).symm))]
        exact HR1.out.cells.f 7
      have HR3 := Lib.hid (HR1.out.gaps hown hgr (.inl hob))
      have HC3 : Hid (RCh w (w2.setCell ⟨gr, 7, none⟩ (.slice Av r.length cv)) (Mine gr mb (.slice Ai ib.length ci) unV) (Mine gr mb (.slice Ai ib.length ci) (.slice Av r.length cv))) := by
        have h1 := (HC1.out.grown hgr (fun k e => by cases e; exact HC1.out.own gu (.inr (.inr (.inr rfl))))).set ⟨gr, 7, none⟩ (.slice Av r.length cv) (HC1.out.own gr (.inl rfl))
        exact h1.to (fun k hk => .inl (by rcases hk with e | e | e | e; exact .inl e; exact .inr (.inl e); exact .inr (.inr (.inl e)); exact .inr (.inr (.inr (by rw [hob] at e; exact e)))))
      have HGB : Hid (∀ k, k < w1.heap.size → some k ≠ some gu → w2.heap[k]? = w1.heap[k]?) := hgr.block
      have HGZ := Lib.hid hgr.size
      clear hown hgr hob HR1 HC1 HDE HR HC c7
      go_upto_region 4 with fail
      have HW : Hid (∀ W, W = w2.setCell ⟨gr, 7, none⟩ (.slice Av r.length cv) → SetAt W (.slice Ao o.length co) o) := by
        rintro W rfl
        refine ⟨HSE.out.row.kept ?_ ?_, HSE.out.canon, HSE.out.small, HSE.out.few⟩
        · simpa [World.setCell] using HGZ.out
        · intro b i z hb hz
          have h1 := HNW.out b hb
          have h2 := HGU.out
          have h3 := HLT.out
          have h4 : b < w1.heap.size := World.block_lt_of_cell? w1 ⟨b, i, none⟩ hz
          rw [World.cell?_of_block (w := w1) (a := ⟨b, i, none⟩) ?_]
          · exact hz
          · show (w2.setCell _ _).heap[b]? = w1.heap[b]?
            rw [Below.heap_setCell _ _ _ _ (by show b ≠ gr; omega)]
            exact HGB.out b h4 (fun e => by have := Option.some.inj e; omega)
      clear c72 f72
      generalize w2.setCell ⟨gr, 7, none⟩ (.slice Av r.length cv) = w3 at *
      cases o with
      | nil =>
        simp only [List.length_nil]
        go_wp2_with fail
        go_roundw
        case rel => exact ⟨_, pre ++ [(a, b)], r, by show _ = _; rw [HPR.out]; simp, (fun z hz => by rcases List.mem_append.1 hz with hz | hz; exact HPF.out z hz; simp at hz; subst hz; exact full_of rfl HMO.out), HR3, HC3⟩
        case measure =>
          have e7 := HR3.out.cells.c7
          rw [HLV.out, e7]
          simp [lenV]
      | cons y o' =>
        have HFO := Lib.hid (first_of HSE.out.canon HMO.out)
        have HS3 := HW.out _ rfl
        simp only [List.length_cons] at HS3 hoc ⊢
        have HRN := Lib.hid (rcv_renew HR3.out.cells (by omega) (by omega) (by omega))
        rw [← HMM.out] at HRN
        go_wp2_with fail
        refine HRN.out.mono ?_
        rintro e w4 ⟨rfl, rfl⟩
        have HR4 := Lib.hid (HR3.out.drew.store 4 (.int .i64 M) (most' := M) rfl)
        have HC4 : Hid (RCh w (w3.drew.setCell ⟨gr, 4, none⟩ (.int .i64 M)) (Mine gr mb (.slice Ai ib.length ci) unV) (Mine gr mb (.slice Ai ib.length ci) (.slice Av r.length cv))) := (HC3.out.below (Below.drew (Below.refl _ _))).set ⟨gr, 4, none⟩ _ (HC3.out.own gr (.inl rfl))
        have HS4 : Hid (SetAt (w3.drew.setCell ⟨gr, 4, none⟩ (.int .i64 M)) (.slice Ao 1 co) [y]) := by
          refine set_head (n := o'.length + 1) ⟨HS3.row.kept ?_ ?_, HS3.canon, HS3.small, HS3.few⟩
          · simp [World.setCell]
          · intro b i z hb hz
            have h1 := HNW.out b hb
            have h3 := HLT.out
            rw [World.cell?_of_block (w := w3) (a := ⟨b, i, none⟩) ?_]
            · exact hz
            · show (w3.drew.setCell _ _).heap[b]? = w3.heap[b]?
              rw [Below.heap_setCell _ _ _ _ (by show b ≠ gr; omega)]
              rfl
        clear HR3 HC3 HRN HS3
        generalize w3.drew.setCell ⟨gr, 4, none⟩ (.int .i64 M) = w4 at *
        have HST := Lib.hid (rcv_status HR4.out hs hn hMb [y] (.slice Ao 1 co) HS4.out (by simp))
        have hcap : 1 ≤ co := by omega
        go_wp2_with fail
        refine HST.out.mono ?_
        rintro e w5 ⟨u, q, rfl, hcq, hmq, hnr, hb5, hnw5⟩
        obtain ⟨Au5, cu5, eu5, _⟩ := id hnr
        subst eu5
        go_wp2_with fail
        (try simp only [Exit.inBlock, Exit.then])
        refine bodyPost_ret (results_tmp4 rfl _ _ _) rfl ?_
        have hy : (y.1 + next - next, y.2 + next - next) = y := by
          obtain ⟨y1, y2⟩ := y
          simp
        have hyb : 0 ≤ y.1 ∧ y.2 ≤ 8192 := by
          have h1 := HFO.out.lo
          have h2 := HFO.out.hi
          have h3 := HXU.out.2
          simp only at h1 h2 h3
          omega
        have hL := gap_list (st := st) (next := next) (a := y.1 + next) (b := y.2 + next) hcq (by have := HFO.out.lt; omega) (by omega) (by rw [hy]; exact hmq)
        refine .inr ⟨pre, (a, b), r, y.1 + next, y.2 + next, .slice Au5 (prs ((st + next) % 16777216) q).length cu5, .slice Av r.length cv, HPR.out, HPF.out, HFO.out, ?_, ?_, (fun j hj hm => by have h1 := hnw5 j hj; have h2 := (HR4.out.mine_lt hm).1; omega), ?_, HC4.out.below hb5⟩
        · rw [← HMM.out]
          rfl
        · rw [← hL]
          exact hnr
        · rw [← HMM.out]
          exact HR4.out.below hb5
end Go.Proofs.Ytgfdgcpbmjhmmaa
