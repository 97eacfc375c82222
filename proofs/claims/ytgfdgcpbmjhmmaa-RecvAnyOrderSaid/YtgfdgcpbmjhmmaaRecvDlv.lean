/- Package recv's deliver. Conditions: the receiver is the law's own, its numbers are small. -/
import Derived.Test.YtgfdgcpbmjhmmaaRecvNew
import Derived.Deep.DeepCutAuto
namespace Go.Proofs.Ytgfdgcpbmjhmmaa
open Go.RowKit Go.Maps Sp
set_option linter.unusedVariables false
variable {w0 w w' : World} {gr mb nb : Nat} {st window next behind most : Int} {bs : List (Int × ByteArray)} {inV unV : Value} {ib : List ByteArray} {un : List Span}

/-- What is handed on. -/
inductive DlvTo (bs : List (Int × ByteArray)) (nx : Int) : List (Int × ByteArray) → Int → List ByteArray → Prop
  | refl : DlvTo bs nx bs nx []
  | step {bs' : List (Int × ByteArray)} {nx' : Int} {out : List ByteArray} : DlvTo bs nx bs' nx' out → nx' ∈ bs'.map (·.1) → DlvTo bs nx (bs'.filter fun p => !decide (p.1 = nx')) (nx' + 1) (out ++ [pick bs' nx'])
/-- What a call leaves of the others' blocks. -/
structure RCh (w w' : World) (M M' : Nat → Prop) : Prop where
  size : w.heap.size ≤ w'.heap.size
  keep : ∀ k, k < w.heap.size → ¬ M k → w'.heap[k]? = w.heap[k]?
  own : ∀ k, M' k → M k ∨ w.heap.size ≤ k
theorem RCh.refl (w : World) (M : Nat → Prop) : RCh w w M M := ⟨Nat.le_refl _, fun _ _ _ => rfl, fun _ h => .inl h⟩
theorem RCh.trans {w1 w2 : World} {M M1 M2 : Nat → Prop} (h : RCh w w1 M M1) (k : RCh w1 w2 M1 M2) : RCh w w2 M M2 :=
  ⟨Nat.le_trans h.size k.size, fun i hi hn => (k.keep i (Nat.lt_of_lt_of_le hi h.size) fun hm => (h.own i hm).elim hn fun e => by omega).trans (h.keep i hi hn), fun i hi => (k.own i hi).elim (h.own i) fun e => .inr (Nat.le_trans h.size e)⟩
theorem RCh.below {w1 w2 : World} {M M1 : Nat → Prop} (h : RCh w w1 M M1) (hb : Below w1.heap.size w1 w2) : RCh w w2 M M1 :=
  ⟨Nat.le_trans h.size hb.size, fun i hi hn => (hb.block i (Nat.lt_of_lt_of_le hi h.size)).trans (h.keep i hi hn), h.own⟩
theorem RCh.grown {w1 w2 : World} {M M1 : Nat → Prop} {row : Option Nat} (h : RCh w w1 M M1) (hg : w1.grownBy w2 row) (hr : ∀ k, row = some k → M k ∨ w.heap.size ≤ k) : RCh w w2 M M1 :=
  ⟨Nat.le_trans h.size hg.size, fun i hi hn => (hg.block i (Nat.lt_of_lt_of_le hi h.size) fun e => (hr i e.symm).elim hn fun e => by omega).trans (h.keep i hi hn), h.own⟩
theorem RCh.set {w1 : World} {M M1 : Nat → Prop} (h : RCh w w1 M M1) (a : Addr) (v : Value) (ha : M a.block ∨ w.heap.size ≤ a.block) : RCh w (w1.setCell a v) M M1 :=
  ⟨by have : (w1.setCell a v).heap.size = w1.heap.size := by simp [World.setCell]
      rw [this]; exact h.size, fun i hi hn => (Below.heap_setCell _ _ _ _ (fun e => ha.elim (fun m => hn (by rw [e]; exact m)) fun e2 => by omega)).trans (h.keep i hi hn), h.own⟩
theorem RCh.to {w1 : World} {M M1 M2 : Nat → Prop} (h : RCh w w1 M M1) (hm : ∀ k, M2 k → M1 k ∨ w.heap.size ≤ k) : RCh w w1 M M2 := ⟨h.size, h.keep, fun k hk => (hm k hk).elim (h.own k) .inr⟩
def lenV : Value → Nat
  | .slice _ n _ => n
  | _ => 0
theorem DlvTo.sizes {bs' : List (Int × ByteArray)} {nx nx' : Int} {out : List ByteArray} (h : DlvTo bs nx bs' nx' out) (hn : (bs.map (·.1)).Nodup) : bs'.length + out.length = bs.length ∧ nx' = nx + (out.length : Int) ∧ (bs'.map (·.1)).Nodup := by
  induction h with
  | refl => exact ⟨by simp, by simp, hn⟩
  | step h hin ih =>
    rename_i b n o
    obtain ⟨i1, i2, i3⟩ := ih
    have hf : ∀ (l : List (Int × ByteArray)), (l.map (·.1)).Nodup → n ∈ l.map (·.1) → (l.filter fun p => !decide (p.1 = n)).length + 1 = l.length := by
      intro l
      induction l with
      | nil => intro _ hm; simp at hm
      | cons a r ih =>
        intro hnd hm
        rw [List.map_cons, List.nodup_cons] at hnd
        by_cases e : a.1 = n
        · have hno : ∀ p ∈ r, ¬ p.1 = n := fun p hp e2 => hnd.1 (List.mem_map.2 ⟨p, hp, by rw [e2, e]⟩)
          have hall : r.filter (fun p => !decide (p.1 = n)) = r := List.filter_eq_self.2 fun p hp => by simp [hno p hp]
          rw [List.filter_cons_of_neg (by simp [e]), hall, List.length_cons]
        · have hm2 : n ∈ r.map (·.1) := by
            rw [List.map_cons, List.mem_cons] at hm
            exact hm.resolve_left fun e2 => e e2.symm
          have := ih hnd.2 hm2
          rw [List.filter_cons_of_pos (by simp [e]), List.length_cons, List.length_cons]
          omega
    have hl := hf b i3 hin
    refine ⟨by rw [List.length_append]; simp; omega, by rw [i2, List.length_append]; simp; omega, ?_⟩
    exact i3.sublist (List.Sublist.map _ List.filter_sublist)
theorem ownCells1 {w : World} {base n : Nat} {e : TypeId} {A : Option Addr} {m c : Nat} {xs : List Value} (h : w.ownsRow base e 1 (.slice A m c) n xs) : ∀ ad, A = some ad → ∀ j u, xs[j]? = some u → w.cell? (ad.add j) = some u := by
  intro ad e j u hj
  subst e
  rcases h.2 with ⟨e, _⟩ | ⟨g, cap, cur, e, _⟩
  · cases e
  · injection e with e1 e2 e3
    injection e1 with e1
    subst e1
    exact h.cells (g := g) rfl j u hj
theorem infoUnit : (Try.prog.info? 56).map (·.size) = some 1 := by kernel_rfl
theorem infoText : (Try.prog.info? 9).map (fun i => (i.zero, i.size, i.bytes)) = some (some (.string ⟨#[]⟩), 1, 16) := by kernel_rfl
theorem rinfo_parts {t : TypeId} {z : Value} {s b : Nat} (h : (Try.prog.info? t).map (fun i => (i.zero, i.size, i.bytes)) = some (some z, s, b)) : ∃ i0, Try.prog.info? t = some i0 ∧ i0.zero = some z ∧ i0.size = s ∧ i0.bytes = b := by
  cases hi : Try.prog.info? t with
  | none => rw [hi] at h; cases h
  | some i =>
    rw [hi] at h
    simp only [Option.map_some, Option.some.injEq, Prod.mk.injEq] at h
    exact ⟨i, rfl, h.1, h.2.1, h.2.2⟩
theorem one_srcR {w : World} {b : Nat} {x : Value} (h : w.cell? ⟨b, 0, none⟩ = some x) : ∀ ad, some (⟨b, 0, none⟩ : Addr) = some ad → ∀ j u, [x][j]? = some u → w.cell? (ad.add j) = some u := by
  intro ad e j u hj
  injection e with e
  subst e
  match j, hj with
  | 0, hj => simp at hj; subst hj; exact h
theorem one_newR (w : World) (x : Value) (t : TypeId) : (w.alloc (.cells #[x] t)).cell? ⟨w.heap.size, 0, none⟩ = some x := by rw [rblk_cell (heap_alloc_new w (.cells #[x] t)) 0]; rfl
theorem lenV_own {w : World} {base n size : Nat} {e : TypeId} {v : Value} {l : List Value} (h : w.ownsRow base e size v n l) : lenV v = n := by
  obtain ⟨A, c, rfl⟩ := ownForm h
  rfl
/-- What is known at the head of deliver's loop. -/
def DlvAt (w0 w wr : World) (gr mb : Nat) (st window next behind most : Int) (bs : List (Int × ByteArray)) (inV unV : Value) (ib : List ByteArray) (un : List Span) (v : Value) (g : Nat) (bs' : List (Int × ByteArray)) (nx' : Int) (out : List ByteArray) (nb' : Nat) : Prop :=
  RcvAt w0 wr gr mb st window nx' behind most bs' nb' inV ib unV un ∧ wr.ownsRow w.heap.size 9 1 v out.length (out.map Value.string) ∧ DlvTo bs next bs' nx' out ∧ wr.heap[g]? = some (.cells #[.string (pick bs' nx')] 56 (0, 0)) ∧ w.heap.size ≤ g ∧ (∀ b, v.ownBlock = some b → b < g) ∧ RCh w wr (Mine gr mb inV unV) (Mine gr mb inV unV)

set_option maxHeartbeats 8000000 in
set_option maxRecDepth 100000 in
theorem rcv_deliver (h : RcvAt w0 w gr mb st window next behind most bs nb inV ib unV un) (hn : 0 ≤ next ∧ next ≤ 1000000) (hl : bs.length ≤ 1000) (hi : ib.length ≤ 1000) :
    Calls Try.prog 22 #[.pointer (some ⟨gr, 0, none⟩)] w fun e w' => ∃ v bs' next' out inV', e = .returned v ∧ w'.ownsRow w.heap.size 9 1 v out.length (out.map Value.string) ∧ DlvTo bs next bs' next' out ∧ ¬ next' ∈ bs'.map (·.1) ∧ RcvAt w0 w' gr mb st window next' behind most bs' nb inV' (ib ++ out) unV un ∧ RCh w w' (Mine gr mb inV unV) (Mine gr mb inV' unV) := by
  obtain ⟨i0, hi0, hz0, hz1, hz2⟩ := rinfo_parts infoText
  have Hi := Lib.hid hi0
  have Hz0 := Lib.hid hz0
  have Hz1 := Lib.hid hz1
  have Hz2 := Lib.hid hz2
  have H := Lib.hid h
  have hnd := Lib.hid h.nod
  clear hi0 hz0 hz1 hz2 h
  go_enter Try.func22, Try.ntmps22
  go_upto_region 2 with fail
  go_cut [4, 5] (fun s4 s5 w' => ∃ (W : World) (g : Nat), W = w' ∧ s4 = .pointer (some ⟨g, 0, none⟩) ∧ s5 = .bool (decide (next ∈ bs.map (·.1))) ∧ Hid (DlvAt w0 w W gr mb st window next behind most bs inV unV ib un (.slice none 0 0) g bs next [] nb))
  case first =>
    have hc := H.out.cells
    have c2 := hc.c2
    have c5 := hc.c5
    clear hc
    have l1 := H.out.buf.drew.look next (by omega)
    have l2 := (H.out.buf.alloc (.cells #[.string ⟨#[]⟩] 56)).drew.look next (by omega)
    have hd := (H.out.alloc (.cells #[.string ⟨#[]⟩] 56)).cells
    have d2 := hd.c2
    have d5 := hd.c5
    clear hd
    go_region
    all_goals go_wp2_with fail
    all_goals go_meet
    all_goals
      refine ⟨_, _, rfl, rfl, rfl, (H.out.alloc _).drew, World.ownsRow_nil _ _ _ _, .refl, heap_alloc_new w _, Nat.le_refl _, (fun b e => by cases e), (RCh.refl _ _).below ?_⟩
      exact ((Below.refl _ _).alloc (Nat.le_refl _) _).drew
  case rest =>
    obtain ⟨W, g, rfl, rfl, rfl, HD⟩ := hcut
    go_wp2_with fail
    go_loopw [3, 4, 5] (fun v0 p b wr => ∃ (v : Value) (bs' : List (Int × ByteArray)) (nx' : Int) (out : List ByteArray) (g : Nat), v = v0 ∧ p = .pointer (some ⟨g, 0, none⟩) ∧ b = .bool (decide (nx' ∈ bs'.map (·.1))) ∧ Hid (DlvAt w0 w wr gr mb st window next behind most bs inV unV ib un v g bs' nx' out nb)) (fun v _ _ _ => bs.length - lenV v)
    case atStart => exact ⟨_, bs, next, [], g, rfl, rfl, rfl, HD⟩
    case round =>
      obtain ⟨v, bs', nx', out, g', rfl, rfl, rfl, HR⟩ := hrel
      by_cases hin : nx' ∈ bs'.map (·.1)
      · obtain ⟨hr, ho, hd, hbx, hg, hvb, hch⟩ := HR.out
        have HRR := Lib.hid hr
        have HOO := Lib.hid ho
        have HDD := Lib.hid hd
        have HBX := Lib.hid hbx
        have HGG := Lib.hid hg
        have HVB := Lib.hid hvb
        have HCC := Lib.hid hch
        have hsz := hd.sizes hnd.out
        have hx0 : 0 ≤ nx' := by omega
        have hx1 : nx' ≤ 1001000 := by omega
        have hol : out.length ≤ 1000 := by omega
        have hol2 : out.length < bs.length := by
          have : 0 < bs'.length := by
            cases bs' with
            | nil => simp at hin
            | cons a r => simp
          omega
        have d1 : decide (nx' ∈ bs'.map (·.1)) = true := decide_eq_true hin
        have c2 := hr.cells.c2
        have c5 := hr.cells.c5
        have HIN := Lib.hid hin
        clear hr ho hd hbx hg hvb hch hsz hin HR
        go_upto_region 5 with fail
        go_still_tail 8, (by kernel_rfl)
        change wpList _ _ _ _ _ wr.drew
        have HKEY : Hid (keyOf Try.prog 3 (.int .i64 nx') = some (.int .i64 nx')) := keyOf_int_mk Try.underlying3 (WalkArith.wf_i64 (by omega))
        obtain ⟨D, hD1, hD2⟩ := HRR.out.drew.buf
        have HD1 := Lib.hid hD1
        have HD2 := Lib.hid hD2
        clear hD1 hD2 c2 c5
        go_upto_region 7 with (at_delete; refine wpList_delete_own _ rfl _ _ 51 3 rfl 56 rcvKey Try.underlying51 ML.msgElem mb nb D rfl HD1.out _ _ rfl HKEY.out ?_; intro w2 hown hturn; have H2 := Lib.hid (HRR.out.drew.mapped ⟨_, hown, HD2.out.del nx'⟩ (HRR.out.drew.nod.sublist (List.Sublist.map _ List.filter_sublist)) hturn.grown); have HT2 := Lib.hid hturn.grown; have c2 := H2.out.cells.c2; have f2 := H2.out.cells.f 2; clear hown hturn)
        have hgr := H.out.lt
        have hmb := H.out.buf.lt
        have hgl := HGG.out
        have H3 := Lib.hid (H2.out.store 2 (.int .i64 (nx' + 1)) rfl)
        have HB3 : Hid (∀ k, k < wr.heap.size → k ≠ gr → k ≠ mb → (w2.setCell ⟨gr, 2, none⟩ (.int .i64 (nx' + 1))).heap[k]? = wr.heap[k]?) := fun k hk h1 h2 => by
          rw [Below.heap_setCell _ _ _ _ (by exact h1)]
          exact HT2.out.block k hk (by simp; exact h2)
        have HBX3 := Lib.hid ((HB3.out g' (rblk_lt HBX.out) (by omega) (by omega)).trans HBX.out)
        have HO3 : Hid ((w2.setCell ⟨gr, 2, none⟩ (.int .i64 (nx' + 1))).ownsRow w.heap.size 9 1 v out.length (out.map Value.string)) := rrow_blk HOO.out fun b hb => HB3.out b (HOO.out.lt b hb).2 (by have := (HOO.out.lt b hb).1; omega) (by have := (HOO.out.lt b hb).1; omega)
        have HC3 := Lib.hid (((HCC.out.below (Below.drew (Below.refl _ _))).grown HT2.out (fun k e => by cases e; exact .inl (.inr (.inl rfl)))).set ⟨gr, 2, none⟩ (.int .i64 (nx' + 1)) (.inl (.inl rfl)))
        have cg : (w2.setCell ⟨gr, 2, none⟩ (.int .i64 (nx' + 1))).cell? ⟨g', 0, none⟩ = some (.string (pick bs' nx')) := by rw [rblk_cell HBX3.out]; rfl
        have hws : w.heap.size ≤ (w2.setCell ⟨gr, 2, none⟩ (.int .i64 (nx' + 1))).heap.size := HC3.out.size
        clear HB3 c2 f2 HT2 H2 HCC HOO HBX HRR HD1 HD2 HKEY
        generalize w2.setCell ⟨gr, 2, none⟩ (.int .i64 (nx' + 1)) = w3 at *
        go_upto_region 8 with (at_builtin; refine wpList_append_src _ rfl (.tmp 46) (.tmp 49) 22 rfl w.heap.size 9 i0 (.string ⟨#[]⟩) 1 16 Try.underlying22 Hi.out Hz0.out Hz1.out Hz2.out rfl (by decide) v out.length _ rfl (HO3.out.alloc _) (some ⟨w3.heap.size, 0, none⟩) 1 1 [.string (pick bs' nx')] rfl rfl (fun h => by cases h) (one_srcR (one_newR w3 _ _)) (fun u hu => by simp at hu; subst hu; rfl) (by unfold maxLen; omega) (by omega) (by simp; omega) ?_; intro v5 w5 hown4 hg4 hv5; have HO5 := Lib.hid hown4; have HG5 := Lib.hid hg4; have HV5 := Lib.hid hv5; clear hown4 hg4 hv5)
        have hml : ∀ k, Mine gr mb inV unV k → k < w.heap.size := fun k hk => (H.out.mine_lt hk).1
        have hvl : ∀ b, v.ownBlock = some b → w.heap.size ≤ b := fun b hb => (HO3.out.lt b hb).1
        have H5 : Hid (RcvAt w0 w5 gr mb st window (nx' + 1) behind most (bs'.filter fun p => !decide (p.1 = nx')) nb inV ib unV un) := (H3.out.alloc (.cells #[.string (pick bs' nx')] 9)).of (fun k hk => HG5.out.block k ((H3.out.alloc (.cells #[.string (pick bs' nx')] 9)).mine_lt hk).1 (fun e => by have h1 := hvl k e.symm; have h2 := hml k hk; omega)) ((H3.out.alloc (.cells #[.string (pick bs' nx')] 9)).bel.grown HG5.out (H3.out.alloc (.cells #[.string (pick bs' nx')] 9)).bel.size (fun j hj => by have h1 := hvl j hj; have h2 := H.out.lts; omega))
        have hgal : g' < (w3.alloc (.cells #[.string (pick bs' nx')] 9)).heap.size := by have := rblk_lt HBX3.out; simp; omega
        have cg5 : w5.cell? ⟨g', 0, none⟩ = some (.string (pick bs' nx')) := by
          rw [World.cell?_of_block (w := w3.alloc (.cells #[.string (pick bs' nx')] 9)) (HG5.out.block g' hgal (fun e => by have := HVB.out g' e.symm; omega))]
          rw [((Below.refl _ w3).alloc (Nat.le_refl _) _).cell (p := ⟨g', 0, none⟩) (rblk_lt HBX3.out)]
          exact cg
        have HC5 := Lib.hid ((HC3.out.below ((Below.refl _ w3).alloc (Nat.le_refl _) (.cells #[.string (pick bs' nx')] 9))).grown HG5.out (fun k e => .inr (hvl k e)))
        have hb5 : ∀ b, v5.ownBlock = some b → b < w5.heap.size := fun b hb => (HO5.out.lt b hb).2
        have HB5 := Lib.hid hb5
        have HLV := Lib.hid (lenV_own HO3.out)
        have HLV5 := Lib.hid (lenV_own HO5.out)
        clear H3 HG5 HV5 HC3 HO3 HBX3 HVB cg hgal hml hvl hb5 hws
        go_upto_region 4 with fail
        have H6 := Lib.hid (H5.out.alloc (.cells #[.string (pick bs' nx')] 56))
        have hn6 := heap_alloc_new w5 (.cells #[.string (pick bs' nx')] 56)
        have HN6 := Lib.hid hn6
        have HO6 := Lib.hid (HO5.out.alloc (.cells #[.string (pick bs' nx')] 56))
        have HC6 := Lib.hid (HC5.out.below ((Below.refl _ w5).alloc (Nat.le_refl _) (.cells #[.string (pick bs' nx')] 56)))
        have hq5 := HC5.out.size
        clear hn6 H5 HO5 HC5 cg5
        obtain ⟨q, hq⟩ : ∃ q, q = w5.heap.size := ⟨_, rfl⟩
        have HB5q : Hid (∀ b, v5.ownBlock = some b → b < q) := by rw [hq]; exact HB5.out
        rw [← hq] at HN6 hq5 ⊢
        clear hq HB5
        generalize w5.alloc (.cells #[.string (pick bs' nx')] 56) = w6 at *
        have c2 := H6.out.cells.c2
        have c5 := H6.out.cells.c5
        have l1 := H6.out.buf.drew.look (nx' + 1) (by omega)
        have q0 : w6.cell? ⟨q, 0, none⟩ = some (.string (pick bs' nx')) := by rw [rblk_cell HN6.out]; rfl
        have qf : w6.frozen? ⟨q, 0, none⟩ = false := rblk_frozen HN6.out 0
        go_region
        all_goals
          go_roundw
          case rel =>
            repeat apply Exists.intro
            refine ⟨?_, rfl⟩
            refine ⟨v5, _, _, out ++ [pick bs' nx'], q, rfl, rfl, rfl, ?_⟩
            have hq6 : ∀ k, k ≠ q → (w6.setCell ⟨q, 0, none⟩ (.string (pick (bs'.filter fun p => !decide (p.1 = nx')) (nx' + 1)))).heap[k]? = w6.heap[k]? := fun k hk => Below.heap_setCell _ _ _ _ (by exact hk)
            refine ⟨(H6.out.of (fun k hk => hq6 k (by have := (H.out.mine_lt hk).1; omega)) (H6.out.bel.setCell (p := ⟨q, 0, none⟩) (by have := H.out.lts; show w0.heap.size ≤ q; omega) _)).drew, ?_, HDD.out.step HIN.out, ?_, hq5, HB5q.out, (HC6.out.set ⟨q, 0, none⟩ _ (.inr hq5)).below (Below.drew (Below.refl _ _))⟩
            · have := rrow_blk (w' := (w6.setCell ⟨q, 0, none⟩ (.string (pick (bs'.filter fun p => !decide (p.1 = nx')) (nx' + 1)))).drew) HO6.out fun b hb => hq6 b (by have := HB5q.out b hb; omega)
              simpa using this
            · exact rset_heap HN6.out 0 _
          case measure =>
            simp
            rw [HLV5.out, HLV.out]
            omega
      · obtain ⟨hr, ho, hd, hbx, hg, hvb, hch⟩ := HR.out
        have HRR := Lib.hid hr
        have HOO := Lib.hid ho
        have HDD := Lib.hid hd
        have HCC := Lib.hid hch
        have HIN := Lib.hid hin
        have hsz := hd.sizes hnd.out
        have hol : out.length ≤ 1000 := by omega
        have d1 : decide (nx' ∈ bs'.map (·.1)) = false := decide_eq_false hin
        have c6 := hr.cells.c6
        have f6 := hr.cells.f 6
        obtain ⟨A, cc, rfl⟩ := ownForm ho
        have HSRC := Lib.hid (ownCells1 ho)
        have HA0 : Hid (A = none → out.length = 0) := fun e => by
          subst e
          rcases ho.2 with ⟨e, _⟩ | ⟨g, cap, cur, e, _⟩
          · injection e
          · cases e
        have hws := hch.size
        have hlw := hr.lts
        clear hr ho hd hbx hg hvb hch hsz hin HR
        go_upto_region 10 with fail
        go_wp2_with (at_builtin; refine wpList_append_src _ rfl (.tmp 56) (.tmp 57) 22 rfl w0.heap.size 9 i0 (.string ⟨#[]⟩) 1 16 Try.underlying22 Hi.out Hz0.out Hz1.out Hz2.out rfl (by decide) inV ib.length (ib.map Value.string) rfl HRR.out.inb A out.length cc (out.map Value.string) rfl (by simp) HA0.out (fun ad e j u hj => HSRC.out ad e j u hj) (fun u hu => by obtain ⟨x, _, rfl⟩ := List.mem_map.1 hu; rfl) (by unfold maxLen; omega) (by omega) hlw ?_; intro v5 w5 hown4 hg4 hv5; obtain ⟨A5, c5, rfl⟩ := ownForm hown4; have HO5 := Lib.hid hown4; have HV5 := Lib.hid hv5; have HG5 := Lib.hid hg4; have e6 := hg4.block gr HRR.out.lt (fun e => HRR.out.sep.2.1 e.symm); have k6 : w5.cell? ⟨gr, 6, none⟩ = some inV := (World.cell?_of_block (w := wr) (a := ⟨gr, 6, none⟩) e6).trans c6; have k7 : w5.frozen? ⟨gr, 6, none⟩ = false := (World.frozen?_of_block (w := wr) (a := ⟨gr, 6, none⟩) e6).trans f6; clear hown4 hg4 hv5 e6)
        go_ret
        have hnew : w5.ownsRow w0.heap.size 9 1 (.slice A5 (ib.length + out.length) c5) (ib ++ out).length ((ib ++ out).map Value.string) := by
          have := HO5.out
          simpa using this
        have hml : ∀ k, Mine gr mb inV unV k → k < w.heap.size := fun k hk => (H.out.mine_lt hk).1
        have hR := HRR.out.inbox hnew HG5.out (HV5.out.imp id fun e => ⟨_, e, Nat.le_refl _⟩)
        refine ⟨_, bs', nx', out, _, rfl, ?_, HDD.out, HIN.out, hR, ?_⟩
        · refine rrow_blk HOO.out fun b hb => ?_
          have hb1 := HOO.out.lt b hb
          have hbm : ∀ k, Mine gr mb inV unV k → k ≠ b := fun k hk e => by have := hml k hk; omega
          rw [Below.heap_setCell _ _ _ _ (by exact (hbm gr (.inl rfl)).symm)]
          exact HG5.out.block b hb1.2 fun e => hbm b (.inr (.inr (.inl e.symm))) rfl
        · refine ((HCC.out.grown HG5.out fun k e => .inl (.inr (.inr (.inl e)))).set ⟨gr, 6, none⟩ _ (.inl (.inl rfl))).to fun k hk => ?_
          rcases hk with hk | hk | hk | hk
          · exact .inl (.inl hk)
          · exact .inl (.inr (.inl hk))
          · rcases HV5.out with e | e
            · rw [e] at hk; exact .inl (.inr (.inr (.inl hk)))
            · rw [e] at hk; injection hk with hk; subst hk; exact .inr hws
          · exact .inl (.inr (.inr (.inr hk)))
end Go.Proofs.Ytgfdgcpbmjhmmaa
