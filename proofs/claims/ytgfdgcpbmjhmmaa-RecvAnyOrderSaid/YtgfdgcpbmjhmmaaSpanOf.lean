/- The contract of span.Of: the set of all numbers of the spans, written in one way. Conditions: the spans' ends are small numbers, the row is not long. -/
import Derived.Test.YtgfdgcpbmjhmmaaSpanFns
import Derived.OneCell
namespace Go.Proofs.Ytgfdgcpbmjhmmaa
open Go.RowKit Sp
set_option linter.unusedVariables false
set_option linter.unusedSimpArgs false

theorem below_sortWorld {α : Type} [Inhabited α] {B : Nat} (enc : α → List Value) (k : Nat) (w : World) (blk off n : Nat) (d : Array α) (os : Array Obj) (hB : B ≤ blk) (hs : B ≤ w.heap.size) : Below B w (sortWorldK enc k w blk off n d os) := by
  have e : (sortWorldK enc k w blk off n d os).heap = (Go.Sort.putRowK enc k (Go.Sort.ahead w n) blk off d).heap ++ os := rfl
  have hsz : (Go.Sort.putRowK enc k (Go.Sort.ahead w n) blk off d).heap.size = w.heap.size := by
    show (Go.Sort.putRow id (Go.Sort.ahead w n) blk off _).heap.size = _
    rw [Go.Sort.size_putRow]; rfl
  refine ⟨rfl, rfl, rfl, by rw [e, Array.size_append, hsz]; omega, fun i hi => ?_⟩
  rw [e, Array.getElem?_append_left (by rw [hsz]; omega)]
  show (w.heap.modify blk _)[i]? = _
  rw [Array.getElem?_modify, if_neg (by omega)]

theorem ltFrom (x y : Span) : ltOf (fun x y : Span => Lib.compareInt x.1 y.1) x y = decide (x.1 < y.1) := by
  unfold ltOf Lib.compareInt
  by_cases h1 : x.1 < y.1
  · simp [h1]
  · by_cases h2 : y.1 < x.1 <;> simp [h1, h2]
theorem swoFrom : Go.Sort.SWO (ltOf fun x y : Span => Lib.compareInt x.1 y.1) where
  irrefl x := by rw [ltFrom]; simp
  trans x y z h1 h2 := by rw [ltFrom] at *; simp at *; omega
  ntrans x y z h1 h2 := by rw [ltFrom] at *; simp at *; omega

/-- A row of spans as the sort asks for it. -/
theorem holds_own {w : World} {base g cap : Nat} {e : TypeId} {s : List Span} (h : w.ownsRow base e 2 (.slice (some ⟨g, 0, none⟩) s.length cap) s.length (encs s)) : Go.Sort.HoldsK encS 2 w g 0 s.toArray := by
  intro t ht
  rw [Go.Sort.size_flatK, List.size_toArray] at ht
  have hc := h.cellAt t ht
  rw [Go.Sort.get_flatK _ _ _ _ (by simpa using ht)]
  have hd : t / 2 < s.length := by omega
  have ex := List.getElem?_eq_getElem hd
  obtain ⟨e1, e2⟩ := encs_get s (t / 2) _ ex
  have eg : s.toArray[t / 2]! = s[t / 2] := by rw [getElem!_pos s.toArray (t / 2) (by simpa using hd)]; simp
  rw [eg, Nat.zero_add]
  refine ⟨?_, h.frozenAt t⟩
  rw [hc]
  generalize s[t / 2] = y at *
  rcases Nat.mod_two_eq_zero_or_one t with hm | hm
  · rw [show t / 2 * 2 = t by omega] at e1
    rw [hm, e1]; rfl
  · rw [show t / 2 * 2 + 1 = t by omega] at e2
    rw [hm, e2]; rfl
theorem row_holds {w : World} {g cap : Nat} {d : Array Span} (h : Go.Sort.HoldsK encS 2 w g 0 d) (hg : g < w.heap.size) (h1 : d.size ≤ cap) (h2 : cap ≤ maxLen) (h3 : d.size ≤ 100000) : SpRow w (.slice (some ⟨g, 0, none⟩) d.size cap) d.toList := by
  refine ⟨_, cap, by simp, by simpa using h1, h2, by simpa using h3, .inr ⟨g, 0, rfl, hg, fun i x hx => ?_⟩⟩
  have hi : i < d.size := by have := (List.getElem?_eq_some_iff.1 hx).1; simpa using this
  have ex : d[i]! = x := by
    rw [getElem!_pos d i hi]
    have := (List.getElem?_eq_some_iff.1 hx).2
    simpa using this
  have c0 := (h.cell (i := i) (c := 0) hi (by omega)).1
  have c1 := (h.cell (i := i) (c := 1) hi (by omega)).1
  rw [ex] at c0 c1
  rw [Nat.add_zero] at c0
  exact ⟨c0, c1⟩

theorem perm_of {d d' : Array Span} (h : Go.Sort.PermIn 0 d.size d d') : d'.size = d.size ∧ d'.toList.Perm d.toList := by
  obtain ⟨h1, _, h3⟩ := h
  refine ⟨h1, ?_⟩
  rwa [show d'.extract 0 d.size = d' by rw [← h1]; exact Array.extract_size, Array.extract_size] at h3
theorem sorted_of {d : Array Span} (h : Go.Sort.SortedIn (ltOf fun x y : Span => Lib.compareInt x.1 y.1) 0 d.size d) : d.toList.Pairwise (fun x y => x.1 ≤ y.1) := by
  rw [List.pairwise_iff_getElem]
  intro i j hi hj hij
  have := h i j (Nat.zero_le _) hij (by simpa using hj)
  rw [ltFrom, getElem!_pos d j (by simpa using hj), getElem!_pos d i (by simpa using hi)] at this
  simpa using this

theorem cells_two_at (w : World) (a b : Value) (t : TypeId) (n : Nat) (hn : w.heap.size = n) : ∀ (j : Nat) (u : Value), [a, b][j]? = some u → (w.alloc (.cells #[a, b] t)).cell? ((⟨n, 0, none⟩ : Addr).add j) = some u := by
  subst hn; exact cells_two_new w a b t
theorem full_snoc (l : List Span) (k : Nat) (h : k < l.length) : full (l.take (k + 1)) = if l[k].1 < l[k].2 then full (l.take k) ++ [l[k]] else full (l.take k) := by
  unfold full
  rw [List.take_succ_eq_append_getElem h, List.filter_append]
  split
  · rename_i hh; simp [List.filter_cons, hh]
  · rename_i hh; simp [List.filter_cons, hh]
theorem full_len (l : List Span) (k : Nat) : (full (l.take k)).length ≤ k := by
  unfold full
  have h1 := List.length_filter_le (fun x : Span => decide (x.1 < x.2)) (l.take k)
  have h2 := List.length_take_le k l
  omega

set_option maxHeartbeats 1000000 in
set_option maxRecDepth 100000 in
theorem ofNew (l : List Span) (v : Value) (w : World) (hv : SpRow w v l) (hl : l.length ≤ 50000) (hb : ∀ x, x ∈ l → Small x) :
    Calls Try.prog 33 #[v] w fun e w' => ∃ u s, e = .returned u ∧ SpRow w' u s ∧ IsSet s l ∧ Below w.heap.size w w' ∧ ∀ g, u.ownBlock = some g → w.heap.size ≤ g := by
  obtain ⟨A, cap, rfl, h1, h2, h3, hc⟩ := hv
  unfold maxLen at h2
  obtain ⟨i0, hi, hz0, hz1, hz2⟩ := info_parts infoSpan
  have Hi := Lib.hid hi
  have Hz0 := Lib.hid hz0
  have Hz1 := Lib.hid hz1
  have Hz2 := Lib.hid hz2
  have HC := Lib.hid hc
  have HB := Lib.hid hb
  clear hi hz0 hz1 hz2 hc hb
  go_enter Try.func33, Try.ntmps33
  go_wp2_with (refine wpList_make_own _ rfl _ _ 52 rfl w.heap.size 59 i0 (.agg #[.int .i64 0, .int .i64 0]) 2 Try.underlying52 Hi.out Hz0.out Hz1.out .i64 .i64 (l.length : Int) l.length rfl rfl rfl (by rw [Hz2.out]; omega) (by unfold maxLen; omega) (Nat.le_refl _) ?_; intro w1 hown1 hg1; have HO1 := Lib.hid hown1; have HG1 := Lib.hid hg1; clear hown1 hg1)
  have HB1 := Lib.hid ((Below.refl w.heap.size w).grown HG1.out (Nat.le_refl _) (fun j hj => by cases hj))
  obtain ⟨g, hg⟩ : ∃ g, g = w.heap.size := ⟨_, rfl⟩
  rw [← hg]
  have hg' : w.heap.size ≤ g := by omega
  have HO1 : Hid (w1.ownsRow w.heap.size 59 2 (.slice (some ⟨g, 0, none⟩) 0 l.length) 0 []) := by rw [hg]; exact HO1.out
  have HGE := Lib.hid hg
  clear hg HG1
  go_wp2_with fail
  go_loopw [3, 11] (fun u i wr => ∃ (k : Nat) (acc : List Span), k ≤ l.length ∧ i = .int .i64 k ∧ Hid (acc = full (l.take k)) ∧ acc.length ≤ k ∧ u = .slice (some ⟨g, 0, none⟩) acc.length l.length ∧ Hid (wr.ownsRow w.heap.size 59 2 (.slice (some ⟨g, 0, none⟩) acc.length l.length) acc.length (encs acc)) ∧ Hid (Below w.heap.size w wr)) (fun _ i _ => l.length - (intOf i).toNat)
  case atStart => exact ⟨0, [], by omega, rfl, rfl, by simp, rfl, HO1, HB1⟩
  case round =>
    obtain ⟨k, acc, hk, rfl, HA, hacc, rfl, HO, HW⟩ := hrel
    by_cases hlt : k < l.length
    · obtain ⟨b, off, rfl, hbl, hcc⟩ := HC.out.resolve_left (fun e => by rw [e] at hlt; simp at hlt)
      have ex := List.getElem?_eq_getElem hlt
      have hx := HB.out _ (List.getElem_mem hlt)
      obtain ⟨c0, c1⟩ := hcc k _ ex
      have HF := Lib.hid (full_snoc l k hlt)
      generalize l[k] = x at *
      have hc0 : wr.cell? ⟨b, off + k * 2, none⟩ = some (.int .i64 x.1) := by rw [HW.out.cell (p := ⟨b, off + k * 2, none⟩) hbl]; exact c0
      have hc1 : wr.cell? ⟨b, off + k * 2 + 1, none⟩ = some (.int .i64 x.2) := by rw [HW.out.cell (p := ⟨b, off + k * 2 + 1, none⟩) hbl]; exact c1
      clear c0 c1 ex hcc
      have HN := Lib.hid (fun W => near x W hx)
      have hbx0 : (wr.alloc (.cells #[.int .i64 x.1, .int .i64 x.2] 59)).cell? ⟨wr.heap.size, 0, none⟩ = some (.int .i64 x.1) := by have h := cells_two_new wr (.int .i64 x.1) (.int .i64 x.2) 59 0 _ rfl; rwa [Addr.add_lit, Nat.zero_add] at h
      have hbx1 : (wr.alloc (.cells #[.int .i64 x.1, .int .i64 x.2] 59)).cell? ⟨wr.heap.size, 1, none⟩ = some (.int .i64 x.2) := by have h := cells_two_new wr (.int .i64 x.1) (.int .i64 x.2) 59 1 _ rfl; rwa [Addr.add_lit, Nat.zero_add] at h
      have hsz : (wr.alloc (.cells #[.int .i64 x.1, .int .i64 x.2] 59)).heap.size = wr.heap.size + 1 := by simp
      go_wp2_with fail
      refine (HN.out _).mono ?_
      rintro e w3 ⟨rfl, hb3⟩
      have hb3' := hb3
      have k0 : w3.cell? ⟨wr.heap.size, 0, none⟩ = some (.int .i64 x.1) := by rw [hb3.cell (p := ⟨wr.heap.size, 0, none⟩) (show wr.heap.size < _ by rw [hsz]; omega)]; exact hbx0
      have k1 : w3.cell? ⟨wr.heap.size, 1, none⟩ = some (.int .i64 x.2) := by rw [hb3.cell (p := ⟨wr.heap.size, 1, none⟩) (show wr.heap.size < _ by rw [hsz]; omega)]; exact hbx1
      have HB3 := Lib.hid ((HW.out.alloc HW.out.size (.cells #[.int .i64 x.1, .int .i64 x.2] 59)).trans (hb3.mono (by have := HW.out.size; rw [hsz]; omega)))
      have hfr : ∀ j, (wr.alloc (.cells #[.int .i64 x.1, .int .i64 x.2] 59)).frozen? ⟨wr.heap.size, j, none⟩ = false := fun j => frozen_of_row _ wr.heap.size j _ _ (heap_alloc_new wr _)
      have f0 : w3.frozen? ⟨wr.heap.size, 0, none⟩ = false := by rw [hb3.frozen (p := ⟨wr.heap.size, 0, none⟩) (show wr.heap.size < _ by rw [hsz]; omega)]; exact hfr 0
      have f1 : w3.frozen? ⟨wr.heap.size, 1, none⟩ = false := by rw [hb3.frozen (p := ⟨wr.heap.size, 1, none⟩) (show wr.heap.size < _ by rw [hsz]; omega)]; exact hfr 1
      have hgl := (HO.out.lt g rfl).2
      have hne : (Value.slice (some ⟨g, 0, none⟩) acc.length l.length).ownBlock ≠ some wr.heap.size := by simp [Value.ownBlock]; omega
      have HO3 := Lib.hid ((HO.out.alloc (.cells #[.int .i64 x.1, .int .i64 x.2] 59)).kept (row := none) ⟨hb3.os, hb3.tape, hb3.output, hb3.size, fun k hk _ => hb3.block k hk⟩ (by simp [Value.ownBlock]))
      have hbxB : w.heap.size ≤ wr.heap.size := HW.out.size
      clear hbx0 hbx1 hb3 hb3' hfr
      generalize wr.heap.size = bx at *
      by_cases hxx : x.1 < x.2
      · have hF := HF.out
        rw [if_pos hxx, ← HA.out] at hF
        have HF2 := Lib.hid hF
        clear hF
        have hdx : decide (x.1 < x.2) = true := by simp; exact hxx
        have HX1 := Lib.hid (show encS x = [.int .i64 x.1, .int .i64 x.2] from rfl)
        generalize x.1 = a at *
        generalize x.2 = d at *
        have hown := ownsRow_setCell_other (ownsRow_setCell_other HO3.out (a := ⟨bx, 0, none⟩) hne (.int .i64 a)) (a := ⟨bx, 1, none⟩) hne (.int .i64 d)
        have hbel := (HB3.out.setCell (p := ⟨bx, 0, none⟩) hbxB (.int .i64 a)).setCell (p := ⟨bx, 1, none⟩) hbxB (.int .i64 d)
        have HOW := Lib.hid hown
        have HBW := Lib.hid hbel
        have hsw : ((w3.setCell ⟨bx, 0, none⟩ (.int .i64 a)).setCell ⟨bx, 1, none⟩ (.int .i64 d)).heap.size = w3.heap.size := by simp [World.setCell]
        have HSW := Lib.hid hsw
        clear hown hbel hsw
        go_wp2_with (at_builtin; refine wpList_append_fits _ rfl (.tmp 22) (.tmp 24) 52 rfl w.heap.size 59 i0 2 Try.underlying52 Hi.out Hz1.out g acc.length l.length (encs acc) (by rfl) (HOW.out.alloc _) ⟨w3.heap.size, 0, none⟩ 1 1 [.int .i64 a, .int .i64 d] (by rfl) rfl (cells_two_at _ _ _ _ _ HSW.out) (fun u hu => by simp at hu; rcases hu with rfl | rfl <;> rfl) (by omega) ?_; intro w4 hown4 hg4; have HO4 := Lib.hid hown4; have HG4 := Lib.hid hg4; clear hown4 hg4)
        have HN4 : Hid (w4.ownsRow w.heap.size 59 2 (.slice (some ⟨g, 0, none⟩) (acc ++ [x]).length l.length) (acc ++ [x]).length (encs (acc ++ [x]))) := by
          have h := HO4.out
          rw [← HX1.out] at h
          rw [List.length_append, encs_append, show encs [x] = encS x by simp [encs]]
          exact h
        have HB4 := Lib.hid ((HBW.out.alloc HBW.out.size _).grown HG4.out (by have h1 := HBW.out.size; rw [HSW.out] at h1; rw [World.size_alloc, HSW.out]; omega) (fun j hj => by injection hj with hj; omega))
        go_roundw
        case rel => exact ⟨k + 1, acc ++ [x], by omega, by go_num, HF2.out.symm, by simp; omega, by rw [List.length_append]; rfl, HN4, HB4⟩
        case measure => simp [intOf]; omega
      · have hF := HF.out
        rw [if_neg hxx, ← HA.out] at hF
        have HF2 := Lib.hid hF
        clear hF
        have hdx : decide (x.1 < x.2) = false := by simp; omega
        go_wp2_with fail
        have hown := ownsRow_setCell_other (ownsRow_setCell_other HO3.out (a := ⟨bx, 0, none⟩) hne (.int .i64 x.1)) (a := ⟨bx, 1, none⟩) hne (.int .i64 x.2)
        have hbel := (HB3.out.setCell (p := ⟨bx, 0, none⟩) hbxB (.int .i64 x.1)).setCell (p := ⟨bx, 1, none⟩) hbxB (.int .i64 x.2)
        go_roundw
        case rel => exact ⟨k + 1, acc, by omega, by go_num, HF2.out.symm, by omega, rfl, hown, hbel⟩
        case measure => simp [intOf]; omega
    · have hkl : k = l.length := by omega
      have hA := HA.out
      rw [hkl, List.take_of_length_le (Nat.le_refl _)] at hA
      have HA2 := Lib.hid hA
      clear hkl hA
      have eg : ∀ args w, (callFunc 38 args).run Try.prog w = .ok (.enter 38 args) w := enters_of Try.func38 (by kernel_rfl) rfl
      have hgl := (HO.out.lt g rfl).2
      have hcon := AnyQ.slices_SortFunc Try.laySort 2 Try.isAgg59 Try.sizeOf59 encS (fun _ => rfl) (fun x v hv => by simp [encS] at hv; rcases hv with rfl | rfl <;> rfl) (fun x y : Span => Lib.compareInt x.1 y.1) swoFrom 38 #[] g 0 l.length acc.toArray wr eg (fun _ _ _ _ x y => cmpFrom x y _) (holds_own HO.out) hgl (by simp; omega)
      change Calls Try.prog 37 _ _ _ at hcon
      rw [List.size_toArray] at hcon
      have HCON := Lib.hid hcon
      clear hcon eg
      go_wp2_with fail
      refine HCON.out.mono ?_
      rintro e w' ⟨rfl, d', n, os, hp, hs, rfl⟩
      obtain ⟨p1, p2⟩ := perm_of (d := acc.toArray) (by rw [List.size_toArray]; exact hp)
      have p1 : d'.size = acc.length := by simpa using p1
      have hs2 := sorted_of (d := d') (by rw [p1]; simpa using hs)
      have hh := Go.Proofs.holdsK_sortWorldK_c (enc := encS) (k := 2) (w := wr) (blk := g) (off := 0) acc.toArray d' n os (holds_own HO.out) hgl (by simpa using p1)
      have hbw := below_sortWorld (B := w.heap.size) encS 2 wr g 0 n d' os hg' HW.out.size
      have hbW := HW.out.trans hbw
      have hgl2 : g < (sortWorldK encS 2 wr g 0 n d' os).heap.size := Nat.lt_of_lt_of_le hgl hbw.size
      generalize sortWorldK encS 2 wr g 0 n d' os = W at *
      have hrow := row_holds (cap := l.length) hh hgl2 (by omega) (by unfold maxLen; omega) (by omega)
      rw [p1] at hrow
      have HROW := Lib.hid hrow
      have HBW := Lib.hid hbW
      have HP := Lib.hid p2
      have HS := Lib.hid hs2
      have HL := Lib.hid (show d'.toList.length ≤ 50000 by simp; omega)
      have HSM : Hid (∀ x, x ∈ d'.toList → Small x) := fun x hx => HB.out x (by
        have h1 := p2.mem_iff.1 hx
        rw [HA2.out] at h1
        have h2 : x ∈ full l := by simpa using h1
        exact (List.mem_filter.1 h2).1)
      clear hp hs p1 p2 hs2 hh hbw hbW hrow
      go_wp2_with fail
      refine (joined d'.toList _ W HROW.out HL.out HSM.out).mono ?_
      rintro e w3 ⟨u, rfl, hu, hb3, hnew⟩
      have HNEW : Hid (∀ g, u.ownBlock = some g → w.heap.size ≤ g) := fun g hg => Nat.le_trans HBW.out.size (hnew g hg)
      have HU := Lib.hid hu
      have HB3 := Lib.hid (HBW.out.trans (hb3.mono HBW.out.size))
      clear hu hb3 hnew
      go_wp2_with fail
      go_ret
      exact ⟨_, _, rfl, HU.out, isSet_of (by rw [← HA2.out]; simpa using HP.out) HS.out HB.out, HB3.out, HNEW.out⟩

theorem of_ (l : List Span) (v : Value) (w : World) (hv : SpRow w v l) (hl : l.length ≤ 50000) (hb : ∀ x, x ∈ l → Small x) :
    Calls Try.prog 33 #[v] w fun e w' => ∃ u s, e = .returned u ∧ SpRow w' u s ∧ IsSet s l ∧ Below w.heap.size w w' :=
  (ofNew l v w hv hl hb).mono fun e w' ⟨u, s, h1, h2, h3, h4, _⟩ => ⟨u, s, h1, h2, h3, h4⟩
end Go.Proofs.Ytgfdgcpbmjhmmaa
