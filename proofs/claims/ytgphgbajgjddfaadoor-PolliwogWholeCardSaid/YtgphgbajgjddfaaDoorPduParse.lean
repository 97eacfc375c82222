/- The contract of package pdu's Parse, of the bytes of a unit that may be. Conditions: the variables lie as their initialisers leave them. -/
import Derived.Test.YtgphgbajgjddfaaDoorPduTake
import Derived.Test.YtgphgbajgjddfaaDoorPduSeam
import Derived.Test.YtgphgbajgjddfaaDoorPduAll
import Derived.Test.YtgphgbajgjddfaaDoorFrameForm
namespace Go.Proofs.YtgphgbajgjddfaaDoor
open Go.RowKit
set_option linter.unusedVariables false
set_option linter.unusedSimpArgs false

theorem nums_strI (l : List Int) (h : ∀ b, b ∈ l → 0 ≤ b ∧ b < 256) : nums (strOfNums l) = l.map Int.toNat := by
  rw [nums_strOfNums]
  apply List.map_congr_left
  intro b hb
  have := h b hb
  simp only [UInt8.toNat_ofNat']
  omega
theorem dataI_in (d : ByteArray) : ∀ b, b ∈ dataI d → 0 ≤ b ∧ b < 256 := by
  intro b hb
  unfold dataI at hb
  obtain ⟨x, hx, rfl⟩ := List.mem_map.1 hb
  have := nums_lt d x hx
  simp only [Int.ofNat_eq_natCast]
  omega
theorem strI_data (d : ByteArray) : strOfNums (dataI d) = d := by
  apply nums_inj
  rw [nums_strI _ (dataI_in d)]
  unfold dataI
  rw [List.map_map]
  have : (Int.toNat ∘ Int.ofNat) = id := by funext x; rfl
  rw [this, List.map_id]
theorem str_extract (l : List Int) (a b : Nat) : (strOfNums l).extract a b = strOfNums ((l.drop a).take (b - a)) := by
  apply nums_inj
  rw [nums_cut, nums_strOfNums, nums_strOfNums, List.map_take, List.map_drop]

/-- The parts of a unit's bytes. -/
structure Parts (s : ByteArray) (d : ByteArray) (f : Nat) (WL : List Int) (LW : Int) (e : Nat) : Prop where
  size : s.size = e + 4
  fin : e = d.size + f + 4 * WL.length
  low : e ≤ 1000
  last : s.extract e s.size = strOfNums ([LW].flatMap wordB)
  words : s.extract (d.size + f) e = strOfNums (WL.flatMap wordB)
  data : s.extract 0 d.size = d
theorem parts (d : ByteArray) (f : Nat) (WL : List Int) (LW : Int) (hf : f ≤ 3) (hd : d.size ≤ 200) (hw : WL.length ≤ 131) :
    Parts (strOfNums (dataI d ++ List.replicate f 0 ++ (WL ++ [LW]).flatMap wordB)) d f WL LW (d.size + f + 4 * WL.length) := by
  have hl : (dataI d ++ List.replicate f 0 ++ (WL ++ [LW]).flatMap wordB).length = d.size + f + 4 * WL.length + 4 := by
    rw [List.length_append, List.length_append, dataI_len, List.length_replicate, flat_len, List.length_append, List.length_singleton]
    omega
  have hs : (strOfNums (dataI d ++ List.replicate f 0 ++ (WL ++ [LW]).flatMap wordB)).size = d.size + f + 4 * WL.length + 4 := by rw [strOfNums_size, hl]
  have hdl : (dataI d ++ List.replicate f 0).length = d.size + f := by rw [List.length_append, dataI_len, List.length_replicate]
  refine ⟨hs, rfl, by omega, ?_, ?_, ?_⟩
  · rw [hs, str_extract, List.flatMap_append, ← List.append_assoc]
    congr 1
    rw [List.drop_append_of_le_length (by rw [List.length_append, hdl, flat_len]; omega), List.drop_of_length_le (by rw [List.length_append, hdl, flat_len]; omega), List.nil_append]
    apply List.take_of_length_le
    rw [flat_len]; simp
  · rw [str_extract, List.flatMap_append]
    congr 1
    rw [List.drop_append_of_le_length (by rw [hdl]; omega), List.drop_of_length_le (by rw [hdl]; omega), List.nil_append]
    rw [List.take_append_of_le_length (by rw [flat_len]; omega), List.take_of_length_le (by rw [flat_len]; omega)]
  · rw [str_extract]
    conv => rhs; rw [← strI_data d]
    congr 1
    rw [List.drop_zero, List.append_assoc, List.take_append_of_le_length (by rw [dataI_len]; omega), List.take_of_length_le (by rw [dataI_len]; omega)]
theorem last_parts (f k m : Nat) (se : Bool) (hf : f ≤ 3) (hk : k ≤ 15) (hm : m ≤ 16777215) :
    bits .and .u32 (lastW f k m se / 16777216) 15 = (k : Int) ∧ bits .and .u32 (lastW f k m se) 16777215 = (m : Int) ∧ ((bits .and .u32 (lastW f k m se) 536870912) != 0) = se ∧ lastW f k m se / 1073741824 = (f : Int) := by
  have e : lastW f k m se = ((f * 1073741824 + (if se = true then 536870912 else 0) + k * 16777216 + m : Nat) : Int) := by
    unfold lastW
    cases se <;> simp
  have hb : (if se = true then 536870912 else 0) = 0 ∨ (if se = true then 536870912 else 0) = (536870912 : Nat) := by cases se <;> simp
  refine ⟨?_, ?_, ?_, ?_⟩
  · rw [e, show (((f * 1073741824 + (if se = true then 536870912 else 0) + k * 16777216 + m : Nat) : Int) / 16777216) = (((f * 1073741824 + (if se = true then 536870912 else 0) + k * 16777216 + m) / 16777216 : Nat) : Int) by simp]
    rw [show (15 : Int) = ((15 : Nat) : Int) from rfl, u32_and_nat _ _ (by rcases hb with h | h <;> rw [h] <;> omega) (by omega), show (15 : Nat) = 2 ^ 4 - 1 from rfl, Nat.and_two_pow_sub_one_eq_mod]
    rcases hb with h | h <;> rw [h] <;> omega
  · rw [e, show (16777215 : Int) = ((16777215 : Nat) : Int) from rfl, u32_and_nat _ _ (by rcases hb with h | h <;> rw [h] <;> omega) (by omega), show (16777215 : Nat) = 2 ^ 24 - 1 from rfl, Nat.and_two_pow_sub_one_eq_mod]
    rcases hb with h | h <;> rw [h] <;> omega
  · rw [e, show (536870912 : Int) = ((536870912 : Nat) : Int) from rfl, u32_and_nat _ _ (by rcases hb with h | h <;> rw [h] <;> omega) (by omega), show (536870912 : Nat) = 2 ^ 29 from rfl, nat_bit 29]
    cases se
    · simp; omega
    · simp; omega
  · rw [e]
    rcases hb with h | h <;> rw [h] <;> omega

@[go_sem] theorem buildU (k n : Int) (se : Bool) (w : World) : (Instr.build 32 #[(0, .int .i64 k), (2, .int .u32 n), (6, .bool se)]).run Tryd.prog w = .ok (.agg #[.int .i64 k, .int .i64 0, .int .u32 n, .int .u32 0, .int .u32 0, .slice none 0 0, .bool se, .string ⟨#[]⟩]) w := run_build w 32 _ _ (by kernel_rfl)
theorem num_first {w : World} {b c n : Nat} {x : Int} (h : NumRow w (.slice (some ⟨b, 0, none⟩) n c) [x]) : w.cell? ⟨b, 0, none⟩ = some (.int .u32 x) := by
  obtain ⟨A, cap, e, _, hc⟩ := h
  injection e with e1 e2 e3
  rcases hc with h | ⟨b', off, rfl, _, hc⟩
  · cases h
  · injection e1 with e1
    injection e1 with e1 e4
    subst e1 e4
    have := hc 0 x rfl
    rwa [Nat.add_zero] at this
theorem free_new (w : World) (cs : Array Value) (t : TypeId) (j : Nat) : (w.alloc (.cells cs t)).frozen? ⟨w.heap.size, j, none⟩ = false := by
  unfold World.frozen?
  rw [heap_alloc_new]
  simp
theorem shape_seen {W : World} {k : Nat} (h : ShapesIn W) (hk : k < 16) : W.cell? ⟨0, k * 7, none⟩ = some (.bool (hasSQ k)) ∧ W.cell? ⟨0, k * 7 + 1, none⟩ = some (.bool (hasPS k)) ∧ W.cell? ⟨0, k * 7 + 2, none⟩ = some (.bool (hasMR k)) ∧ W.cell? ⟨0, k * 7 + 3, none⟩ = some (.bool (hasN k)) ∧ W.cell? ⟨0, k * 7 + 4, none⟩ = some (.bool (hasSelf k)) ∧ W.cell? ⟨0, k * 7 + 5, none⟩ = some (.int .i64 (listOf k)) ∧ W.cell? ⟨0, k * 7 + 6, none⟩ = some (.int .i64 (most k)) := by
  obtain ⟨v0, v1, v2, v3, v4, v5, v6⟩ := shape_all k hk
  refine ⟨?_, ?_, ?_, ?_, ?_, ?_, ?_⟩
  · have := h k 0 hk (by decide); rw [Nat.add_zero, v0] at this; exact this
  · rw [← v1]; exact h k 1 hk (by decide)
  · rw [← v2]; exact h k 2 hk (by decide)
  · rw [← v3]; exact h k 3 hk (by decide)
  · rw [← v4]; exact h k 4 hk (by decide)
  · rw [← v5]; exact h k 5 hk (by decide)
  · rw [← v6]; exact h k 6 hk (by decide)
/-- Where Parse is: its result's block is as it was made, its unit lies in block g. -/
structure ParseAt (w w' : World) (R g : Nat) : Prop where
  res : w'.heap[R]? = some (.cells #[.int .i64 0, .int .i64 0, .int .u32 0, .int .u32 0, .int .u32 0, .slice none 0 0, .bool false, .string ⟨#[]⟩] 32 (0, 0))
  free : ∀ j, w'.frozen? ⟨g, j, none⟩ = false
  shapes : ShapesIn w'
  bel : Below w.heap.size w w'
  new : w.heap.size ≤ R
  lt : R < g
  gl : g < w'.heap.size
theorem ParseAt.next {w w' w2 : World} {R g : Nat} (h : ParseAt w w' R g) (hb : Below w'.heap.size w' w2) : ParseAt w w2 R g :=
  ⟨by rw [hb.block R (Nat.lt_trans h.lt h.gl)]; exact h.res, fun j => by rw [hb.frozen (p := ⟨g, j, none⟩) h.gl]; exact h.free j, h.shapes.next hb, h.bel.trans (hb.mono h.bel.size), h.new, h.lt, Nat.lt_of_lt_of_le h.gl hb.size⟩
theorem ParseAt.grown {w w' w2 : World} {R g : Nat} (h : ParseAt w w' R g) (hb : w'.grownBy w2 (some g)) (hf : ∀ j, w2.frozen? ⟨g, j, none⟩ = false) : ParseAt w w2 R g := by
  have hl := h.lt
  have hn := h.new
  refine ⟨by rw [hb.block R (Nat.lt_trans h.lt h.gl) (fun e => by injection e with e; omega)]; exact h.res, hf, fun r j hr hj => ?_, h.bel.grown hb h.bel.size (fun j hj => by injection hj with hj; omega), h.new, h.lt, Nat.lt_of_lt_of_le h.gl hb.size⟩
  rw [World.cell?_of_block (a := ⟨0, r * 7 + j, none⟩) (hb.block 0 h.shapes.pos (fun e => by injection e with e; omega))]
  exact h.shapes r j hr hj
theorem ParseAt.box {w w' : World} {R g : Nat} (h : ParseAt w w' R g) {i : Nat} {v : Value} : ParseAt w (w'.setCell ⟨g, i, none⟩ v) R g :=
  h.grown ⟨rfl, rfl, rfl, by simp, fun j _ hne => Below.heap_setCell _ _ _ _ (fun e => hne (by rw [e]))⟩ (fun j => by rw [World.frozen?_setCell]; exact h.free j)
theorem num_cells {w : World} {b n c : Nat} {xs : List Int} (h : NumRow w (.slice (some ⟨b, 0, none⟩) n c) xs) : ∀ j x, xs[j]? = some x → w.cell? ⟨b, j, none⟩ = some (.int .u32 x) := by
  obtain ⟨A, cap, e, _, hc⟩ := h
  injection e with e1 e2 e3
  intro j x hx
  rcases hc with rfl | ⟨b', off, rfl, _, hc⟩
  · simp at hx
  · injection e1 with e1
    injection e1 with e1 e4
    subst e1 e4
    have := hc j x hx
    rwa [Nat.zero_add] at this
theorem wl_pre (k : Nat) (sq ps mr : Int) (xs : List Int) : ∀ (j : Nat) (x : Int), xs[j]? = some x → (wordsL k sq ps mr xs)[j]? = some x := by
  intro j x hx
  have hj := (List.getElem?_eq_some_iff.1 hx).1
  unfold wordsL
  rw [List.append_assoc, List.append_assoc, List.getElem?_append_left hj]
  exact hx
theorem unit_one (k sq n ps mr : Int) (l : Value) (se : Bool) (d : ByteArray) (h : l.oneCell' = true := by rfl) : (#[.int .i64 k, .int .i64 sq, .int .u32 n, .int .u32 ps, .int .u32 mr, l, .bool se, .string d] : Array Value).all (·.oneCell') = true := by
  simp [Value.oneCell', h]
  exact h
theorem row_box (w : World) (R : Nat) (k sq n ps mr : Int) (l : Value) (se : Bool) (d : ByteArray) {old : Array Value} (h : w.heap[R]? = some (.cells old 32 (0, 0))) :
    BoxAt (w.setRow R #[.int .i64 k, .int .i64 sq, .int .u32 n, .int .u32 ps, .int .u32 mr, l, .bool se, .string d]) R k sq n ps mr l se d := by
  have hn := setRow_heap w R _ #[.int .i64 k, .int .i64 sq, .int .u32 n, .int .u32 ps, .int .u32 mr, l, .bool se, .string d] _ _ h
  refine ⟨?_, ?_, ?_, ?_, ?_, ?_, ?_, ?_⟩
  · rw [cell_of_row _ _ 0 _ _ (0, 0) hn]; rfl
  · rw [cell_of_row _ _ 1 _ _ (0, 0) hn]; rfl
  · rw [cell_of_row _ _ 2 _ _ (0, 0) hn]; rfl
  · rw [cell_of_row _ _ 3 _ _ (0, 0) hn]; rfl
  · rw [cell_of_row _ _ 4 _ _ (0, 0) hn]; rfl
  · rw [cell_of_row _ _ 5 _ _ (0, 0) hn]; rfl
  · rw [cell_of_row _ _ 6 _ _ (0, 0) hn]; rfl
  · rw [cell_of_row _ _ 7 _ _ (0, 0) hn]; rfl
theorem res_parseU (tmps : Array Value) (w : World) (r : Nat) (k sq n ps mr : Int) (l : Value) (se : Bool) (d : ByteArray) (err : Int) (h4 : tmps.getD 2 undef = .pointer (some ⟨r, 0, none⟩)) (h5 : tmps.getD 3 undef = .int .i64 err)
    (c : BoxAt w r k sq n ps mr l se d) :
    (results Tryd.f13 tmps).run Tryd.prog w = .ok (.tuple #[.agg #[.int .i64 k, .int .i64 sq, .int .u32 n, .int .u32 ps, .int .u32 mr, l, .bool se, .string d], .int .i64 err]) w := by
  obtain ⟨x0, x1, x2, x3, x4, x5, x6, x7⟩ := c
  simp only [results, Tryd.results13]
  simp only [List.mapM_toArray, List.mapM_cons, List.mapM_nil, h4, h5]
  go_simp
theorem NumRow.row_other {w : World} {R : Nat} {cs : Array Value} {A : Option Addr} {n c : Nat} {xs : List Int} (h : NumRow w (.slice A n c) xs) (hne : ∀ b, xs ≠ [] → A = some b → b.block ≠ R) : NumRow (w.setRow R cs) (.slice A n c) xs := by
  obtain ⟨A', cap, e, hl, hc⟩ := h
  injection e with e1 e2 e3
  subst e1 e2 e3
  refine ⟨_, _, rfl, hl, hc.imp id fun ⟨b, off, e, hbl, hc⟩ => ⟨b, off, e, by rw [setRow_size]; exact hbl, fun i x hx => ?_⟩⟩
  rw [cell_setRow_other _ _ _ _ (show b ≠ R from hne ⟨b, off, none⟩ (fun h => by subst h; simp at hx) e)]
  exact hc i x hx
theorem infoPdu : (Tryd.prog.info? 32).map (·.size) = some 8 := by kernel_rfl
theorem fits_no {x m : Int} (h : fitsV x false m = true) : x = 0 := by
  unfold fitsV at h
  simpa using h
theorem seam_is {k : Nat} {sq n ps mr : Int} {xs : List Int} {se : Bool} {d : ByteArray} (hk : 1 ≤ k ∧ k ≤ 15) (h : checkV k sq n ps mr xs se d = 0) (f : Nat) (hf : f = fillOf d.size) : seamV k ((d.size + f + 4 * (wordsL k sq ps mr xs).length : Nat) : Int) = ((d.size + f : Nat) : Int) ∧ (hasSQ k = false → sq = 0) ∧ (hasPS k = false → ps = 0) ∧ (hasMR k = false → mr = 0) := by
  unfold checkV at h
  split at h
  · omega
  · split at h
    · rename_i hg
      rw [Bool.and_eq_true, Bool.and_eq_true] at hg
      obtain ⟨⟨h1, h2⟩, h3⟩ := hg
      unfold numbersV at h1
      rw [Bool.and_eq_true, Bool.and_eq_true, Bool.and_eq_true] at h1
      obtain ⟨⟨⟨h11, h12⟩, h13⟩, h14⟩ := h1
      refine ⟨?_, fun e => by rw [e] at h11; exact fits_no h11, fun e => by rw [e] at h13; exact fits_no h13, fun e => by rw [e] at h14; exact fits_no h14⟩
      have hwl : ((wordsL k sq ps mr xs).length : Int) = xs.length + cntB (hasSQ k) + cntB (hasPS k) + cntB (hasMR k) := by
        unfold wordsL
        simp only [List.length_append]
        have q : ∀ (b : Bool) (x : Int), ((if b = true then [x] else []).length : Int) = cntB b := fun b x => by cases b <;> rfl
        have q1 := q (hasSQ k) sq; have q2 := q (hasPS k) ps; have q3 := q (hasMR k) mr
        omega
      unfold listFitsV at h2
      rw [Bool.and_eq_true] at h2
      have h22 := h2.2
      unfold dataV at h3
      rw [Bool.and_eq_true, Bool.or_eq_true, decide_eq_true_iff, beq_iff_eq] at h3
      have h31 := h3.1
      unfold seamV
      generalize cntB (hasSQ k) = c1 at *
      generalize cntB (hasPS k) = c2 at *
      generalize cntB (hasMR k) = c3 at *
      by_cases k11 : k = 11
      · subst k11
        have hd : d.size = 0 := by
          rcases h31 with e | e
          · rw [← nums_len]; unfold nums; rw [ByteArray.toList_eq] at e; rw [e]; rfl
          · exact absurd e (by decide)
        have hf0 : f = 0 := by rw [hf, hd]; rfl
        rw [show listOf 11 = 2 from rfl, if_pos rfl]
        omega
      · by_cases k12 : k = 12
        · subst k12
          rw [show listOf 12 = 1 from rfl] at h22 ⊢
          rw [if_neg (by decide), if_pos rfl] at h22
          rw [if_neg (by decide), if_pos rfl]
          rw [beq_iff_eq] at h22
          omega
        · have hl0 : listOf k = 0 := by unfold listOf; rw [if_neg k11, if_neg k12]
          rw [hl0] at h22 ⊢
          rw [if_neg (by decide), if_neg (by decide)] at h22
          rw [if_neg (by decide), if_neg (by decide)]
          rw [beq_iff_eq] at h22
          omega
    · omega

set_option maxHeartbeats 4000000 in
set_option maxRecDepth 100000 in
theorem pdu_parse_far (k : Nat) (sq n ps mr : Int) (xs : List Int) (se : Bool) (d : ByteArray) (w : World) (hk1' : 1 ≤ k ∧ k ≤ 15) (hS : ShapesIn w) (hok : checkV k sq n ps mr xs se d = 0) (hxs : ∀ x, x ∈ xs → 0 ≤ x) :
    Calls Tryd.prog 13 #[.string (pduB k sq n ps mr xs se d)] w fun e w' => ∃ l, e = .returned (.tuple #[.agg #[.int .i64 (k : Int), .int .i64 sq, .int .u32 n, .int .u32 ps, .int .u32 mr, l, .bool se, .string d], .int .i64 0]) ∧ NumRow w' l xs ∧ Below w.heap.size w w' ∧ ∀ r, l.ownBlock = some r → w.heap.size ≤ r := by
  obtain ⟨U1, U2, U3, U4, U5, U6, U7⟩ := unit_ok hok
  obtain ⟨f, hf⟩ : ∃ f, f = fillOf d.size := ⟨_, rfl⟩
  have hf3 : f ≤ 3 := by rw [hf]; unfold fillOf; omega
  have hfd : (d.size + f) % 4 = 0 := by rw [hf]; unfold fillOf; omega
  obtain ⟨q1, q2, q3, q4⟩ := seam_is hk1' hok f hf
  have hwl : (wordsL k sq ps mr xs).length ≤ 131 := by
    unfold wordsL
    simp only [List.length_append]
    have q : ∀ (b : Bool) (x : Int), (if b = true then [x] else []).length ≤ 1 := fun b x => by cases b <;> simp
    have q1 := q (hasSQ k) sq; have q2 := q (hasPS k) ps; have q3 := q (hasMR k) mr
    omega
  have hin := allWords_in k sq n ps mr xs se d (by omega) U3 U4 U5 U6 hxs U7
  have hP := parts d f (wordsL k sq ps mr xs) (lastW f k n se) hf3 U2 hwl
  have hs : pduB k sq n ps mr xs se d = strOfNums (dataI d ++ List.replicate f 0 ++ (wordsL k sq ps mr xs ++ [lastW f k n se]).flatMap wordB) := by rw [hf]; rfl
  rw [← hs] at hP
  obtain ⟨m, hm⟩ : ∃ m : Nat, n = (m : Int) := ⟨n.toNat, by omega⟩
  have hlp := last_parts f k m se hf3 (by omega) (by omega)
  rw [← hm] at hlp
  have hlw := lastW_in f k n se hf3 (by omega) U4
  have HTB := Lib.hid (fun (p : Option Addr) (cap : Nat) (W : World) (h1 : ShapesIn W) => pdu_tooBig k sq n ps mr p xs.length cap se d W (by omega) h1)
  have HBY := Lib.hid (fun (p : Option Addr) (cap : Nat) (W : World) (h1 : ShapesIn W) (h2 : NumRow W (.slice p xs.length cap) xs) => pdu_bytes_ok k sq n ps mr p xs.length cap xs se d W hk1' h1 rfl h2 hok hxs)
  have HW1 := Lib.hid (fun W => pdu_wordsOf [lastW f k n se] W (fun x hx => by rw [List.mem_singleton.1 hx]; exact hlw) (by simp))
  have HW2 := Lib.hid (fun W => pdu_wordsOf (wordsL k sq ps mr xs) W (fun x hx => hin x (List.mem_append_left _ hx)) (by omega))
  have hbig : tooBigV k xs.length d = false := by
    unfold checkV at hok
    split at hok
    · omega
    · rename_i h; simpa using h
  have HBIG : Hid ((decide (128 < (xs.length : Int)) || (decide (0 < most k) && decide (most k < (d.size : Int)))) = false) := hbig
  obtain ⟨hz1, hz2, hz3, hz4, hz5, hz6⟩ := hP
  rw [← hz5] at HW2
  rw [← hz4] at HW1
  generalize pduB k sq n ps mr xs se d = s at *
  have HWLN := Lib.hid hwl
  have HPRE := Lib.hid (wl_pre k sq ps mr xs)
  obtain ⟨e, he⟩ : ∃ e, e = d.size + f + 4 * (wordsL k sq ps mr xs).length := ⟨_, rfl⟩
  rw [← he] at hz1 hz2 hz3 hz4 hz5 HW1 HW2 q1
  have hne : (s.toList == []) = false := by
    rw [beq_eq_false_iff_ne]
    intro h
    have h2 : (nums s).length = 0 := by unfold nums; rw [← ByteArray.toList_eq, h]; rfl
    rw [nums_len] at h2
    omega
  have hmod : ((s.size : Int) % 4 != 0) = false := by rw [bne_eq_false_iff_eq]; omega
  have hse : (s.size : Int) - 4 = (e : Int) := by omega
  have hsb : s.size ≤ 2000 := by omega
  have hsl : 4 ≤ s.size := by omega
  have hes : (e : Int) ≤ (s.size : Int) := by omega
  have he0 : (0 : Int) ≤ (e : Int) := by omega
  have HSE : Hid (s.size = e + 4) := hz1
  have HFD : Hid (d.size + f ≤ e ∧ f ≤ d.size + f) := ⟨by omega, by omega⟩
  have HZ4 := Lib.hid hz4
  have HZ5 := Lib.hid hz5
  have HZ6 := Lib.hid hz6
  have HE := Lib.hid he
  have hk15 : (k : Int) ≤ 15 := by omega
  have hk1 : (1 : Int) ≤ (k : Int) := by omega
  have HKN := Lib.hid (fun W => pdu_known (k : Int) W)
  rw [decide_eq_true (show 1 ≤ (k : Int) ∧ (k : Int) ≤ 15 by omega)] at HKN
  have HSM := Lib.hid (fun W => pdu_seam k (e : Int) W (by omega) (by omega))
  rw [q1] at HSM
  obtain ⟨l1, l2, l3, l4⟩ := hlp
  clear hs hok hm hz1 hz2 hz3 hz4 hz5 hz6 he hf hbig q1 hin hwl
  generalize lastW f k n se = LW at *
  obtain ⟨W0, hW0⟩ : ∃ W0, W0 = w.alloc (.cells #[.int .i64 0, .int .i64 0, .int .u32 0, .int .u32 0, .int .u32 0, .slice none 0 0, .bool false, .string ⟨#[]⟩] 32) := ⟨_, rfl⟩
  have HR0 : Hid (W0.heap[w.heap.size]? = some (.cells #[.int .i64 0, .int .i64 0, .int .u32 0, .int .u32 0, .int .u32 0, .slice none 0 0, .bool false, .string ⟨#[]⟩] 32 (0, 0))) := by rw [hW0]; exact heap_alloc_new w _
  have HB0 : Hid (Below w.heap.size w W0) := by rw [hW0]; exact (Below.refl _ w).alloc (Nat.le_refl _) _
  have hrl : w.heap.size < W0.heap.size := by rw [hW0]; simp
  have HS0 := Lib.hid (hS.next HB0.out)
  clear hS
  go_enter Tryd.func13, Tryd.ntmps13
  go_upto_region 1 with fail
  rw [← hW0]
  clear hW0
  go_wp2_with fail
  refine (HW1.out _).mono ?_
  rintro e1 w1 ⟨rfl, hrow, hgt, hbel⟩
  have HB1 := Lib.hid (HB0.out.trans (hbel.mono HB0.out.size))
  have hc0 : w1.cell? ⟨W0.heap.size, 0, none⟩ = some (.int .u32 LW) := num_first hrow
  have hr1 : w.heap.size < w1.heap.size := Nat.lt_of_lt_of_le hrl hbel.size
  have HR1 : Hid (w1.heap[w.heap.size]? = some (.cells #[.int .i64 0, .int .i64 0, .int .u32 0, .int .u32 0, .int .u32 0, .slice none 0 0, .bool false, .string ⟨#[]⟩] 32 (0, 0))) := by show _ = _; rw [hbel.block _ hrl]; exact HR0.out
  have HS1 := Lib.hid (HS0.out.next hbel)
  clear hrow hgt hbel HR0 HS0
  generalize W0.heap.size = g0 at *
  go_upto_region 6 with fail
  have HBX := Lib.hid (box_new w1 (k : Int) 0 n 0 0 (.slice none 0 0) se ⟨#[]⟩)
  have hfree : ∀ j, (w1.alloc (.cells #[.int .i64 (k : Int), .int .i64 0, .int .u32 n, .int .u32 0, .int .u32 0, .slice none 0 0, .bool se, .string ⟨#[]⟩] 32)).frozen? ⟨w1.heap.size, j, none⟩ = false := fun j => free_new w1 _ _ j
  have hb2 : Below w1.heap.size w1 (w1.alloc (.cells #[.int .i64 (k : Int), .int .i64 0, .int .u32 n, .int .u32 0, .int .u32 0, .slice none 0 0, .bool se, .string ⟨#[]⟩] 32)) := (Below.refl _ w1).alloc (Nat.le_refl _) _
  have HB2 := Lib.hid hb2
  have HFREE := Lib.hid hfree
  have HS2 := Lib.hid (HS1.out.next hb2)
  have HR2 : Hid ((w1.alloc (.cells #[.int .i64 (k : Int), .int .i64 0, .int .u32 n, .int .u32 0, .int .u32 0, .slice none 0 0, .bool se, .string ⟨#[]⟩] 32)).heap[w.heap.size]? = some (.cells #[.int .i64 0, .int .i64 0, .int .u32 0, .int .u32 0, .int .u32 0, .slice none 0 0, .bool false, .string ⟨#[]⟩] 32 (0, 0))) := by show _ = _; rw [hb2.block _ hr1]; exact HR1.out
  have hp2 : w1.heap.size < (w1.alloc (.cells #[.int .i64 (k : Int), .int .i64 0, .int .u32 n, .int .u32 0, .int .u32 0, .slice none 0 0, .bool se, .string ⟨#[]⟩] 32)).heap.size := by simp
  clear hb2 hfree hc0 HR1 HS1
  generalize w1.alloc (.cells #[.int .i64 (k : Int), .int .i64 0, .int .u32 n, .int .u32 0, .int .u32 0, .slice none 0 0, .bool se, .string ⟨#[]⟩] 32) = w2 at *
  obtain ⟨x0, x1, x2, x3, x4, x5, x6, x7⟩ := HBX.out
  have HB02 := Lib.hid (HB1.out.trans (HB2.out.mono HB1.out.size))
  have hgr : w1.heap.size ≠ w.heap.size := by omega
  have hp1 : w.heap.size < w1.heap.size := hr1
  generalize w1.heap.size = g at *
  go_wp2_with fail
  refine (HKN.out _).mono ?_
  rintro e1 w2' ⟨rfl, rfl⟩
  obtain ⟨s0, s1, s2, s3, s4, s5, s6⟩ := shape_seen (HS2.out) (show k < 16 by omega)
  go_wp2_with fail
  refine (HSM.out _).mono ?_
  rintro e1 w3 ⟨rfl, hb3⟩
  clear s0 s1 s2 s3 s4 s5 s6 x0 x1 x2 x3 x4 x5 x6 x7
  have HP3 : Hid (ParseAt w w3 w.heap.size g) := ParseAt.next ⟨HR2.out, HFREE.out, HS2.out, HB02.out, Nat.le_refl _, hp1, hp2⟩ hb3
  have HBX3 := Lib.hid (HBX.out.next hb3)
  have hsm0 : (f : Int) ≤ ((d.size + f : Nat) : Int) := by omega
  have hsub : ((d.size + f : Nat) : Int) - (f : Int) = (d.size : Int) := by omega
  have hsme : ((d.size + f : Nat) : Int) ≤ (e : Int) := by have := HFD.out; omega
  have hsm1 : (0 : Int) ≤ ((d.size + f : Nat) : Int) := by omega
  have hd0 : (0 : Int) ≤ (d.size : Int) := by omega
  have hds : (d.size : Int) ≤ (s.size : Int) := by have := HFD.out; omega
  clear hb3 HR2 HFREE HS2 HB02 hp2 HBX
  generalize d.size + f = sm at *
  have hsl2 : ∀ w, (Instr.sliceAt 9 (.string s) none (some (.int .i64 (d.size : Int))) none).run Tryd.prog w = .ok (.string d) w := fun w => by
    rw [run_sliceAt_string w 9 _ _ _ _ Tryd.underlying9, run_slice_string_h w 9 s Tryd.underlying9 .i64 (d.size : Int) (by omega) (by omega)]
    rw [Int.toNat_natCast, HZ6.out]
  have HDS := Lib.hid (show d.size ≤ 281474976710656 by omega)
  go_wp2_with fail
  refine (clone d _ HDS.out).mono ?_
  rintro e1 w4 ⟨rfl, hb4⟩
  have HP4 := Lib.hid (HP3.out.next hb4)
  have HBX4 := Lib.hid (HBX3.out.next hb4)
  clear hb4 HP3 HBX3
  obtain ⟨x0, x1, x2, x3, x4, x5, x6, x7⟩ := HBX4.out
  have hf4 := HP4.out.free
  go_upto_region 12 with fail
  have HBX5 := Lib.hid (HBX4.out.setD d)
  have HP5 := Lib.hid (HP4.out.box (i := 7) (v := .string d))
  clear x0 x1 x2 x3 x4 x5 x6 x7 hf4 HP4 HBX4
  generalize w4.setCell ⟨g, 7, none⟩ (.string d) = w5 at *
  have hg5 : g < w5.heap.size := HP5.out.gl
  go_wp2_with fail
  refine (HW2.out _).mono ?_
  rintro e1 w6 ⟨rfl, hrow, hgt, hb6⟩
  have HP6 := Lib.hid (HP5.out.next hb6)
  have HBX6 := Lib.hid (HBX5.out.next hb6)
  have HC6 := Lib.hid (num_cells hrow)
  have HTK := Lib.hid (pdu_take k sq n ps mr g w5.heap.size (wordsL k sq ps mr xs).length xs se d w6 (by omega) HP6.out.shapes HBX6.out HP6.out.free HC6.out hgt (by omega) (by have := HP6.out.lt; omega) (Nat.le_refl _) (by have := HWLN.out; omega) (by omega) q2 q3 q4)
  have hgb : w5.heap.size < w6.heap.size := hgt
  have hRb : w.heap.size < w5.heap.size := by have := HP5.out.lt; have := HP5.out.gl; omega
  clear hrow hb6 HP5 HBX5 hgt
  generalize wordsL k sq ps mr xs = WL at *
  generalize w5.heap.size = b at *
  go_wp2_with fail
  refine HTK.out.mono ?_
  rintro e1 w7 ⟨rfl, hbx7, hf7, hc7, hk7⟩
  have HP7 := Lib.hid (HP6.out.grown hk7 hf7)
  have hb7 : b < w7.heap.size := Nat.lt_of_lt_of_le hgb hk7.size
  obtain ⟨A, c, hl, hnr, hab⟩ : ∃ A c, (if xs = [] then Value.slice none 0 0 else .slice (some ⟨b, 0, none⟩) xs.length WL.length) = .slice A xs.length c ∧ NumRow w7 (.slice A xs.length c) xs ∧ ∀ bb, A = some bb → w.heap.size < bb.block := by
    by_cases h : xs = []
    · subst h; exact ⟨none, 0, rfl, numRow_nil w7, fun bb h => by cases h⟩
    · rw [if_neg h]
      refine ⟨some ⟨b, 0, none⟩, WL.length, rfl, ⟨_, _, rfl, by omega, .inr ⟨b, 0, rfl, hb7, fun j x hx => ?_⟩⟩, fun bb h => by injection h with h; subst h; exact hRb⟩
      rw [Nat.zero_add]
      exact hc7 j x (HPRE.out j x hx)
  rw [hl] at hbx7
  have HBX7 := Lib.hid hbx7
  have HNR7 := Lib.hid hnr
  have HAB := Lib.hid hab
  clear hk7 hf7 hc7 hl hbx7 hnr hab HP6 HBX6 HTK HC6
  obtain ⟨x0, x1, x2, x3, x4, x5, x6, x7⟩ := HBX7.out
  go_wp2_with fail
  refine (HTB.out A c _ HP7.out.shapes).mono ?_
  rintro e1 w8 ⟨rfl, hb8⟩
  rw [HBIG.out]
  have HP8 := Lib.hid (HP7.out.next hb8)
  have HBX8 := Lib.hid (HBX7.out.next hb8)
  have HNR8 := Lib.hid (HNR7.out.below hb8)
  clear hb8 x0 x1 x2 x3 x4 x5 x6 x7 HP7 HBX7 HNR7
  obtain ⟨x0, x1, x2, x3, x4, x5, x6, x7⟩ := HBX8.out
  go_wp2_with fail
  refine (HBY.out A c _ HP8.out.shapes HNR8.out).mono ?_
  rintro e1 w9 ⟨rfl, hb9⟩
  have HP9 := Lib.hid (HP8.out.next hb9)
  have HBX9 := Lib.hid (HBX8.out.next hb9)
  have HNR9 := Lib.hid (HNR8.out.below hb9)
  clear hb9 x0 x1 x2 x3 x4 x5 x6 x7 HP8 HBX8 HNR8
  obtain ⟨x0, x1, x2, x3, x4, x5, x6, x7⟩ := HBX9.out
  have hss : (s.toList != s.toList) = false := by simp
  go_wp2_with (refine wpList_store_row rfl 32 (.tmp 2) (.tmp 78) rfl w.heap.size #[.int .i64 (k : Int), .int .i64 sq, .int .u32 n, .int .u32 ps, .int .u32 mr, .slice A xs.length c, .bool se, .string d] rfl rfl 32 _ HP9.out.res infoPdu rfl (unit_one _ _ _ _ _ _ _ _) ?_)
  have HBXE := row_box w9 w.heap.size (k : Int) sq n ps mr (.slice A xs.length c) se d HP9.out.res
  have hbe : Below w9.heap.size w9 w9 := Below.refl _ _
  exact bodyPost_ret (res_parseU _ _ w.heap.size (k : Int) sq n ps mr (.slice A xs.length c) se d 0 rfl rfl HBXE) rfl ⟨_, rfl, HNR9.out.row_other (fun b _ hb => Nat.ne_of_gt (HAB.out b hb)), below_setRow HP9.out.bel (Nat.le_refl _) _, fun r hr => by
    cases A with
    | none => cases hr
    | some bb => have h1 := HAB.out bb rfl; have h2 : bb.block = r := Option.some.inj hr; omega⟩
theorem pdu_parse_ok (k : Nat) (sq n ps mr : Int) (xs : List Int) (se : Bool) (d : ByteArray) (w : World) (hk1' : 1 ≤ k ∧ k ≤ 15) (hS : ShapesIn w) (hok : checkV k sq n ps mr xs se d = 0) (hxs : ∀ x, x ∈ xs → 0 ≤ x) :
    Calls Tryd.prog 13 #[.string (pduB k sq n ps mr xs se d)] w fun e w' => ∃ l, e = .returned (.tuple #[.agg #[.int .i64 (k : Int), .int .i64 sq, .int .u32 n, .int .u32 ps, .int .u32 mr, l, .bool se, .string d], .int .i64 0]) ∧ NumRow w' l xs ∧ Below w.heap.size w w' := by
  refine (pdu_parse_far k sq n ps mr xs se d w hk1' hS hok hxs).mono ?_
  rintro e w' ⟨l, he, hn, hb, _⟩
  exact ⟨l, he, hn, hb⟩
end Go.Proofs.YtgphgbajgjddfaaDoor
