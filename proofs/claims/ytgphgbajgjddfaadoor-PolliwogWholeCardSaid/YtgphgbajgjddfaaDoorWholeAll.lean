/- Several texts joined: PduSizesLaw, PduSameLaw, PduInj, PduOwnUnit, WireNew, WirePack, WireOpen, UnitRow, WholeLaw. -/
import Derived.Test.YtgphgbajgjddfaaDoorPduOwn
import Derived.Test.YtgphgbajgjddfaaDoorPduRefCheck
import Derived.Test.YtgphgbajgjddfaaDoorPduRefSame
import Derived.Test.YtgphgbajgjddfaaDoorPduDoor
import Derived.Test.YtgphgbajgjddfaaDoorUnitIn
import Derived.Test.YtgphgbajgjddfaaDoorPduFew
import Derived.Test.YtgphgbajgjddfaaDoorPduWords
import Derived.Test.YtgphgbajgjddfaaDoorFrameTurn
import Derived.Test.YtgphgbajgjddfaaDoorPduParse
import Derived.Test.YtgphgbajgjddfaaDoorPduRefBytes
import Derived.Test.YtgphgbajgjddfaaDoorFrameBackLaw
import Derived.Deep.Slices
namespace Go.Proofs.YtgphgbajgjddfaaDoor
open Go.RowKit
set_option linter.unusedVariables false
set_option linter.unusedSimpArgs false

theorem pduB_size (k : Nat) (sq n ps mr : Int) (xs : List Int) (se : Bool) (d : ByteArray) :
    (pduB k sq n ps mr xs se d).size = d.size + fillOf d.size + 4 * (xs.length + (if hasSQ k = true then 1 else 0) + (if hasPS k = true then 1 else 0) + (if hasMR k = true then 1 else 0) + 1) := by
  unfold pduB pduL allWords wordsL
  rw [strOfNums_size, List.length_append, List.length_append, dataI_len, List.length_replicate, flat_len, List.length_append, List.length_append, List.length_append, List.length_append]
  repeat' split
  all_goals rfl
theorem size_eq {P D c : Nat} {W : Int} (hs : P = D + (4 - D % 4) % 4 + 4 * c) (hD : D ≤ 210) (hc : W = (c : Int)) (hb : c ≤ 200) :
    ((P : Int) == IntKind.i64.wrap (IntKind.i64.wrap (IntKind.i64.wrap ((IntKind.i64.wrap ((D : Int) + 3)).tdiv 4) * 4) + IntKind.i64.wrap (4 * W))) = true := by
  have ws : ∀ x : Int, 0 ≤ x → x < 1000000 → IntKind.i64.wrap x = x := fun x h0 h1 => by rw [IntKind.wrap_i64]; omega
  have e2 : ((D : Int) + 3).tdiv 4 = (((D + 3) / 4 : Nat) : Int) := by
    rw [show ((D : Int) + 3) = ((D + 3 : Nat) : Int) by omega]; rfl
  rw [hc, ws ((D : Int) + 3) (by omega) (by omega), e2, ws (((D + 3) / 4 : Nat) : Int) (by omega) (by omega)]
  have e3 := ws ((((D + 3) / 4 : Nat) : Int) * 4) (by omega) (by omega)
  have e4 := ws (4 * (c : Int)) (by omega) (by omega)
  rw [e3, e4, ws _ (by omega) (by omega), beq_iff_eq]
  omega
set_option maxRecDepth 100000 in
theorem own_bytes (k sq n ps mr : Int) (p : Option Addr) (len cap : Nat) (xs : List Int) (se : Bool) (d : ByteArray) (w : World) (hS : ShapesIn w) (hlen : len = xs.length) (hr : IRow w (.slice p len cap) xs) (hxl : xs.length ≤ 1000)
    (h1 : 0 ≤ n ∧ n < 4294967296) (h2 : 0 ≤ ps ∧ ps < 4294967296) (h3 : 0 ≤ mr ∧ mr < 4294967296) (hxs : ∀ x, x ∈ xs → 0 ≤ x ∧ x < 4294967296) :
    Calls Tryd.prog 6 #[.agg #[.int .i64 k, .int .i64 sq, .int .i64 n, .int .i64 ps, .int .i64 mr, .slice p len cap, .bool se, .string d]] w fun e w' => ∃ v, e = .returned v ∧ Below w.heap.size w w' ∧
      ∀ W, Below w'.heap.size w' W → Calls Tryd.prog 10 #[v] W fun e w2 => e = .returned (.string (bytesA k sq n ps mr xs se d)) ∧ Below W.heap.size W w2 := by
  refine (own_is k sq n ps mr p len cap xs se d w hlen hr hxl).mono ?_
  rintro e w' ⟨l, rfl, hrow, hb⟩
  rw [in32_id h1, in32_id h2, in32_id h3]
  have hmap : xs.map in32 = xs := by
    have : xs.map in32 = xs.map id := List.map_congr_left fun x hx => in32_id (hxs x hx)
    rw [this, List.map_id]
  rw [hmap] at hrow
  refine ⟨_, rfl, hb, fun W hW => ?_⟩
  obtain ⟨A, c, e, _⟩ := id hrow
  subst e
  exact pdu_bytesA k sq n ps mr A xs.length c xs se d W ((hS.next hb).next hW) rfl (hrow.below hW) h1 h2 h3 (fun x hx => (hxs x hx).1)

end Go.Proofs.YtgphgbajgjddfaaDoor
namespace Go.Proofs.YtgphgbajgjddfaaDoor
open Go.RowKit
set_option linter.unusedVariables false
set_option linter.unusedSimpArgs false

def sameP (k sq n ps mr : Int) (xs : List Int) (se : Bool) (d : ByteArray) (k' sq' n' ps' mr' : Int) (xs' : List Int) (se' : Bool) (d' : ByteArray) : Prop :=
  k = k' ∧ sq = sq' ∧ n = n' ∧ ps = ps' ∧ mr = mr' ∧ xs = xs' ∧ se = se' ∧ d = d'
open Classical in
noncomputable def sameB (k sq n ps mr : Int) (xs : List Int) (se : Bool) (d : ByteArray) (k' sq' n' ps' mr' : Int) (xs' : List Int) (se' : Bool) (d' : ByteArray) : Bool := decide (sameP k sq n ps mr xs se d k' sq' n' ps' mr' xs' se' d')
theorem same_no {k sq n ps mr : Int} {xs : List Int} {se : Bool} {d : ByteArray} {k' sq' n' ps' mr' : Int} {xs' : List Int} {se' : Bool} {d' : ByteArray} (h : ¬ sameP k sq n ps mr xs se d k' sq' n' ps' mr' xs' se' d') : sameB k sq n ps mr xs se d k' sq' n' ps' mr' xs' se' d' = false := by
  unfold sameB; simp [h]
theorem same_yes {k sq n ps mr : Int} {xs : List Int} {se : Bool} {d : ByteArray} {k' sq' n' ps' mr' : Int} {xs' : List Int} {se' : Bool} {d' : ByteArray} (h : sameP k sq n ps mr xs se d k' sq' n' ps' mr' xs' se' d') : sameB k sq n ps mr xs se d k' sq' n' ps' mr' xs' se' d' = true := by
  unfold sameB; simp [h]
theorem wrap32 {x : Int} (h : 0 ≤ x ∧ x < 4294967296) : IntKind.i64.wrap x = x := by rw [IntKind.wrap_i64]; omega
theorem take_all_eq {xs ys : List Int} (h : xs.length = ys.length) (ht : xs.take ys.length = ys.take ys.length) : xs = ys := by
  rw [List.take_of_length_le (by omega), List.take_of_length_le (Nat.le_refl _)] at ht; exact ht

end Go.Proofs.YtgphgbajgjddfaaDoor
namespace Go.Proofs.YtgphgbajgjddfaaDoor
open Go.RowKit
set_option linter.unusedVariables false
set_option linter.unusedSimpArgs false

theorem strI_inj {a b : List Int} (ha : ∀ x, x ∈ a → 0 ≤ x ∧ x < 256) (hb : ∀ x, x ∈ b → 0 ≤ x ∧ x < 256) (h : strOfNums a = strOfNums b) : a = b := by
  have e : nums (strOfNums a) = nums (strOfNums b) := by rw [h]
  rw [nums_strI a ha, nums_strI b hb] at e
  have back : ∀ l : List Int, (∀ x, x ∈ l → 0 ≤ x ∧ x < 256) → (l.map Int.toNat).map Int.ofNat = l := by
    intro l hl
    rw [List.map_map]
    conv => rhs; rw [← List.map_id l]
    apply List.map_congr_left
    intro x hx
    have := hl x hx
    show ((x.toNat : Nat) : Int) = x
    omega
  rw [← back a ha, ← back b hb, e]
theorem wordB_in2 (x : Int) (h : 0 ≤ x ∧ x < 4294967296) : ∀ b, b ∈ wordB x → 0 ≤ b ∧ b < 256 := by
  intro b hb
  unfold wordB at hb
  simp only [List.mem_cons, List.not_mem_nil, or_false] at hb
  omega
theorem wordB_inj {x y : Int} (hx : 0 ≤ x ∧ x < 4294967296) (hy : 0 ≤ y ∧ y < 4294967296) (h : wordB x = wordB y) : x = y := by
  unfold wordB at h
  injection h with h1 h
  injection h with h2 h
  injection h with h3 h
  injection h with h4 h
  omega
theorem flat_in (l : List Int) (h : ∀ x, x ∈ l → 0 ≤ x ∧ x < 4294967296) : ∀ b, b ∈ l.flatMap wordB → 0 ≤ b ∧ b < 256 := by
  intro b hb
  obtain ⟨x, hx, hb⟩ := List.mem_flatMap.1 hb
  exact wordB_in2 x (h x hx) b hb
theorem flat_inj : ∀ (a b : List Int) (ha : ∀ x, x ∈ a → 0 ≤ x ∧ x < 4294967296) (hb : ∀ x, x ∈ b → 0 ≤ x ∧ x < 4294967296) (h : a.flatMap wordB = b.flatMap wordB), a = b
  | [], [], _, _, _ => rfl
  | [], y :: b, _, _, h => by simp [wordB] at h
  | x :: a, [], _, _, h => by simp [wordB] at h
  | x :: a, y :: b, ha, hb, h => by
    rw [List.flatMap_cons, List.flatMap_cons] at h
    have hl : (wordB x).length = (wordB y).length := rfl
    obtain ⟨h1, h2⟩ := List.append_inj h hl
    rw [wordB_inj (ha x (by simp)) (hb y (by simp)) h1, flat_inj a b (fun z hz => ha z (by simp [hz])) (fun z hz => hb z (by simp [hz])) h2]
theorem opt_inj {b : Bool} {x y : Int} {a c : List Int} (h0 : b = false → x = 0 ∧ y = 0) (hl : a.length = c.length) (h : a ++ (if b = true then [x] else []) = c ++ (if b = true then [y] else [])) : a = c ∧ x = y := by
  obtain ⟨h1, h2⟩ := List.append_inj h hl
  refine ⟨h1, ?_⟩
  cases b with
  | true =>
    rw [if_pos rfl, if_pos rfl] at h2
    injection h2
  | false =>
    obtain ⟨h3, h4⟩ := h0 rfl
    rw [h3, h4]
theorem pduB_inj {k sq n ps mr : Int} {xs : List Int} {se : Bool} {d : ByteArray} {k' sq' n' ps' mr' : Int} {xs' : List Int} {se' : Bool} {d' : ByteArray} {j j' : Nat} (hkj : k = (j : Int)) (hkj' : k' = (j' : Int)) (hk : 1 ≤ j ∧ j ≤ 15) (hk' : 1 ≤ j' ∧ j' ≤ 15)
    (h : checkV j sq n ps mr xs se d = 0) (h' : checkV j' sq' n' ps' mr' xs' se' d' = 0) (hx : ∀ x, x ∈ xs → 0 ≤ x) (hx' : ∀ x, x ∈ xs' → 0 ≤ x) (e : pduB j sq n ps mr xs se d = pduB j' sq' n' ps' mr' xs' se' d') :
    k = k' ∧ sq = sq' ∧ n = n' ∧ ps = ps' ∧ mr = mr' ∧ xs = xs' ∧ se = se' ∧ d = d' := by
  obtain ⟨U1, U2, U3, U4, U5, U6, U7⟩ := unit_ok h
  obtain ⟨V1, V2, V3, V4, V5, V6, V7⟩ := unit_ok h'
  obtain ⟨q1, q2, q3, q4⟩ := seam_is hk h (fillOf d.size) rfl
  obtain ⟨p1, p2, p3, p4⟩ := seam_is hk' h' (fillOf d'.size) rfl
  have hin := allWords_in j sq n ps mr xs se d (by omega) U3 U4 U5 U6 hx U7
  have hin' := allWords_in j' sq' n' ps' mr' xs' se' d' (by omega) V3 V4 V5 V6 hx' V7
  have q : ∀ (b : Bool) (x : Int), (if b = true then [x] else []).length ≤ 1 := fun b x => by cases b <;> simp
  have hwl : ∀ (k : Nat) (sq ps mr : Int) (xs : List Int), xs.length ≤ 128 → (wordsL k sq ps mr xs).length ≤ 131 := by
    intro k sq ps mr xs h
    unfold wordsL
    simp only [List.length_append]
    have q1 := q (hasSQ k) sq; have q2 := q (hasPS k) ps; have q3 := q (hasMR k) mr
    omega
  have hf : fillOf d.size ≤ 3 := by unfold fillOf; omega
  have hf' : fillOf d'.size ≤ 3 := by unfold fillOf; omega
  have hP := parts d (fillOf d.size) (wordsL j sq ps mr xs) (lastW (fillOf d.size) j n se) hf U2 (hwl _ _ _ _ _ U1)
  have hP' := parts d' (fillOf d'.size) (wordsL j' sq' ps' mr' xs') (lastW (fillOf d'.size) j' n' se') hf' V2 (hwl _ _ _ _ _ V1)
  have hs : pduB j sq n ps mr xs se d = strOfNums (dataI d ++ List.replicate (fillOf d.size) 0 ++ (wordsL j sq ps mr xs ++ [lastW (fillOf d.size) j n se]).flatMap wordB) := rfl
  have hs' : pduB j' sq' n' ps' mr' xs' se' d' = strOfNums (dataI d' ++ List.replicate (fillOf d'.size) 0 ++ (wordsL j' sq' ps' mr' xs' ++ [lastW (fillOf d'.size) j' n' se']).flatMap wordB) := rfl
  rw [← hs] at hP
  rw [← hs', ← e] at hP'
  generalize pduB j sq n ps mr xs se d = s at *
  have he : d.size + fillOf d.size + 4 * (wordsL j sq ps mr xs).length = d'.size + fillOf d'.size + 4 * (wordsL j' sq' ps' mr' xs').length := by
    have a := hP.size; have b := hP'.size; omega
  have hl1 := hP.last
  have hl2 := hP'.last
  rw [← he, hl1] at hl2
  have hLi := lastW_in (fillOf d.size) j n se hf (by omega) U4
  have hLi' := lastW_in (fillOf d'.size) j' n' se' hf' (by omega) V4
  have hL : lastW (fillOf d.size) j n se = lastW (fillOf d'.size) j' n' se' := by
    have := flat_inj _ _ (fun x hx => by rw [List.mem_singleton.1 hx]; exact hLi) (fun x hx => by rw [List.mem_singleton.1 hx]; exact hLi') (strI_inj (flat_in _ fun x hx => by rw [List.mem_singleton.1 hx]; exact hLi) (flat_in _ fun x hx => by rw [List.mem_singleton.1 hx]; exact hLi') hl2)
    injection this
  obtain ⟨m, hm⟩ : ∃ m : Nat, n = (m : Int) := ⟨n.toNat, by omega⟩
  obtain ⟨m', hm'⟩ : ∃ m : Nat, n' = (m : Int) := ⟨n'.toNat, by omega⟩
  subst hm hm'
  obtain ⟨a1, a2, a3, a4⟩ := last_parts (fillOf d.size) j m se hf (by omega) (by omega)
  obtain ⟨b1, b2, b3, b4⟩ := last_parts (fillOf d'.size) j' m' se' hf' (by omega) (by omega)
  rw [hL] at a1 a2 a3 a4
  have ek : j = j' := by have := a1.symm.trans b1; omega
  have en : m = m' := by have := a2.symm.trans b2; omega
  have ese : se = se' := a3.symm.trans b3
  have ef : fillOf d.size = fillOf d'.size := by have := a4.symm.trans b4; omega
  subst ek en ese
  rw [he] at q1
  have eds : d.size = d'.size := by have := q1.symm.trans p1; omega
  have hd1 := hP.data
  have hd2 := hP'.data
  rw [← eds, hd1] at hd2
  subst hd2
  have hw1 := hP.words
  have hw2 := hP'.words
  rw [← he, hw1] at hw2
  have hWi : ∀ x, x ∈ wordsL j sq ps mr xs → 0 ≤ x ∧ x < 4294967296 := fun x hx => hin x (List.mem_append_left _ hx)
  have hWi' : ∀ x, x ∈ wordsL j sq' ps' mr' xs' → 0 ≤ x ∧ x < 4294967296 := fun x hx => hin' x (List.mem_append_left _ hx)
  have hW := flat_inj _ _ hWi hWi' (strI_inj (flat_in _ hWi) (flat_in _ hWi') hw2)
  unfold wordsL at hW he
  have hlen : xs.length = xs'.length := by
    simp only [List.length_append] at he
    have r : ∀ (b : Bool) (x y : Int), (if b = true then [x] else []).length = (if b = true then [y] else []).length := fun b x y => by cases b <;> rfl
    have r1 := r (hasSQ j) sq sq'; have r2 := r (hasPS j) ps ps'; have r3 := r (hasMR j) mr mr'
    omega
  have r : ∀ (b : Bool) (x y : Int), (if b = true then [x] else []).length = (if b = true then [y] else []).length := fun b x y => by cases b <;> rfl
  obtain ⟨hW, emr⟩ := opt_inj (fun h => ⟨q4 h, p4 h⟩) (by simp only [List.length_append]; rw [hlen, r (hasSQ j) sq sq', r (hasPS j) ps ps']) hW
  obtain ⟨hW, eps⟩ := opt_inj (fun h => ⟨q3 h, p3 h⟩) (by simp only [List.length_append]; rw [hlen, r (hasSQ j) sq sq']) hW
  obtain ⟨exs, esq⟩ := opt_inj (fun h => ⟨q2 h, p2 h⟩) hlen hW
  exact ⟨by rw [hkj, hkj'], esq, rfl, eps, emr, exs, rfl, rfl⟩
end Go.Proofs.YtgphgbajgjddfaaDoor
namespace Go.Proofs.YtgphgbajgjddfaaDoor
open Go.RowKit
set_option linter.unusedVariables false
set_option linter.unusedSimpArgs false

theorem step_store_row {P : Program} {ops : Array Oper} {o : Oper} {a : Act} {w : World} {K : Act → World → Prop} {Q : Exit → Act → World → Prop} {E : Prop} (hgd : o.guard = none) (ty : TypeId) (x y : Operand) (ho : o.op = .store ty x y)
    (g : Nat) (cells : Array Value) (hx : a.eval x = .pointer (some ⟨g, 0, none⟩)) (hy : a.eval y = .agg cells)
    (t : TypeId) (old : Array Value) (hg : w.heap[g]? = some (.cells old t (0, 0))) (hi : (P.info? ty).map (·.size) = some cells.size)
    (hold : old.size = cells.size) (h1 : cells.all (·.oneCell') = true)
    (h : K (a.put o.dst undef) (w.setRow g cells)) : if Region.wanted o (yielded ops a.tmps) = true then Oper.wp P o a w K Q else E := by
  have hw : Region.wanted o (yielded ops a.tmps) = true := by simp [Region.wanted, hgd]
  rw [if_pos hw]
  exact wp_store_row ty x y ho g cells hx hy t old hg hi hold h1 h
theorem irow_setRow {w : World} {g : Nat} {cs : Array Value} {A : Option Addr} {n c : Nat} {xs : List Int} (h : IRow w (.slice A n c) xs) (hne : ∀ r, (Value.slice A n c).ownBlock = some r → r ≠ g) : IRow (w.setRow g cs) (.slice A n c) xs := by
  obtain ⟨A', c', e, h1, h2⟩ := h
  injection e with e1 e2 e3
  subst e1 e2 e3
  refine ⟨A, c, rfl, h1, h2.imp id fun ⟨b, off, ea, hb, hc⟩ => ⟨b, off, ea, by rw [setRow_size]; exact hb, fun i x hx => ?_⟩⟩
  subst ea
  rw [World.cell?_of_block (w := w) (setRow_other _ _ _ _ (hne b rfl))]
  exact hc i x hx
theorem rbox_setRow {w : World} {R g : Nat} {cs : Array Value} {k sq n ps mr : Int} {l : Value} {se : Bool} {d : ByteArray} (h : RBox w R k sq n ps mr l se d) (hne : R ≠ g) : RBox (w.setRow g cs) R k sq n ps mr l se d := by
  have hb : (w.setRow g cs).heap[R]? = w.heap[R]? := setRow_other _ _ _ _ hne
  obtain ⟨x0, x1, x2, x3, x4, x5, x6, x7⟩ := h
  exact ⟨by rw [World.cell?_of_block (w := w) hb]; exact x0, by rw [World.cell?_of_block (w := w) hb]; exact x1, by rw [World.cell?_of_block (w := w) hb]; exact x2, by rw [World.cell?_of_block (w := w) hb]; exact x3, by rw [World.cell?_of_block (w := w) hb]; exact x4, by rw [World.cell?_of_block (w := w) hb]; exact x5, by rw [World.cell?_of_block (w := w) hb]; exact x6, by rw [World.cell?_of_block (w := w) hb]; exact x7⟩
set_option maxRecDepth 100000 in
theorem own_unit (k sq n ps mr : Int) (p : Option Addr) (len cap : Nat) (xs : List Int) (se : Bool) (d : ByteArray) (w : World) (hlen : len = xs.length) (hr : IRow w (.slice p len cap) xs) (hxl : xs.length ≤ 1000)
    (h1 : 0 ≤ n ∧ n < 4294967296) (h2 : 0 ≤ ps ∧ ps < 4294967296) (h3 : 0 ≤ mr ∧ mr < 4294967296) (hxs : ∀ x, x ∈ xs → 0 ≤ x ∧ x < 4294967296) :
    Calls Tryd.prog 6 #[.agg #[.int .i64 k, .int .i64 sq, .int .i64 n, .int .i64 ps, .int .i64 mr, .slice p len cap, .bool se, .string d]] w fun e w' => ∃ A c, e = .returned (.agg #[.int .i64 k, .int .i64 sq, .int .u32 n, .int .u32 ps, .int .u32 mr, .slice A xs.length c, .bool se, .string d]) ∧ NumRow w' (.slice A xs.length c) xs ∧ Below w.heap.size w w' ∧ w.heap.size ≤ w'.heap.size := by
  refine (own_is k sq n ps mr p len cap xs se d w hlen hr hxl).mono ?_
  rintro e w' ⟨l, rfl, hrow, hb⟩
  rw [in32_id h1, in32_id h2, in32_id h3]
  have hmap : xs.map in32 = xs := by
    have : xs.map in32 = xs.map id := List.map_congr_left fun x hx => in32_id (hxs x hx)
    rw [this, List.map_id]
  rw [hmap] at hrow
  obtain ⟨A, c, e, _⟩ := id hrow
  subst e
  exact ⟨A, c, rfl, hrow, hb, hb.size⟩
end Go.Proofs.YtgphgbajgjddfaaDoor
namespace Go.Proofs.YtgphgbajgjddfaaDoor
open Go.RowKit
set_option linter.unusedVariables false
set_option linter.unusedSimpArgs false

theorem wire_folded : Array.foldl (fun cs x => cs.setIfInBounds x.snd x.fst) Tryd.zeroCells55 tabArr.zipIdx 0 256 = tabArr := by kernel_rfl
theorem tab_here (w1 : World) (t : TypeId) : TabAt (w1.alloc (.cells tabArr t)) w1.heap.size := by
  intro b hb
  rw [cell_of_row _ _ b _ _ (0, 0) (heap_alloc_new w1 _)]
  exact tabArr_get b hb
theorem wire_new (w : World) : Calls Tryd.prog 4 #[] w fun e w' => ∃ g, e = .returned (.pointer (some ⟨g, 0, none⟩)) ∧ Has w w' g := by
  have hf := wire_folded
  have hm := fun W => crc_make W
  have hts := tabArr_size
  have ht := fun W t => tab_here W t
  have HF := Lib.hid hf
  have HT := Lib.hid ht
  clear hf ht
  generalize tabArr = T at *
  go_enter Tryd.func4, Tryd.ntmps4
  go_wp2_with fail
  refine (hm _).mono ?_
  rintro e w1 ⟨rfl, hb1⟩
  go_wp2_with fail
  rw [HF.out]
  go_ret
  exact ⟨_, rfl, HT.out w1 _, by simp, hb1.alloc hb1.size _⟩
end Go.Proofs.YtgphgbajgjddfaaDoor
namespace Go.Proofs.YtgphgbajgjddfaaDoor
open Go.RowKit
set_option linter.unusedVariables false
set_option linter.unusedSimpArgs false

theorem bytesA_small (k sq n ps mr : Int) (xs : List Int) (se : Bool) (d : ByteArray) : (bytesA k sq n ps mr xs se d).size ≤ 735 := by
  unfold bytesA
  split
  · rename_i hc
    have hk : 1 ≤ k ∧ k ≤ 15 := by
      by_cases h : 1 ≤ k ∧ k ≤ 15
      · exact h
      · unfold checkA at hc; rw [if_neg h] at hc; cases hc
    unfold checkA at hc
    rw [if_pos hk] at hc
    obtain ⟨U1, U2, _⟩ := unit_ok hc
    rw [pduB_size]
    have hf : fillOf d.size = (4 - d.size % 4) % 4 := rfl
    repeat' split
    all_goals omega
  · show 0 ≤ _; omega
def packA (k sq n ps mr : Int) (xs : List Int) (se : Bool) (d : ByteArray) : ByteArray := if checkA k sq n ps mr xs se d = 0 then frameB 0 (bytesA k sq n ps mr xs se d) else ⟨#[]⟩
def sizeA (k sq n ps mr : Int) (xs : List Int) (se : Bool) (d : ByteArray) : Int := if checkA k sq n ps mr xs se d = 0 then cellsOf ((bytesA k sq n ps mr xs se d).size : Int) * 48 else 0
theorem has_here {w W : World} {g : Nat} (h : Has w W g) : Has W W g := ⟨h.tab, h.lt, Below.refl _ _⟩
theorem frame_built (b : ByteArray) (w : World) : (Instr.build 44 #[(0, .int .u8 0), (1, .string b)]).run Tryd.prog w = .ok (.agg #[.int .u8 0, .string b]) w := run_build w 44 _ _ (by kernel_rfl)
set_option maxHeartbeats 4000000 in
set_option maxRecDepth 100000 in
theorem wire_pack (g : Nat) (k sq n ps mr : Int) (A : Option Addr) (c : Nat) (xs : List Int) (se : Bool) (d : ByteArray) (w0 w : World) (hT : Has w0 w g) (hS : ShapesIn w) (hr : NumRow w (.slice A xs.length c) xs) (h1 : 0 ≤ n ∧ n < 4294967296) (h2 : 0 ≤ ps ∧ ps < 4294967296) (h3 : 0 ≤ mr ∧ mr < 4294967296) (hxs : ∀ x, x ∈ xs → 0 ≤ x) :
    Calls Tryd.prog 8 #[.pointer (some ⟨g, 0, none⟩), .agg #[.int .i64 k, .int .i64 sq, .int .u32 n, .int .u32 ps, .int .u32 mr, .slice A xs.length c, .bool se, .string d]] w fun e w' => e = .returned (.tuple #[.string (packA k sq n ps mr xs se d), .int .i64 (checkA k sq n ps mr xs se d)]) ∧ Has w0 w' g := by
  have hb := (Below.refl _ w).alloc (Nat.le_refl _) (.cells #[.int .i64 k, .int .i64 sq, .int .u32 n, .int .u32 ps, .int .u32 mr, .slice A xs.length c, .bool se, .string d] 32)
  have HP := Lib.hid (box_new w k sq n ps mr (.slice A xs.length c) se d)
  have HT := Lib.hid (hT.next hb)
  have HCK := Lib.hid (fun W (hW : Below (w.alloc (.cells #[.int .i64 k, .int .i64 sq, .int .u32 n, .int .u32 ps, .int .u32 mr, .slice A xs.length c, .bool se, .string d] 32)).heap.size (w.alloc (.cells #[.int .i64 k, .int .i64 sq, .int .u32 n, .int .u32 ps, .int .u32 mr, .slice A xs.length c, .bool se, .string d] 32)) W) => pdu_checkA k sq n ps mr A xs.length c xs se d W ((hS.next hb).next hW) rfl ((hr.below hb).below hW) h1 h2 h3)
  have HBY := Lib.hid (fun W (hW : Below (w.alloc (.cells #[.int .i64 k, .int .i64 sq, .int .u32 n, .int .u32 ps, .int .u32 mr, .slice A xs.length c, .bool se, .string d] 32)).heap.size (w.alloc (.cells #[.int .i64 k, .int .i64 sq, .int .u32 n, .int .u32 ps, .int .u32 mr, .slice A xs.length c, .bool se, .string d] 32)) W) => pdu_bytesA k sq n ps mr A xs.length c xs se d W ((hS.next hb).next hW) rfl ((hr.below hb).below hW) h1 h2 h3 hxs)
  have hsm := bytesA_small k sq n ps mr xs se d
  have HFB := Lib.hid (fun W (hW : Has W W g) => frame_bytes 0 (bytesA k sq n ps mr xs se d) g W W (by omega) (by omega) hW)
  have HV : Hid (packA k sq n ps mr xs se d = if checkA k sq n ps mr xs se d = 0 then frameB 0 (bytesA k sq n ps mr xs se d) else ⟨#[]⟩) := rfl
  clear hb hT hS hr h1 h2 h3 hxs hsm
  generalize frameB 0 (bytesA k sq n ps mr xs se d) = F at *
  generalize bytesA k sq n ps mr xs se d = B at *
  generalize packA k sq n ps mr xs se d = V at *
  generalize checkA k sq n ps mr xs se d = C at *
  have hbu := fun W => frame_built B W
  obtain ⟨q, hq⟩ : ∃ q, q = w.heap.size := ⟨_, rfl⟩
  obtain ⟨y0, y1, y2, y3, y4, y5, y6, y7⟩ := HP.out
  go_enter Tryd.func8, Tryd.ntmps8
  go_upto_region 1 with fail
  rw [← hq] at HP y0 y1 y2 y3 y4 y5 y6 y7 ⊢
  clear hq
  generalize w.alloc (.cells #[.int .i64 k, .int .i64 sq, .int .u32 n, .int .u32 ps, .int .u32 mr, .slice A xs.length c, .bool se, .string d] 32) = w1 at *
  go_wp2_with fail
  refine (HCK.out _ (Below.refl _ _)).mono ?_
  rintro e w2 ⟨rfl, hb2⟩
  have HB2 := Lib.hid hb2
  have HP2 := Lib.hid (HP.out.next hb2)
  have HT2 := Lib.hid (HT.out.next hb2)
  clear hb2 y0 y1 y2 y3 y4 y5 y6 y7
  by_cases hc : C = 0
  · have HV1 := Lib.hid (HV.out.trans (if_pos hc))
    have d1 : (C != 0) = false := by rw [bne_eq_false_iff_eq]; exact hc
    obtain ⟨y0, y1, y2, y3, y4, y5, y6, y7⟩ := HP2.out
    have HC := Lib.hid hc
    clear hc
    go_upto_region 4 with fail
    have HDR := Lib.hid (HB2.out.drew)
    go_region_held3 (fun w' => w'.cell? ⟨q, 0, none⟩ = some (.int .i64 k) ∧ w'.cell? ⟨q, 1, none⟩ = some (.int .i64 sq) ∧ w'.cell? ⟨q, 2, none⟩ = some (.int .u32 n) ∧ w'.cell? ⟨q, 3, none⟩ = some (.int .u32 ps) ∧ w'.cell? ⟨q, 4, none⟩ = some (.int .u32 mr) ∧ w'.cell? ⟨q, 5, none⟩ = some (.slice A xs.length c) ∧ w'.cell? ⟨q, 6, none⟩ = some (.bool se) ∧ w'.cell? ⟨q, 7, none⟩ = some (.string d))
      (first | go_keep)
      (first
        | (go_at_call 10; (with_reducible refine (HBY.out _ HDR.out).mono ?_); rintro e wa ⟨rfl, hba⟩
           have HBA := Lib.hid (HDR.out.trans (hba.mono HDR.out.size))
           have HPA := Lib.hid (HP.out.next HBA.out)
           clear hba
           obtain ⟨a0, a1, a2, a3, a4, a5, a6, a7⟩ := HPA.out)
        | (go_at_call 11; (with_reducible refine (HFB.out _ (has_here (HT.out.next HBA.out))).mono ?_); rintro e wb ⟨rfl, hhb⟩
           have HTB := Lib.hid ((HT.out.next HBA.out).next hhb.below)
           have HPB := Lib.hid (HPA.out.next hhb.below)
           clear hhb
           obtain ⟨b0, b1, b2, b3, b4, b5, b6, b7⟩ := HPB.out)
        | fail)
    go_wp2_with fail
    go_ret2
    exact ⟨by rw [HV1.out, HC.out]; rfl, HTB.out⟩
  · have HV1 := Lib.hid (HV.out.trans (if_neg hc))
    have d1 : (C != 0) = true := by rw [bne_iff_ne]; exact hc
    clear hc
    go_wp2_with fail
    go_ret2
    exact ⟨by rw [HV1.out]; rfl, HT2.out⟩

set_option maxRecDepth 100000 in
theorem wire_sound (g : Nat) (s : ByteArray) (w0 w : World) (hT : Has w0 w g) (hs : s.size ≤ maxLen) :
    Calls Tryd.prog 15 #[.pointer (some ⟨g, 0, none⟩), .string s] w fun e w' => e = .returned (.bool (decide (s.size % 48 = 0) && fitsB s)) ∧ Has w0 w' g := by
  have HF := Lib.hid (fitsHas s g w0 w hs hT)
  have HT := Lib.hid hT
  clear hT hs
  generalize fitsB s = F at *
  by_cases h : s.size % 48 = 0
  · have d1 : ((s.size : Int) % 48 == 0) = true := by rw [beq_iff_eq]; omega
    rw [decide_eq_true h, Bool.true_and]
    clear h
    go_enter Tryd.func15, Tryd.ntmps15
    go_wp2_with fail
    refine HF.out.mono ?_
    rintro e w1 ⟨rfl, hh⟩
    have HH := Lib.hid hh
    clear hh
    go_wp2_with fail
    go_ret
    exact ⟨rfl, HH.out⟩
  · have d1 : ((s.size : Int) % 48 == 0) = false := by rw [beq_eq_false_iff_ne]; omega
    rw [decide_eq_false h, Bool.false_and]
    clear h
    go_enter Tryd.func15, Tryd.ntmps15
    go_wp2_with fail
    go_ret
    exact ⟨rfl, HT.out⟩
set_option maxHeartbeats 4000000 in
set_option maxRecDepth 100000 in
theorem wire_size (k sq n ps mr : Int) (A : Option Addr) (c : Nat) (xs : List Int) (se : Bool) (d : ByteArray) (w : World) (hS : ShapesIn w) (hr : NumRow w (.slice A xs.length c) xs) (h1 : 0 ≤ n ∧ n < 4294967296) (h2 : 0 ≤ ps ∧ ps < 4294967296) (h3 : 0 ≤ mr ∧ mr < 4294967296) (hxs : ∀ x, x ∈ xs → 0 ≤ x) :
    Calls Tryd.prog 16 #[.agg #[.int .i64 k, .int .i64 sq, .int .u32 n, .int .u32 ps, .int .u32 mr, .slice A xs.length c, .bool se, .string d]] w fun e w' => e = .returned (.int .i64 (sizeA k sq n ps mr xs se d)) ∧ Below w.heap.size w w' := by
  have hb := (Below.refl _ w).alloc (Nat.le_refl _) (.cells #[.int .i64 k, .int .i64 sq, .int .u32 n, .int .u32 ps, .int .u32 mr, .slice A xs.length c, .bool se, .string d] 32)
  have HP := Lib.hid (box_new w k sq n ps mr (.slice A xs.length c) se d)
  have HB := Lib.hid hb
  have HCK := Lib.hid (fun W (hW : Below (w.alloc (.cells #[.int .i64 k, .int .i64 sq, .int .u32 n, .int .u32 ps, .int .u32 mr, .slice A xs.length c, .bool se, .string d] 32)).heap.size (w.alloc (.cells #[.int .i64 k, .int .i64 sq, .int .u32 n, .int .u32 ps, .int .u32 mr, .slice A xs.length c, .bool se, .string d] 32)) W) => pdu_checkA k sq n ps mr A xs.length c xs se d W ((hS.next hb).next hW) rfl ((hr.below hb).below hW) h1 h2 h3)
  have HBY := Lib.hid (fun W (hW : Below (w.alloc (.cells #[.int .i64 k, .int .i64 sq, .int .u32 n, .int .u32 ps, .int .u32 mr, .slice A xs.length c, .bool se, .string d] 32)).heap.size (w.alloc (.cells #[.int .i64 k, .int .i64 sq, .int .u32 n, .int .u32 ps, .int .u32 mr, .slice A xs.length c, .bool se, .string d] 32)) W) => pdu_bytesA k sq n ps mr A xs.length c xs se d W ((hS.next hb).next hW) rfl ((hr.below hb).below hW) h1 h2 h3 hxs)
  have hsm := bytesA_small k sq n ps mr xs se d
  have HV : Hid (sizeA k sq n ps mr xs se d = if checkA k sq n ps mr xs se d = 0 then cellsOf ((bytesA k sq n ps mr xs se d).size : Int) * 48 else 0) := rfl
  clear hb hS hr h1 h2 h3 hxs
  generalize bytesA k sq n ps mr xs se d = B at *
  generalize sizeA k sq n ps mr xs se d = V at *
  generalize checkA k sq n ps mr xs se d = C at *
  have HCE := Lib.hid (fun W => cells (B.size : Int) W (by omega) (by omega))
  have hcl : 0 ≤ cellsOf (B.size : Int) ∧ cellsOf (B.size : Int) ≤ 2000 := by unfold cellsOf; omega
  generalize cellsOf (B.size : Int) = L at *
  obtain ⟨q, hq⟩ : ∃ q, q = w.heap.size := ⟨_, rfl⟩
  obtain ⟨y0, y1, y2, y3, y4, y5, y6, y7⟩ := HP.out
  go_enter Tryd.func16, Tryd.ntmps16
  go_upto_region 1 with fail
  rw [← hq] at HP y0 y1 y2 y3 y4 y5 y6 y7 ⊢
  clear hq
  generalize w.alloc (.cells #[.int .i64 k, .int .i64 sq, .int .u32 n, .int .u32 ps, .int .u32 mr, .slice A xs.length c, .bool se, .string d] 32) = w1 at *
  go_wp2_with fail
  refine (HCK.out _ (Below.refl _ _)).mono ?_
  rintro e w2 ⟨rfl, hb2⟩
  have HB2 := Lib.hid hb2
  have HP2 := Lib.hid (HP.out.next hb2)
  clear hb2 y0 y1 y2 y3 y4 y5 y6 y7
  by_cases hc : C = 0
  · have HV1 := Lib.hid (HV.out.trans (if_pos hc))
    have d1 : (C != 0) = false := by rw [bne_eq_false_iff_eq]; exact hc
    have hw : IntKind.i64.wrap (L * 48) = L * 48 := by rw [IntKind.wrap_i64]; omega
    obtain ⟨y0, y1, y2, y3, y4, y5, y6, y7⟩ := HP2.out
    clear hc
    go_wp2_with fail
    refine (HBY.out _ HB2.out).mono ?_
    rintro e w3 ⟨rfl, hb3⟩
    have HB3 := Lib.hid (HB2.out.trans (hb3.mono HB2.out.size))
    clear hb3
    go_wp2_with fail
    refine (HCE.out _).mono ?_
    rintro e w4 ⟨rfl, rfl⟩
    go_wp2_with fail
    go_ret
    exact ⟨by rw [HV1.out]; rfl, HB.out.trans (HB3.out.mono HB.out.size)⟩
  · have HV1 := Lib.hid (HV.out.trans (if_neg hc))
    have d1 : (C != 0) = true := by rw [bne_iff_ne]; exact hc
    clear hc
    go_wp2_with fail
    go_ret
    exact ⟨by rw [HV1.out]; rfl, HB.out.trans (HB2.out.mono HB.out.size)⟩
end Go.Proofs.YtgphgbajgjddfaaDoor
namespace Go.Proofs.YtgphgbajgjddfaaDoor
open Go.RowKit
set_option linter.unusedVariables false
set_option linter.unusedSimpArgs false

theorem res_open (tmps : Array Value) (w : World) (r : Nat) (k sq n ps mr : Int) (l : Value) (se : Bool) (d : ByteArray) (err : Int) (h4 : tmps.getD 4 undef = .pointer (some ⟨r, 0, none⟩)) (h5 : tmps.getD 5 undef = .int .i64 err)
    (c : BoxAt w r k sq n ps mr l se d) :
    (results Tryd.f14 tmps).run Tryd.prog w = .ok (.tuple #[.agg #[.int .i64 k, .int .i64 sq, .int .u32 n, .int .u32 ps, .int .u32 mr, l, .bool se, .string d], .int .i64 err]) w := by
  obtain ⟨x0, x1, x2, x3, x4, x5, x6, x7⟩ := c
  simp only [results, Tryd.results14]
  simp only [List.mapM_toArray, List.mapM_cons, List.mapM_nil, h4, h5]
  go_simp
theorem has_setRow {w0 w : World} {g q : Nat} {cs : Array Value} (h : Has w0 w g) (hq : w0.heap.size ≤ q) (hne : g ≠ q) : Has w0 (w.setRow q cs) g :=
  ⟨fun b hb => by rw [World.cell?_of_block (w := w) (setRow_other _ _ _ _ hne)]; exact h.tab b hb, by rw [setRow_size]; exact h.lt, below_setRow h.below hq _⟩
/-- What Parse says of a text is wrong, Open says. -/
def OpenBad (s : ByteArray) (err : Int) : Prop := ∀ (g : Nat) (w : World), Has w w g → Calls Tryd.prog 12 #[.pointer (some ⟨g, 0, none⟩), .string s] w (FrameOut w g 0 ⟨#[]⟩ err)
set_option maxHeartbeats 4000000 in
set_option maxRecDepth 100000 in
theorem wire_open_bad (g : Nat) (s : ByteArray) (err : Int) (w0 w : World) (hT : Has w0 w g) (h0 : w0.heap.size ≤ w.heap.size) (he : err ≠ 0) (hB : OpenBad s err) :
    Calls Tryd.prog 14 #[.pointer (some ⟨g, 0, none⟩), .string s] w fun e w' => e = .returned (.tuple #[.agg #[.int .i64 0, .int .i64 0, .int .u32 0, .int .u32 0, .int .u32 0, .slice none 0 0, .bool false, .string ⟨#[]⟩], .int .i64 err]) ∧ Has w0 w' g := by
  have hb := (Below.refl _ w).alloc (Nat.le_refl _) (.cells #[.int .i64 0, .int .i64 0, .int .u32 0, .int .u32 0, .int .u32 0, .slice none 0 0, .bool false, .string ⟨#[]⟩] 32)
  have HP := Lib.hid (box_new w 0 0 0 0 0 (.slice none 0 0) false ⟨#[]⟩)
  have HT := Lib.hid (hT.next hb)
  have HH : Hid ((w.alloc (.cells #[.int .i64 0, .int .i64 0, .int .u32 0, .int .u32 0, .int .u32 0, .slice none 0 0, .bool false, .string ⟨#[]⟩] 32)).heap[w.heap.size]? = some (.cells #[.int .i64 0, .int .i64 0, .int .u32 0, .int .u32 0, .int .u32 0, .slice none 0 0, .bool false, .string ⟨#[]⟩] 32 (0, 0))) := heap_alloc_new w _
  have HBB := Lib.hid hB
  have d1 : (err != 0) = true := by rw [bne_iff_ne]; exact he
  have hgq := hT.lt
  have hbz := fun W => run_build (P := Tryd.prog) W 32 #[] #[.int .i64 0, .int .i64 0, .int .u32 0, .int .u32 0, .int .u32 0, .slice none 0 0, .bool false, .string ⟨#[]⟩] (by kernel_rfl)
  clear hb hT hB he
  obtain ⟨q, hq⟩ : ∃ q, q = w.heap.size := ⟨_, rfl⟩
  rw [← hq] at hgq h0
  go_enter Tryd.func14, Tryd.ntmps14
  go_upto_region 1 with fail
  rw [← hq] at HP HH ⊢
  clear hq
  generalize w.alloc (.cells #[.int .i64 0, .int .i64 0, .int .u32 0, .int .u32 0, .int .u32 0, .slice none 0 0, .bool false, .string ⟨#[]⟩] 32) = w1 at *
  go_wp2_with fail
  refine (HBB.out g _ (has_here HT.out)).mono ?_
  rintro e w2 ⟨rfl, hh⟩
  have hb3 := (Below.refl w2.heap.size w2).alloc (Nat.le_refl _) (.cells #[.int .u8 0, .string ⟨#[]⟩] 44)
  have hb13 := hh.below.trans (hb3.mono hh.below.size)
  have HT3 := Lib.hid (HT.out.next hb13)
  have HH3 := Lib.hid ((hb13.block q HP.out.lt).trans HH.out)
  clear hh hb3 hb13
  go_upto_region 3 with fail
  generalize w2.alloc (.cells #[.int .u8 0, .string ⟨#[]⟩] 44) = w3 at *
  go_wp2_with (refine wpList_store_row rfl 32 (.tmp 4) (.tmp 19) rfl q #[.int .i64 0, .int .i64 0, .int .u32 0, .int .u32 0, .int .u32 0, .slice none 0 0, .bool false, .string ⟨#[]⟩] rfl rfl 32 _ HH3.out infoPdu rfl (unit_one _ _ _ _ _ _ _ _) ?_)
  exact bodyPost_ret (res_open _ _ q 0 0 0 0 0 (.slice none 0 0) false ⟨#[]⟩ err rfl rfl (row_box w3 q 0 0 0 0 0 (.slice none 0 0) false ⟨#[]⟩ HH3.out)) rfl ⟨rfl, has_setRow HT3.out h0 (by omega)⟩
set_option maxHeartbeats 4000000 in
set_option maxRecDepth 100000 in
theorem wire_open_ok (g : Nat) (k sq n ps mr : Int) (xs : List Int) (se : Bool) (d : ByteArray) (w0 w : World) (hT : Has w0 w g) (h0 : w0.heap.size ≤ w.heap.size) (hS : ShapesIn w) (hok : checkA k sq n ps mr xs se d = 0) (hxs : ∀ x, x ∈ xs → 0 ≤ x) :
    Calls Tryd.prog 14 #[.pointer (some ⟨g, 0, none⟩), .string (packA k sq n ps mr xs se d)] w fun e w' => ∃ A c, e = .returned (.tuple #[.agg #[.int .i64 k, .int .i64 sq, .int .u32 n, .int .u32 ps, .int .u32 mr, .slice A xs.length c, .bool se, .string d], .int .i64 0]) ∧ NumRow w' (.slice A xs.length c) xs ∧ Has w0 w' g := by
  have hk : 1 ≤ k ∧ k ≤ 15 := by
    by_cases h : 1 ≤ k ∧ k ≤ 15
    · exact h
    · unfold checkA at hok; rw [if_neg h] at hok; cases hok
  have hsm := bytesA_small k sq n ps mr xs se d
  have hV : packA k sq n ps mr xs se d = frameB 0 (bytesA k sq n ps mr xs se d) := if_pos hok
  have hB : bytesA k sq n ps mr xs se d = pduB k.toNat sq n ps mr xs se d := if_pos hok
  have HPF := Lib.hid (fun W (hW : Has W W g) => parse_frame 0 (bytesA k sq n ps mr xs se d) g W W (by omega) (by omega) hW)
  have HPP : Hid (∀ W, ShapesIn W → Calls Tryd.prog 13 #[.string (bytesA k sq n ps mr xs se d)] W fun e w' => ∃ l, e = .returned (.tuple #[.agg #[.int .i64 k, .int .i64 sq, .int .u32 n, .int .u32 ps, .int .u32 mr, l, .bool se, .string d], .int .i64 0]) ∧ NumRow w' l xs ∧ Below W.heap.size W w' ∧ ∀ r, l.ownBlock = some r → W.heap.size ≤ r) := fun W hW => by
    rw [hB]
    obtain ⟨kk, rfl⟩ : ∃ kk : Nat, k = (kk : Int) := ⟨k.toNat, by omega⟩
    rw [Int.toNat_natCast]
    unfold checkA at hok
    rw [if_pos hk, Int.toNat_natCast] at hok
    exact pdu_parse_far kk sq n ps mr xs se d W (by omega) hW hok hxs
  rw [hV]
  generalize bytesA k sq n ps mr xs se d = B at *
  generalize frameB 0 B = F at *
  have hb := (Below.refl _ w).alloc (Nat.le_refl _) (.cells #[.int .i64 0, .int .i64 0, .int .u32 0, .int .u32 0, .int .u32 0, .slice none 0 0, .bool false, .string ⟨#[]⟩] 32)
  have HP := Lib.hid (box_new w 0 0 0 0 0 (.slice none 0 0) false ⟨#[]⟩)
  have HT := Lib.hid (hT.next hb)
  have HH : Hid ((w.alloc (.cells #[.int .i64 0, .int .i64 0, .int .u32 0, .int .u32 0, .int .u32 0, .slice none 0 0, .bool false, .string ⟨#[]⟩] 32)).heap[w.heap.size]? = some (.cells #[.int .i64 0, .int .i64 0, .int .u32 0, .int .u32 0, .int .u32 0, .slice none 0 0, .bool false, .string ⟨#[]⟩] 32 (0, 0))) := heap_alloc_new w _
  have HSI := Lib.hid (fun W (hW : Below (w.alloc (.cells #[.int .i64 0, .int .i64 0, .int .u32 0, .int .u32 0, .int .u32 0, .slice none 0 0, .bool false, .string ⟨#[]⟩] 32)).heap.size (w.alloc (.cells #[.int .i64 0, .int .i64 0, .int .u32 0, .int .u32 0, .int .u32 0, .slice none 0 0, .bool false, .string ⟨#[]⟩] 32)) W) => (hS.next hb).next hW)
  have hgq := hT.lt
  clear hb hT hS hok hxs hk hsm hV hB
  obtain ⟨q, hq⟩ : ∃ q, q = w.heap.size := ⟨_, rfl⟩
  rw [← hq] at hgq h0
  go_enter Tryd.func14, Tryd.ntmps14
  go_upto_region 1 with fail
  rw [← hq] at HP HH ⊢
  clear hq
  generalize w.alloc (.cells #[.int .i64 0, .int .i64 0, .int .u32 0, .int .u32 0, .int .u32 0, .slice none 0 0, .bool false, .string ⟨#[]⟩] 32) = w1 at *
  go_wp2_with fail
  refine (HPF.out _ (has_here HT.out)).mono ?_
  rintro e w2 ⟨rfl, hh⟩
  have hb3 := (Below.refl w2.heap.size w2).alloc (Nat.le_refl _) (.cells #[.int .u8 0, .string B] 44)
  have hb13 := hh.below.trans (hb3.mono hh.below.size)
  have HB3 := Lib.hid hb13
  obtain ⟨f0, f1⟩ := agg_new w2 0 B 44
  clear hh hb3 hb13
  obtain ⟨r, hr⟩ : ∃ r, r = w2.heap.size := ⟨_, rfl⟩
  go_upto_region 6 with fail
  rw [← hr] at f0 f1 ⊢
  clear hr
  generalize w2.alloc (.cells #[.int .u8 0, .string B] 44) = w3 at *
  go_wp2_with fail
  refine (HPP.out _ (HSI.out _ HB3.out)).mono ?_
  rintro e w4 ⟨l, rfl, hnl, hb4, hfar⟩
  obtain ⟨A, c, el, _⟩ := id hnl
  subst el
  have HB4 := Lib.hid (HB3.out.trans (hb4.mono HB3.out.size))
  have HNL := Lib.hid hnl
  have HH4 := Lib.hid ((HB4.out.block q HP.out.lt).trans HH.out)
  have HNE : Hid (∀ b, xs ≠ [] → A = some b → b.block ≠ q) := fun b h1 h2 => by
    subst h2
    have h3 := hfar b.block rfl
    have h4 := HB3.out.size
    have h5 := HP.out.lt
    omega
  clear hb4 hnl f0 f1 hfar
  go_wp2_with (refine wpList_store_row rfl 32 (.tmp 4) (.tmp 29) rfl q #[.int .i64 k, .int .i64 sq, .int .u32 n, .int .u32 ps, .int .u32 mr, .slice A xs.length c, .bool se, .string d] rfl rfl 32 _ HH4.out infoPdu rfl (unit_one _ _ _ _ _ _ _ _) ?_)
  exact bodyPost_ret (res_open _ _ q k sq n ps mr (.slice A xs.length c) se d 0 rfl rfl (row_box w4 q k sq n ps mr (.slice A xs.length c) se d HH4.out)) rfl ⟨A, c, rfl, HNL.out.row_other HNE.out, has_setRow (HT.out.next HB4.out) h0 (by omega)⟩
end Go.Proofs.YtgphgbajgjddfaaDoor
namespace Go.Proofs.YtgphgbajgjddfaaDoor
open Go.ChangeShapes Go.WideShapes Go.Deep Go.RowKit Go.Joins
set_option linter.unusedVariables false

/-- A unit's values, as they came in. -/
structure UnitVals (w : World) (k sq n ps mr : Int) (p : Option Addr) (ln cap : Nat) (se : Bool) (d : ByteArray) (xs : List Int) : Prop where
  len : ln = xs.length
  row : IRowB w (.slice p ln cap) xs
  small : d.size ≤ maxLen
/-- A slice of units that came in. -/
def UnitsIn (w : World) (A : Option Addr) (len : Nat) : Prop :=
  len ≤ maxLen ∧ (len = 0 ∨ ∃ b off, A = some ⟨b, off, none⟩ ∧ b < w.heap.size ∧ ∀ i, i < len → ∃ (k sq n ps mr : Int) (p : Option Addr) (ln cap : Nat) (se : Bool) (d : ByteArray) (xs : List Int),
    (w.cell? ⟨b, off + i * 8, none⟩ = some (.int .i64 k) ∧ w.cell? ⟨b, off + i * 8 + 1, none⟩ = some (.int .i64 sq) ∧ w.cell? ⟨b, off + i * 8 + 2, none⟩ = some (.int .i64 n) ∧ w.cell? ⟨b, off + i * 8 + 3, none⟩ = some (.int .i64 ps) ∧ w.cell? ⟨b, off + i * 8 + 4, none⟩ = some (.int .i64 mr) ∧ w.cell? ⟨b, off + i * 8 + 5, none⟩ = some (.slice p ln cap) ∧ w.cell? ⟨b, off + i * 8 + 6, none⟩ = some (.bool se) ∧ w.cell? ⟨b, off + i * 8 + 7, none⟩ = some (.string d)) ∧ UnitVals w k sq n ps mr p ln cap se d xs)
theorem UnitsIn.below {w w' : World} {A : Option Addr} {len : Nat} (h : UnitsIn w A len) (hb : Below w.heap.size w w') : UnitsIn w' A len := by
  refine ⟨h.1, h.2.imp id fun ⟨b, off, e, hl, hc⟩ => ⟨b, off, e, Nat.lt_of_lt_of_le hl hb.size, fun i hi => ?_⟩⟩
  obtain ⟨k, sq, n, ps, mr, p, ln, cap, se, d, xs, ⟨h0, h1, h2, h3, h4, h5, h6, h7⟩, hu⟩ := hc i hi
  refine ⟨k, sq, n, ps, mr, p, ln, cap, se, d, xs, ⟨?_, ?_, ?_, ?_, ?_, ?_, ?_, ?_⟩, ⟨hu.len, hu.row.below hb, hu.small⟩⟩
  · rw [hb.cell (p := ⟨b, _, none⟩) hl]; exact h0
  · rw [hb.cell (p := ⟨b, _, none⟩) hl]; exact h1
  · rw [hb.cell (p := ⟨b, _, none⟩) hl]; exact h2
  · rw [hb.cell (p := ⟨b, _, none⟩) hl]; exact h3
  · rw [hb.cell (p := ⟨b, _, none⟩) hl]; exact h4
  · rw [hb.cell (p := ⟨b, _, none⟩) hl]; exact h5
  · rw [hb.cell (p := ⟨b, _, none⟩) hl]; exact h6
  · rw [hb.cell (p := ⟨b, _, none⟩) hl]; exact h7

variable {H : Type} {enc : TypeId × Value → H} {w : World} {base : Nat} {spare : Nat → Bool} {held : Bool}
set_option maxRecDepth 100000 in
theorem unit_cells {fuel : Nat} {c0 c1 c2 c3 c4 c5 c6 c7 : Value} {x : DataW H × List MemPlace} (hf : DataW.trod enc Tryd.prog w base spare held fuel 36 [c0, c1, c2, c3, c4, c5, c6, c7] = some x) :
    ∃ (k sq n ps mr : Int) (A : Option Addr) (len cap : Nat) (se : Bool) (s : ByteArray) (xs : List Int), c0 = .int .i64 k ∧ c1 = .int .i64 sq ∧ c2 = .int .i64 n ∧ c3 = .int .i64 ps ∧ c4 = .int .i64 mr ∧ c5 = .slice A len cap ∧ c6 = .bool se ∧ c7 = .string s ∧ UnitVals w k sq n ps mr A len cap se s xs := by
  obtain ⟨xs, m, _, hx, _, hlen, hg⟩ := DataW.trod_struct Tryd.underlying36 hf
  have hsz : xs.length = 8 := hlen
  have e1 : Tryd.prog.cellsOf 3 = 1 := by kernel_rfl
  have e2 : Tryd.prog.cellsOf 4 = 1 := by kernel_rfl
  have e3 : Tryd.prog.cellsOf 9 = 1 := by kernel_rfl
  have e4 : Tryd.prog.cellsOf 34 = 1 := by kernel_rfl
  have g0 : DataW.trod enc Tryd.prog w base spare held m 3 (([c0, c1, c2, c3, c4, c5, c6, c7].drop 0).take (Tryd.prog.cellsOf 3)) = xs[0]? := hg 0 _ rfl
  have g1 : DataW.trod enc Tryd.prog w base spare held m 3 (([c0, c1, c2, c3, c4, c5, c6, c7].drop 1).take (Tryd.prog.cellsOf 3)) = xs[1]? := hg 1 _ rfl
  have g2 : DataW.trod enc Tryd.prog w base spare held m 3 (([c0, c1, c2, c3, c4, c5, c6, c7].drop 2).take (Tryd.prog.cellsOf 3)) = xs[2]? := hg 2 _ rfl
  have g3 : DataW.trod enc Tryd.prog w base spare held m 3 (([c0, c1, c2, c3, c4, c5, c6, c7].drop 3).take (Tryd.prog.cellsOf 3)) = xs[3]? := hg 3 _ rfl
  have g4 : DataW.trod enc Tryd.prog w base spare held m 3 (([c0, c1, c2, c3, c4, c5, c6, c7].drop 4).take (Tryd.prog.cellsOf 3)) = xs[4]? := hg 4 _ rfl
  have g5 : DataW.trod enc Tryd.prog w base spare held m 34 (([c0, c1, c2, c3, c4, c5, c6, c7].drop 5).take (Tryd.prog.cellsOf 34)) = xs[5]? := hg 5 _ rfl
  have g6 : DataW.trod enc Tryd.prog w base spare held m 4 (([c0, c1, c2, c3, c4, c5, c6, c7].drop 6).take (Tryd.prog.cellsOf 4)) = xs[6]? := hg 6 _ rfl
  have g7 : DataW.trod enc Tryd.prog w base spare held m 9 (([c0, c1, c2, c3, c4, c5, c6, c7].drop 7).take (Tryd.prog.cellsOf 9)) = xs[7]? := hg 7 _ rfl
  rw [e1, List.getElem?_eq_getElem (by omega)] at g0 g1 g2 g3 g4
  rw [e4, List.getElem?_eq_getElem (by omega)] at g5
  rw [e2, List.getElem?_eq_getElem (by omega)] at g6
  rw [e3, List.getElem?_eq_getElem (by omega)] at g7
  obtain ⟨k0, q0, _, _⟩ := DataW.trod_int Tryd.underlying3 g0
  obtain ⟨k1, q1, _, _⟩ := DataW.trod_int Tryd.underlying3 g1
  obtain ⟨k2, q2, _, _⟩ := DataW.trod_int Tryd.underlying3 g2
  obtain ⟨k3, q3, _, _⟩ := DataW.trod_int Tryd.underlying3 g3
  obtain ⟨k4, q4, _, _⟩ := DataW.trod_int Tryd.underlying3 g4
  obtain ⟨b6, q6, _⟩ := DataW.trod_bool Tryd.underlying4 g6
  obtain ⟨s7, q7, _, hs7⟩ := DataW.trod_string Tryd.underlying9 g7
  obtain ⟨A, len, cap, ys, q5, hl, hr⟩ := ints_in (c := c5) g5
  simp at q0 q1 q2 q3 q4 q6 q7
  exact ⟨k0, k1, k2, k3, k4, A, len, cap, b6, s7, ys, q0, q1, q2, q3, q4, q5, q6, q7, ⟨hl, hr, hs7⟩⟩

set_option maxRecDepth 100000 in
theorem units_in {fuel : Nat} {A : Option Addr} {len cap : Nat} {x : DataW H × List MemPlace} (h : DataW.trod enc Tryd.prog w base spare held fuel 22 [.slice A len cap] = some x) : UnitsIn w A len := by
  rcases open_slice Tryd.underlying22 h with ⟨hcs, _⟩ | ⟨a, l, c, m, n, D, Pl, hcs, _, hl, hm, hmm, _, hx⟩
  · simp at hcs
    obtain ⟨rfl, rfl, rfl⟩ := hcs
    exact ⟨by decide, .inl rfl⟩
  · simp at hcs
    obtain ⟨rfl, rfl, rfl⟩ := hcs
    by_cases h0' : len = 0
    · exact ⟨by omega, .inl h0'⟩
    · have hlm : len ≤ m := by rw [hmm]; split <;> omega
      have ce : Tryd.prog.cellsOf 36 = 8 := by kernel_rfl
      have each : ∀ i, i < len → ∃ (k sq n ps mr : Int) (p : Option Addr) (ln cap : Nat) (se : Bool) (d : ByteArray) (xs : List Int),
          (w.cell? (a.add (i * 8)) = some (.int .i64 k) ∧ w.cell? (a.add (i * 8 + 1)) = some (.int .i64 sq) ∧ w.cell? (a.add (i * 8 + 2)) = some (.int .i64 n) ∧ w.cell? (a.add (i * 8 + 3)) = some (.int .i64 ps) ∧ w.cell? (a.add (i * 8 + 4)) = some (.int .i64 mr) ∧ w.cell? (a.add (i * 8 + 5)) = some (.slice p ln cap) ∧ w.cell? (a.add (i * 8 + 6)) = some (.bool se) ∧ w.cell? (a.add (i * 8 + 7)) = some (.string d)) ∧ UnitVals w k sq n ps mr p ln cap se d xs := by
        intro i hi
        obtain ⟨cs', g1, g2⟩ := hx i (by omega)
        rw [ce] at g1
        obtain ⟨_, hlen, hcell⟩ := World.cells?_some g1
        match cs', hlen with
        | [v0, v1, v2, v3, v4, v5, v6, v7], _ =>
          obtain ⟨k, sq, n, ps, mr, p, ln, cp, se, d, xs, rfl, rfl, rfl, rfl, rfl, rfl, rfl, rfl, hu⟩ := unit_cells g2
          have q0 := hcell 0 (by omega)
          have q1 := hcell 1 (by omega)
          have q2 := hcell 2 (by omega)
          have q3 := hcell 3 (by omega)
          have q4 := hcell 4 (by omega)
          have q5 := hcell 5 (by omega)
          have q6 := hcell 6 (by omega)
          have q7 := hcell 7 (by omega)
          rw [add_add] at q0 q1 q2 q3 q4 q5 q6 q7
          exact ⟨k, sq, n, ps, mr, p, ln, cp, se, d, xs, ⟨by simpa using q0, by simpa using q1, by simpa using q2, by simpa using q3, by simpa using q4, by simpa using q5, by simpa using q6, by simpa using q7⟩, hu⟩
      obtain ⟨b, off, spot⟩ := a
      obtain ⟨_, _, _, _, _, _, _, _, _, _, _, ⟨q0, _⟩, _⟩ := each 0 (by omega)
      have hspot : spot = none := by simpa [Addr.add] using World.cell?_spot q0
      subst hspot
      have pl : ∀ j, (⟨b, off, none⟩ : Addr).add j = ⟨b, off + j, none⟩ := fun j => by unfold Addr.add; split <;> simp_all
      refine ⟨by omega, .inr ⟨b, off, rfl, block_lt_of_cell (by rw [pl] at q0; exact q0), fun i hi => ?_⟩⟩
      have e := each i hi
      simp only [pl, ← Nat.add_assoc] at e
      exact e
end Go.Proofs.YtgphgbajgjddfaaDoor
namespace Go.Proofs.YtgphgbajgjddfaaDoor
open Go.RowKit
set_option linter.unusedVariables false
set_option linter.unusedSimpArgs false

theorem frame_fits (u : Int) (b : ByteArray) : fitsB (frameB u b) = true ∧ (frameB u b).size % 48 = 0 := by
  have hs := frame_size u b
  obtain ⟨h1, h2, h3⟩ := cells_fill b.size
  refine ⟨?_, by omega⟩
  exact fits_seal _
set_option maxHeartbeats 4000000 in
set_option maxRecDepth 100000 in
theorem wire_open_other (g : Nat) (u : Int) (B : ByteArray) (w0 w : World) (hT : Has w0 w g) (h0 : w0.heap.size ≤ w.heap.size) (hu : 0 ≤ u ∧ u < 256) (hu0 : u ≠ 0) (hB : B.size ≤ 65535) :
    Calls Tryd.prog 14 #[.pointer (some ⟨g, 0, none⟩), .string (frameB u B)] w fun e w' => e = .returned (.tuple #[.agg #[.int .i64 0, .int .i64 0, .int .u32 0, .int .u32 0, .int .u32 0, .slice none 0 0, .bool false, .string ⟨#[]⟩], .int .i64 3]) ∧ Has w0 w' g := by
  have hb := (Below.refl _ w).alloc (Nat.le_refl _) (.cells #[.int .i64 0, .int .i64 0, .int .u32 0, .int .u32 0, .int .u32 0, .slice none 0 0, .bool false, .string ⟨#[]⟩] 32)
  have HP := Lib.hid (box_new w 0 0 0 0 0 (.slice none 0 0) false ⟨#[]⟩)
  have HT := Lib.hid (hT.next hb)
  have HH : Hid ((w.alloc (.cells #[.int .i64 0, .int .i64 0, .int .u32 0, .int .u32 0, .int .u32 0, .slice none 0 0, .bool false, .string ⟨#[]⟩] 32)).heap[w.heap.size]? = some (.cells #[.int .i64 0, .int .i64 0, .int .u32 0, .int .u32 0, .int .u32 0, .slice none 0 0, .bool false, .string ⟨#[]⟩] 32 (0, 0))) := heap_alloc_new w _
  have HPF := Lib.hid (fun W (hW : Has W W g) => parse_frame u B g W W hu hB hW)
  have d1 : (u != 0) = true := by rw [bne_iff_ne]; exact hu0
  have hgq := hT.lt
  have hbz := fun W => run_build (P := Tryd.prog) W 32 #[] #[.int .i64 0, .int .i64 0, .int .u32 0, .int .u32 0, .int .u32 0, .slice none 0 0, .bool false, .string ⟨#[]⟩] (by kernel_rfl)
  clear hb hT
  obtain ⟨q, hq⟩ : ∃ q, q = w.heap.size := ⟨_, rfl⟩
  rw [← hq] at hgq h0
  generalize frameB u B = F at *
  go_enter Tryd.func14, Tryd.ntmps14
  go_upto_region 1 with fail
  rw [← hq] at HP HH ⊢
  clear hq
  generalize w.alloc (.cells #[.int .i64 0, .int .i64 0, .int .u32 0, .int .u32 0, .int .u32 0, .slice none 0 0, .bool false, .string ⟨#[]⟩] 32) = w1 at *
  go_wp2_with fail
  refine (HPF.out _ (has_here HT.out)).mono ?_
  rintro e w2 ⟨rfl, hh⟩
  have hb3 := (Below.refl w2.heap.size w2).alloc (Nat.le_refl _) (.cells #[.int .u8 u, .string B] 44)
  have hb13 := hh.below.trans (hb3.mono hh.below.size)
  have HT3 := Lib.hid (HT.out.next hb13)
  have HH3 := Lib.hid ((hb13.block q HP.out.lt).trans HH.out)
  obtain ⟨f0, f1⟩ := agg_new w2 u B 44
  clear hh hb3 hb13
  obtain ⟨r, hr⟩ : ∃ r, r = w2.heap.size := ⟨_, rfl⟩
  go_upto_region 5 with fail
  rw [← hr] at f0 f1 ⊢
  clear hr
  generalize w2.alloc (.cells #[.int .u8 u, .string B] 44) = w3 at *
  go_wp2_with (refine wpList_store_row rfl 32 (.tmp 4) (.tmp 25) rfl q #[.int .i64 0, .int .i64 0, .int .u32 0, .int .u32 0, .int .u32 0, .slice none 0 0, .bool false, .string ⟨#[]⟩] rfl rfl 32 _ HH3.out infoPdu rfl (unit_one _ _ _ _ _ _ _ _) ?_)
  exact bodyPost_ret (res_open _ _ q 0 0 0 0 0 (.slice none 0 0) false ⟨#[]⟩ 3 rfl rfl (row_box w3 q 0 0 0 0 0 (.slice none 0 0) false ⟨#[]⟩ HH3.out)) rfl ⟨rfl, has_setRow HT3.out h0 (by omega)⟩
theorem poll_size : sizeA 10 0 0 0 0 [] false ⟨#[]⟩ = 48 := by decide +kernel
set_option maxHeartbeats 8000000 in
set_option maxRecDepth 100000 in
theorem walk_PolliwogWhole (p0 : Option Addr) (ln0 cp0 : Nat) (u : Int) (w : World) (hS : ShapesIn w) (hr0 : UnitsIn w p0 ln0) (hu : 0 ≤ u ∧ u < 256) :
    Calls Tryd.prog 3 #[.slice p0 ln0 cp0, .int .u8 u] w fun e w' => e = .returned (.bool true) ∧ Below w.heap.size w w' := by
  have HS := Lib.hid hS
  have HR0 := Lib.hid hr0
  have HU := Lib.hid hu
  have hlm := Lib.hid hr0.1
  have hz := (zero_of_info infoTab).1
  have HZ := Lib.hid zeros_tab
  have HSIZE := Lib.hid (fun W (hW : Below w.heap.size w W) => wire_size 10 0 0 0 0 none 0 [] false ⟨#[]⟩ W (hS.next hW) (numRow_nil W) (by decide) (by decide) (by decide) (fun x h => by cases h))
  rw [poll_size] at HSIZE
  generalize zeros256 = Z at *
  clear hS hr0 hu
  go_enter Tryd.func3, Tryd.ntmps3
  go_wp2_with fail
  refine (wire_new _).mono ?_
  rintro e w1 ⟨v, rfl, hh⟩
  have HV1 := Lib.hid hh
  clear hh
  go_wp2_with fail
  refine (crc_make _).mono ?_
  rintro e w2 ⟨rfl, hb2⟩
  have HV2 := Lib.hid (HV1.out.next hb2)
  clear hb2 HV1
  go_upto_region 2 with (refine wpList_store_row rfl 27 (.tmp 6) (.tmp 22) rfl w2.heap.size tabArr rfl rfl 27 Z (heap_alloc_new w2 _) tabInfo HZ.out tabArr_one ?_)
  have hh := Has.made HV2.out.below Z 27
  have HV3 := Lib.hid (has_setRow (HV2.out.alloc (.cells Z 27)) (q := w2.heap.size) (cs := tabArr) HV2.out.below.size (by have := HV2.out.lt; omega))
  have HG3 := Lib.hid hh
  clear hh HV2
  generalize (w2.alloc (.cells Z 27)).setRow w2.heap.size tabArr = w3 at *
  generalize w2.heap.size = t at *
  go_wp2_with fail
  go_loopw [7] (fun i wr => ∃ k : Nat, k ≤ 12 ∧ k ≤ ln0 ∧ i = .int .i64 k ∧ Hid (Has w wr v) ∧ Hid (Has w wr t)) (fun i _ => 12 - (intOf i).toNat)
  case atStart => exact ⟨0, by omega, by omega, rfl, HV3, HG3⟩
  case round =>
    obtain ⟨kk, hk1, hk2, rfl, HV, HG⟩ := hrel
    clear HV3 HG3
    by_cases hgo : kk < ln0 ∧ kk < 12
    · obtain ⟨hl, hq⟩ := hgo
      obtain ⟨b, off, rfl, hbl, hcc⟩ := (HR0.out.below HV.out.below).2.resolve_left (by omega)
      obtain ⟨k, sq, n, ps, mr, p, ln, cap, se, d, xs, ⟨x0, x1, x2, x3, x4, x5, x6, x7⟩, hu⟩ := hcc kk hl
      have HFW := Lib.hid (few_is k sq n ps mr p ln cap xs se d wr hu.len hu.row hu.small)
      have e1 : decide (kk < ln0) = true := decide_eq_true hl
      have e2 : decide ((kk : Int) < (ln0 : Int)) = true := decide_eq_true (by omega)
      have e3 : decide ((kk : Int) < 12) = true := decide_eq_true (by omega)
      clear hcc hu
      go_wp2_with fail
      refine HFW.out.mono ?_
      rintro e w4 ⟨l, rfl, hrow, hb4, hfar⟩
      obtain ⟨A2, c2, hl2, hrl⟩ := id hrow
      have HRW := Lib.hid hrow
      have HV4 := Lib.hid (HV.out.next hb4)
      have HG4 := Lib.hid (HG.out.next hb4)
      clear hrow hrl hfar hb4 x0 x1 x2 x3 x4 x5 x6 x7 HFW
      subst hl2
      have HN4 : Hid ((0 ≤ in32 n ∧ in32 n < 4294967296) ∧ (0 ≤ in32 ps ∧ in32 ps < 4294967296) ∧ (0 ≤ in32 mr ∧ in32 mr < 4294967296) ∧ (∀ x, x ∈ (xs.take 140).map in32 → 0 ≤ x ∧ x < 4294967296) ∧ ((xs.take 140).map in32).length ≤ 140) :=
        ⟨in32_in _, in32_in _, in32_in _, by
          intro x hx
          obtain ⟨y, _, rfl⟩ := List.mem_map.1 hx
          exact in32_in y, by rw [List.length_map, List.length_take]; omega⟩
      generalize in32 n = n' at *
      generalize in32 ps = ps' at *
      generalize in32 mr = mr' at *
      generalize cutB d 210 = d' at *
      generalize (xs.take 140).map in32 = ys at *
      have HOW := Lib.hid (own_unit k sq n' ps' mr' A2 ys.length c2 ys se d' w4 rfl HRW.out (by have := HN4.out.2.2.2.2; omega) HN4.out.1 HN4.out.2.1 HN4.out.2.2.1 HN4.out.2.2.2.1)
      go_wp2_with fail
      refine HOW.out.mono ?_
      rintro e w5 ⟨A, c, rfl, hnum, hb5, _⟩
      have HNU := Lib.hid hnum
      have HV5 := Lib.hid (HV4.out.next hb5)
      have HG5 := Lib.hid (HG4.out.next hb5)
      clear hnum hb5 HV4 HG4 HRW HOW
      go_upto_region 8 with (refine wpList_store_row rfl 32 (.tmp 8) (.tmp 40) rfl w5.heap.size #[.int .i64 k, .int .i64 sq, .int .u32 n', .int .u32 ps', .int .u32 mr', .slice A ys.length c, .bool se, .string d'] rfl rfl 32 _ (heap_alloc_new w5 _) infoPdu rfl (unit_one _ _ _ _ _ _ _ _) ?_)
      have hb6 : Below w5.heap.size w5 ((w5.alloc (.cells #[.int .i64 0, .int .i64 0, .int .u32 0, .int .u32 0, .int .u32 0, .slice none 0 0, .bool false, .string ⟨#[]⟩] 32)).setRow w5.heap.size #[.int .i64 k, .int .i64 sq, .int .u32 n', .int .u32 ps', .int .u32 mr', .slice A ys.length c, .bool se, .string d']) := below_setRow ((Below.refl _ w5).alloc (Nat.le_refl _) _) (Nat.le_refl _) _
      have HP6 := Lib.hid (row_box (w5.alloc (.cells #[.int .i64 0, .int .i64 0, .int .u32 0, .int .u32 0, .int .u32 0, .slice none 0 0, .bool false, .string ⟨#[]⟩] 32)) w5.heap.size k sq n' ps' mr' (.slice A ys.length c) se d' (heap_alloc_new w5 _))
      have HV6 := Lib.hid (HV5.out.next hb6)
      have HG6 := Lib.hid (HG5.out.next hb6)
      have HN6 := Lib.hid (HNU.out.below hb6)
      obtain ⟨q, hq2⟩ : ∃ q, q = w5.heap.size := ⟨_, rfl⟩
      rw [← hq2] at HP6 hb6 HV6 HG6 HN6 ⊢
      clear hb6 hq2 HV5 HG5 HNU
      generalize (w5.alloc (.cells #[.int .i64 0, .int .i64 0, .int .u32 0, .int .u32 0, .int .u32 0, .slice none 0 0, .bool false, .string ⟨#[]⟩] 32)).setRow q #[.int .i64 k, .int .i64 sq, .int .u32 n', .int .u32 ps', .int .u32 mr', .slice A ys.length c, .bool se, .string d'] = w6 at *
      have HPK := Lib.hid (fun W (hT : Has w6 W v) => wire_pack v k sq n' ps' mr' A c ys se d' w6 W hT ((HS.out.next HV6.out.below).next hT.below) (HN6.out.below hT.below) HN4.out.1 HN4.out.2.1 HN4.out.2.2.1 (fun x hx => (HN4.out.2.2.2.1 x hx).1))
      have HCK := Lib.hid (fun W (hW : Below w6.heap.size w6 W) => pdu_checkA k sq n' ps' mr' A ys.length c ys se d' W ((HS.out.next HV6.out.below).next hW) rfl (HN6.out.below hW) HN4.out.1 HN4.out.2.1 HN4.out.2.2.1)
      have HBY := Lib.hid (fun (A9 : Option Addr) (c9 : Nat) W (hW : Below w6.heap.size w6 W) (hn : NumRow W (.slice A9 ys.length c9) ys) => pdu_bytesA k sq n' ps' mr' A9 ys.length c9 ys se d' W ((HS.out.next HV6.out.below).next hW) rfl hn HN4.out.1 HN4.out.2.1 HN4.out.2.2.1 (fun x hx => (HN4.out.2.2.2.1 x hx).1))
      have hsm := bytesA_small k sq n' ps' mr' ys se d'
      have HFB := Lib.hid (fun (x : Int) (hx : 0 ≤ x ∧ x < 256) W (hW : Has W W t) => frame_bytes x (bytesA k sq n' ps' mr' ys se d') t W W hx (by omega) hW)
      have HPF := Lib.hid (fun W (hW : Has W W t) => parse_frame 0 (bytesA k sq n' ps' mr' ys se d') t W W (by omega) (by omega) hW)
      have HPP : Hid (checkA k sq n' ps' mr' ys se d' = 0 → ∀ W, ShapesIn W → Calls Tryd.prog 13 #[.string (bytesA k sq n' ps' mr' ys se d')] W fun e w' => ∃ l, e = .returned (.tuple #[.agg #[.int .i64 k, .int .i64 sq, .int .u32 n', .int .u32 ps', .int .u32 mr', l, .bool se, .string d'], .int .i64 0]) ∧ NumRow w' l ys ∧ Below W.heap.size W w' ∧ ∀ r, l.ownBlock = some r → W.heap.size ≤ r) := fun hok W hW => by
        have hk : 1 ≤ k ∧ k ≤ 15 := by
          by_cases h : 1 ≤ k ∧ k ≤ 15
          · exact h
          · unfold checkA at hok; rw [if_neg h] at hok; cases hok
        have hB : bytesA k sq n' ps' mr' ys se d' = pduB k.toNat sq n' ps' mr' ys se d' := if_pos hok
        rw [hB]
        obtain ⟨kk2, rfl⟩ : ∃ kk : Nat, k = (kk : Int) := ⟨k.toNat, by omega⟩
        rw [Int.toNat_natCast]
        unfold checkA at hok
        rw [if_pos hk, Int.toNat_natCast] at hok
        exact pdu_parse_far kk2 sq n' ps' mr' ys se d' W (by omega) hW hok (fun x hx => (HN4.out.2.2.2.1 x hx).1)
      have HOK : Hid (checkA k sq n' ps' mr' ys se d' = 0 → ∀ W, Has W W v → ShapesIn W → Calls Tryd.prog 14 #[.pointer (some ⟨v, 0, none⟩), .string (frameB 0 (bytesA k sq n' ps' mr' ys se d'))] W fun e w' => ∃ A c, e = .returned (.tuple #[.agg #[.int .i64 k, .int .i64 sq, .int .u32 n', .int .u32 ps', .int .u32 mr', .slice A ys.length c, .bool se, .string d'], .int .i64 0]) ∧ NumRow w' (.slice A ys.length c) ys ∧ Has W w' v) := fun hok W hW hSW => by
        have h := wire_open_ok v k sq n' ps' mr' ys se d' W W hW (Nat.le_refl _) hSW hok (fun x hx => (HN4.out.2.2.2.1 x hx).1)
        rw [show packA k sq n' ps' mr' ys se d' = frameB 0 (bytesA k sq n' ps' mr' ys se d') from if_pos hok] at h
        exact h
      have HPV : Hid (checkA k sq n' ps' mr' ys se d' = 0 → packA k sq n' ps' mr' ys se d' = frameB 0 (bytesA k sq n' ps' mr' ys se d')) := fun h => if_pos h
      have hB735 : (bytesA k sq n' ps' mr' ys se d').size ≤ 735 := hsm
      have HOO := Lib.hid (fun (hu0 : u ≠ 0) W (hW : Has W W v) => wire_open_other v u (bytesA k sq n' ps' mr' ys se d') W W hW (Nat.le_refl _) HU.out hu0 (by omega))
      have HSO : Hid (∀ x W, Has W W v → Calls Tryd.prog 15 #[.pointer (some ⟨v, 0, none⟩), .string (frameB x (bytesA k sq n' ps' mr' ys se d'))] W fun e w' => e = .returned (.bool true) ∧ Has W w' v) := fun x W hW => by
        obtain ⟨f1, f2⟩ := frame_fits x (bytesA k sq n' ps' mr' ys se d')
        have f3 := frame_size x (bytesA k sq n' ps' mr' ys se d')
        obtain ⟨g1, g2, g3⟩ := cells_fill (bytesA k sq n' ps' mr' ys se d').size
        have h := wire_sound v (frameB x (bytesA k sq n' ps' mr' ys se d')) W W hW (by unfold maxLen; omega)
        rw [f1, decide_eq_true f2] at h
        exact h
      clear hsm hB735
      have hfb0 := fun b W => frame_built b W
      have hfbu := fun (b : ByteArray) W => run_build (P := Tryd.prog) W 44 #[(0, .int .u8 u), (1, .string b)] #[.int .u8 u, .string b] (by kernel_rfl)
      have HFB0 := Lib.hid (HFB.out 0 (by omega))
      have HFBU := Lib.hid (HFB.out u HU.out)
      have HSOU := Lib.hid (HSO.out u)
      have HEQ : Hid (u = 0 → frameB u (bytesA k sq n' ps' mr' ys se d') = frameB 0 (bytesA k sq n' ps' mr' ys se d')) := fun h => by rw [h]
      clear HFB HSO
      generalize frameB 0 (bytesA k sq n' ps' mr' ys se d') = F0 at *
      generalize frameB u (bytesA k sq n' ps' mr' ys se d') = Fu at *
      obtain ⟨y0, y1, y2, y3, y4, y5, y6, y7⟩ := HP6.out
      go_wp2_with fail
      refine (HPK.out _ (has_here HV6.out)).mono ?_
      rintro e w7 ⟨rfl, hh⟩
      have HB7 := Lib.hid hh.below
      have HV7 := Lib.hid (HV6.out.next hh.below)
      have HG7 := Lib.hid (HG6.out.next hh.below)
      have HP7 := Lib.hid (HP6.out.next hh.below)
      clear hh y0 y1 y2 y3 y4 y5 y6 y7 HPK
      obtain ⟨y0, y1, y2, y3, y4, y5, y6, y7⟩ := HP7.out
      go_wp2_with fail
      refine (HCK.out _ HB7.out).mono ?_
      rintro e w8 ⟨rfl, hb⟩
      have HB8 := Lib.hid (HB7.out.trans (hb.mono HB7.out.size))
      have HV8 := Lib.hid (HV7.out.next hb)
      have HG8 := Lib.hid (HG7.out.next hb)
      have HP8 := Lib.hid (HP7.out.next hb)
      clear hb y0 y1 y2 y3 y4 y5 y6 y7 HCK HB7 HV7 HG7 HP7
      generalize hC0 : checkA k sq n' ps' mr' ys se d' = C at *
      generalize packA k sq n' ps' mr' ys se d' = X at *
      clear hC0
      have hCC : (C != C) = false := by simp
      by_cases hc : C = 0
      · obtain rfl : X = F0 := HPV.out hc
        have HPP2 := Lib.hid (HPP.out hc)
        have HOK2 := Lib.hid (HOK.out hc)
        have d1 : (C != 0) = false := by rw [bne_eq_false_iff_eq]; exact hc
        generalize bytesA k sq n' ps' mr' ys se d' = B at *
        clear hc HPP HOK HPV
        obtain ⟨y0, y1, y2, y3, y4, y5, y6, y7⟩ := HP8.out
        go_wp2_with fail
        refine (HBY.out A c _ HB8.out (HN6.out.below HB8.out)).mono ?_
        rintro e w9 ⟨rfl, hb⟩
        have HB9 := Lib.hid (HB8.out.trans (hb.mono HB8.out.size))
        have HV9 := Lib.hid (HV8.out.next hb)
        have HG9 := Lib.hid (HG8.out.next hb)
        have HP9 := Lib.hid (HP8.out.next hb)
        clear hb y0 y1 y2 y3 y4 y5 y6 y7 HB8 HV8 HG8 HP8
        go_wp2_with fail
        refine (HFB0.out _ (has_here HG9.out)).mono ?_
        rintro e wa ⟨rfl, hh⟩
        have HBA := Lib.hid (HB9.out.trans (hh.below.mono HB9.out.size))
        have HVA := Lib.hid (HV9.out.next hh.below)
        have HGA := Lib.hid (HG9.out.next hh.below)
        have HPA := Lib.hid (HP9.out.next hh.below)
        clear hh HB9 HV9 HG9 HP9 HFB0
        go_wp2_with fail
        refine (HPF.out _ (has_here HGA.out)).mono ?_
        rintro e wb ⟨rfl, hh⟩
        have hbf := hh.below.trans (((Below.refl wb.heap.size wb).alloc (Nat.le_refl _) (.cells #[.int .u8 0, .string B] 44)).mono hh.below.size)
        have HBB := Lib.hid (HBA.out.trans (hbf.mono HBA.out.size))
        have HVB := Lib.hid (HVA.out.next hbf)
        have HGB := Lib.hid (HGA.out.next hbf)
        have HPB := Lib.hid (HPA.out.next hbf)
        obtain ⟨f0, f1⟩ := agg_new wb 0 B 44
        have hrl : wb.heap.size < (wb.alloc (.cells #[.int .u8 0, .string B] 44)).heap.size := by simp
        obtain ⟨r, hr⟩ : ∃ r, r = wb.heap.size := ⟨_, rfl⟩
        go_upto_region 14 with fail
        rw [← hr] at f0 f1 hrl ⊢
        clear hr hh hbf HBA HVA HGA HPA HPF
        generalize wb.alloc (.cells #[.int .u8 0, .string B] 44) = wc at *
        go_wp2_with fail
        refine (HPP2.out _ (HS.out.next HVB.out.below)).mono ?_
        rintro e wd ⟨l9, rfl, hnl, hb, hfar⟩
        obtain ⟨A9, c9, el, _⟩ := id hnl
        subst el
        have HBD := Lib.hid (HBB.out.trans (hb.mono HBB.out.size))
        have HVD := Lib.hid (HVB.out.next hb)
        have HGD := Lib.hid (HGB.out.next hb)
        have HPD := Lib.hid (HPB.out.next hb)
        have HN9 := Lib.hid hnl
        have f0d : wd.cell? ⟨r, 0, none⟩ = some (.int .u8 0) := by rw [hb.cell (p := ⟨r, 0, none⟩) hrl]; exact f0
        have hrl2 : r < wd.heap.size := Nat.lt_of_lt_of_le hrl hb.size
        clear hnl hfar hb f0 f1 hrl HBB HVB HGB HPB HPP2
        go_upto_region 15 with (refine wpList_store_row rfl 32 (.tmp 15) (.tmp 69) rfl wd.heap.size #[.int .i64 k, .int .i64 sq, .int .u32 n', .int .u32 ps', .int .u32 mr', .slice A9 ys.length c9, .bool se, .string d'] rfl rfl 32 _ (heap_alloc_new wd _) infoPdu rfl (unit_one _ _ _ _ _ _ _ _) ?_)
        have hbe : Below wd.heap.size wd ((wd.alloc (.cells #[.int .i64 0, .int .i64 0, .int .u32 0, .int .u32 0, .int .u32 0, .slice none 0 0, .bool false, .string ⟨#[]⟩] 32)).setRow wd.heap.size #[.int .i64 k, .int .i64 sq, .int .u32 n', .int .u32 ps', .int .u32 mr', .slice A9 ys.length c9, .bool se, .string d']) := below_setRow ((Below.refl _ wd).alloc (Nat.le_refl _) _) (Nat.le_refl _) _
        have HQE := Lib.hid (row_box (wd.alloc (.cells #[.int .i64 0, .int .i64 0, .int .u32 0, .int .u32 0, .int .u32 0, .slice none 0 0, .bool false, .string ⟨#[]⟩] 32)) wd.heap.size k sq n' ps' mr' (.slice A9 ys.length c9) se d' (heap_alloc_new wd _))
        have HBE := Lib.hid (HBD.out.trans (hbe.mono HBD.out.size))
        have HVE := Lib.hid (HVD.out.next hbe)
        have HGE := Lib.hid (HGD.out.next hbe)
        have HPE := Lib.hid (HPD.out.next hbe)
        have HN9E := Lib.hid (HN9.out.below hbe)
        have f0e : ((wd.alloc (.cells #[.int .i64 0, .int .i64 0, .int .u32 0, .int .u32 0, .int .u32 0, .slice none 0 0, .bool false, .string ⟨#[]⟩] 32)).setRow wd.heap.size #[.int .i64 k, .int .i64 sq, .int .u32 n', .int .u32 ps', .int .u32 mr', .slice A9 ys.length c9, .bool se, .string d']).cell? ⟨r, 0, none⟩ = some (.int .u8 0) := by rw [hbe.cell (p := ⟨r, 0, none⟩) hrl2]; exact f0d
        have hrl3 : r < ((wd.alloc (.cells #[.int .i64 0, .int .i64 0, .int .u32 0, .int .u32 0, .int .u32 0, .slice none 0 0, .bool false, .string ⟨#[]⟩] 32)).setRow wd.heap.size #[.int .i64 k, .int .i64 sq, .int .u32 n', .int .u32 ps', .int .u32 mr', .slice A9 ys.length c9, .bool se, .string d']).heap.size := Nat.lt_of_lt_of_le hrl2 hbe.size
        obtain ⟨q9, hq9⟩ : ∃ q9, q9 = wd.heap.size := ⟨_, rfl⟩
        rw [← hq9] at HQE hbe HBE HVE HGE HPE HN9E f0e hrl3 ⊢
        clear hbe hq9 f0d hrl2 HBD HVD HGD HPD HN9
        generalize (wd.alloc (.cells #[.int .i64 0, .int .i64 0, .int .u32 0, .int .u32 0, .int .u32 0, .slice none 0 0, .bool false, .string ⟨#[]⟩] 32)).setRow q9 #[.int .i64 k, .int .i64 sq, .int .u32 n', .int .u32 ps', .int .u32 mr', .slice A9 ys.length c9, .bool se, .string d'] = we at *
        obtain ⟨y0, y1, y2, y3, y4, y5, y6, y7⟩ := HPE.out
        obtain ⟨z0, z1, z2, z3, z4, z5, z6, z7⟩ := HQE.out
        have HDR := Lib.hid ((Below.refl we.heap.size we).drew)
        have hdr := HDR.out
        have HF0 : Hid (∀ W, Below we.heap.size we W → W.cell? ⟨r, 0, none⟩ = some (.int .u8 0)) := fun W hW => by rw [hW.cell (p := ⟨r, 0, none⟩) hrl3]; exact f0e
        go_region_held3 (fun w' => w'.cell? ⟨q, 0, none⟩ = some (.int .i64 k) ∧ w'.cell? ⟨q, 1, none⟩ = some (.int .i64 sq) ∧ w'.cell? ⟨q, 2, none⟩ = some (.int .u32 n') ∧ w'.cell? ⟨q, 3, none⟩ = some (.int .u32 ps') ∧ w'.cell? ⟨q, 4, none⟩ = some (.int .u32 mr') ∧ w'.cell? ⟨q, 5, none⟩ = some (.slice A ys.length c) ∧ w'.cell? ⟨q, 6, none⟩ = some (.bool se) ∧ w'.cell? ⟨q, 7, none⟩ = some (.string d') ∧ w'.cell? ⟨q9, 0, none⟩ = some (.int .i64 k) ∧ w'.cell? ⟨q9, 1, none⟩ = some (.int .i64 sq) ∧ w'.cell? ⟨q9, 2, none⟩ = some (.int .u32 n') ∧ w'.cell? ⟨q9, 3, none⟩ = some (.int .u32 ps') ∧ w'.cell? ⟨q9, 4, none⟩ = some (.int .u32 mr') ∧ w'.cell? ⟨q9, 5, none⟩ = some (.slice A9 ys.length c9) ∧ w'.cell? ⟨q9, 6, none⟩ = some (.bool se) ∧ w'.cell? ⟨q9, 7, none⟩ = some (.string d') ∧ w'.cell? ⟨r, 0, none⟩ = some (.int .u8 0))
          (first | go_keep)
          (first
            | (go_at_call 10; (with_reducible refine (HBY.out A9 c9 _ (HBE.out.trans (HDR.out.mono HBE.out.size)) (HN9E.out.below HDR.out)).mono ?_); rintro e wf ⟨rfl, hbf⟩
               have HBF := Lib.hid (HDR.out.trans hbf)
               obtain ⟨a0, a1, a2, a3, a4, a5, a6, a7⟩ := HPE.out.next HBF.out
               obtain ⟨b0, b1, b2, b3, b4, b5, b6, b7⟩ := HQE.out.next HBF.out
               have g0 := HF0.out _ HBF.out
               clear hbf)
            | (go_at_call 10; (with_reducible refine (HBY.out A c _ (HBE.out.trans (HBF.out.mono HBE.out.size)) ((HN6.out.below HBE.out).below HBF.out)).mono ?_); rintro e wg ⟨rfl, hbg⟩
               have HBG := Lib.hid (HBF.out.trans (hbg.mono HBF.out.size))
               obtain ⟨a0, a1, a2, a3, a4, a5, a6, a7⟩ := HPE.out.next HBG.out
               obtain ⟨b0, b1, b2, b3, b4, b5, b6, b7⟩ := HQE.out.next HBG.out
               have g0 := HF0.out _ HBG.out
               clear hbg)
            | fail)
        have hbg := HBG.out
        have HBM := Lib.hid (HBE.out.trans (hbg.mono HBE.out.size))
        have HVM := Lib.hid (HVE.out.next hbg)
        have HGM := Lib.hid (HGE.out.next hbg)
        have HPM := Lib.hid (HPE.out.next hbg)
        clear hbg HBF HBG HBE HVE HGE HPE HQE HDR HF0 HN9E hdr f0e hrl3
        go_wp2_with fail
        refine (HBY.out A c _ HBM.out (HN6.out.below HBM.out)).mono ?_
        rintro e wh ⟨rfl, hb⟩
        have HBH := Lib.hid (HBM.out.trans (hb.mono HBM.out.size))
        have HVH := Lib.hid (HVM.out.next hb)
        have HGH := Lib.hid (HGM.out.next hb)
        have HPH := Lib.hid (HPM.out.next hb)
        clear hb HBM HVM HGM HPM HBY
        go_wp2_with fail
        refine (HFBU.out _ (has_here HGH.out)).mono ?_
        rintro e wi ⟨rfl, hh⟩
        have HBI := Lib.hid (HBH.out.trans (hh.below.mono HBH.out.size))
        have HVI := Lib.hid (HVH.out.next hh.below)
        have HGI := Lib.hid (HGH.out.next hh.below)
        have HPI := Lib.hid (HPH.out.next hh.below)
        clear hh HBH HVH HGH HPH HFBU
        by_cases hu0 : u = 0
        · obtain rfl : Fu = X := HEQ.out hu0
          have d2 : (u == 0) = true := by rw [beq_iff_eq]; exact hu0
          clear hu0 HEQ HOO
          go_wp2_with fail
          refine (HOK2.out _ (has_here HVI.out) (HS.out.next HVI.out.below)).mono ?_
          rintro e wj ⟨A8, c8, rfl, hn8, hh⟩
          have HBJ := Lib.hid (HBI.out.trans (hh.below.mono HBI.out.size))
          have HVJ := Lib.hid (HVI.out.next hh.below)
          have HGJ := Lib.hid (HGI.out.next hh.below)
          have HPJ := Lib.hid (HPI.out.next hh.below)
          clear hh hn8 HBI HVI HGI HPI HOK2
          go_upto_region 19 with (refine wpList_store_row rfl 32 (.tmp 19) (.tmp 106) rfl wj.heap.size #[.int .i64 k, .int .i64 sq, .int .u32 n', .int .u32 ps', .int .u32 mr', .slice A8 ys.length c8, .bool se, .string d'] rfl rfl 32 _ (heap_alloc_new wj _) infoPdu rfl (unit_one _ _ _ _ _ _ _ _) ?_)
          have hbk : Below wj.heap.size wj ((wj.alloc (.cells #[.int .i64 0, .int .i64 0, .int .u32 0, .int .u32 0, .int .u32 0, .slice none 0 0, .bool false, .string ⟨#[]⟩] 32)).setRow wj.heap.size #[.int .i64 k, .int .i64 sq, .int .u32 n', .int .u32 ps', .int .u32 mr', .slice A8 ys.length c8, .bool se, .string d']) := below_setRow ((Below.refl _ wj).alloc (Nat.le_refl _) _) (Nat.le_refl _) _
          have HVK := Lib.hid (HVJ.out.next hbk)
          have HGK := Lib.hid (HGJ.out.next hbk)
          clear hbk HBJ HVJ HGJ HPJ
          generalize (wj.alloc (.cells #[.int .i64 0, .int .i64 0, .int .u32 0, .int .u32 0, .int .u32 0, .slice none 0 0, .bool false, .string ⟨#[]⟩] 32)).setRow wj.heap.size #[.int .i64 k, .int .i64 sq, .int .u32 n', .int .u32 ps', .int .u32 mr', .slice A8 ys.length c8, .bool se, .string d'] = wk at *
          go_wp2_with fail
          refine (HSOU.out _ (has_here HVK.out)).mono ?_
          rintro e wl ⟨rfl, hh⟩
          have HVL := Lib.hid (HVK.out.next hh.below)
          have HGL := Lib.hid (HGK.out.next hh.below)
          clear hh
          go_wp2_with fail
          go_roundw
          case rel => exact ⟨kk + 1, by omega, by omega, by go_num, HVL, HGL⟩
          case measure => simp [intOf]; omega
        · have d2 : (u == 0) = false := by rw [beq_eq_false_iff_ne]; exact hu0
          have HOO2 := Lib.hid (HOO.out hu0)
          clear hu0 HEQ HOO
          go_wp2_with fail
          refine (HOO2.out _ (has_here HVI.out)).mono ?_
          rintro e wj ⟨rfl, hh⟩
          have HBJ := Lib.hid (HBI.out.trans (hh.below.mono HBI.out.size))
          have HVJ := Lib.hid (HVI.out.next hh.below)
          have HGJ := Lib.hid (HGI.out.next hh.below)
          have HPJ := Lib.hid (HPI.out.next hh.below)
          clear hh HBI HVI HGI HPI HOO2
          go_upto_region 19 with (refine wpList_store_row rfl 32 (.tmp 19) (.tmp 106) rfl wj.heap.size #[.int .i64 0, .int .i64 0, .int .u32 0, .int .u32 0, .int .u32 0, .slice none 0 0, .bool false, .string ⟨#[]⟩] rfl rfl 32 _ (heap_alloc_new wj _) infoPdu rfl (unit_one _ _ _ _ _ _ _ _) ?_)
          have hbk : Below wj.heap.size wj ((wj.alloc (.cells #[.int .i64 0, .int .i64 0, .int .u32 0, .int .u32 0, .int .u32 0, .slice none 0 0, .bool false, .string ⟨#[]⟩] 32)).setRow wj.heap.size #[.int .i64 0, .int .i64 0, .int .u32 0, .int .u32 0, .int .u32 0, .slice none 0 0, .bool false, .string ⟨#[]⟩]) := below_setRow ((Below.refl _ wj).alloc (Nat.le_refl _) _) (Nat.le_refl _) _
          have HVK := Lib.hid (HVJ.out.next hbk)
          have HGK := Lib.hid (HGJ.out.next hbk)
          clear hbk HBJ HVJ HGJ HPJ
          generalize (wj.alloc (.cells #[.int .i64 0, .int .i64 0, .int .u32 0, .int .u32 0, .int .u32 0, .slice none 0 0, .bool false, .string ⟨#[]⟩] 32)).setRow wj.heap.size #[.int .i64 0, .int .i64 0, .int .u32 0, .int .u32 0, .int .u32 0, .slice none 0 0, .bool false, .string ⟨#[]⟩] = wk at *
          go_wp2_with fail
          refine (HSOU.out _ (has_here HVK.out)).mono ?_
          rintro e wl ⟨rfl, hh⟩
          have HVL := Lib.hid (HVK.out.next hh.below)
          have HGL := Lib.hid (HGK.out.next hh.below)
          clear hh
          go_wp2_with fail
          go_roundw
          case rel => exact ⟨kk + 1, by omega, by omega, by go_num, HVL, HGL⟩
          case measure => simp [intOf]; omega
      · have d1 : (C != 0) = true := by rw [bne_iff_ne]; exact hc
        clear hc HPP HOK HPV HBY HPF HFB0 HFBU HOO HSOU HEQ
        go_wp2_with fail
        go_roundw
        case rel => exact ⟨kk + 1, by omega, by omega, by go_num, HV8, HG8⟩
        case measure => simp [intOf]; omega
    · by_cases hl : kk < ln0
      · have hq : ¬ kk < 12 := fun h => hgo ⟨hl, h⟩
        have e1 : decide (kk < ln0) = true := decide_eq_true hl
        have e2 : decide ((kk : Int) < (ln0 : Int)) = true := decide_eq_true (by omega)
        have e3 : decide ((kk : Int) < 12) = false := decide_eq_false (by omega)
        clear hgo hl hq
        go_wp2_with fail
        refine (HSIZE.out _ HV.out.below).mono ?_
        rintro e wz ⟨rfl, hb⟩
        have HB := Lib.hid (HV.out.below.trans (hb.mono HV.out.below.size))
        clear hb
        go_wp2_with fail
        go_ret
        exact ⟨by first | rfl | simp, HB.out⟩
      · have e1 : decide (kk < ln0) = false := decide_eq_false hl
        have e2 : decide ((kk : Int) < (ln0 : Int)) = false := decide_eq_false (by omega)
        clear hgo hl
        go_wp2_with fail
        refine (HSIZE.out _ HV.out.below).mono ?_
        rintro e wz ⟨rfl, hb⟩
        have HB := Lib.hid (HV.out.below.trans (hb.mono HV.out.below.size))
        clear hb
        go_wp2_with fail
        go_ret
        exact ⟨by first | rfl | simp, HB.out⟩
end Go.Proofs.YtgphgbajgjddfaaDoor
