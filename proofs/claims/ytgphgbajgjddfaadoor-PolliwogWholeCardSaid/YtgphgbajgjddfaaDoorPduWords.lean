/- The contracts of package pdu's words and of the library's Clone of a row of numbers. Conditions: the variables lie as their initialisers leave them; the row lies as a row does; the numbers fit their kinds. -/
import Derived.Test.YtgphgbajgjddfaaDoorPduUnit
import Derived.Test.YtgphgbajgjddfaaDoorAppendSrc
import Derived.Deep.RegionHeld3
import Derived.RegionTactic
import Derived.WalkSpells
import Derived.Lib.SliceRun
import Derived.Deep.DeepCutAuto
namespace Go.Proofs.YtgphgbajgjddfaaDoor
open Go.RowKit
set_option linter.unusedVariables false
set_option linter.unusedSimpArgs false

theorem infoNum0 : (Tryd.prog.info? 29).map (fun i => (i.zero, i.size, i.bytes)) = some (some (.int .u32 0), 1, 4) := by kernel_rfl

/-- v is a row of the call's own (from block B on) of the numbers xs. -/
def OwnNums (w : World) (B : Nat) (v : Value) (xs : List Int) : Prop := w.ownsRow B 29 1 v xs.length (xs.map (Value.int .u32))

theorem src_row {w : World} {A : Option Addr} {xs : List Int} (hc : xs = [] ∨ ∃ b off, A = some ⟨b, off, none⟩ ∧ b < w.heap.size ∧ ∀ i x, xs[i]? = some x → w.cell? ⟨b, off + i, none⟩ = some (.int .u32 x)) :
    ∀ ad, A = some ad → ∀ j u, (xs.map (Value.int .u32))[j]? = some u → w.cell? (ad.add j) = some u := by
  intro ad hA j u hj
  rcases hc with rfl | ⟨b, off, rfl, _, hc⟩
  · simp at hj
  · injection hA with hA
    subst hA
    rw [List.getElem?_map] at hj
    cases hx : xs[j]? with
    | none => rw [hx] at hj; simp at hj
    | some x =>
      rw [hx] at hj
      simp only [Option.map_some, Option.some.injEq] at hj
      subst hj
      rw [Addr.add_lit]
      exact hc j x hx

set_option maxHeartbeats 1000000 in
set_option maxRecDepth 100000 in
theorem num_clone (v : Value) (xs : List Int) (w : World) (h : NumRow w v xs) :
    Calls Tryd.prog 40 #[v] w fun e w' => ∃ v', e = .returned v' ∧ OwnNums w' w.heap.size v' xs ∧ Below w.heap.size w w' := by
  have q22 : ∀ (w : World) (a : Option Addr) (n c n' c' : Nat), (binOp .eql 30 (.slice a n c) (.slice none n' c')).run Tryd.prog w = .ok (.bool a.isNone) w := fun w a n c n' c' => Lib.run_eql_slice_nil w _ _ a n c n' c' Tryd.underlying30
  obtain ⟨A, cap, rfl, hl, hc⟩ := h
  obtain ⟨i0, hi, hz0, hz1, hz2⟩ := info_parts infoNum0
  have Hi := Lib.hid hi
  have Hz0 := Lib.hid hz0
  have Hz1 := Lib.hid hz1
  have Hz2 := Lib.hid hz2
  clear hi hz0 hz1 hz2
  cases A with
  | none =>
    obtain rfl : xs = [] := by
      rcases hc with h | ⟨_, _, h, _⟩
      · exact h
      · cases h
    clear hc
    go_enter Tryd.func40, Tryd.ntmps40
    go_wp2_with fail
    go_ret
    exact ⟨_, rfl, World.ownsRow_nil w _ _ _, Below.refl _ _⟩
  | some ad =>
    have HC := Lib.hid hc
    have HL := Lib.hid hl
    clear hc hl
    go_enter Tryd.func40, Tryd.ntmps40
    go_wp2_with (at_builtin; refine wpList_append_src (w.alloc (.cells #[] 29)) rfl (.tmp 5) (.tmp 6) 30 rfl w.heap.size 29 i0 (.int .u32 0) 1 4 Tryd.underlying30 Hi.out Hz0.out Hz1.out Hz2.out rfl (by decide) (.slice (some ⟨w.heap.size, 0, none⟩) 0 0) 0 [] rfl (World.ownsRow_made (base := w.heap.size) (e := 29) (size := 1) w #[] 0 (Nat.le_refl _) (Nat.zero_le _) rfl) (some ad) xs.length cap (xs.map (Value.int .u32)) rfl (by rw [List.length_map, Nat.mul_one]) (fun h => by cases h) (fun b hb j u hj => by have hh := src_row HC.out b hb j u hj; exact Lib.cell?_alloc_some _ hh) (fun u hu => by obtain ⟨x, _, rfl⟩ := List.mem_map.1 hu; rfl) (by have := HL.out; unfold maxLen; omega) (by have := HL.out; omega) (by simp) ?_; intro v5 w5 hown4 hg4 hv4; have HO5 := Lib.hid hown4; have HW5 := Lib.hid (((Below.refl _ w).alloc (Nat.le_refl _) _).grown hg4 (by simp) (by intro k hk; simp [Value.ownBlock] at hk; omega)); clear hown4 hg4 hv4)
    go_ret
    exact ⟨_, rfl, by have h := HO5.out; rw [Nat.zero_add, List.nil_append] at h; exact h, HW5.out⟩

/-- A unit lies in block b. -/
def BoxAt (w : World) (b : Nat) (k sq n ps mr : Int) (l : Value) (se : Bool) (d : ByteArray) : Prop :=
  w.cell? ⟨b, 0, none⟩ = some (.int .i64 k) ∧ w.cell? ⟨b, 1, none⟩ = some (.int .i64 sq) ∧ w.cell? ⟨b, 2, none⟩ = some (.int .u32 n) ∧ w.cell? ⟨b, 3, none⟩ = some (.int .u32 ps) ∧ w.cell? ⟨b, 4, none⟩ = some (.int .u32 mr) ∧ w.cell? ⟨b, 5, none⟩ = some l ∧ w.cell? ⟨b, 6, none⟩ = some (.bool se) ∧ w.cell? ⟨b, 7, none⟩ = some (.string d)
theorem box_new (w : World) (k sq n ps mr : Int) (l : Value) (se : Bool) (d : ByteArray) : BoxAt (w.alloc (.cells #[.int .i64 k, .int .i64 sq, .int .u32 n, .int .u32 ps, .int .u32 mr, l, .bool se, .string d] 32)) w.heap.size k sq n ps mr l se d := by
  have hn := heap_alloc_new w (.cells #[.int .i64 k, .int .i64 sq, .int .u32 n, .int .u32 ps, .int .u32 mr, l, .bool se, .string d] 32)
  refine ⟨?_, ?_, ?_, ?_, ?_, ?_, ?_, ?_⟩
  · rw [cell_of_row _ _ 0 _ _ (0, 0) hn]; rfl
  · rw [cell_of_row _ _ 1 _ _ (0, 0) hn]; rfl
  · rw [cell_of_row _ _ 2 _ _ (0, 0) hn]; rfl
  · rw [cell_of_row _ _ 3 _ _ (0, 0) hn]; rfl
  · rw [cell_of_row _ _ 4 _ _ (0, 0) hn]; rfl
  · rw [cell_of_row _ _ 5 _ _ (0, 0) hn]; rfl
  · rw [cell_of_row _ _ 6 _ _ (0, 0) hn]; rfl
  · rw [cell_of_row _ _ 7 _ _ (0, 0) hn]; rfl
theorem BoxAt.of_block {w w' : World} {b : Nat} {k sq n ps mr : Int} {l : Value} {se : Bool} {d : ByteArray} (h : BoxAt w b k sq n ps mr l se d) (hb : w'.heap[b]? = w.heap[b]?) : BoxAt w' b k sq n ps mr l se d := by
  have e : ∀ j, w'.cell? ⟨b, j, none⟩ = w.cell? ⟨b, j, none⟩ := fun j => World.cell?_of_block (a := ⟨b, j, none⟩) hb
  unfold BoxAt
  rw [e, e, e, e, e, e, e, e]
  exact h
theorem BoxAt.lt {w : World} {b : Nat} {k sq n ps mr : Int} {l : Value} {se : Bool} {d : ByteArray} (h : BoxAt w b k sq n ps mr l se d) : b < w.heap.size := World.block_lt_of_cell? w ⟨b, 0, none⟩ h.1
theorem BoxAt.next {w w' : World} {b : Nat} {k sq n ps mr : Int} {l : Value} {se : Bool} {d : ByteArray} (h : BoxAt w b k sq n ps mr l se d) (hb : Below w.heap.size w w') : BoxAt w' b k sq n ps mr l se d := h.of_block (hb.block b h.lt)

/-- What the units of kind k have lies in block g. -/
def HasAt (w : World) (g k : Nat) : Prop :=
  w.cell? ⟨g, 0, none⟩ = some (.bool (hasSQ k)) ∧ w.cell? ⟨g, 1, none⟩ = some (.bool (hasPS k)) ∧ w.cell? ⟨g, 2, none⟩ = some (.bool (hasMR k))
theorem has_new (w : World) (k : Nat) (a b c d : Value) : HasAt (w.alloc (.cells #[.bool (hasSQ k), .bool (hasPS k), .bool (hasMR k), a, b, c, d] 69)) w.heap.size k := by
  have hn := heap_alloc_new w (.cells #[.bool (hasSQ k), .bool (hasPS k), .bool (hasMR k), a, b, c, d] 69)
  refine ⟨?_, ?_, ?_⟩
  · rw [cell_of_row _ _ 0 _ _ (0, 0) hn]; rfl
  · rw [cell_of_row _ _ 1 _ _ (0, 0) hn]; rfl
  · rw [cell_of_row _ _ 2 _ _ (0, 0) hn]; rfl
theorem HasAt.of_block {w w' : World} {g k : Nat} (h : HasAt w g k) (hb : w'.heap[g]? = w.heap[g]?) : HasAt w' g k := by
  have e : ∀ j, w'.cell? ⟨g, j, none⟩ = w.cell? ⟨g, j, none⟩ := fun j => World.cell?_of_block (a := ⟨g, j, none⟩) hb
  unfold HasAt
  rw [e, e, e]
  exact h
theorem HasAt.lt {w : World} {g k : Nat} (h : HasAt w g k) : g < w.heap.size := World.block_lt_of_cell? w ⟨g, 0, none⟩ h.1
theorem HasAt.next {w w' : World} {g k : Nat} (h : HasAt w g k) (hb : Below w.heap.size w w') : HasAt w' g k := h.of_block (hb.block g h.lt)

/-- Where words is: the row so far is ys; the unit's box, what its kind has. -/
structure WordsAt (W w' : World) (bx g k : Nat) (sq n ps mr : Int) (l : Value) (se : Bool) (d : ByteArray) (v : Value) (ys : List Int) : Prop where
  own : OwnNums w' W.heap.size v ys
  has : HasAt w' g k
  box : BoxAt w' bx (k : Int) sq n ps mr l se d
  bel : Below W.heap.size W w'
  bxlt : bx < W.heap.size
  ne : v.ownBlock ≠ some g
theorem own_alloc {w : World} {B : Nat} {v : Value} {ys : List Int} (h : OwnNums w B v ys) (o : Obj) : OwnNums (w.alloc o) B v ys := World.ownsRow.alloc h o
theorem WordsAt.push {W w' w5 : World} {bx g k : Nat} {sq n ps mr : Int} {l : Value} {se : Bool} {d : ByteArray} {v v5 : Value} {ys : List Int} (h : WordsAt W w' bx g k sq n ps mr l se d v ys) (x : Int) (o : Obj)
    (ho : w5.ownsRow W.heap.size 29 1 v5 (ys.length + 1) (ys.map (Value.int .u32) ++ [.int .u32 x])) (hg : (w'.alloc o).grownBy w5 v.ownBlock) (hv : v5.ownBlock = v.ownBlock ∨ v5.ownBlock = some (w'.alloc o).heap.size) :
    WordsAt W w5 bx g k sq n ps mr l se d v5 (ys ++ [x]) := by
  have hgl := h.has.lt
  have hbl := h.box.lt
  have hB : Below w'.heap.size w' (w'.alloc o) := (Below.refl _ w').alloc (Nat.le_refl _) o
  have hbel : Below W.heap.size W w5 := (h.bel.alloc h.bel.size o).grown hg (by rw [World.size_alloc]; have := h.bel.size; omega) (fun j hj => (World.ownsRow.lt h.own j hj).1)
  refine ⟨?_, ?_, ?_, hbel, h.bxlt, ?_⟩
  · unfold OwnNums; rw [List.length_append, List.map_append]; exact ho
  · exact (h.has.next hB).of_block (hg.block g (by rw [World.size_alloc]; omega) (fun e => h.ne e.symm))
  · exact (h.box.next hB).of_block (hg.block bx (by rw [World.size_alloc]; omega) (fun e => by have := (World.ownsRow.lt h.own _ e.symm).1; have := h.bxlt; omega))
  · rcases hv with e | e
    · rw [e]; exact h.ne
    · rw [e]; intro h'; injection h' with h'; rw [World.size_alloc] at h'; omega

def wordsL (k : Nat) (sq ps mr : Int) (xs : List Int) : List Int := xs ++ (if hasSQ k = true then [sq] else []) ++ (if hasPS k = true then [ps] else []) ++ (if hasMR k = true then [mr] else [])
theorem one_src' {w : World} {b : Nat} {x : Value} (h : w.cell? ⟨b, 0, none⟩ = some x) : ∀ ad, some (⟨b, 0, none⟩ : Addr) = some ad → ∀ j u, [x][j]? = some u → w.cell? (ad.add j) = some u := by
  intro ad he j u hj
  injection he with he
  subst he
  match j with
  | 0 => simp at hj; subst hj; rw [Addr.add_lit]; exact h
  | j + 1 => simp at hj
theorem one_new' (w : World) (x : Value) (t : TypeId) : (w.alloc (.cells #[x] t)).cell? ⟨w.heap.size, 0, none⟩ = some x := by rw [cell_of_row _ _ 0 _ _ (0, 0) (heap_alloc_new w _)]; rfl

theorem zero_there {w : World} {g : Nat} (h : w.heap[g]? = some (.cells #[.bool false, .bool false, .bool false, .bool false, .bool false, .int .i64 0, .int .i64 0] 69 (0, 0))) :
    w.cell? ⟨g, 0, none⟩ = some (.bool false) ∧ w.cell? ⟨g, 1, none⟩ = some (.bool false) ∧ w.cell? ⟨g, 2, none⟩ = some (.bool false) ∧ w.cell? ⟨g, 3, none⟩ = some (.bool false) ∧ w.cell? ⟨g, 4, none⟩ = some (.bool false) ∧ w.cell? ⟨g, 5, none⟩ = some (.int .i64 0) ∧ w.cell? ⟨g, 6, none⟩ = some (.int .i64 0) ∧
    w.frozen? ⟨g, 0, none⟩ = false ∧ w.frozen? ⟨g, 1, none⟩ = false ∧ w.frozen? ⟨g, 2, none⟩ = false ∧ w.frozen? ⟨g, 3, none⟩ = false ∧ w.frozen? ⟨g, 4, none⟩ = false ∧ w.frozen? ⟨g, 5, none⟩ = false ∧ w.frozen? ⟨g, 6, none⟩ = false := by
  refine ⟨?_, ?_, ?_, ?_, ?_, ?_, ?_, ?_, ?_, ?_, ?_, ?_, ?_, ?_⟩
  all_goals first | (simp [World.cell?, h]; done) | (simp [World.frozen?, h]; done)
theorem late_block {W1 wr : World} {g : Nat} {o : Obj} (hb : Below W1.heap.size W1 wr) (h : W1.heap[g]? = some o) : wr.heap[g]? = some o := by
  rw [hb.block g (Array.getElem?_eq_some_iff.1 h).1]; exact h

theorem below_set {B : Nat} {a w : World} (h : Below B a w) (i : Nat) (u : Value) : Below B a (w.setCell ⟨B, i, none⟩ u) := h.setCell (Nat.le_refl _) u

theorem set7 (w : World) (g : Nat) (a b c d e f h : Value) (hg : w.heap[g]? = some (.cells #[.bool false, .bool false, .bool false, .bool false, .bool false, .int .i64 0, .int .i64 0] 69 (0, 0))) :
    ((((((w.setCell ⟨g, 0, none⟩ a).setCell ⟨g, 1, none⟩ b).setCell ⟨g, 2, none⟩ c).setCell ⟨g, 3, none⟩ d).setCell ⟨g, 4, none⟩ e).setCell ⟨g, 5, none⟩ f).setCell ⟨g, 6, none⟩ h = w.setRow g #[a, b, c, d, e, f, h] := by
  rw [setCell_eq_setRow w g 0 _ _ _ a hg]
  rw [setCell_eq_setRow _ g 1 _ _ _ b (setRow_heap w g _ _ _ _ hg), setRow_setRow]
  rw [setCell_eq_setRow _ g 2 _ _ _ c (setRow_heap w g _ _ _ _ hg), setRow_setRow]
  rw [setCell_eq_setRow _ g 3 _ _ _ d (setRow_heap w g _ _ _ _ hg), setRow_setRow]
  rw [setCell_eq_setRow _ g 4 _ _ _ e (setRow_heap w g _ _ _ _ hg), setRow_setRow]
  rw [setCell_eq_setRow _ g 5 _ _ _ f (setRow_heap w g _ _ _ _ hg), setRow_setRow]
  rw [setCell_eq_setRow _ g 6 _ _ _ h (setRow_heap w g _ _ _ _ hg), setRow_setRow]
  rfl
theorem OwnNums.mono {w : World} {B B' : Nat} {v : Value} {ys : List Int} (h : OwnNums w B v ys) (hB : B' ≤ B) : OwnNums w B' v ys := by
  refine ⟨h.1, ?_⟩
  rcases h.2 with hn | ⟨g, cap, cur, e, hb, rest⟩
  · exact .inl hn
  · exact .inr ⟨g, cap, cur, e, Nat.le_trans hB hb, rest⟩
theorem words_one {W W0 wr : World} {bx k : Nat} {sq n ps mr : Int} {l : Value} {se : Bool} {d : ByteArray} {v : Value} {xs : List Int} (a b c e : Value) (hbx : BoxAt W bx (k : Int) sq n ps mr l se d) (hbel : Below W.heap.size W wr) (hlt : bx < W.heap.size) (ho : OwnNums wr W0.heap.size v xs) (h0 : W0.heap.size = W.heap.size) :
    WordsAt W (wr.alloc (.cells #[.bool (hasSQ k), .bool (hasPS k), .bool (hasMR k), a, b, c, e] 69)) bx wr.heap.size k sq n ps mr l se d v xs :=
  ⟨own_alloc (h0 ▸ ho) _, has_new wr k _ _ _ _, (hbx.next hbel).next ((Below.refl _ _).alloc (Nat.le_refl _) _), hbel.alloc hbel.size _, hlt, fun h => by have := (World.ownsRow.lt ho _ h).2; omega⟩
theorem words_two {W W0 wr : World} {bx k : Nat} {sq n ps mr : Int} {l : Value} {se : Bool} {d : ByteArray} {v : Value} {xs : List Int} (a b c e : Value) (hbx : BoxAt W bx (k : Int) sq n ps mr l se d) (hbel : Below W.heap.size W wr) (hlt : bx < W.heap.size) (ho : OwnNums wr W0.heap.size v xs) (h0 : W0.heap.size = W.heap.size + 1)
    (hg : wr.heap[W.heap.size]? = some (.cells #[.bool false, .bool false, .bool false, .bool false, .bool false, .int .i64 0, .int .i64 0] 69 (0, 0))) :
    WordsAt W (((((((wr.setCell ⟨W.heap.size, 0, none⟩ (.bool (hasSQ k))).setCell ⟨W.heap.size, 1, none⟩ (.bool (hasPS k))).setCell ⟨W.heap.size, 2, none⟩ (.bool (hasMR k))).setCell ⟨W.heap.size, 3, none⟩ a).setCell ⟨W.heap.size, 4, none⟩ b).setCell ⟨W.heap.size, 5, none⟩ c).setCell ⟨W.heap.size, 6, none⟩ e) bx W.heap.size k sq n ps mr l se d v xs := by
  rw [set7 wr W.heap.size _ _ _ _ _ _ _ hg]
  have hne : ∀ j, v.ownBlock = some j → W.heap.size < j := fun j hj => by have := (World.ownsRow.lt ho j hj).1; omega
  refine ⟨?_, ?_, ?_, ?_, hlt, fun h => by have := hne _ h; omega⟩
  · exact World.ownsRow.kept (row := some W.heap.size) (ho.mono (by omega)) ⟨rfl, rfl, rfl, by simp, fun j _ hj => setRow_other _ _ _ _ (fun h => hj (by rw [h]))⟩ (by
      cases hv : v.ownBlock with
      | none => exact .inl rfl
      | some j => right; intro h; injection h with h; have := hne j hv; omega)
  · have hn := setRow_heap wr W.heap.size _ #[.bool (hasSQ k), .bool (hasPS k), .bool (hasMR k), a, b, c, e] _ _ hg
    refine ⟨?_, ?_, ?_⟩
    · rw [cell_of_row _ _ 0 _ _ (0, 0) hn]; rfl
    · rw [cell_of_row _ _ 1 _ _ (0, 0) hn]; rfl
    · rw [cell_of_row _ _ 2 _ _ (0, 0) hn]; rfl
  · exact (hbx.next hbel).of_block (setRow_other _ _ _ _ (by omega))
  · exact below_setRow hbel (Nat.le_refl _) _

def Seen9 (w' : World) (b k : Nat) (l : Value) : Prop :=
  w'.cell? ⟨b, 0, none⟩ = some (.int .i64 (k : Int)) ∧ w'.cell? ⟨b, 5, none⟩ = some l ∧ w'.cell? ⟨0, k * 7, none⟩ = some (.bool (hasSQ k)) ∧ w'.cell? ⟨0, k * 7 + 1, none⟩ = some (.bool (hasPS k)) ∧ w'.cell? ⟨0, k * 7 + 2, none⟩ = some (.bool (hasMR k)) ∧ w'.cell? ⟨0, k * 7 + 3, none⟩ = some (.bool (hasN k)) ∧ w'.cell? ⟨0, k * 7 + 4, none⟩ = some (.bool (hasSelf k)) ∧ w'.cell? ⟨0, k * 7 + 5, none⟩ = some (.int .i64 (listOf k)) ∧ w'.cell? ⟨0, k * 7 + 6, none⟩ = some (.int .i64 (most k))
theorem Seen9.next {W w' : World} {b k : Nat} {l : Value} (h : Seen9 W b k l) (hlt : b < W.heap.size) (hb : Below W.heap.size W w') : Seen9 w' b k l := by
  have e : ∀ j, w'.cell? ⟨b, j, none⟩ = W.cell? ⟨b, j, none⟩ := fun j => hb.cell (p := ⟨b, j, none⟩) hlt
  have f : ∀ j, w'.cell? ⟨0, j, none⟩ = W.cell? ⟨0, j, none⟩ := fun j => hb.cell (p := ⟨0, j, none⟩) (show 0 < W.heap.size by omega)
  unfold Seen9
  rw [e, e, f, f, f, f, f, f, f]
  exact h

set_option maxHeartbeats 4000000 in
set_option maxRecDepth 100000 in
theorem pdu_words (k : Nat) (sq n ps mr : Int) (p : Option Addr) (len cap : Nat) (xs : List Int) (se : Bool) (d : ByteArray) (w : World) (hk : k < 16) (hS : ShapesIn w) (hr : NumRow w (.slice p len cap) xs) (hsq : 0 ≤ sq ∧ sq ≤ 255) (h2 : 0 ≤ ps ∧ ps < 4294967296) (h3 : 0 ≤ mr ∧ mr < 4294967296) (hxl : xs.length ≤ 1000) :
    Calls Tryd.prog 26 #[.agg #[.int .i64 (k : Int), .int .i64 sq, .int .u32 n, .int .u32 ps, .int .u32 mr, .slice p len cap, .bool se, .string d]] w fun e w' => ∃ v', e = .returned v' ∧ OwnNums w' w.heap.size v' (wordsL k sq ps mr xs) ∧ Below w.heap.size w w' := by
  obtain ⟨i0, hi, hz0, hz1, hz2⟩ := info_parts infoNum0
  have Hi := Lib.hid hi
  have Hz0 := Lib.hid hz0
  have Hz1 := Lib.hid hz1
  have Hz2 := Lib.hid hz2
  have HXL := Lib.hid hxl
  clear hi hz0 hz1 hz2 hxl
  have HR := Lib.hid (hr.below ((Below.refl _ w).alloc (Nat.le_refl _) (.cells #[.int .i64 (k : Int), .int .i64 sq, .int .u32 n, .int .u32 ps, .int .u32 mr, .slice p len cap, .bool se, .string d] 32)))
  have HBX := Lib.hid (box_new w (k : Int) sq n ps mr (.slice p len cap) se d)
  have hw1 : w.heap.size < (w.alloc (.cells #[.int .i64 (k : Int), .int .i64 sq, .int .u32 n, .int .u32 ps, .int .u32 mr, .slice p len cap, .bool se, .string d] 32)).heap.size := by simp
  have hn := heap_alloc_new w (.cells #[.int .i64 (k : Int), .int .i64 sq, .int .u32 n, .int .u32 ps, .int .u32 mr, .slice p len cap, .bool se, .string d] 32)
  have x0 : (w.alloc (.cells #[.int .i64 (k : Int), .int .i64 sq, .int .u32 n, .int .u32 ps, .int .u32 mr, .slice p len cap, .bool se, .string d] 32)).cell? ⟨w.heap.size, 0, none⟩ = some (.int .i64 (k : Int)) := by rw [cell_of_row _ _ 0 _ _ (0, 0) hn]; rfl
  have x1 : (w.alloc (.cells #[.int .i64 (k : Int), .int .i64 sq, .int .u32 n, .int .u32 ps, .int .u32 mr, .slice p len cap, .bool se, .string d] 32)).cell? ⟨w.heap.size, 1, none⟩ = some (.int .i64 sq) := by rw [cell_of_row _ _ 1 _ _ (0, 0) hn]; rfl
  have x2 : (w.alloc (.cells #[.int .i64 (k : Int), .int .i64 sq, .int .u32 n, .int .u32 ps, .int .u32 mr, .slice p len cap, .bool se, .string d] 32)).cell? ⟨w.heap.size, 2, none⟩ = some (.int .u32 n) := by rw [cell_of_row _ _ 2 _ _ (0, 0) hn]; rfl
  have x3 : (w.alloc (.cells #[.int .i64 (k : Int), .int .i64 sq, .int .u32 n, .int .u32 ps, .int .u32 mr, .slice p len cap, .bool se, .string d] 32)).cell? ⟨w.heap.size, 3, none⟩ = some (.int .u32 ps) := by rw [cell_of_row _ _ 3 _ _ (0, 0) hn]; rfl
  have x4 : (w.alloc (.cells #[.int .i64 (k : Int), .int .i64 sq, .int .u32 n, .int .u32 ps, .int .u32 mr, .slice p len cap, .bool se, .string d] 32)).cell? ⟨w.heap.size, 4, none⟩ = some (.int .u32 mr) := by rw [cell_of_row _ _ 4 _ _ (0, 0) hn]; rfl
  have x5 : (w.alloc (.cells #[.int .i64 (k : Int), .int .i64 sq, .int .u32 n, .int .u32 ps, .int .u32 mr, .slice p len cap, .bool se, .string d] 32)).cell? ⟨w.heap.size, 5, none⟩ = some (.slice p len cap) := by rw [cell_of_row _ _ 5 _ _ (0, 0) hn]; rfl
  have x6 : (w.alloc (.cells #[.int .i64 (k : Int), .int .i64 sq, .int .u32 n, .int .u32 ps, .int .u32 mr, .slice p len cap, .bool se, .string d] 32)).cell? ⟨w.heap.size, 6, none⟩ = some (.bool se) := by rw [cell_of_row _ _ 6 _ _ (0, 0) hn]; rfl
  have x7 : (w.alloc (.cells #[.int .i64 (k : Int), .int .i64 sq, .int .u32 n, .int .u32 ps, .int .u32 mr, .slice p len cap, .bool se, .string d] 32)).cell? ⟨w.heap.size, 7, none⟩ = some (.string d) := by rw [cell_of_row _ _ 7 _ _ (0, 0) hn]; rfl
  have hb := (Below.refl _ w).alloc (Nat.le_refl _) (.cells #[.int .i64 (k : Int), .int .i64 sq, .int .u32 n, .int .u32 ps, .int .u32 mr, .slice p len cap, .bool se, .string d] 32)
  have hS1 := hS.next hb
  obtain ⟨v0, v1, v2, v3, v4, v5, v6⟩ := shape_all k hk
  have s0 := hS1 k 0 hk (by decide)
  have s1 := hS1 k 1 hk (by decide)
  have s2 := hS1 k 2 hk (by decide)
  have s3 := hS1 k 3 hk (by decide)
  have s4 := hS1 k 4 hk (by decide)
  have s5 := hS1 k 5 hk (by decide)
  have s6 := hS1 k 6 hk (by decide)
  rw [Nat.add_zero] at s0
  rw [v0] at s0
  rw [v1] at s1
  rw [v2] at s2
  rw [v3] at s3
  rw [v4] at s4
  rw [v5] at s5
  rw [v6] at s6
  have HB := Lib.hid hb
  have hk0 : (0 : Int) ≤ (k : Int) := by omega
  have hk1 : (k : Int) < 16 := by omega
  clear hn hb hS hS1 v0 v1 v2 v3 v4 v5 v6
  clear x1 x2 x3 x4 x6 x7 hr
  go_enter Tryd.func26, Tryd.ntmps26
  go_upto_region 1 with fail
  generalize w.alloc (.cells #[.int .i64 (k : Int), .int .i64 sq, .int .u32 n, .int .u32 ps, .int .u32 mr, .slice p len cap, .bool se, .string d] 32) = W at *
  have HSS : Hid (Seen9 W w.heap.size k (.slice p len cap)) := (And.intro x0 (And.intro x5 (And.intro s0 (And.intro s1 (And.intro s2 (And.intro s3 (And.intro s4 (And.intro s5 s6))))))))
  go_cut [3, 4] (fun s3 s4 w' => ∃ (w2 : World) (g : Nat), w2 = w' ∧ s4 = .pointer (some ⟨g, 0, none⟩) ∧ Hid (WordsAt W w' w.heap.size g k sq n ps mr (.slice p len cap) se d s3 xs))
  case first =>
    have HCL := Lib.hid (fun W' (h : NumRow W' (.slice p len cap) xs) => num_clone (.slice p len cap) xs W' h)
    have hb0 := Below.refl W.heap.size W
    go_region_held3 (fun w' => w'.cell? ⟨w.heap.size, 0, none⟩ = some (.int .i64 (k : Int)) ∧ w'.cell? ⟨w.heap.size, 5, none⟩ = some (.slice p len cap) ∧ w'.cell? ⟨0, k * 7, none⟩ = some (.bool (hasSQ k)) ∧ w'.cell? ⟨0, k * 7 + 1, none⟩ = some (.bool (hasPS k)) ∧ w'.cell? ⟨0, k * 7 + 2, none⟩ = some (.bool (hasMR k)) ∧ w'.cell? ⟨0, k * 7 + 3, none⟩ = some (.bool (hasN k)) ∧ w'.cell? ⟨0, k * 7 + 4, none⟩ = some (.bool (hasSelf k)) ∧ w'.cell? ⟨0, k * 7 + 5, none⟩ = some (.int .i64 (listOf k)) ∧ w'.cell? ⟨0, k * 7 + 6, none⟩ = some (.int .i64 (most k))) (first | go_keep | exact HSS.out.next hw1 (by repeat (with_reducible first | exact HBM.out | exact hb0 | refine below_set ?_ _ _ | refine Below.drew ?_ | refine Below.alloc ?_ (by first | (exact HBM.out.size; done) | (simp; done) | (simp; omega)) _)))
      (first
        | (go_at_call 40
           refine (HCL.out _ ?_).mono ?_
           · exact HR.out.below (by repeat (with_reducible first | exact hb0 | refine Below.drew ?_ | refine Below.alloc ?_ (by first | (simp; done) | (simp; omega)) _))
           rintro e wr ⟨v', rfl, ho, hbr⟩
           have HBM := Lib.hid (show Below W.heap.size W wr from Below.trans (show Below W.heap.size W _ by repeat (with_reducible first | exact hb0 | refine Below.drew ?_ | refine Below.alloc ?_ (by first | (simp; done) | (simp; omega)) _)) (hbr.mono (by first | (simp; done) | (simp; omega) | omega)))
           have HBN := Lib.hid hbr.block
           have HON := Lib.hid ho
           try (have hq := late_block hbr (heap_alloc_new W (.cells #[.bool false, .bool false, .bool false, .bool false, .bool false, .int .i64 0, .int .i64 0] 69)); obtain ⟨hy0, hy1, hy2, hy3, hy4, hy5, hy6, hz0, hz1, hz2, hz3, hz4, hz5, hz6⟩ := zero_there hq; clear hq)
           clear hbr ho)
        | fail)
    all_goals go_wp2_with fail
    all_goals go_meet
    · exact ⟨_, _, rfl, rfl, words_one _ _ _ _ HBX.out HBM.out hw1 HON.out rfl⟩
    · exact ⟨_, _, rfl, rfl, words_two _ _ _ _ HBX.out HBM.out hw1 HON.out (by simp) (by rw [HBN.out _ (by simp)]; exact heap_alloc_new W _)⟩
  case rest =>
    obtain ⟨w2, g, rfl, rfl, HWA⟩ := hcut
    obtain ⟨w3, v3, rfl, rfl, HWA⟩ : ∃ (w3 : World) (v3 : Value), w3 = w2 ∧ v3 = u3 ∧ Hid (WordsAt W w3 w.heap.size g k sq n ps mr (.slice p len cap) se d v3 xs) := ⟨w2, u3, rfl, rfl, HWA⟩
    obtain ⟨x0, x1, x2, x3, x4, x5, x6, x7⟩ := HWA.out.box
    obtain ⟨y0, y1, y2⟩ := HWA.out.has
    go_upto_if 13 with fail
    clear y0 y1 y2
    go_cut [3] (fun s3 w' => ∃ (w9 : World) (v9 : Value), w9 = w' ∧ v9 = s3 ∧ Hid (WordsAt W w' w.heap.size g k sq n ps mr (.slice p len cap) se d s3 (xs ++ (if hasSQ k = true then [sq] else []))))
    case first =>
      have hyl : (xs).length ≤ xs.length + 0 := by simp
      have HYL := Lib.hid hyl
      clear hyl
      cases hq : hasSQ k with
      | true =>
        have HQ := Lib.hid hq
        clear hq
        generalize xs = ys at *
        go_wp2_with (at_builtin; refine wpList_append_src (w3.alloc (.cells #[.int .u32 sq] 29)) rfl (.tmp 14) (.tmp 18) 30 rfl W.heap.size 29 i0 (.int .u32 0) 1 4 Tryd.underlying30 Hi.out Hz0.out Hz1.out Hz2.out rfl (by decide) v3 ys.length (ys.map (Value.int .u32)) rfl (World.ownsRow.alloc HWA.out.own _) (some ⟨w3.heap.size, 0, none⟩) 1 1 [.int .u32 sq] rfl rfl (fun h => by cases h) (one_src' (one_new' _ _ _)) (fun u hu => by simp at hu; subst hu; rfl) (by have := HXL.out; have := HYL.out; unfold maxLen; omega) (by have := HXL.out; have := HYL.out; omega) (by have := HWA.out.bel.size; rw [World.size_alloc]; omega) ?_; intro v5 w5 hown4 hg4 hv4; have HWB := Lib.hid (HWA.out.push sq _ hown4 hg4 hv4); clear hown4 hg4 hv4)
        go_meet
        exact ⟨_, _, rfl, rfl, by rw [if_pos HQ.out]; exact HWB⟩
      | false =>
        have HQ := Lib.hid hq
        clear hq
        generalize xs = ys at *
        go_wp2_with fail
        go_meet
        exact ⟨_, _, rfl, rfl, by rw [if_neg (by rw [HQ.out]; simp), List.append_nil]; exact HWA⟩
    case rest =>
      clear x0 x1 x2 x3 x4 x5 x6 x7 HWA
      obtain ⟨w4, v4, rfl, rfl, HWA⟩ := hcut
      obtain ⟨x0, x1, x2, x3, x4, x5, x6, x7⟩ := HWA.out.box
      obtain ⟨y0, y1, y2⟩ := HWA.out.has
      go_upto_if 21 with fail
      clear y0 y1 y2
      go_cut [3] (fun s3 w' => ∃ (w9 : World) (v9 : Value), w9 = w' ∧ v9 = s3 ∧ Hid (WordsAt W w' w.heap.size g k sq n ps mr (.slice p len cap) se d s3 ((xs ++ (if hasSQ k = true then [sq] else [])) ++ (if hasPS k = true then [ps] else []))))
      case first =>
        have hyl : ((xs ++ (if hasSQ k = true then [sq] else []))).length ≤ xs.length + 1 := by simp only [List.length_append]; have q : ∀ (b : Bool) (x : Int), (if b = true then [x] else []).length ≤ 1 := fun b x => (by cases b <;> simp); have q1 := q (hasSQ k) sq; have q2 := q (hasPS k) ps; omega
        have HYL := Lib.hid hyl
        clear hyl
        cases hq : hasPS k with
        | true =>
          have HQ := Lib.hid hq
          clear hq
          generalize (xs ++ (if hasSQ k = true then [sq] else [])) = ys at *
          go_wp2_with (at_builtin; refine wpList_append_src (w4.alloc (.cells #[.int .u32 ps] 29)) rfl (.tmp 22) (.tmp 25) 30 rfl W.heap.size 29 i0 (.int .u32 0) 1 4 Tryd.underlying30 Hi.out Hz0.out Hz1.out Hz2.out rfl (by decide) v4 ys.length (ys.map (Value.int .u32)) rfl (World.ownsRow.alloc HWA.out.own _) (some ⟨w4.heap.size, 0, none⟩) 1 1 [.int .u32 ps] rfl rfl (fun h => by cases h) (one_src' (one_new' _ _ _)) (fun u hu => by simp at hu; subst hu; rfl) (by have := HXL.out; have := HYL.out; unfold maxLen; omega) (by have := HXL.out; have := HYL.out; omega) (by have := HWA.out.bel.size; rw [World.size_alloc]; omega) ?_; intro v5 w5 hown4 hg4 hv4; have HWB := Lib.hid (HWA.out.push ps _ hown4 hg4 hv4); clear hown4 hg4 hv4)
          go_meet
          exact ⟨_, _, rfl, rfl, by rw [if_pos HQ.out]; exact HWB⟩
        | false =>
          have HQ := Lib.hid hq
          clear hq
          generalize (xs ++ (if hasSQ k = true then [sq] else [])) = ys at *
          go_wp2_with fail
          go_meet
          exact ⟨_, _, rfl, rfl, by rw [if_neg (by rw [HQ.out]; simp), List.append_nil]; exact HWA⟩
      case rest =>
        clear x0 x1 x2 x3 x4 x5 x6 x7 HWA
        obtain ⟨w5, v5, rfl, rfl, HWA⟩ := hcut
        obtain ⟨x0, x1, x2, x3, x4, x5, x6, x7⟩ := HWA.out.box
        obtain ⟨y0, y1, y2⟩ := HWA.out.has
        go_upto_if 28 with fail
        clear y0 y1 y2
        go_cut [3] (fun s3 w' => ∃ (w9 : World) (v9 : Value), w9 = w' ∧ v9 = s3 ∧ Hid (WordsAt W w' w.heap.size g k sq n ps mr (.slice p len cap) se d s3 (((xs ++ (if hasSQ k = true then [sq] else [])) ++ (if hasPS k = true then [ps] else [])) ++ (if hasMR k = true then [mr] else []))))
        case first =>
          have hyl : (((xs ++ (if hasSQ k = true then [sq] else [])) ++ (if hasPS k = true then [ps] else []))).length ≤ xs.length + 2 := by simp only [List.length_append]; have q : ∀ (b : Bool) (x : Int), (if b = true then [x] else []).length ≤ 1 := fun b x => (by cases b <;> simp); have q1 := q (hasSQ k) sq; have q2 := q (hasPS k) ps; omega
          have HYL := Lib.hid hyl
          clear hyl
          cases hq : hasMR k with
          | true =>
            have HQ := Lib.hid hq
            clear hq
            generalize ((xs ++ (if hasSQ k = true then [sq] else [])) ++ (if hasPS k = true then [ps] else [])) = ys at *
            go_wp2_with (at_builtin; refine wpList_append_src (w5.alloc (.cells #[.int .u32 mr] 29)) rfl (.tmp 29) (.tmp 32) 30 rfl W.heap.size 29 i0 (.int .u32 0) 1 4 Tryd.underlying30 Hi.out Hz0.out Hz1.out Hz2.out rfl (by decide) v5 ys.length (ys.map (Value.int .u32)) rfl (World.ownsRow.alloc HWA.out.own _) (some ⟨w5.heap.size, 0, none⟩) 1 1 [.int .u32 mr] rfl rfl (fun h => by cases h) (one_src' (one_new' _ _ _)) (fun u hu => by simp at hu; subst hu; rfl) (by have := HXL.out; have := HYL.out; unfold maxLen; omega) (by have := HXL.out; have := HYL.out; omega) (by have := HWA.out.bel.size; rw [World.size_alloc]; omega) ?_; intro v5 w5 hown4 hg4 hv4; have HWB := Lib.hid (HWA.out.push mr _ hown4 hg4 hv4); clear hown4 hg4 hv4)
            go_meet
            exact ⟨_, _, rfl, rfl, by rw [if_pos HQ.out]; exact HWB⟩
          | false =>
            have HQ := Lib.hid hq
            clear hq
            generalize ((xs ++ (if hasSQ k = true then [sq] else [])) ++ (if hasPS k = true then [ps] else [])) = ys at *
            go_wp2_with fail
            go_meet
            exact ⟨_, _, rfl, rfl, by rw [if_neg (by rw [HQ.out]; simp), List.append_nil]; exact HWA⟩
        case rest =>
          clear x0 x1 x2 x3 x4 x5 x6 x7 HWA
          obtain ⟨w6, v6, rfl, rfl, HWA⟩ := hcut
          go_wp2_with fail
          go_ret
          exact ⟨_, rfl, HWA.out.own.mono HB.out.size, HB.out.trans (HWA.out.bel.mono HB.out.size)⟩
end Go.Proofs.YtgphgbajgjddfaaDoor
