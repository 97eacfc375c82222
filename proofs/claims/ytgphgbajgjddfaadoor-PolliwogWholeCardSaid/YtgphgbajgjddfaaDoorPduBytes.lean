/- The contract of package pdu's Bytes, of a unit that may be. Conditions: the variables lie as their initialisers leave them; the row lies as a row does; Check answers OK. -/
import Derived.Test.YtgphgbajgjddfaaDoorPduLast
import Derived.Test.YtgphgbajgjddfaaDoorByteRow
import Derived.Test.YtgphgbajgjddfaaDoorCrcTurn
import Derived.Test.YtgphgbajgjddfaaDoorFrameMath
import Derived.Laws.BytesArg
namespace Go.Proofs.YtgphgbajgjddfaaDoor
open Go.RowKit
set_option linter.unusedVariables false
set_option linter.unusedSimpArgs false

def wordB (x : Int) : List Int := [x / 16777216, x / 65536 % 256, x / 256 % 256, x % 256]
def fillOf (n : Nat) : Nat := (4 - n % 4) % 4
def dataI (d : ByteArray) : List Int := (nums d).map Int.ofNat
/-- The words of a unit, the last one too. -/
def allWords (k : Nat) (sq n ps mr : Int) (xs : List Int) (se : Bool) (d : ByteArray) : List Int := wordsL k sq ps mr xs ++ [lastW (fillOf d.size) k n se]
def pduL (k : Nat) (sq n ps mr : Int) (xs : List Int) (se : Bool) (d : ByteArray) : List Int := dataI d ++ List.replicate (fillOf d.size) 0 ++ (allWords k sq n ps mr xs se d).flatMap wordB
/-- The bytes of a unit. -/
def pduB (k : Nat) (sq n ps mr : Int) (xs : List Int) (se : Bool) (d : ByteArray) : ByteArray := strOfNums (pduL k sq n ps mr xs se d)

theorem fitsV_in {x : Int} {b : Bool} {m : Int} (h : fitsV x b m = true) (hm : 0 ≤ m) : 0 ≤ x ∧ x ≤ m := by
  unfold fitsV at h
  rw [Bool.or_eq_true, Bool.and_eq_true, Bool.and_eq_true, beq_iff_eq, decide_eq_true_iff, decide_eq_true_iff] at h
  omega
theorem most_le (k : Nat) : 0 ≤ most k ∧ most k ≤ 200 := by
  unfold most
  repeat' split
  all_goals omega
structure UnitOk (k : Nat) (sq n ps mr : Int) (xs : List Int) (se : Bool) (d : ByteArray) : Prop where
  few : xs.length ≤ 128
  data : d.size ≤ 200
  sq : 0 ≤ sq ∧ sq ≤ 255
  n : 0 ≤ n ∧ n ≤ 16777215
  ps : 0 ≤ ps ∧ ps ≤ 16777215
  mr : 0 ≤ mr ∧ mr ≤ 16777215
  list : ∀ x, x ∈ xs → x ≤ 16777215
theorem unit_ok {k : Nat} {sq n ps mr : Int} {xs : List Int} {se : Bool} {d : ByteArray} (h : checkV k sq n ps mr xs se d = 0) : UnitOk k sq n ps mr xs se d := by
  unfold checkV at h
  split at h
  · omega
  · rename_i hb
    split at h
    · rename_i hg
      rw [Bool.and_eq_true, Bool.and_eq_true] at hg
      obtain ⟨⟨h1, h2⟩, h3⟩ := hg
      unfold tooBigV at hb
      rw [Bool.or_eq_true, Bool.and_eq_true, decide_eq_true_iff, decide_eq_true_iff, decide_eq_true_iff] at hb
      unfold numbersV at h1
      rw [Bool.and_eq_true, Bool.and_eq_true, Bool.and_eq_true] at h1
      obtain ⟨⟨⟨h11, h12⟩, h13⟩, h14⟩ := h1
      unfold listFitsV at h2
      rw [Bool.and_eq_true] at h2
      unfold dataV at h3
      rw [Bool.and_eq_true, Bool.or_eq_true, decide_eq_true_iff, beq_iff_eq] at h3
      have hm := most_le k
      refine ⟨by omega, ?_, fitsV_in h11 (by decide), fitsV_in h12 (by decide), fitsV_in h13 (by decide), fitsV_in h14 (by decide), ?_⟩
      · rcases h3.1 with e | e
        · have : d.size = 0 := by rw [← nums_len]; unfold nums; rw [ByteArray.toList_eq] at e; rw [e]; rfl
          omega
        · have : ¬ (most k < (d.size : Int)) := fun h => hb (.inr ⟨e, h⟩)
          omega
      · intro x hx
        have h21 := h2.1
        unfold anyBig at h21
        rw [Bool.not_eq_true', List.any_eq_false] at h21
        have := h21 x hx
        simp at this
        omega
    · omega

theorem dataI_len (d : ByteArray) : (dataI d).length = d.size := by unfold dataI; rw [List.length_map, nums_len]
theorem brow_start (w : World) (s : ByteArray) (hs : s.size ≤ 1000000) : BRow (Lib.bytesWorld w 5 s) w.heap.size 5 (.slice (some ⟨w.heap.size, 0, none⟩) s.size (grownCap w s.size 0 5)) (dataI s) := by
  have hge := grownCap_ge w s.size 0 5
  refine ⟨w.heap.size, grownCap w s.size 0 5, _, _, _, by rw [dataI_len], Nat.le_refl _, Lib.bytesWorld_at_new w _ s, fun j hj h => by omega, by rw [dataI_len]; exact hge, grownCap_le_maxLen w _ _ _ (by unfold maxLen; omega), ?_, ?_⟩
  · unfold Lib.bytesCells
    rw [Array.size_append, Array.size_map, Array.size_replicate]
    show s.size + _ = _
    omega
  · unfold Lib.bytesCells
    rw [dataI_len, Array.toList_append, Array.toList_map]
    have e : (s.data.toList.map fun b => Value.int .u8 (b.toNat : Int)) = (dataI s).map (Value.int .u8) := by
      unfold dataI nums
      rw [List.map_map, List.map_map]
      rfl
    rw [show (List.map (fun b => Value.int .u8 ↑b.toNat) s.data.toList) = (dataI s).map (Value.int .u8) from e]
    rw [show s.size = ((dataI s).map (Value.int .u8)).length by rw [List.length_map, dataI_len]]
    exact List.take_left
theorem infoByte0 : (Tryd.prog.info? 5).map (fun i => (i.zero, i.size, i.bytes)) = some (some (.int .u8 0), 1, 1) := by kernel_rfl
theorem neg_and3 (n : Nat) (h : n ≤ 1000000) : Go.bits .and .i64 (-(n : Int)) 3 = (fillOf n : Int) := by
  have e3 : (BitVec.ofInt 64 3).toNat = 2 ^ 2 - 1 := by decide
  have e4 : (BitVec.ofInt 64 (-(n : Int)) &&& BitVec.ofInt 64 3).toNat = fillOf n := by
    rw [BitVec.toNat_and, BitVec.toNat_ofInt, e3, Nat.and_two_pow_sub_one_eq_mod]
    unfold fillOf
    omega
  show IntKind.i64.wrap ((BitVec.ofInt 64 (-(n : Int)) &&& BitVec.ofInt 64 3).toNat : Nat) = _
  rw [e4, IntKind.wrap_i64]
  unfold fillOf
  omega
theorem own_next {w w' : World} {B : Nat} {v : Value} {ys : List Int} (h : OwnNums w B v ys) (hb : Below w.heap.size w w') : OwnNums w' B v ys := by
  refine World.ownsRow.kept (row := none) h ⟨hb.os, hb.tape, hb.output, hb.size, fun k hk _ => hb.block k hk⟩ ?_
  cases v.ownBlock with
  | none => exact .inl rfl
  | some j => right; simp
theorem own_drew {w : World} {B : Nat} {v : Value} {ys : List Int} (h : OwnNums w B v ys) : OwnNums w.drew B v ys := own_next h (Below.drew (Below.refl _ _))

theorem own_un {w : World} {B : Nat} {v : Value} {ys : List Int} (h : OwnNums w B v ys) : w.ownsRow B 29 1 v ys.length (ys.map (Value.int .u32)) := h
theorem own_form {w : World} {B size n : Nat} {e : TypeId} {v : Value} {xs : List Value} (h : w.ownsRow B e size v n xs) : ∃ A c, v = .slice A n c := by
  rcases h.2 with ⟨rfl, rfl⟩ | ⟨g, cap, cur, rfl, _⟩
  · exact ⟨none, 0, rfl⟩
  · exact ⟨_, _, rfl⟩
theorem own_cells {w : World} {B : Nat} {v : Value} {ys : List Int} (h : OwnNums w B v ys) (h0 : 0 < ys.length) : ∃ g c, v = .slice (some ⟨g, 0, none⟩) ys.length c ∧ B ≤ g ∧ ∀ j x, ys[j]? = some x → w.cell? ⟨g, 0 + j, none⟩ = some (.int .u32 x) := by
  rcases h.2 with ⟨rfl, e⟩ | ⟨g, cap, cur, rfl, hb, hg, hnc, hcm, hcs, htake⟩
  · omega
  · refine ⟨g, cap, rfl, hb, fun j x hx => ?_⟩
    have := World.ownsRow.cells h (g := g) rfl j (.int .u32 x) (by rw [List.getElem?_map, hx]; rfl)
    rwa [Addr.add_lit] at this
theorem lastW_in (f k : Nat) (n : Int) (se : Bool) (hf : f ≤ 3) (hk : k ≤ 15) (hn : 0 ≤ n ∧ n ≤ 16777215) : 0 ≤ lastW f k n se ∧ lastW f k n se < 4294967296 := by
  unfold lastW
  split <;> omega
theorem allWords_in (k : Nat) (sq n ps mr : Int) (xs : List Int) (se : Bool) (d : ByteArray) (hk : k < 16) (h1 : 0 ≤ sq ∧ sq ≤ 255) (h2 : 0 ≤ n ∧ n ≤ 16777215) (h3 : 0 ≤ ps ∧ ps ≤ 16777215) (h4 : 0 ≤ mr ∧ mr ≤ 16777215) (h5 : ∀ x, x ∈ xs → 0 ≤ x) (h6 : ∀ x, x ∈ xs → x ≤ 16777215) : ∀ x, x ∈ allWords k sq n ps mr xs se d → 0 ≤ x ∧ x < 4294967296 := by
  intro x hx
  unfold allWords wordsL at hx
  simp only [List.mem_append, List.mem_singleton] at hx
  have q : ∀ (b : Bool) (y : Int), x ∈ (if b = true then [y] else []) → x = y := fun b y h => by cases b <;> simp at h; exact h
  rcases hx with (((h | h) | h) | h) | h
  · have := h5 x h; have := h6 x h; omega
  · have := q _ _ h; omega
  · have := q _ _ h; omega
  · have := q _ _ h; omega
  · rw [h]; exact lastW_in _ k n se (by unfold fillOf; omega) (by omega) h2
theorem four_src (w : World) (a b c d : Int) (t : TypeId) : ∀ j q, ([a, b, c, d] : List Int)[j]? = some q → (w.alloc (.cells #[.int .u8 a, .int .u8 b, .int .u8 c, .int .u8 d] t)).cell? ((⟨w.heap.size, 0, none⟩ : Addr).add j) = some (.int .u8 q) := by
  intro j q hj
  have hn := heap_alloc_new w (.cells #[.int .u8 a, .int .u8 b, .int .u8 c, .int .u8 d] t)
  have hl : j < 4 := by
    rcases Nat.lt_or_ge j 4 with h | h
    · exact h
    · rw [List.getElem?_eq_none (by simpa using h)] at hj; cases hj
  rw [Addr.add_lit, Nat.zero_add, cell_of_row _ _ j _ _ (0, 0) hn]
  have hc : j = 0 ∨ j = 1 ∨ j = 2 ∨ j = 3 := by omega
  rcases hc with rfl | rfl | rfl | rfl <;> simp at hj <;> subst hj <;> rfl
theorem ne_own' {v v' : Value} {g n : Nat} (h : v.ownBlock ≠ some g) (hv : v'.ownBlock = v.ownBlock ∨ v'.ownBlock = some n) (hn : g < n) : v'.ownBlock ≠ some g := by
  rcases hv with e | e
  · rw [e]; exact h
  · rw [e]; intro h; injection h with h; omega
theorem one_late {w : World} {b : Nat} {x : Value} {t : TypeId} (h : w.heap[b]? = some (.cells #[x] t (0, 0))) : w.cell? ⟨b, 0, none⟩ = some x := by rw [cell_of_row _ _ 0 _ _ (0, 0) h]; rfl

set_option maxHeartbeats 4000000 in
set_option maxRecDepth 100000 in
theorem pdu_bytes_ok (k : Nat) (sq n ps mr : Int) (p : Option Addr) (len cap : Nat) (xs : List Int) (se : Bool) (d : ByteArray) (w : World) (hk1' : 1 ≤ k ∧ k ≤ 15) (hS : ShapesIn w) (hlen : len = xs.length) (hr : NumRow w (.slice p len cap) xs) (hok : checkV k sq n ps mr xs se d = 0) (hxs : ∀ x, x ∈ xs → 0 ≤ x) :
    Calls Tryd.prog 10 #[.agg #[.int .i64 (k : Int), .int .i64 sq, .int .u32 n, .int .u32 ps, .int .u32 mr, .slice p len cap, .bool se, .string d]] w fun e w' => e = .returned (.string (pduB k sq n ps mr xs se d)) ∧ Below w.heap.size w w' := by
  have hU := unit_ok hok
  obtain ⟨U1, U2, U3, U4, U5, U6, U7⟩ := hU
  have hk : k < 16 := by omega
  have HR := Lib.hid (hr.below ((Below.refl _ w).alloc (Nat.le_refl _) (.cells #[.int .i64 (k : Int), .int .i64 sq, .int .u32 n, .int .u32 ps, .int .u32 mr, .slice p len cap, .bool se, .string d] 32)))
  have HS := Lib.hid (hS.next ((Below.refl _ w).alloc (Nat.le_refl _) (.cells #[.int .i64 (k : Int), .int .i64 sq, .int .u32 n, .int .u32 ps, .int .u32 mr, .slice p len cap, .bool se, .string d] 32)))
  have hw1 : w.heap.size < (w.alloc (.cells #[.int .i64 (k : Int), .int .i64 sq, .int .u32 n, .int .u32 ps, .int .u32 mr, .slice p len cap, .bool se, .string d] 32)).heap.size := by simp
  have HBX := Lib.hid (box_new w (k : Int) sq n ps mr (.slice p len cap) se d)
  have HB := Lib.hid ((Below.refl _ w).alloc (Nat.le_refl _) (.cells #[.int .i64 (k : Int), .int .i64 sq, .int .u32 n, .int .u32 ps, .int .u32 mr, .slice p len cap, .bool se, .string d] 32))
  have HCK : Hid (∀ W, ShapesIn W → NumRow W (.slice p len cap) xs → Calls Tryd.prog 9 #[.agg #[.int .i64 (k : Int), .int .i64 sq, .int .u32 n, .int .u32 ps, .int .u32 mr, .slice p len cap, .bool se, .string d]] W fun e w' => e = .returned (.int .i64 0) ∧ Below W.heap.size W w') := fun W h1 h2 => by
    have h := pdu_check k sq n ps mr p len cap xs se d W hk1' h1 hlen h2 (by omega) (by omega) (by omega)
    rw [hok] at h
    exact h
  have HWD : Hid (∀ W, ShapesIn W → NumRow W (.slice p len cap) xs → Calls Tryd.prog 26 #[.agg #[.int .i64 (k : Int), .int .i64 sq, .int .u32 n, .int .u32 ps, .int .u32 mr, .slice p len cap, .bool se, .string d]] W fun e w' => ∃ v', e = .returned v' ∧ OwnNums w' W.heap.size v' (wordsL k sq ps mr xs) ∧ Below W.heap.size W w') := fun W h1 h2 => pdu_words k sq n ps mr p len cap xs se d W hk h1 h2 U3 (by omega) (by omega) (by omega)
  have HLS : Hid (∀ W, Calls Tryd.prog 27 #[.agg #[.int .i64 (k : Int), .int .i64 sq, .int .u32 n, .int .u32 ps, .int .u32 mr, .slice p len cap, .bool se, .string d], .int .i64 (fillOf d.size : Int)] W fun e w' => e = .returned (.int .u32 (lastW (fillOf d.size) k n se)) ∧ Below W.heap.size W w') := fun W => pdu_last (fillOf d.size) k sq n ps mr p len cap se d W (by unfold fillOf; omega) (by omega) U4
  have hconv := fun W => Lib.run_convert_string_bytes (P := Tryd.prog) W 9 63 5 d Tryd.underlying9 Tryd.underlying63 Tryd.underlying5
  have hbst := fun W => brow_start W d (by omega)
  have hbel := fun W => below_bytes W 5 d
  have HBST := Lib.hid hbst
  have HBEL := Lib.hid hbel
  have hneg := neg_and3 d.size (by omega)
  clear hbst hbel hok hr hS hlen
  obtain ⟨x0, x1, x2, x3, x4, x5, x6, x7⟩ := HBX.out
  go_enter Tryd.func10, Tryd.ntmps10
  go_upto_region 1 with fail
  generalize w.alloc (.cells #[.int .i64 (k : Int), .int .i64 sq, .int .u32 n, .int .u32 ps, .int .u32 mr, .slice p len cap, .bool se, .string d] 32) = W at *
  go_wp2_with fail
  refine (HCK.out _ HS.out HR.out).mono ?_
  rintro e w2 ⟨rfl, hb2⟩
  have HB2 := Lib.hid hb2
  clear x0 x1 x2 x3 x4 x5 x6 x7 hb2
  obtain ⟨x0, x1, x2, x3, x4, x5, x6, x7⟩ := HBX.out.next HB2.out
  go_upto_region 4 with fail
  have HSZ := Lib.hid (show d.size ≤ 200 by omega)
  obtain ⟨i0, hi, hz0, hz1, hz2⟩ := info_parts infoByte0
  have Hi := Lib.hid hi
  have Hz0 := Lib.hid hz0
  have Hz1 := Lib.hid hz1
  have Hz2 := Lib.hid hz2
  clear hi hz0 hz1 hz2
  have HBS2 := Lib.hid (HBST.out w2)
  have HBE2 := Lib.hid (HBEL.out w2)
  clear HBST HBEL
  go_cut [4] (fun s4 w' => ∃ (w3 : World) (vb : Value), w3 = w' ∧ vb = s4 ∧ Hid (BRow w' w2.heap.size 5 s4 (dataI d ++ List.replicate (fillOf d.size) 0)) ∧ Hid (Below w2.heap.size w2 w'))
  case first =>
    generalize hcp : grownCap w2 d.size 0 5 = cp at *
    go_wp2_with (at_builtin; refine wpList_append_frow (Lib.bytesWorld w2 5 d) rfl (.tmp 17) (.tmp 18) 63 3 rfl w2.heap.size 5 i0 Tryd.underlying63 Hi.out Hz0.out Hz1.out Hz2.out (.slice (some ⟨w2.heap.size, 0, none⟩) d.size cp) (.int .i64 (fillOf d.size : Int)) (dataI d) (List.replicate (fillOf d.size) 0) rfl rfl HBS2.out (by rw [Lib.bytesWorld_size]; omega) (by rw [dataI_len, List.length_replicate]; have := HSZ.out; unfold fillOf; omega) (.inr ⟨Tryd.underlying3, by rw [List.length_replicate], fun q hq => List.eq_of_mem_replicate hq⟩) ?_; intro v5 w5 hown4 hg4 hv4; have HO := Lib.hid hown4; have HW5 := Lib.hid (HBE2.out.grown hg4 (by rw [Lib.bytesWorld_size]; omega) (by intro k hk; simp [Value.ownBlock] at hk; omega)); clear hown4 hg4 hv4)
    go_meet
    exact ⟨_, _, rfl, rfl, HO, HW5⟩
  case rest =>
    obtain ⟨w3, vb, rfl, rfl, HBR, HB3⟩ := hcut
    have HBW3 := Lib.hid (HB2.out.trans (HB3.out.mono HB2.out.size))
    have HRN := Lib.hid (fun W' (h : Below w3.heap.size w3 W') => HR.out.below (HBW3.out.trans (h.mono HBW3.out.size)))
    have HSN := Lib.hid (fun W' (h : Below w3.heap.size w3 W') => HS.out.next (HBW3.out.trans (h.mono HBW3.out.size)))
    have HBX3 := Lib.hid (HBX.out.next HBW3.out)
    have hwl : w.heap.size < w3.heap.size := HBX3.out.lt
    clear HR HS HCK HBX hconv hneg HBS2 HBE2 x0 x1 x2 x3 x4 x5 x6 x7
    obtain ⟨x0, x1, x2, x3, x4, x5, x6, x7⟩ := HBX3.out
    have hb0 := Below.refl w3.heap.size w3
    have HPL0 : Hid (pduL k sq n ps mr xs se d = dataI d ++ List.replicate (fillOf d.size) 0 ++ (allWords k sq n ps mr xs se d).flatMap wordB) := rfl
    have HAW := Lib.hid (allWords_in k sq n ps mr xs se d hk (by omega) (by omega) (by omega) (by omega) hxs (fun x hx => by have := U7 x hx; omega))
    have HN : Hid (allWords k sq n ps mr xs se d = wordsL k sq ps mr xs ++ [lastW (fillOf d.size) k n se]) := rfl
    have hnw : (wordsL k sq ps mr xs).length ≤ 131 := by
      unfold wordsL
      simp only [List.length_append]
      have q : ∀ (b : Bool) (x : Int), (if b = true then [x] else []).length ≤ 1 := fun b x => by cases b <;> simp
      have q1 := q (hasSQ k) sq; have q2 := q (hasPS k) ps; have q3 := q (hasMR k) mr
      omega
    generalize allWords k sq n ps mr xs se d = AW at *
    generalize wordsL k sq ps mr xs = WL at *
    generalize lastW (fillOf d.size) k n se = LW at *
    obtain ⟨j0, hj, hjz0, hjz1, hjz2⟩ := info_parts infoNum0
    have Hj := Lib.hid hj
    have Hjz0 := Lib.hid hjz0
    have Hjz1 := Lib.hid hjz1
    have Hjz2 := Lib.hid hjz2
    clear hj hjz0 hjz1 hjz2
    generalize ((fillOf d.size : Nat) : Int) = FI at *
    go_upto_region 5 with fail
    go_cut [26, 27, 28] (fun s26 s27 s28 w' => ∃ (w4 : World) (v : Value) (nw : Nat), w4 = w' ∧ s28 = .int .i64 0 ∧ s27 = .int .i64 (nw : Int) ∧ v = s26 ∧ Hid (nw = AW.length) ∧ Hid (OwnNums w' w3.heap.size v AW) ∧ Hid (Below w3.heap.size w3 w'))
    case first =>
      go_region_held3 (fun w' => w'.cell? ⟨w.heap.size, 0, none⟩ = some (.int .i64 (k : Int)) ∧ w'.cell? ⟨w.heap.size, 1, none⟩ = some (.int .i64 sq) ∧ w'.cell? ⟨w.heap.size, 2, none⟩ = some (.int .u32 n) ∧ w'.cell? ⟨w.heap.size, 3, none⟩ = some (.int .u32 ps) ∧ w'.cell? ⟨w.heap.size, 4, none⟩ = some (.int .u32 mr) ∧ w'.cell? ⟨w.heap.size, 5, none⟩ = some (.slice p len cap) ∧ w'.cell? ⟨w.heap.size, 6, none⟩ = some (.bool se) ∧ w'.cell? ⟨w.heap.size, 7, none⟩ = some (.string d))
        (first | go_keep | exact HBX3.out.next (by repeat (with_reducible first | exact HBA.out | exact HBL.out | exact HBM.out | exact hb0 | refine Below.drew ?_ | refine Below.alloc ?_ (by first | exact HBL.out.size | exact HBM.out.size | (simp; done) | (simp; omega)) _)))
        (first
          | (go_at_call 26
             refine (HWD.out _ ?_ ?_).mono ?_
             · exact HSN.out _ (by repeat (with_reducible first | exact HBL.out | exact hb0 | refine Below.drew ?_ | refine Below.alloc ?_ (by first | exact HBL.out.size | (simp; done) | (simp; omega)) _))
             · exact HRN.out _ (by repeat (with_reducible first | exact HBL.out | exact hb0 | refine Below.drew ?_ | refine Below.alloc ?_ (by first | exact HBL.out.size | (simp; done) | (simp; omega)) _))
             rintro e wr ⟨v', rfl, ho, hbr⟩
             have HBM := Lib.hid (show Below w3.heap.size w3 wr from Below.trans (show Below w3.heap.size w3 _ by repeat (with_reducible first | exact HBL.out | exact hb0 | refine Below.drew ?_ | refine Below.alloc ?_ (by first | exact HBL.out.size | (simp; done) | (simp; omega)) _)) (hbr.mono (by first | exact HBL.out.size | (simp; done) | (simp; omega) | (have := HBL.out.size; simp; omega))))
             have HOW := Lib.hid (ho.mono (show w3.heap.size ≤ _ by first | exact HBL.out.size | (simp; done) | (simp; omega) | (have := HBL.out.size; simp; omega)))
             first | (have HC1 := Lib.hid (late_block hbr (heap_alloc_new wl (.cells #[.int .u32 LW] 29)))) | skip
             clear hbr ho)
          | (go_at_call 27
             refine (HLS.out _).mono ?_
             rintro e wl ⟨rfl, hbl⟩
             have HBL := Lib.hid (show Below w3.heap.size w3 wl from Below.trans (show Below w3.heap.size w3 _ by repeat (with_reducible first | exact HBM.out | exact hb0 | refine Below.drew ?_ | refine Below.alloc ?_ (by first | exact HBM.out.size | (simp; done) | (simp; omega)) _)) (hbl.mono (by first | exact HBM.out.size | (simp; done) | (simp; omega) | (have := HBM.out.size; simp; omega))))
             first | (have HOW2 := Lib.hid (own_next HOW.out hbl)) | (have HOW2 := Lib.hid (own_next (own_drew HOW.out) hbl)) | skip
             clear hbl)
          | (refine step_append_src _ rfl (.tmp 21) (.tmp 25) 30 rfl w3.heap.size 29 j0 (.int .u32 0) 1 4 Tryd.underlying30 Hj.out Hjz0.out Hjz1.out Hjz2.out rfl (by decide) v' WL.length (WL.map (Value.int .u32)) (by rfl) (by repeat (with_reducible first | exact own_un HOW2.out | refine World.ownsRow.drew ?_ | refine World.ownsRow.alloc ?_ _)) (some ⟨wl.heap.size, 0, none⟩) 1 1 [.int .u32 LW] (by rfl) rfl (fun h => by cases h) (one_src' (by first | (simp; done) | exact one_new' _ _ _)) (fun u hu => by simp at hu; subst hu; rfl) (by unfold maxLen; omega) (by omega) (by have h := HBL.out.size; first | exact h | (simp; omega)) ?_
             intro v6' w6 hown6 hg6 _
             obtain ⟨A6, c6, rfl⟩ := own_form hown6
             have HOA : Hid (OwnNums w6 w3.heap.size (.slice A6 (WL.length + 1) c6) (WL ++ [LW])) := (by show OwnNums _ _ _ _; unfold OwnNums; rw [List.length_append, List.map_append]; exact hown6)
             have HBA := Lib.hid (Below.grown (show Below w3.heap.size w3 _ by repeat (with_reducible first | exact HBL.out | refine Below.drew ?_ | refine Below.alloc ?_ (by first | exact HBL.out.size | (have := HBL.out.size; simp; omega)) _)) hg6 (by have h := HBL.out.size; first | exact h | (simp; omega)) (fun j hj => (World.ownsRow.lt HOW2.out j hj).1))
             clear hown6 hg6)
          | (refine step_append_src _ rfl (.tmp 21) (.tmp 25) 30 rfl w3.heap.size 29 j0 (.int .u32 0) 1 4 Tryd.underlying30 Hj.out Hjz0.out Hjz1.out Hjz2.out rfl (by decide) v' WL.length (WL.map (Value.int .u32)) (by rfl) (by repeat (with_reducible first | exact own_un HOW.out | refine World.ownsRow.drew ?_ | refine World.ownsRow.alloc ?_ _)) (some ⟨wr.heap.size, 0, none⟩) 1 1 [.int .u32 LW] (by rfl) rfl (fun h => by cases h) (one_src' (by first | (simp; done) | exact one_new' _ _ _)) (fun u hu => by simp at hu; subst hu; rfl) (by unfold maxLen; omega) (by omega) (by have h := HBM.out.size; first | exact h | (simp; omega)) ?_
             intro v6' w6 hown6 hg6 _
             obtain ⟨A6, c6, rfl⟩ := own_form hown6
             have HOA : Hid (OwnNums w6 w3.heap.size (.slice A6 (WL.length + 1) c6) (WL ++ [LW])) := (by show OwnNums _ _ _ _; unfold OwnNums; rw [List.length_append, List.map_append]; exact hown6)
             have HBA := Lib.hid (Below.grown (show Below w3.heap.size w3 _ by repeat (with_reducible first | exact HBM.out | refine Below.drew ?_ | refine Below.alloc ?_ (by first | exact HBM.out.size | (have := HBM.out.size; simp; omega)) _)) hg6 (by have h := HBM.out.size; first | exact h | (simp; omega)) (fun j hj => (World.ownsRow.lt HOW.out j hj).1))
             clear hown6 hg6)
          | (refine step_append_src _ rfl (.tmp 21) (.tmp 25) 30 rfl w3.heap.size 29 j0 (.int .u32 0) 1 4 Tryd.underlying30 Hj.out Hjz0.out Hjz1.out Hjz2.out rfl (by decide) v' WL.length (WL.map (Value.int .u32)) (by rfl) (by repeat (with_reducible first | exact own_un HOW.out | refine World.ownsRow.drew ?_ | refine World.ownsRow.alloc ?_ _)) (some ⟨wl.heap.size, 0, none⟩) 1 1 [.int .u32 LW] (by rfl) rfl (fun h => by cases h) (one_src' (by first | exact one_late HC1.out | (rw [World.cell?_drew]; exact one_late HC1.out))) (fun u hu => by simp at hu; subst hu; rfl) (by unfold maxLen; omega) (by omega) (by have h := HBM.out.size; first | exact h | (simp; omega)) ?_
             intro v6' w6 hown6 hg6 _
             obtain ⟨A6, c6, rfl⟩ := own_form hown6
             have HOA : Hid (OwnNums w6 w3.heap.size (.slice A6 (WL.length + 1) c6) (WL ++ [LW])) := (by show OwnNums _ _ _ _; unfold OwnNums; rw [List.length_append, List.map_append]; exact hown6)
             have HBA := Lib.hid (Below.grown (show Below w3.heap.size w3 _ by repeat (with_reducible first | exact HBM.out | refine Below.drew ?_ | refine Below.alloc ?_ (by first | exact HBM.out.size | (have := HBM.out.size; simp; omega)) _)) hg6 (by have h := HBM.out.size; first | exact h | (simp; omega)) (fun j hj => (World.ownsRow.lt HOW.out j hj).1))
             clear hown6 hg6)
          | fail)
      all_goals go_wp2_with fail
      all_goals go_meet
      all_goals exact ⟨_, _, WL.length + 1, rfl, rfl, by go_num, rfl, by show _ = _; rw [HN.out, List.length_append]; rfl, by rw [HN.out]; exact HOA, HBA⟩
    case rest =>
      obtain ⟨w4, vw, nw, rfl, rfl, rfl, rfl, HNW, HOA, HBA⟩ := hcut
      have hne : 0 < AW.length := by rw [HN.out, List.length_append]; simp
      have hAW := HAW.out
      have hal : AW.length ≤ 132 := by rw [HN.out, List.length_append]; simp; omega
      obtain rfl := HNW.out
      obtain ⟨ga, ca, rfl, hgl, hcells⟩ := own_cells HOA.out hne
      have HBR4 := Lib.hid (HBR.out.next HBA.out)
      have HNE : Hid (vb.ownBlock ≠ some ga) := fun h => by have := (HBR.out.lt _ h).2; omega
      have HB24 := Lib.hid (HB3.out.trans (HBA.out.mono HB3.out.size))
      have HSZ1 : Hid ((dataI d ++ List.replicate (fillOf d.size) 0).length ≤ 210) := by show _ ≤ _; rw [List.length_append, dataI_len, List.length_replicate]; have := HSZ.out; unfold fillOf; omega
      have HPL : Hid (pduL k sq n ps mr xs se d = dataI d ++ List.replicate (fillOf d.size) 0 ++ AW.flatMap wordB) := HPL0.out
      clear HBR HB3 HBW3 HRN HSN HBX3 x0 x1 x2 x3 x4 x5 x6 x7 HWD HLS hwl HBA hgl HPL0 hb0 hcells
      generalize dataI d ++ List.replicate (fillOf d.size) 0 = DT at *
      have HPB0 : Hid (pduB k sq n ps mr xs se d = strOfNums (pduL k sq n ps mr xs se d)) := rfl
      have HBT := Lib.hid (HB.out.trans (HB2.out.mono HB.out.size))
      generalize pduL k sq n ps mr xs se d = PL at *
      go_wp2_with fail
      go_loopw [4, 28] (fun b i wr => ∃ (j : Nat) (v : Value), j ≤ AW.length ∧ v = b ∧ i = .int .i64 j ∧ Hid (BRow wr w2.heap.size 5 v (DT ++ (AW.take j).flatMap wordB)) ∧ Hid (OwnNums wr w3.heap.size (.slice (some ⟨ga, 0, none⟩) AW.length ca) AW) ∧ Hid (v.ownBlock ≠ some ga) ∧ Hid (Below w2.heap.size w2 wr)) (fun _ i _ => AW.length - (intOf i).toNat)
      case atStart => exact ⟨0, _, by omega, rfl, rfl, by simpa using HBR4, HOA, HNE, HB24⟩
      case round =>
        obtain ⟨j, v, hj, rfl, rfl, HBR, HOW, HNE, HB⟩ := hrel
        by_cases hlt : j < AW.length
        · have ex := List.getElem?_eq_getElem hlt
          have hx := hAW _ (List.getElem_mem hlt)
          obtain ⟨_, _, hv5, _, hcells⟩ := own_cells HOW.out hne
          injection hv5 with hv5 _ hv6
          injection hv5 with hv5
          injection hv5 with hv5
          subst hv5 hv6
          have hcx := hcells j _ ex
          rw [Nat.zero_add] at hcx
          have hbw := HBR.out
          have HTK : Hid (DT ++ (AW.take (j + 1)).flatMap wordB = DT ++ (AW.take j).flatMap wordB ++ wordB AW[j]) := by show _ = _; rw [List.take_succ_eq_append_getElem hlt, List.flatMap_append, List.append_assoc]; simp
          have hll : (DT ++ (AW.take j).flatMap wordB).length ≤ 1000 := by
            have := HSZ1.out
            rw [List.length_append, List.length_flatMap]
            have e : ((AW.take j).map fun a => (wordB a).length) = (AW.take j).map fun _ => 4 := rfl
            rw [e, List.map_const', List.sum_replicate_nat, List.length_take]
            omega
          have HLL := Lib.hid hll
          clear hll hcells ex
          generalize AW[j] = x at *
          have HW4 : Hid (wordB x = [x / 16777216, x / 65536 % 256, x / 256 % 256, x % 256]) := rfl
          generalize wordB x = W4 at *
          generalize DT ++ (AW.take j).flatMap wordB = SO at *
          have HAL := Lib.hid (HBR.out.next ((Below.refl _ wr).alloc (Nat.le_refl _) (.cells #[.int .u8 (x / 16777216), .int .u8 (x / 65536 % 256), .int .u8 (x / 256 % 256), .int .u8 (x % 256)] 5)))
          have HOL := Lib.hid (own_alloc HOW.out (.cells #[.int .u8 (x / 16777216), .int .u8 (x / 65536 % 256), .int .u8 (x / 256 % 256), .int .u8 (x % 256)] 5))
          have HBL := Lib.hid (HB.out.alloc HB.out.size (.cells #[.int .u8 (x / 16777216), .int .u8 (x / 65536 % 256), .int .u8 (x / 256 % 256), .int .u8 (x % 256)] 5))
          have hgw : ga < wr.heap.size := (World.ownsRow.lt HOW.out ga rfl).2
          have HGW := Lib.hid hgw
          have hbl := HBR.out.lt
          have HBLT := Lib.hid hbl
          clear hbl hbw hgw
          go_wp2_with (at_builtin; refine wpList_append_frow (wr.alloc (.cells #[.int .u8 (x / 16777216), .int .u8 (x / 65536 % 256), .int .u8 (x / 256 % 256), .int .u8 (x % 256)] 5)) rfl (.tmp 32) (.tmp 44) 63 63 rfl w2.heap.size 5 i0 Tryd.underlying63 Hi.out Hz0.out Hz1.out Hz2.out v (.slice (some ⟨wr.heap.size, 0, none⟩) 4 4) SO [x / 16777216, x / 65536 % 256, x / 256 % 256, x % 256] rfl rfl HAL.out (by rw [World.size_alloc]; have := HB.out.size; omega) (by have := HLL.out; simp; omega) (.inl ⟨rfl, ⟨wr.heap.size, 0, none⟩, 4, rfl, four_src _ _ _ _ _ _⟩) ?_; intro v5 w5 hown4 hg4 hv4; have HO5 := Lib.hid hown4; have HW5 := Lib.hid (HBL.out.grown hg4 (by rw [World.size_alloc]; have := HB.out.size; omega) (fun q hq => (HBLT.out q hq).1)); have HON5 := Lib.hid (World.ownsRow.kept HOL.out hg4 (.inr (fun h => HNE.out h.symm))); have HNE5 := Lib.hid (ne_own' HNE.out hv4 (by rw [World.size_alloc]; have := HGW.out; omega)); clear hown4 hg4 hv4)
          go_roundw
          case rel => exact ⟨j + 1, v5, by omega, rfl, by go_num, by rw [HTK.out, HW4.out]; exact HO5, HON5, HNE5, HW5⟩
          case measure => simp [intOf]; omega
        · have hjl : j = AW.length := by omega
          subst hjl
          rw [List.take_of_length_le (Nat.le_refl _)] at HBR
          clear hAW
          generalize DT ++ AW.flatMap wordB = SO at *
          obtain ⟨gb, cb, rfl, hgb, hcb⟩ := HBR.out.cells
          have hcv := run_convert_bytes_arg (P := Tryd.prog) wr 63 5 Tryd.underlying63 Tryd.underlying5 gb 0 SO.length cb SO rfl hcb 9 Tryd.underlying9
          clear hcb hgb HBR
          go_wp2_with fail
          go_ret
          exact ⟨by rw [HPB0.out, HPL.out]; rfl, HBT.out.trans ((HB.out.mono HBT.out.size))⟩
end Go.Proofs.YtgphgbajgjddfaaDoor
