/- The walk of CrcParts: however many parts the bytes come in, also empty ones, the sum is theirs. Condition: the list reads as a row of texts. -/
import Derived.Test.YtamnmablodgdjaaCrcFitsLaw
import Derived.Laws.AppendOwn
import Derived.WalkSmall
namespace Go.Proofs.Ytamnmablodgdjaa
open Go.RowKit Crc
set_option linter.unusedVariables false

/-- A slice of texts that came in. -/
def StrRow (w : World) (A : Option Addr) (len : Nat) : Prop :=
  len ≤ maxLen ∧ (len = 0 ∨ ∃ b off, A = some ⟨b, off, none⟩ ∧ ∀ i, i < len → ∃ s : ByteArray, s.size ≤ maxLen ∧ w.cell? ⟨b, off + i, none⟩ = some (.string s))

theorem strRow_mk {w : World} {x : Addr} {len cap : Nat} {ss : List ByteArray} (hl : len ≤ cap) (hm : cap ≤ maxLen) (hz : ss.length = cap)
    (hcell : ∀ i, i < ss.length → w.cell? (x.add i) = some (.string (ss.getD i ByteArray.empty))) (hws : ∀ s ∈ ss, s.size ≤ maxLen) : StrRow w (some x) len := by
  refine ⟨Nat.le_trans hl hm, ?_⟩
  by_cases h0 : len = 0
  · exact .inl h0
  · obtain ⟨b, off, spot⟩ := x
    have hc := hcell 0 (by omega)
    have hspot : spot = none := by simpa [Addr.add] using World.cell?_spot hc
    subst hspot
    refine .inr ⟨b, off, rfl, fun k hk => ⟨ss.getD k ByteArray.empty, ?_, ?_⟩⟩
    · apply hws
      rw [List.getD_eq_getElem?_getD, List.getElem?_eq_getElem (by omega)]
      exact List.getElem_mem _
    · have h1 := hcell k (by omega)
      by_cases hk0 : k = 0
      · subst hk0; simpa [Addr.add] using h1
      · simpa [Addr.add, hk0] using h1

/-- Each part and an empty text behind it. -/
def withNone (P : List ByteArray) : List ByteArray := P.flatMap fun s => [s, ⟨#[]⟩]
theorem withNone_snoc (P : List ByteArray) (s : ByteArray) : withNone (P ++ [s]) = withNone P ++ [s, ⟨#[]⟩] := by unfold withNone; rw [List.flatMap_append]; rfl
theorem numsAll_append (P Q : List ByteArray) : numsAll (P ++ Q) = numsAll P ++ numsAll Q := by unfold numsAll; rw [List.flatMap_append]

/-- What is known behind k parts: the whole text, the list of parts. -/
def PartsRel (w wr : World) (base g : Nat) (k : Nat) (T v : Value) : Prop :=
  ∃ (P : List ByteArray) (t : ByteArray), P.length = 2 * k ∧ (∀ s ∈ P, s.size ≤ 30) ∧ T = .string t ∧ t.size ≤ 30 * k ∧ nums t = numsAll P ∧
    wr.ownsRow base 9 1 v (2 * k) (P.map Value.string) ∧ Has w wr g ∧ base ≤ wr.heap.size ∧ g < base

theorem ownsRow_drewN {w : World} {base : Nat} {e : TypeId} {size : Nat} {v : Value} {n : Nat} {xs : List Value} (h : w.ownsRow base e size v n xs) (k : Nat) : (w.drewN k).ownsRow base e size v n xs := h

/-- A step: one part and an empty text behind it are appended. -/
theorem parts_step {w wr w4 : World} {base g k : Nat} {P : List ByteArray} {t q : ByteArray} {v v' : Value} (hP : P.length = 2 * k) (hP2 : ∀ s ∈ P, s.size ≤ 30) (hq : q.size ≤ 30) (ht : t.size ≤ 30 * k) (hn : nums t = numsAll P)
    (hown : wr.ownsRow base 9 1 v (2 * k) (P.map Value.string)) (hH : Has w wr g) (hbase : base ≤ wr.heap.size) (hgb : g < base) (hb2 : w.heap.size ≤ base)
    (hown4 : w4.ownsRow base 9 1 v' (2 * k + 2) (P.map Value.string ++ [.string q, .string ⟨#[]⟩]))
    (hg4 : (wr.alloc (.cells #[.string q, .string ⟨#[]⟩] 9)).grownBy w4 v.ownBlock) : PartsRel w w4 base g (k + 1) (.string (t ++ q)) v' := by
  have hH1 := hH.alloc (.cells #[.string q, .string ⟨#[]⟩] 9)
  have hown1 := hown.alloc (.cells #[.string q, .string ⟨#[]⟩] 9)
  have hne : ∀ j, v.ownBlock = some j → base ≤ j := fun j hj => (hown1.lt j hj).1
  have hblk : ∀ j, j < base → w4.heap[j]? = (wr.alloc (.cells #[.string q, .string ⟨#[]⟩] 9)).heap[j]? := fun j hj =>
    hg4.block j (Nat.lt_of_lt_of_le hj (Nat.le_trans hbase (by simp))) (fun e => by have := hne j e.symm; omega)
  refine ⟨P ++ [q, ⟨#[]⟩], t ++ q, by simp [hP]; omega, ?_, rfl, by rw [ByteArray.size_append]; omega, ?_, ?_, ?_, Nat.le_trans hbase (Nat.le_trans (by simp) hg4.size), hgb⟩
  · intro s hs
    rcases List.mem_append.1 hs with h | h
    · exact hP2 s h
    · simp at h
      rcases h with rfl | rfl
      · exact hq
      · decide
  · rw [nums_append, numsAll_append, hn]
    simp [numsAll, show nums ⟨#[]⟩ = [] from rfl]
  · rw [List.map_append]; exact hown4
  · refine ⟨fun b hb => ?_, Nat.lt_of_lt_of_le hH1.lt hg4.size, hH1.below.grown hg4 hH1.below.size (fun j hj => Nat.le_trans hb2 (hne j hj))⟩
    rw [World.cell?_of_block (hblk g hgb)]
    exact hH1.tab b hb

/-- Sum of a row of the law's own. -/
theorem sumOwn (P : List ByteArray) {n base g : Nat} {w0 W : World} (v : Value) (t : ByteArray) (hP : P.length = n) (hP2 : ∀ s ∈ P, s.size ≤ 30) (hn : nums t = numsAll P)
    (hown : W.ownsRow base 9 1 v n (P.map Value.string)) (hH : Has w0 W g) :
    Calls Try.prog 27 #[.pointer (some ⟨g, 0, none⟩), v] W fun e w' => e = .returned (.int .u32 ((sumOf t).toNat : Int)) ∧ ∃ k, w' = W.drewN k := by
  have hs : ~~~(run ones (numsAll P)) = sumOf t := by unfold sumOf; rw [hn]
  have hm : ∀ s ∈ P, s.size ≤ maxLen := fun s h => by have := hP2 s h; unfold maxLen; omega
  rcases hown.2 with ⟨rfl, h0⟩ | ⟨g', cap, cur, rfl, _, hh, hnc, hcm, _, _⟩
  · have h := crc_sum P none 0 g W (by omega) hH.tab ⟨hm, .inl (by omega)⟩
    rw [hs, hP, h0] at h
    exact h
  · have h := crc_sum P (some ⟨g', 0, none⟩) cap g W (by rw [hP]; unfold maxLen at hcm; omega) hH.tab ⟨hm, .inr ⟨g', 0, rfl, fun i hi => by
      rw [Nat.zero_add, hown.cellAt i (by omega), List.getElem?_map, List.getElem?_eq_getElem hi, List.getD_eq_getElem?_getD, List.getElem?_eq_getElem hi]
      rfl⟩⟩
    rw [hs, hP] at h
    exact h

theorem infoStr : (Try.prog.info? 9).map (fun i => (i.zero, i.size, i.bytes)) = some (some (.string ⟨#[]⟩), 1, 16) := by kernel_rfl

set_option maxHeartbeats 1000000 in
set_option maxRecDepth 100000 in
theorem walk_CrcParts (A : Option Addr) (len cap : Nat) (w : World) (h : StrRow w A len) :
    Calls Try.prog 12 #[.slice A len cap] w fun e w' => e = .returned (.bool true) ∧ Below w.heap.size w w' := by
  have hz := (zero_of_info infoTab).1
  have HZ := Lib.hid zeros_tab
  generalize zeros256 = Z at *
  have H := Lib.hid h.2
  have hlen := h.1
  unfold maxLen at hlen
  clear h
  obtain ⟨i0, hi, hz0, hz1, hz2⟩ := info_parts infoStr
  have Hi := Lib.hid hi
  have Hz0 := Lib.hid hz0
  have Hz1 := Lib.hid hz1
  have Hz2 := Lib.hid hz2
  clear hi hz0 hz1 hz2
  go_enter Try.func12, Try.ntmps12
  go_wp2_with fail
  refine (crc_awake _).mono ?_
  rintro e w0 ⟨rfl, hb0⟩
  go_wp2_with fail
  refine (crc_make _).mono ?_
  rintro e w1 ⟨rfl, hb1⟩
  go_wp2_with (refine wpList_store_row rfl 42 (.tmp 3) (.tmp 10) rfl w1.heap.size tabArr rfl rfl 42 Z (heap_alloc_new w1 _) tabInfo HZ.out tabArr_one ?_)
  have hh := Has.made (hb0.trans (hb1.mono hb0.size)) Z 42
  generalize (w1.alloc (.cells Z 42)).setRow w1.heap.size tabArr = w2 at *
  generalize w1.heap.size = g at *
  clear hb0 hb1 hz HZ
  go_wp2_with fail
  have Hwb := Lib.hid hh.below.size
  go_loopw [4, 5, 6] (fun T v i wr => ∃ k : Nat, k ≤ 12 ∧ i = .int .i64 k ∧ PartsRel w wr w2.heap.size g k T v) (fun _ _ i _ => 12 - (intOf i).toNat)
  case atStart => exact ⟨0, by omega, rfl, [], ⟨#[]⟩, rfl, by simp, rfl, by decide, rfl, ⟨rfl, .inl ⟨rfl, rfl⟩⟩, hh, Nat.le_refl _, hh.lt⟩
  case round =>
    obtain ⟨k, hk, rfl, P, t, hP, hP2, rfl, ht, hn, hown, hH, hbase, hgb⟩ := hrel
    have HP := Lib.hid hP
    have HP2 := Lib.hid hP2
    have Hn := Lib.hid hn
    have Hown := Lib.hid hown
    have HH := Lib.hid hH
    have Hbase := Lib.hid hbase
    have Hgb := Lib.hid hgb
    clear hP hP2 hn hown hH hbase hgb hh
    by_cases hlt : k < len ∧ k < 12
    · obtain ⟨hlt, hlt2⟩ := hlt
      obtain ⟨b, off, rfl, s, hs, hc⟩ : ∃ b off, A = some ⟨b, off, none⟩ ∧ ∃ s : ByteArray, s.size ≤ maxLen ∧ wr.cell? ⟨b, off + k, none⟩ = some (.string s) := by
        rcases H.out with h0 | ⟨b, off, hA, hcell⟩
        · omega
        · obtain ⟨s, hs, hc⟩ := hcell k hlt
          exact ⟨b, off, hA, s, hs, by rw [HH.out.below.cell (block_lt_of_cell hc)]; exact hc⟩
      have hq := cutB_size s 30
      have Hcut := Lib.hid (fun W => crc_cut s 30 W hs (by omega))
      have Hs := Lib.hid hs
      clear hs
      generalize cutB s 30 = q at *
      have hno : ¬ 9223372036854775807 < t.size + q.size := by omega
      go_wp2_with (first
        | (go_at_call 25; refine (Hcut.out _).mono ?_; rintro e w3 ⟨rfl, rfl⟩)
        | (at_builtin; refine wpList_append_own _ rfl (.tmp 29) (.tmp 31) 54 rfl w2.heap.size 9 i0 (.string ⟨#[]⟩) 1 16 Try.underlying54 Hi.out Hz0.out Hz1.out Hz2.out rfl (by decide) _ (2 * k) _ rfl (Hown.out.alloc _) ⟨wr.heap.size, 0, none⟩ 2 2 [.string q, .string ⟨#[]⟩] rfl rfl (cell_two_new _ _ _ _) (fun x hx => by simp at hx; rcases hx with rfl | rfl <;> rfl) (by unfold maxLen; omega) (by omega) (Nat.le_trans Hbase.out (by simp)) ?_; intro v' w4 hown4 hg4 hat4; have Hown4 := Lib.hid hown4; have Hg4 := Lib.hid hg4; clear hown4 hg4 hat4))
      have Hstep := Lib.hid (parts_step HP.out HP2.out hq ht Hn.out Hown.out HH.out Hbase.out Hgb.out Hwb.out Hown4.out Hg4.out)
      go_roundw
      case rel => exact ⟨k + 1, by omega, by go_num, Hstep.out⟩
      case measure => simp [intOf]; omega
    · have hs2 : t.size ≤ 1099511627776 := by omega
      by_cases hlt2 : k < len
      · have h12 : ¬ k < 12 := fun h => hlt ⟨hlt2, h⟩
        clear hlt
        go_wp2_with fail
        refine (sumOwn P _ t HP.out HP2.out Hn.out Hown.out HH.out).mono ?_
        rintro e w5 ⟨rfl, n5, rfl⟩
        go_wp2_with fail
        refine (refSum2 t _ (by unfold maxLen; omega)).mono ?_
        rintro e w6 ⟨rfl, rfl⟩
        go_wp2_with fail
        refine (sumOwn P _ t HP.out HP2.out Hn.out (ownsRow_drewN Hown.out n5) (HH.out.drewN n5)).mono ?_
        rintro e w7 ⟨rfl, n7, rfl⟩
        go_wp2_with fail
        refine (refFour2 t g w _ (HH.out.drewN (n5 + n7))).mono ?_
        rintro e w8 ⟨rfl, hh8⟩
        have H8 := Lib.hid hh8
        clear hh8
        have hno : ¬ 9223372036854775807 < t.size + (four (sumOf t)).size := by rw [four_size]; omega
        go_wp2_with fail
        refine (fits1 _ g w _ (by rw [ByteArray.size_append, four_size]; unfold maxLen; omega) H8.out).mono ?_
        rintro e w9 ⟨rfl, hh9⟩
        rw [fits_seal]
        have H9 := Lib.hid hh9
        clear hh9
        go_wp2_with fail
        go_ret
        exact ⟨rfl, H9.out.below⟩
      · have h0 : True := trivial
        clear hlt
        go_wp2_with fail
        refine (sumOwn P _ t HP.out HP2.out Hn.out Hown.out HH.out).mono ?_
        rintro e w5 ⟨rfl, n5, rfl⟩
        go_wp2_with fail
        refine (refSum2 t _ (by unfold maxLen; omega)).mono ?_
        rintro e w6 ⟨rfl, rfl⟩
        go_wp2_with fail
        refine (sumOwn P _ t HP.out HP2.out Hn.out (ownsRow_drewN Hown.out n5) (HH.out.drewN n5)).mono ?_
        rintro e w7 ⟨rfl, n7, rfl⟩
        go_wp2_with fail
        refine (refFour2 t g w _ (HH.out.drewN (n5 + n7))).mono ?_
        rintro e w8 ⟨rfl, hh8⟩
        have H8 := Lib.hid hh8
        clear hh8
        have hno : ¬ 9223372036854775807 < t.size + (four (sumOf t)).size := by rw [four_size]; omega
        go_wp2_with fail
        refine (fits1 _ g w _ (by rw [ByteArray.size_append, four_size]; unfold maxLen; omega) H8.out).mono ?_
        rintro e w9 ⟨rfl, hh9⟩
        rw [fits_seal]
        have H9 := Lib.hid hh9
        clear hh9
        go_wp2_with fail
        go_ret
        exact ⟨rfl, H9.out.below⟩
end Go.Proofs.Ytamnmablodgdjaa
