/- The contract of Turn: a text with the bits of a mask turned. Conditions: the text isn't empty, the place lies in it. -/
import Derived.Test.YtimmineopkmdmaaDoorCrcAwake
import Derived.OpenShut
import Derived.Lib.ConvBytes
import Derived.RegionTactic
import Derived.ChangeAlike
namespace Go.Proofs.YtimmineopkmdmaaDoor
open Go.RowKit Crc
set_option linter.unusedVariables false

/-- One bit turned, if the mask asks for it. -/
def turn1 (l : List Nat) (at_ mask k : Nat) : List Nat :=
  if mask.testBit (31 - k) = true ∧ at_ + k < 8 * l.length then l.set ((at_ + k) / 8) (l.getD ((at_ + k) / 8) 0 ^^^ 2 ^ (7 - (at_ + k) % 8)) else l
def turnN (l : List Nat) (at_ mask : Nat) : Nat → List Nat
  | 0 => l
  | k + 1 => turn1 (turnN l at_ mask k) at_ mask k
theorem turnN_len (l : List Nat) (at_ mask : Nat) (k : Nat) : (turnN l at_ mask k).length = l.length := by
  induction k with
  | zero => rfl
  | succ k ih =>
    show (turn1 (turnN l at_ mask k) at_ mask k).length = _
    unfold turn1
    split
    · rw [List.length_set, ih]
    · exact ih

def Row8 (w : World) (g n : Nat) (l : List Nat) : Prop := l.length = n ∧ ∀ j, j < n → w.cell? ⟨g, j, none⟩ = some (.int .u8 (l.getD j 0 : Nat)) ∧ w.frozen? ⟨g, j, none⟩ = false

theorem mask_bit (mask m : Nat) (h : mask < 4294967296) : (Go.bits .and .u32 ((mask : Int) / 2 ^ m) 1 == 1) = mask.testBit m := by
  have e : ((mask : Int) / 2 ^ m) = ((mask / 2 ^ m : Nat) : Int) := by simp
  have h2 : mask / 2 ^ m < 4294967296 := Nat.lt_of_le_of_lt (Nat.div_le_self _ _) h
  have h3 := u32_and_nat (mask / 2 ^ m) 1 h2 (by decide)
  have h4 : Go.bits .and .u32 ((mask / 2 ^ m : Nat) : Int) 1 = ((mask / 2 ^ m &&& 1 : Nat) : Int) := h3
  rw [e, h4, nat_mask1, Nat.testBit_eq_decide_div_mod_eq]
  have h5 : mask / 2 ^ m % 2 = 0 ∨ mask / 2 ^ m % 2 = 1 := by omega
  rcases h5 with h5 | h5 <;> rw [h5] <;> rfl

theorem turnN_lt (l : List Nat) (hl : ∀ b ∈ l, b < 256) (at_ mask : Nat) (k : Nat) : ∀ j, (turnN l at_ mask k).getD j 0 < 256 := by
  induction k with
  | zero =>
    intro j
    show l.getD j 0 < 256
    rw [List.getD_eq_getElem?_getD]
    cases h : l[j]? with
    | none => simp
    | some b => exact hl b (List.mem_of_getElem? h)
  | succ k ih =>
    intro j
    show (turn1 (turnN l at_ mask k) at_ mask k).getD j 0 < 256
    unfold turn1
    split
    · rw [List.getD_eq_getElem?_getD, List.getElem?_set]
      split
      · split
        · exact Nat.xor_lt_two_pow (n := 8) (ih _) (Nat.pow_lt_pow_of_lt (by decide) (by omega))
        · simp
      · rw [← List.getD_eq_getElem?_getD]; exact ih j
    · exact ih j

theorem pow_bit (q : Nat) (hq : q < 8) : (128 : Int) / 2 ^ q = ((2 ^ (7 - q) : Nat) : Int) := by
  have : q = 0 ∨ q = 1 ∨ q = 2 ∨ q = 3 ∨ q = 4 ∨ q = 5 ∨ q = 6 ∨ q = 7 := by omega
  rcases this with rfl | rfl | rfl | rfl | rfl | rfl | rfl | rfl <;> rfl
theorem xor_bit (B p : Nat) (hB : B < 256) : Go.bits .xor .u8 (B : Int) (128 / 2 ^ (p % 8)) = ((B ^^^ 2 ^ (7 - p % 8) : Nat) : Int) := by
  rw [pow_bit (p % 8) (by omega), u8_xor_nat B _ hB (Nat.pow_lt_pow_of_lt (m := 8) (by decide) (by omega))]

theorem below_drew {B : Nat} {a w : World} (h : Below B a w) : Below B a w.drew := ⟨h.os, h.tape, h.output, h.size, h.block⟩
theorem row8_set {w : World} {g n : Nat} {l : List Nat} (h : Row8 w g n l) {i : Nat} (hi : i < n) {V : Int} {v : Nat} (hv : V = (v : Int)) :
    Row8 (w.setCell ⟨g, i, none⟩ (.int .u8 V)).drew g n (l.set i v) := by
  refine ⟨by rw [List.length_set]; exact h.1, fun j hj => ⟨?_, ?_⟩⟩
  · show (w.setCell ⟨g, i, none⟩ (.int .u8 V)).cell? ⟨g, j, none⟩ = _
    by_cases e : i = j
    · subst e
      rw [World.cell?_setCell_same _ _ _ (h.2 i hi).1, hv]
      simp [h.1, hi]
    · rw [World.cell?_setCell_other _ _ _ _ (fun h => e (congrArg Addr.off h)), (h.2 j hj).1]
      simp [e]
  · show (w.setCell ⟨g, i, none⟩ (.int .u8 V)).frozen? ⟨g, j, none⟩ = _
    rw [World.frozen?_setCell]; exact (h.2 j hj).2

theorem row8_start (w : World) (s : ByteArray) : Row8 (Lib.bytesWorld w 5 s) w.heap.size s.size (nums s) := by
  refine ⟨nums_len s, fun j hj => ⟨?_, ?_⟩⟩
  · rw [Lib.bytesWorld_cell w _ s j hj]
    have : (nums s).getD j 0 = (s.data.toList.getD j 0).toNat := by
      unfold nums
      rw [List.getD_eq_getElem?_getD, List.getD_eq_getElem?_getD, List.getElem?_map]
      cases s.data.toList[j]? <;> rfl
    rw [this]
  · have hsz : (Lib.bytesCells w 5 s).size = s.size + (grownCap w s.size 0 5 - s.size) := by
      unfold Lib.bytesCells
      rw [Array.size_append, Array.size_map, Array.size_replicate]
      rfl
    unfold World.frozen?
    rw [Lib.bytesWorld_at_new]
    simp
    omega
theorem below_bytes (w : World) (t : TypeId) (s : ByteArray) : Below w.heap.size w (Lib.bytesWorld w t s) :=
  ⟨rfl, rfl, rfl, by rw [Lib.bytesWorld_size]; omega, fun i hi => Lib.bytesWorld_at_old w t s i hi⟩

theorem row8_string (w : World) (g n cap : Nat) (l : List Nat) (h : Row8 w g n l) :
    Sem.run Tryd.prog (convert 49 9 (.slice (some ⟨g, 0, none⟩) n cap)) w = .ok (.string (strOfNums (l.map Int.ofNat))) w := by
  refine run_convert_bytes_arg (P := Tryd.prog) w 49 5 Tryd.underlying49 Tryd.underlying5 g 0 n cap (l.map Int.ofNat) (by rw [List.length_map]; exact h.1) ?_ 9 Tryd.underlying9
  intro i hi
  rw [Nat.zero_add, (h.2 i hi).1]
  have hl : i < l.length := by rw [h.1]; exact hi
  simp [hl]

theorem nums_ofRow (l : List Nat) (h : ∀ j, l.getD j 0 < 256) : nums (strOfNums (l.map Int.ofNat)) = l := by
  rw [nums_strOfNums, List.map_map]
  apply List.ext_getElem?
  intro i
  rw [List.getElem?_map]
  cases hi : l[i]? with
  | none => rfl
  | some b =>
    have := h i
    rw [List.getD_eq_getElem?_getD, hi] at this
    simp only [Option.getD_some] at this
    simp
    omega

set_option maxRecDepth 100000 in
theorem crc_turn (s : ByteArray) (at_ mask : Nat) (w : World) (hs0 : 0 < s.size) (hs : s.size ≤ 200) (ha : at_ < 8 * s.size) (hm : mask < 4294967296) :
    Calls Tryd.prog 24 #[.string s, .int .i64 (at_ : Int), .int .u32 (mask : Int)] w fun e w' => ∃ t : ByteArray, e = .returned (.string t) ∧ nums t = turnN (nums s) at_ mask 32 ∧ Below w.heap.size w w' := by
  have hconv := fun W => Lib.run_convert_string_bytes (P := Tryd.prog) W 9 49 5 s Tryd.underlying9 Tryd.underlying49 Tryd.underlying5
  go_enter Tryd.func24, Tryd.ntmps24
  go_wp2_with fail
  generalize grownCap w s.size 0 5 = cap
  have hrow0 : Row8 (Lib.bytesWorld w 5 s) w.heap.size s.size (nums s) := row8_start w s
  have hbel0 : Below w.heap.size w (Lib.bytesWorld w 5 s) := below_bytes w _ s
  have Hrow0 := Lib.hid hrow0
  have Hbel0 := Lib.hid hbel0
  clear hrow0 hbel0 hconv
  generalize Lib.bytesWorld w 5 s = wb at *
  go_loopw [12] (fun i wr => ∃ k : Nat, k ≤ 32 ∧ i = .int .i64 k ∧ Row8 wr w.heap.size s.size (turnN (nums s) at_ mask k) ∧ Below w.heap.size w wr) (fun i _ => 32 - (intOf i).toNat)
  case atStart => exact ⟨0, by omega, rfl, Hrow0.out, Hbel0.out⟩
  case round =>
    obtain ⟨k, hk, rfl, hrow, hbel⟩ := hrel
    have Hrow := Lib.hid hrow
    have Hbel := Lib.hid hbel
    clear hrow hbel Hrow0 Hbel0
    by_cases hlt : k < 32
    · obtain ⟨m, hm1⟩ : ∃ m, k + m = 31 := ⟨31 - k, by omega⟩
      have hm2 : (31 : Int) - (k : Int) = (m : Int) := by omega
      have hm3 : (m : Int) ≤ 32 := by omega
      have hmb := mask_bit mask m hm
      obtain ⟨p, hp⟩ : ∃ p, at_ + k = p := ⟨_, rfl⟩
      have hp2 : (at_ : Int) + (k : Int) = (p : Int) := by omega
      have hp3 : p ≤ 2000 := by omega
      have Hp := Lib.hid hp
      have Hm1 := Lib.hid hm1
      have Hm := Lib.hid hm
      clear hm1 hm hp
      by_cases hb : mask.testBit m = true
      · rw [hb] at hmb
        have Hb := Lib.hid hb
        clear hb
        by_cases hin : p < 8 * s.size
        · have hin2 : (p : Int) < 8 * (s.size : Int) := by omega
          have hcell := (Hrow.out.2 (p / 8) (by omega)).1
          have hfr := (Hrow.out.2 (p / 8) (by omega)).2
          generalize hB : ((turnN (nums s) at_ mask k).getD (p / 8) 0) = B at *
          have hq : (p : Int) / 8 < (s.size : Int) := by omega
          have hB2 : B < 256 := by rw [← hB]; exact turnN_lt _ (nums_lt s) _ _ _ _
          have Hx := Lib.hid (xor_bit B p hB2)
          have Hst : Hid (turnN (nums s) at_ mask (k + 1) = (turnN (nums s) at_ mask k).set (p / 8) (B ^^^ 2 ^ (7 - p % 8))) := by
            show turn1 _ _ _ _ = _
            unfold turn1
            rw [if_pos, Hp.out, hB]
            exact ⟨by rw [show 31 - k = m by have := Hm1.out; omega]; exact Hb.out, by rw [turnN_len, nums_len, Hp.out]; exact hin⟩
          clear hB hB2
          go_wp2_with fail
          go_region
          all_goals
            go_wp2
            go_roundw
            case rel => exact ⟨k + 1, by omega, by go_num, by rw [Hst.out]; exact (row8_set Hrow.out (by omega) Hx.out), below_drew (Hbel.out.setCell (Nat.le_refl _) _)⟩
            case measure => simp [intOf]; omega
        · have hin2 : ¬ (p : Int) < 8 * (s.size : Int) := by omega
          have hno : turnN (nums s) at_ mask (k + 1) = turnN (nums s) at_ mask k := by
            show turn1 _ _ _ _ = _
            unfold turn1
            rw [if_neg]
            rw [turnN_len, nums_len, Hp.out]
            exact fun h => hin h.2
          have Hno := Lib.hid hno
          clear hno
          go_wp2_with fail
          go_roundw
          case rel => exact ⟨k + 1, by omega, by go_num, by rw [Hno.out]; exact Hrow.out, Hbel.out⟩
          case measure => simp [intOf]; omega
      · have hno : turnN (nums s) at_ mask (k + 1) = turnN (nums s) at_ mask k := by
          show turn1 _ _ _ _ = _
          unfold turn1
          rw [if_neg]
          rw [show 31 - k = m by have := Hm1.out; omega]
          exact fun h => hb h.1
        have Hno := Lib.hid hno
        rw [Bool.eq_false_iff.2 hb] at hmb
        clear hno hb
        go_wp2_with fail
        go_roundw
        case rel => exact ⟨k + 1, by omega, by go_num, by rw [Hno.out]; exact Hrow.out, Hbel.out⟩
        case measure => simp [intOf]; omega
    · have hk32 : k = 32 := by omega
      subst hk32
      have hc2 := row8_string wr w.heap.size s.size cap (turnN (nums s) at_ mask 32) Hrow.out
      go_wp2_with fail
      go_ret
      refine ⟨_, rfl, ?_, Hbel.out⟩
      exact nums_ofRow _ (turnN_lt _ (nums_lt s) _ _ _)
end Go.Proofs.YtimmineopkmdmaaDoor
