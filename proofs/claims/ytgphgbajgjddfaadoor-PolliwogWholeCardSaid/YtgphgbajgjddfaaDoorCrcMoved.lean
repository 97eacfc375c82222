/- The contracts of the table's calls: moved, Sum, Seal, Fits. Conditions: the table is one that Make answers; texts are no longer than may be. -/
import Derived.Test.YtgphgbajgjddfaaDoorCrcMake
namespace Go.Proofs.YtgphgbajgjddfaaDoor
open Go.RowKit Crc
set_option linter.unusedVariables false

def TabAt (w : World) (g : Nat) : Prop := ∀ b, b < 256 → w.cell? ⟨g, b, none⟩ = some (.int .u32 ((tab b).toNat : Int))

theorem top_byte (y : BitVec 32) : IntKind.u8.wrap ((y.toNat : Int) / 16777216) = ((y >>> 24).toNat : Int) := by
  have := y.isLt
  rw [IntKind.wrap_u8', BitVec.toNat_ushiftRight, Nat.shiftRight_eq_div_pow]
  omega
theorem shl_byte (y : BitVec 32) : IntKind.u32.wrap ((y.toNat : Int) * 256) = ((y <<< 8).toNat : Int) := by
  rw [IntKind.wrap_u32', ← bv_shl y 8]
  rfl
theorem moved_idx (y : BitVec 32) (b : Nat) (hb : b < 256) :
    (y >>> 24).toNat ^^^ b < 256 ∧ Go.bits .xor .u8 (IntKind.u8.wrap ((y.toNat : Int) / 16777216)) (b : Int) = (((y >>> 24).toNat ^^^ b : Nat) : Int) ∧
    Go.bits .xor .u32 (IntKind.u32.wrap ((y.toNat : Int) * 256)) ((tab ((y >>> 24).toNat ^^^ b)).toNat : Int) = ((on y b).toNat : Int) := by
  have hx : (y >>> 24).toNat < 256 := by
    have := y.isLt
    rw [BitVec.toNat_ushiftRight, Nat.shiftRight_eq_div_pow]; omega
  refine ⟨Nat.xor_lt_two_pow (n := 8) (by omega) (by omega), ?_, ?_⟩
  · rw [top_byte, u8_xor_nat _ _ hx hb]
  · rw [shl_byte, bv_xor, step_tab y b hb]

set_option maxRecDepth 100000 in
theorem crc_moved (s : ByteArray) (x : BitVec 32) (g : Nat) (w : World) (hs : s.size ≤ maxLen) (hT : TabAt w g) :
    Calls Tryd.prog 59 #[.pointer (some ⟨g, 0, none⟩), .int .u32 (x.toNat : Int), .string s] w fun e w' => e = .returned (.int .u32 ((run x (nums s)).toNat : Int)) ∧ ∃ n, w' = w.drewN n := by
  unfold maxLen at hs
  have HT := Lib.hid hT
  clear hT
  go_enter Tryd.func59, Tryd.ntmps59
  go_wp2
  go_loopw [1, 10] (fun r i wr => ∃ (k n : Nat), k ≤ s.size ∧ i = .int .i64 k ∧ r = .int .u32 ((run x ((nums s).take k)).toNat : Int) ∧ wr = w.drewN n) (fun _ i _ => s.size - (intOf i).toNat)
  case atStart => exact ⟨0, 0, Nat.zero_le _, rfl, rfl, rfl⟩
  case round =>
    obtain ⟨k, n, hk, rfl, rfl, rfl⟩ := hrel
    by_cases hlt : k < s.size
    · have hr := Lib.hid (run_take x s k hlt)
      have hsk := (s[k]).toNat_lt
      generalize run x ((nums s).take k) = y at *
      obtain ⟨hj1, hj2, hj3⟩ := moved_idx y (s[k]).toNat hsk
      have hb := bv_lt y
      have hb0 : 0 ≤ (y.toNat : Int) := by omega
      generalize ((y >>> 24).toNat ^^^ (s[k]).toNat) = j at *
      have hc : w.cell? ⟨g, j, none⟩ = some (.int .u32 ((tab j).toNat : Int)) := HT.out j hj1
      generalize ((tab j).toNat : Int) = T at *
      have hj4 : (j : Int) < 256 := by omega
      generalize hR : ((on y (s[k]).toNat).toNat : Int) = R at *
      have HR := Lib.hid hR
      clear hR
      generalize (y.toNat : Int) = Y at *
      go_wp2
      go_quiet (fail)
      go_wp2
      go_roundw
      case rel => exact ⟨k + 1, _, by omega, by go_num, by rw [hr.out, HR.out], rfl⟩
      case measure => simp [intOf]; omega
    · have hk2 : (nums s).take k = nums s := List.take_of_length_le (by rw [nums_len]; omega)
      rw [hk2]
      have HK := Lib.hid hk2
      clear hk2
      go_wp2
      go_ret
      exact ⟨rfl, n, rfl⟩

/-- The bytes of texts, one behind the other. -/
def numsAll (l : List ByteArray) : List Nat := l.flatMap nums
theorem numsAll_take (l : List ByteArray) (k : Nat) (h : k < l.length) : numsAll (l.take (k + 1)) = numsAll (l.take k) ++ nums (l.getD k ByteArray.empty) := by
  rw [List.take_succ_eq_append_getElem h]
  unfold numsAll
  rw [List.flatMap_append, List.getD_eq_getElem?_getD, List.getElem?_eq_getElem h]
  simp
theorem runAll_take (x : BitVec 32) (l : List ByteArray) (k : Nat) (h : k < l.length) : run x (numsAll (l.take (k + 1))) = run (run x (numsAll (l.take k))) (nums (l.getD k ByteArray.empty)) := by
  rw [numsAll_take l k h, run_append]

theorem bv_not_bits (x : BitVec 32) : Go.bits .xor .u32 IntKind.u32.max (x.toNat : Int) = 4294967295 - (x.toNat : Int) := by
  have h := bv_xor 4294967295#32 x
  have e : (4294967295#32 : BitVec 32) ^^^ x = ~~~x := by
    apply BitVec.eq_of_getLsbD_eq
    intro i hi
    have hm : (4294967295#32).getLsbD i = true := by
      have : ∀ j : Fin 32, (4294967295#32).getLsbD j.val = true := by decide
      exact this ⟨i, hi⟩
    rw [BitVec.getLsbD_xor, BitVec.getLsbD_not, hm]
    simp [hi]
  rw [e] at h
  rw [bv_not]
  exact h
theorem tabAt_drewN {w : World} {g : Nat} (h : TabAt w g) (n : Nat) : TabAt (w.drewN n) g := h

/-- A slice of texts: none, or a row of cells. -/
def StrsAt (w : World) (A : Option Addr) (l : List ByteArray) : Prop :=
  (∀ s ∈ l, s.size ≤ maxLen) ∧ (l.length = 0 ∨ ∃ b off, A = some ⟨b, off, none⟩ ∧ ∀ i, i < l.length → w.cell? ⟨b, off + i, none⟩ = some (.string (l.getD i ByteArray.empty)))

set_option maxRecDepth 100000 in
theorem crc_sum' (l : List ByteArray) (A : Option Addr) (cap : Nat) (g : Nat) (w : World) (hlen : l.length ≤ 9223372036854775807) (hT : TabAt w g) (hl : StrsAt w A l) :
    Calls Tryd.prog 42 #[.pointer (some ⟨g, 0, none⟩), .slice A l.length cap] w fun e w' => e = .returned (.int .u32 (4294967295 - ((run ones (numsAll l)).toNat : Int))) ∧ ∃ n, w' = w.drewN n := by
  have HT := Lib.hid hT
  have HL := Lib.hid hl
  clear hT hl
  obtain ⟨len, hlen2⟩ : ∃ len, l.length = len := ⟨_, rfl⟩
  rw [hlen2] at hlen ⊢
  have Hlen := Lib.hid hlen2
  clear hlen2
  go_enter Tryd.func42, Tryd.ntmps42
  go_wp2
  go_loopw [5, 10] (fun r i wr => ∃ (k n : Nat), k ≤ len ∧ i = .int .i64 k ∧ r = .int .u32 ((run ones (numsAll (l.take k))).toNat : Int) ∧ wr = w.drewN n) (fun _ i _ => len - (intOf i).toNat)
  case atStart => exact ⟨0, 0, Nat.zero_le _, rfl, rfl, rfl⟩
  case round =>
    obtain ⟨k, n, hk, rfl, rfl, rfl⟩ := hrel
    by_cases hlt : k < len
    · have hr := Lib.hid (runAll_take ones l k (by rw [Hlen.out]; exact hlt))
      obtain ⟨b, off, rfl, hc⟩ : ∃ b off, A = some ⟨b, off, none⟩ ∧ w.cell? ⟨b, off + k, none⟩ = some (.string (l.getD k ByteArray.empty)) := by
        rcases HL.out.2 with h | ⟨b, off, h1, h2⟩
        · have := Hlen.out; omega
        · exact ⟨b, off, h1, h2 k (by have := Hlen.out; omega)⟩
      have hsz : (l.getD k ByteArray.empty).size ≤ maxLen := by
        apply HL.out.1
        rw [List.getD_eq_getElem?_getD, List.getElem?_eq_getElem (by have := Hlen.out; omega)]
        exact List.getElem_mem _
      have Hsz := Lib.hid hsz
      clear hsz
      generalize run ones (numsAll (l.take k)) = y at *
      generalize l.getD k ByteArray.empty = s at *
      go_wp2_with (go_at_call 59; refine (crc_moved s y g _ Hsz.out (tabAt_drewN HT.out n)).mono ?_; rintro e w1 ⟨rfl, m, rfl⟩)
      go_roundw
      case rel => exact ⟨k + 1, _, by omega, by go_num, by rw [hr.out], rfl⟩
      case measure => simp [intOf]; omega
    · have hk2 : l.take k = l := List.take_of_length_le (by have := Hlen.out; omega)
      have Hn := Lib.hid (bv_not_bits (run ones (numsAll (l.take k))))
      have hb := bv_lt (run ones (numsAll (l.take k)))
      have hb0 : 0 ≤ ((run ones (numsAll (l.take k))).toNat : Int) := by omega
      have HK := Lib.hid hk2
      clear hk2
      obtain ⟨X, hX⟩ : ∃ X : Int, X = ((run ones (numsAll (l.take k))).toNat : Int) := ⟨_, rfl⟩
      rw [← hX] at hb hb0 Hn ⊢
      have HX := Lib.hid hX
      clear hX
      go_wp2
      go_ret
      exact ⟨retInt (by rw [show l.take k = l from HK.out] at HX; rw [← HX.out]; exact Hn.out), n, rfl⟩

theorem crc_sum (l : List ByteArray) (A : Option Addr) (cap : Nat) (g : Nat) (w : World) (hlen : l.length ≤ 9223372036854775807) (hT : TabAt w g) (hl : StrsAt w A l) :
    Calls Tryd.prog 42 #[.pointer (some ⟨g, 0, none⟩), .slice A l.length cap] w fun e w' => e = .returned (.int .u32 ((~~~(run ones (numsAll l))).toNat : Int)) ∧ ∃ n, w' = w.drewN n :=
  (crc_sum' l A cap g w hlen hT hl).mono fun e w' ⟨he, hw⟩ => ⟨by rw [he, bv_not], hw⟩
end Go.Proofs.YtgphgbajgjddfaaDoor
