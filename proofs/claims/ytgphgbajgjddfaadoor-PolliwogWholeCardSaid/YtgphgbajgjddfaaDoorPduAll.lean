/- The contracts of package pdu's Check and Bytes, of any unit. Conditions: the variables lie as their initialisers leave them; the row lies as a row does; the numbers fit their kinds. -/
import Derived.Test.YtgphgbajgjddfaaDoorPduBytes
namespace Go.Proofs.YtgphgbajgjddfaaDoor
open Go.RowKit
set_option linter.unusedVariables false
set_option linter.unusedSimpArgs false

def checkA (k sq n ps mr : Int) (xs : List Int) (se : Bool) (d : ByteArray) : Int := if 1 ≤ k ∧ k ≤ 15 then checkV k.toNat sq n ps mr xs se d else 10
def bytesA (k sq n ps mr : Int) (xs : List Int) (se : Bool) (d : ByteArray) : ByteArray := if checkA k sq n ps mr xs se d = 0 then pduB k.toNat sq n ps mr xs se d else ⟨#[]⟩

set_option maxRecDepth 100000 in
theorem pdu_checkA (k sq n ps mr : Int) (p : Option Addr) (len cap : Nat) (xs : List Int) (se : Bool) (d : ByteArray) (w : World) (hS : ShapesIn w) (hlen : len = xs.length) (hr : NumRow w (.slice p len cap) xs) (h1 : 0 ≤ n ∧ n < 4294967296) (h2 : 0 ≤ ps ∧ ps < 4294967296) (h3 : 0 ≤ mr ∧ mr < 4294967296) :
    Calls Tryd.prog 9 #[.agg #[.int .i64 k, .int .i64 sq, .int .u32 n, .int .u32 ps, .int .u32 mr, .slice p len cap, .bool se, .string d]] w fun e w' => e = .returned (.int .i64 (checkA k sq n ps mr xs se d)) ∧ Below w.heap.size w w' := by
  by_cases hk : 1 ≤ k ∧ k ≤ 15
  · obtain ⟨m, rfl⟩ : ∃ m : Nat, k = (m : Int) := ⟨k.toNat, by omega⟩
    unfold checkA
    rw [if_pos hk, Int.toNat_natCast]
    exact pdu_check m sq n ps mr p len cap xs se d w (by omega) hS hlen hr h1 h2 h3
  · unfold checkA
    rw [if_neg hk]
    have HKN := Lib.hid (fun W => pdu_known k W)
    rw [decide_eq_false hk] at HKN
    obtain ⟨x0, x1, x2, x3, x4, x5, x6, x7⟩ := box_new w k sq n ps mr (.slice p len cap) se d
    have HB := Lib.hid ((Below.refl _ w).alloc (Nat.le_refl _) (.cells #[.int .i64 k, .int .i64 sq, .int .u32 n, .int .u32 ps, .int .u32 mr, .slice p len cap, .bool se, .string d] 32))
    clear hk hlen hr hS
    go_enter Tryd.func9, Tryd.ntmps9
    go_upto_region 1 with fail
    generalize w.alloc (.cells #[.int .i64 k, .int .i64 sq, .int .u32 n, .int .u32 ps, .int .u32 mr, .slice p len cap, .bool se, .string d] 32) = W at *
    go_wp2_with fail
    refine (HKN.out _).mono ?_
    rintro e w3 ⟨rfl, rfl⟩
    go_wp2_with fail
    go_ret
    exact ⟨rfl, HB.out⟩

set_option maxRecDepth 100000 in
theorem pdu_bytesA (k sq n ps mr : Int) (p : Option Addr) (len cap : Nat) (xs : List Int) (se : Bool) (d : ByteArray) (w : World) (hS : ShapesIn w) (hlen : len = xs.length) (hr : NumRow w (.slice p len cap) xs) (h1 : 0 ≤ n ∧ n < 4294967296) (h2 : 0 ≤ ps ∧ ps < 4294967296) (h3 : 0 ≤ mr ∧ mr < 4294967296) (hxs : ∀ x, x ∈ xs → 0 ≤ x) :
    Calls Tryd.prog 10 #[.agg #[.int .i64 k, .int .i64 sq, .int .u32 n, .int .u32 ps, .int .u32 mr, .slice p len cap, .bool se, .string d]] w fun e w' => e = .returned (.string (bytesA k sq n ps mr xs se d)) ∧ Below w.heap.size w w' := by
  by_cases hc : checkA k sq n ps mr xs se d = 0
  · have hk : 1 ≤ k ∧ k ≤ 15 := by
      by_cases hk : 1 ≤ k ∧ k ≤ 15
      · exact hk
      · unfold checkA at hc; rw [if_neg hk] at hc; omega
    obtain ⟨m, rfl⟩ : ∃ m : Nat, k = (m : Int) := ⟨k.toNat, by omega⟩
    unfold bytesA
    rw [if_pos hc, Int.toNat_natCast]
    have hv : checkV m sq n ps mr xs se d = 0 := by unfold checkA at hc; rw [if_pos hk, Int.toNat_natCast] at hc; exact hc
    exact pdu_bytes_ok m sq n ps mr p len cap xs se d w (by omega) hS hlen hr hv hxs
  · have HCK := Lib.hid (pdu_checkA k sq n ps mr p len cap xs se d _ (hS.next ((Below.refl _ w).alloc (Nat.le_refl _) (.cells #[.int .i64 k, .int .i64 sq, .int .u32 n, .int .u32 ps, .int .u32 mr, .slice p len cap, .bool se, .string d] 32))) hlen (hr.below ((Below.refl _ w).alloc (Nat.le_refl _) (.cells #[.int .i64 k, .int .i64 sq, .int .u32 n, .int .u32 ps, .int .u32 mr, .slice p len cap, .bool se, .string d] 32))) h1 h2 h3)
    unfold bytesA
    rw [if_neg hc]
    have hcb : (checkA k sq n ps mr xs se d != 0) = true := by rw [bne_iff_ne]; exact hc
    generalize checkA k sq n ps mr xs se d = C at *
    obtain ⟨x0, x1, x2, x3, x4, x5, x6, x7⟩ := box_new w k sq n ps mr (.slice p len cap) se d
    have HB := Lib.hid ((Below.refl _ w).alloc (Nat.le_refl _) (.cells #[.int .i64 k, .int .i64 sq, .int .u32 n, .int .u32 ps, .int .u32 mr, .slice p len cap, .bool se, .string d] 32))
    clear hc hlen hr hS hxs
    go_enter Tryd.func10, Tryd.ntmps10
    go_upto_region 1 with fail
    generalize w.alloc (.cells #[.int .i64 k, .int .i64 sq, .int .u32 n, .int .u32 ps, .int .u32 mr, .slice p len cap, .bool se, .string d] 32) = W at *
    go_wp2_with fail
    refine HCK.out.mono ?_
    rintro e w3 ⟨rfl, hb3⟩
    have HB3 := Lib.hid hb3
    clear hb3
    go_wp2_with fail
    go_ret
    exact ⟨rfl, HB.out.trans (HB3.out.mono HB.out.size)⟩
end Go.Proofs.YtgphgbajgjddfaaDoor
