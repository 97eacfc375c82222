/- The contracts of package event's parts and Text. Conditions: event's variables and the library's table lie as their initialisers leave them. -/
import Derived.Test.YtnocckgbcjienaaDoorEvParts
import Derived.Deep.DeepCutAuto
namespace Go.Proofs.YtnocckgbcjienaaDoor
open Go.RowKit
set_option linter.unusedVariables false
set_option linter.unusedSimpArgs false

def hasHex (k : Int) : Bool := decide (k = 1 ∨ k = 5 ∨ k = 8 ∨ k = 9 ∨ k = 10 ∨ k = 11)
def partsL (k n : Int) (d : ByteArray) (se : Bool) (code : Int) : List ByteArray :=
  if k = 1 ∨ k = 5 ∨ k = 8 ∨ k = 9 ∨ k = 10 ∨ k = 11 then [hexB d] else if k = 3 then [doerS se, hexB d] else if k = 12 then reportL code n else []
set_option maxHeartbeats 4000000 in
set_option maxRecDepth 100000 in
theorem ev_parts (k n : Int) (d : ByteArray) (se : Bool) (code : Int) (w : World) (hd : d.size ≤ 1000) (h0 : -9223372036854775808 ≤ n) (h1 : n ≤ 9223372036854775807) (htab : TabIn w) :
    Calls Tryd.prog 21 #[.agg #[.int .i64 k, .string d, .bool se, .int .u8 code, .int .i64 n]] w fun e w' => ∃ v, e = .returned v ∧ SRow w' v (partsL k n d se code) ∧ Below w.heap.size w w' := by
  have HX := Lib.hid (sbox_new w k n d se code)
  have hb := (Below.refl _ w).alloc (Nat.le_refl _) (.cells #[.int .i64 k, .string d, .bool se, .int .u8 code, .int .i64 n] 31)
  have HB := Lib.hid hb
  have HT := Lib.hid (htab.next hb)
  have HH := Lib.hid (fun W => ev_hex d W hd)
  have HD := Lib.hid (fun W => ev_doer k n d se code W)
  have HR := Lib.hid (fun W (hW : TabIn W) => ev_report k n d se code W h0 h1 hW)
  have HV : Hid (partsL k n d se code = if k = 1 ∨ k = 5 ∨ k = 8 ∨ k = 9 ∨ k = 10 ∨ k = 11 then [hexB d] else if k = 3 then [doerS se, hexB d] else if k = 12 then reportL code n else []) := rfl
  clear hb htab
  obtain ⟨x0, x1, x2, x3, x4⟩ := HX.out
  have hcase : (k = 1 ∨ k = 5 ∨ k = 8 ∨ k = 9 ∨ k = 10 ∨ k = 11) ∨ k = 3 ∨ k = 12 ∨ ¬ (k = 1 ∨ k = 5 ∨ k = 8 ∨ k = 9 ∨ k = 10 ∨ k = 11 ∨ k = 3 ∨ k = 12) := by omega
  rcases hcase with hk | hk | hk | hk
  · have HV1 := Lib.hid (HV.out.trans (if_pos hk))
    clear HV
    generalize hexB d = F at *
    rcases hk with rfl | rfl | rfl | rfl | rfl | rfl
    all_goals
      go_enter Tryd.func21, Tryd.ntmps21
      go_upto_region 1 with fail
      generalize w.alloc (.cells #[.int .i64 _, .string d, .bool se, .int .u8 code, .int .i64 n] 31) = w1 at *
      go_wp2_with fail
      refine (HH.out _).mono ?_
      rintro e w2 ⟨rfl, hb2⟩
      have HB2 := Lib.hid (HB.out.trans (hb2.mono HB.out.size))
      clear hb2
      go_wp2_with fail
      go_ret
      exact ⟨_, rfl, by rw [HV1.out]; exact srow_one _ _ _, HB2.out.alloc HB2.out.size _⟩
  · have HV1 := Lib.hid (HV.out.trans ((if_neg (by omega)).trans (if_pos hk)))
    clear HV
    subst hk
    generalize hexB d = F at *
    generalize doerS se = G at *
    go_enter Tryd.func21, Tryd.ntmps21
    go_upto_region 1 with fail
    generalize w.alloc (.cells #[.int .i64 3, .string d, .bool se, .int .u8 code, .int .i64 n] 31) = w1 at *
    go_upto_region 10 with fail
    have HDR := Lib.hid ((Below.refl w1.heap.size w1).drew)
    go_region_held3 (fun w' => w'.cell? ⟨w.heap.size, 0, none⟩ = some (.int .i64 3) ∧ w'.cell? ⟨w.heap.size, 1, none⟩ = some (.string d) ∧ w'.cell? ⟨w.heap.size, 2, none⟩ = some (.bool se) ∧ w'.cell? ⟨w.heap.size, 3, none⟩ = some (.int .u8 code) ∧ w'.cell? ⟨w.heap.size, 4, none⟩ = some (.int .i64 n))
      (first | go_keep)
      (first
        | (go_at_call 27; (with_reducible refine (HD.out _).mono ?_); rintro e wa ⟨rfl, hba⟩
           have HBA := Lib.hid (Below.trans HDR.out hba)
           have HXA := Lib.hid (HX.out.next HBA.out)
           clear hba
           obtain ⟨a0, a1, a2, a3, a4⟩ := HXA.out)
        | (go_at_call 17; (with_reducible refine (HH.out _).mono ?_); rintro e wb ⟨rfl, hbb⟩
           have HBB := Lib.hid (HBA.out.trans (hbb.mono HBA.out.size))
           have HXB := Lib.hid (HX.out.next HBB.out)
           clear hbb
           obtain ⟨b0, b1, b2, b3, b4⟩ := HXB.out)
        | fail)
    go_wp2_with fail
    go_ret
    exact ⟨_, rfl, by rw [HV1.out]; exact srow_two _ _ _ _, (HB.out.trans (HBB.out.mono HB.out.size)).alloc ((HB.out.trans (HBB.out.mono HB.out.size)).size) _⟩
  · have HV1 := Lib.hid (HV.out.trans ((if_neg (by omega)).trans ((if_neg (by omega)).trans (if_pos hk))))
    clear HV
    subst hk
    go_enter Tryd.func21, Tryd.ntmps21
    go_upto_region 1 with fail
    generalize w.alloc (.cells #[.int .i64 12, .string d, .bool se, .int .u8 code, .int .i64 n] 31) = w1 at *
    go_wp2_with fail
    refine (HR.out _ HT.out).mono ?_
    rintro e w2 ⟨v, rfl, hr, hb2⟩
    have HB2 := Lib.hid (HB.out.trans (hb2.mono HB.out.size))
    have HR2 := Lib.hid hr
    clear hb2 hr
    go_wp2_with fail
    go_ret
    exact ⟨_, rfl, by rw [HV1.out]; exact HR2.out, HB2.out⟩
  · have HV1 := Lib.hid (HV.out.trans ((if_neg (by omega)).trans ((if_neg (by omega)).trans (if_neg (by omega)))))
    have e1 : (k == 1) = false := by rw [beq_eq_false_iff_ne]; omega
    have e2 : (k == 5) = false := by rw [beq_eq_false_iff_ne]; omega
    have e3 : (k == 8) = false := by rw [beq_eq_false_iff_ne]; omega
    have e4 : (k == 9) = false := by rw [beq_eq_false_iff_ne]; omega
    have e5 : (k == 10) = false := by rw [beq_eq_false_iff_ne]; omega
    have e6 : (k == 11) = false := by rw [beq_eq_false_iff_ne]; omega
    have e7 : (k == 3) = false := by rw [beq_eq_false_iff_ne]; omega
    have e8 : (k == 12) = false := by rw [beq_eq_false_iff_ne]; omega
    clear HV hk
    go_enter Tryd.func21, Tryd.ntmps21
    go_upto_region 1 with fail
    generalize w.alloc (.cells #[.int .i64 k, .string d, .bool se, .int .u8 code, .int .i64 n] 31) = w1 at *
    go_wp2_with fail
    go_ret
    exact ⟨_, rfl, by rw [HV1.out]; exact ⟨none, 0, rfl, .inl ⟨rfl, rfl⟩⟩, HB.out⟩
end Go.Proofs.YtnocckgbcjienaaDoor
