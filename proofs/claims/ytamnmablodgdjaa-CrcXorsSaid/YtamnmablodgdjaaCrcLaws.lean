/- The walks of the statements of layer crc: each call returns true. Conditions: the arguments fit their kinds; a text is no longer than a text may be. -/
import Derived.Test.YtamnmablodgdjaaCrcAwake
import Derived.OpenShut
namespace Go.Proofs.Ytamnmablodgdjaa
open Go.RowKit Crc
set_option linter.unusedVariables false

set_option maxRecDepth 100000 in
theorem walk_CrcTable (b : Nat) (hb : b < 256) (w : World) : Calls Try.prog 9 #[.int .u8 (b : Int)] w fun e w' => e = .returned (.bool true) ∧ Below w.heap.size w w' := by
  have hz := (zero_of_info infoTab).1
  have HZ := Lib.hid zeros_tab
  generalize zeros256 = Z at *
  have hb2 : (b : Int) < 256 := by omega
  go_enter Try.func9, Try.ntmps9
  go_wp2_with fail
  refine (crc_awake _).mono ?_
  rintro e w0 ⟨rfl, hb0⟩
  go_wp2_with fail
  refine (crc_make _).mono ?_
  rintro e w1 ⟨rfl, hb1⟩
  go_wp2_with (refine wpList_store_row rfl 42 (.tmp 3) (.tmp 6) rfl w1.heap.size tabArr rfl rfl 42 Z (heap_alloc_new w1 _) tabInfo HZ.out tabArr_one ?_)
  have hh := Has.made (hb0.trans (hb1.mono hb0.size)) Z 42
  generalize (w1.alloc (.cells Z 42)).setRow w1.heap.size tabArr = w2 at *
  generalize w1.heap.size = g at *
  clear hb0 hb1
  have hc : w2.cell? ⟨g, b, none⟩ = some (.int .u32 ((tab b).toNat : Int)) := hh.tab b hb
  have HH := Lib.hid hh
  clear hh
  have hon : Hid (on 0#32 b = tab b) := by
    show shN 8 (0#32 ^^^ byteAt b) = tab b
    rw [BitVec.zero_xor]; rfl
  have href : ∀ W : World, Calls Try.prog 31 #[.int .u32 0, .int .u8 (b : Int)] W fun e w' => e = .returned (.int .u32 ((tab b).toNat : Int)) ∧ w' = W := fun W => by
    have h := ref_on 0#32 b hb W
    rw [hon.out] at h
    exact h.mono fun e w' ⟨he, hw⟩ => ⟨he, hw.symm⟩
  have Href := Lib.hid href
  clear href hon
  generalize ((tab b).toNat : Int) = T at *
  go_quiet ((go_at_call 31; exact Calls.quiet_of_same (Href.out _)))
  go_wp2
  go_ret
  exact ⟨rfl, below_drewN HH.out.below _⟩
end Go.Proofs.Ytamnmablodgdjaa
