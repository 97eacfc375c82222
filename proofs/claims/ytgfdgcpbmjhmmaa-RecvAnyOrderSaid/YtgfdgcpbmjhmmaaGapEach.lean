/- gaps.eachPair with each of its closures. Conditions: the rows lie as rows do. -/
import Derived.Test.YtgfdgcpbmjhmmaaGapFns
import Derived.Test.YtgfdgcpbmjhmmaaSpanOfM
import Derived.Test.YtgfdgcpbmjhmmaaSpanTwoSets
import Derived.StillTailTactics
namespace Go.Proofs.Ytgfdgcpbmjhmmaa
open Go.RowKit Sp
set_option linter.unusedVariables false
set_option maxHeartbeats 1000000 in
set_option maxRecDepth 100000 in
theorem each_named (l : List Int) (v p q : Value) (w : World) (I : Nat → World → Prop) (hl : ∀ x, x ∈ l → 0 ≤ x ∧ x < 4294967296) (hsm : l.length ≤ 1048576) (hI : I 0 w)
    (hrow : ∀ k W, I k W → NumRow W v l) (hdr : ∀ k W n, I k W → I k (W.drewN n))
    (hstep : ∀ (k : Nat) (W : World) (hk : 2 * k + 1 < l.length), I k W → Calls Try.prog 30 #[.int .u32 l[2 * k], .int .u32 l[2 * k + 1], p, q] W fun e W' => e = .returned (.tuple #[]) ∧ I (k + 1) W') :
    Calls Try.prog 29 #[v, .func (Fn.func 30) #[] #[p, q]] w fun e w' => e = .returned (.tuple #[]) ∧ ∃ k, 2 * k ≤ l.length ∧ l.length ≤ 2 * k + 1 ∧ I k w' := by
  obtain ⟨A, cap, rfl⟩ := (hrow 0 w hI).form
  have HI := Lib.hid hI
  have HR := Lib.hid hrow
  have HDR := Lib.hid hdr
  have HS := Lib.hid hstep
  clear hI hrow hdr hstep
  go_enter Try.func29, Try.ntmps29
  go_wp2_with fail
  go_loopw [4] (fun i wr => ∃ k m : Nat, m ≤ l.length ∧ i = .int .i64 ((m : Int) + 1) ∧ Hid (m = 2 * k ∧ I k wr)) (fun i _ => l.length + 1 - (intOf i).toNat)
  case atStart => exact ⟨0, 0, by omega, rfl, rfl, HI.out⟩
  case round =>
    obtain ⟨k, m, hm, rfl, HK⟩ := hrel
    by_cases hlt : m + 1 < l.length
    · have HKM := Lib.hid HK.out.1
      have hlt' : 2 * k + 1 < l.length := by have := HKM.out; omega
      have ex := List.getElem?_eq_getElem (show 2 * k < l.length by omega)
      have ey := List.getElem?_eq_getElem hlt'
      obtain ⟨g, off, rfl, hbl, c0⟩ := (HR.out k wr HK.out.2).get ex
      obtain ⟨g', off', e', _, c1⟩ := (HR.out k wr HK.out.2).get ey
      injection e' with e'
      rw [Addr.mk.injEq] at e'
      obtain ⟨rfl, rfl, _⟩ := e'
      have HC := Lib.hid (fun q => HS.out k (wr.drewN q) hlt' (HDR.out k wr q HK.out.2))
      clear ex ey
      generalize l[2 * k] = x at *
      generalize l[2 * k + 1] = y at *
      rw [← HKM.out] at c0 c1
      clear hlt'
      have j1 : off + ((m : Int) + 1).toNat = off + (m + 1) := by omega
      have c1' := c1
      rw [← j1] at c1'
      have j3 : IntKind.i64.wrap (m : Int) = (m : Int) := by simp [IntKind.wrap, IntKind.bits, IntKind.signed]; omega
      have j2 : IntKind.i64.wrap ((m : Int) + 1 - 1) = (m : Int) := by simp [IntKind.wrap, IntKind.bits, IntKind.signed]; omega
      have i0 : (0 : Int) ≤ (m : Int) := by omega
      have i1 : (m : Int) < (l.length : Int) := by omega
      have i2 : (0 : Int) ≤ (m : Int) + 1 := by omega
      have i3 : (m : Int) + 1 < (l.length : Int) := by omega
      have hll : (l.length : Int) ≤ 1048576 := by omega
      go_wp2_with fail
      go_region_with (go_at_call 30; refine (HC.out _).mono ?_; rintro e w' ⟨rfl, hI'⟩; have HI2 := Lib.hid hI'; clear hI')
      all_goals
        go_wp2_with fail
        go_roundw
        case rel => exact ⟨k + 1, m + 2, by omega, (by rw [show (m : Int) + 1 + 2 = ((m + 2 : Nat) : Int) + 1 by omega]), by have := HKM.out; exact ⟨by omega, HI2.out⟩⟩
        case measure => simp [intOf]; omega
    · go_wp2_with fail
      go_end0
      exact ⟨rfl, k, by have := HK.out.1; omega, by have := HK.out.1; omega, HK.out.2⟩

end Go.Proofs.Ytgfdgcpbmjhmmaa
