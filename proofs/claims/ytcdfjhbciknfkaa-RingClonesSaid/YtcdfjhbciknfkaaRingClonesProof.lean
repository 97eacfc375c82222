/- The statement on polliwoglaw04.RingClones: for every input that the row takes, the call returns true and its arguments read behind it as before. -/
import Derived.Test.YtcdfjhbciknfkaaRows
import Derived.Test.YtcdfjhbciknfkaaRingClonesLaw
import Derived.WalkKit
import Derived.ProofKit
import Derived.OpenShut
import Derived.ShutString
import Derived.ChangeOld
import Derived.Below
import Derived.SliceStrings
import Derived.Lib.SmallJoins
namespace Go.Proofs.Ytcdfjhbciknfkaa.ringClones
open Go.ChangeShapes Go.WideShapes Go.ChangeAt Go.RowKit Go.Joins
open Go.ChangeMaps (open_string shut_string)
set_option linter.unusedVariables false

theorem own : ownKnob Try.prog.godebug = none := by kernel_rfl
theorem laidOut : laidOutB Try.prog = true := by kernel_rfl

set_option maxRecDepth 100000 in
theorem lifted (os : Os) (started : os.Started) (H : Type) (enc : TypeId × Value → H) :
    ReturnsInHanded {} Try.checked os 11 .any (Rows.ringClonesSpec.pre6 enc Try.prog Try.f11 Rows.ringClonesRow.domain false) (Rows.ringClonesSpec.post enc Try.prog Try.f11 false true false false) := by
  refine returnsInHanded_of_change (C := Try.checked) own started (by kernel_rfl) Try.func11
    (ChangeSpec.witness6 (enc := enc) (C := Try.checked) false ⟨#[], #[.agg #[.int .i64 0, .slice none 0 0, .slice none 0 0, .slice none 0 0]], []⟩ 8 (by kernel_rfl) (by kernel_rfl) (by kernel_rfl) (by kernel_rfl)) ?_
  intro W base args ds gs before hval0 hW hcnd _
  have hval : ∀ (j : Nat) t v, Try.f11.params[j]? = some t → args[j]? = some v → Value.okWide Try.prog W .any base t v := hval0
  have hW' := hW
  obtain ⟨p, q, hA0, hV, rfl, hfz, hnd⟩ := hW
  have hA : DataW.TrodAll enc Try.prog W 0 (fun _ => true) true Try.f11.params.toList args.toList ds p := hA0
  rw [Try.params11] at hA hval
  obtain ⟨v0, vs0, d0, ds0, p0, q0, hargs, rfl, rfl, h0, r0⟩ := trodAll_cons hA
  obtain ⟨rfl, rfl, rfl⟩ := trodAll_nil r0
  obtain rfl : args = #[v0] := by cases args; simp_all
  obtain ⟨rfl, rfl⟩ := trodVars_none hV
  have k0 := h0
  have lt0 : ∀ x ∈ p0, x.block < W.heap.size := by obtain ⟨m, hm⟩ := k0; exact DataW.trod_lt m _ _ _ hm
  obtain ⟨e0, e1, e2, e3, y0, y1, y2, y3, nf, hv, hd, hp, g0, g1, g2, g3⟩ := open_agg4 Try.underlying71 (by kernel_rfl) (by kernel_rfl) (hval 0 71 v0 rfl rfl) h0
  obtain ⟨m0, hm0, _, wm⟩ := DataW.trod_int Try.underlying3 g0
  obtain ⟨A0, l0, c0, he1, q0, R0⟩ := pairRow_val Try.underlying45 Try.underlying49 Try.underlying3 Try.underlying3 (by kernel_rfl) (by kernel_rfl) g1
  obtain ⟨A1, l1, c1, he2, q1, R1⟩ := pairRow_val Try.underlying45 Try.underlying49 Try.underlying3 Try.underlying3 (by kernel_rfl) (by kernel_rfl) g2
  obtain ⟨A2, l2, c2, he3, q2, R2⟩ := pairRow_val Try.underlying45 Try.underlying49 Try.underlying3 Try.underlying3 (by kernel_rfl) (by kernel_rfl) g3
  have hm1 : e0 = .int .i64 m0 := by simpa using hm0
  subst hm1 he1 he2 he3 hv
  clear hA0 hval0
  have walk : Calls Try.prog 11 _ W fun e w' => e = .returned (.bool true) ∧ Below W.heap.size W w' :=
    int.walk_RingClones m0 A0 A1 A2 l0 c0 l1 c1 l2 c2 q0 q1 q2 W R0 R1 R2
  refine walk.mono fun e W' ⟨he, bel⟩ => ?_
  subst he
  exact ⟨_, rfl, _, _, _, [], _, [], hW', trodAll_mk1 (shut_bool Try.underlying4 _), (trodAll_cons_mk (Below.trod laidOut (by kernel_rfl) (of_decide_eq_true (by kernel_rfl)) k0 bel lt0) trodAll_mk0), rfl, bel.frame _, fun h => by cases h⟩

theorem over : Rows.ringClonesRow.holds Try.pinned (OpenSpec.ofChange Rows.ringClonesSpec) :=
  OpenClaim.holds_of_wide 11 Try.f11 rfl rfl rfl rfl rfl rfl rfl ⟨rfl, rfl, rfl, rfl, rfl⟩ rfl rfl rfl rfl rfl (by kernel_rfl) Try.func11 (by kernel_rfl)
    (of_decide_eq_true (by kernel_rfl)) (by unfold Func.isWrapper; first | (rw [if_pos (by decide +kernel)]; kernel_rfl) | (rw [if_neg (by decide +kernel)]; exact ⟨rfl, rfl⟩))
    (fun os started H enc _ => lifted os started H enc)

theorem proved : Rows.RingClonesSaid := over
#print axioms proved
end Go.Proofs.Ytcdfjhbciknfkaa.ringClones
