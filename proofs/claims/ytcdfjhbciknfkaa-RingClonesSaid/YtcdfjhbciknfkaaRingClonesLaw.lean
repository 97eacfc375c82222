/- The walk of RingClones: a row's clone goes its own way, and so does the row. Condition: the lists read as rows of calls. -/
import Derived.Test.YtcdfjhbciknfkaaRingAwake
import Derived.Test.YtcdfjhbciknfkaaRingFullLaw
import Derived.Test.YtcdfjhbciknfkaaPairRow
namespace Go.Proofs.Ytcdfjhbciknfkaa.int
open Go.RowKit
set_option linter.unusedVariables false

theorem i64_and15 (n : Int) : bits .and .i64 n 15 = n % 16 := by
  have h : (BitVec.ofInt 64 15).toNat = 2 ^ 4 - 1 := by decide
  have key : (BitVec.ofInt 64 n &&& BitVec.ofInt 64 15).toNat = (n % ((2 ^ 64 : Nat) : Int)).toNat % 2 ^ 4 := by
    rw [BitVec.toNat_and, BitVec.toNat_ofInt, h, Nat.and_two_pow_sub_one_eq_mod]
  show IntKind.i64.wrap ((BitVec.ofInt 64 n &&& BitVec.ofInt 64 15).toNat : Nat) = n % 16
  rw [key, IntKind.wrap_i64]
  omega
theorem and15 (n : Int) : ∃ c : Nat, c ≤ 15 ∧ bits .and .i64 n 15 = (c : Int) := ⟨(n % 16).toNat, by omega, by rw [i64_and15]; omega⟩

/-- What stands in the row behind the first k calls. -/
def playL (ps : Nat → Int × Int) (most : Nat) (l : List Int) : Nat → List Int
  | 0 => l
  | k + 1 => if (ps k).1 = 1 then (playL ps most l k).tail else if (playL ps most l k).length < most then playL ps most l k ++ [(ps k).2] else playL ps most l k

theorem RingIn.plus {T E : TypeId} {w a b : World} {S : Nat → Prop} {r : Nat} {l : List Value} {most : Nat} (h : RingIn T E b (Plus (Plus S w a) a b) r l most) (h1 : w.heap.size ≤ a.heap.size) (h2 : a.heap.size ≤ b.heap.size) (hS : ∀ k, S k → k < w.heap.size) : RingIn T E b (Plus S w b) r l most :=
  h.of_blocks (fun k hk => Plus.trans h1 h2 hk) (fun _ _ => rfl) (fun k hk => hk.elim (fun h => Nat.lt_of_lt_of_le (hS k h) (Nat.le_trans h1 h2)) (·.2))
theorem RingIn.plus0 {T E : TypeId} {w b : World} {S : Nat → Prop} {r : Nat} {l : List Value} {most : Nat} (h : RingIn T E b S r l most) (hw : w.heap.size ≤ b.heap.size) : RingIn T E b (Plus S w b) r l most :=
  h.of_blocks (fun k hk => .inl hk) (fun _ _ => rfl) (fun k hk => hk.elim (h.lt k) (·.2))

/-- What a run of calls on one row leaves. -/
def Played (w : World) (S : Nat → Prop) (r most len : Nat) (ps : Nat → Int × Int) (l : List Int) (e : Ending) (w' : World) : Prop :=
  e = .returned (.tuple #[]) ∧ RingIn T 3 w' (Plus S w w') r (VI (playL ps most l (min len 30))) most ∧ Kept S w w'

set_option maxHeartbeats 1000000 in
theorem play (w : World) (S : Nat → Prop) (r most len cap : Nat) (A : Option Addr) (ps : Nat → Int × Int) (l : List Int) (h : RingIn T 3 w S r (VI l) most) {w00 : World} (hB : Below w00.heap.size w00 w) (hA : PairRow w00 A len ps) (hAS : ∀ k, S k → w00.heap.size ≤ k) :
    Calls Try.prog 45 #[.pointer (some ⟨r, 0, none⟩), .slice A len cap] w (Played w S r most len ps l) := by
  have hlen := hA.1
  unfold maxLen at hlen
  have HS := Lib.hid h.lt
  have HA := Lib.hid hA
  have HAS := Lib.hid hAS
  have HB := Lib.hid hB
  have HR0 := Lib.hid (RingIn.plus0 (w := w) h (Nat.le_refl _))
  clear h hA hAS hB
  go_enter Try.func45, Try.ntmps45
  go_wp2_with fail
  go_loopw [4] (fun i wr => ∃ k : Nat, k ≤ len ∧ k ≤ 30 ∧ i = .int .i64 k ∧ RingIn T 3 wr (Plus S w wr) r (VI (playL ps most l k)) most ∧ Kept S w wr) (fun i _ => 30 - (intOf i).toNat)
  case atStart => exact ⟨0, by omega, by omega, rfl, HR0.out, Kept.refl _ _⟩
  case round =>
    obtain ⟨k, hk, hk2, rfl, hR, hK⟩ := hrel
    have HR := Lib.hid hR
    have HK := Lib.hid hK
    clear HR0 hR hK
    by_cases hlt : k < len ∧ k < 30
    · obtain ⟨hlt, hlt2⟩ := hlt
      have hArow := HA.out.below (HB.out.trans (HK.out.below HB.out.size HAS.out))
      obtain ⟨b, off, rfl, hbl, hc0, hc1, hb0, hb1, hb2, hb3⟩ := hArow.get hlt
      have hnext : playL ps most l (k + 1) = if (ps k).1 = 1 then (playL ps most l k).tail else if (playL ps most l k).length < most then playL ps most l k ++ [(ps k).2] else playL ps most l k := rfl
      have HN := Lib.hid hnext
      clear hArow hnext
      generalize hcur : playL ps most l k = cur at *
      have HC := Lib.hid hcur
      clear hcur
      generalize hkind : (ps k).1 = kind at *
      have HKD := Lib.hid hkind
      clear hkind
      generalize hnum : (ps k).2 = num at *
      have HNM := Lib.hid hnum
      clear hnum
      by_cases h1 : kind = 1
      · have hq : (kind == 1) = true := by rw [beq_iff_eq]; exact h1
        have HN' := Lib.hid (HN.out.trans (if_pos h1))
        clear HN h1
        cases cur with
        | nil =>
          have HR1 := Lib.hid (show RingIn T 3 wr (Plus S w wr) r [] most from HR.out)
          go_wp2_with fail
          refine (takeNo wr (Plus S w wr) r most HR1.out).mono ?_
          rintro e w1 ⟨rfl, rfl⟩
          have HR' := Lib.hid (show RingIn T 3 wr (Plus S w wr) r (VI (playL ps most l (k + 1))) most by rw [HN'.out]; exact HR1.out)
          have HK' := HK
          go_wp2_with fail
          go_roundw
          case rel => exact ⟨k + 1, by omega, by omega, by go_num, HR'.out, HK'.out⟩
          case measure => simp [intOf]; omega
        | cons x cur =>
          have HR1 := Lib.hid (show RingIn T 3 wr (Plus S w wr) r (.int .i64 x :: VI cur) most from HR.out)
          go_wp2_with fail
          refine (takeYes wr (Plus S w wr) r most x (VI cur) HR1.out).mono ?_
          rintro e w1 ⟨rfl, hr1, hk1⟩
          have HR' := Lib.hid (show RingIn T 3 w1 (Plus S w w1) r (VI (playL ps most l (k + 1))) most by rw [HN'.out]; exact RingIn.plus (RingIn.plus0 (w := wr) hr1 hk1.size) HK.out.size hk1.size HS.out)
          have HK' := Lib.hid (HK.out.trans hk1)
          clear hr1 hk1
          go_wp2_with fail
          go_roundw
          case rel => exact ⟨k + 1, by omega, by omega, by go_num, HR'.out, HK'.out⟩
          case measure => simp [intOf]; omega
      · have hq : (kind == 1) = false := by rw [beq_eq_false_iff_ne]; exact h1
        have HN' := Lib.hid (HN.out.trans (if_neg h1))
        clear HN h1
        by_cases hroom : cur.length < most
        · have HN2 := Lib.hid (HN'.out.trans (if_pos hroom))
          go_wp2_with fail
          refine (putYes wr (Plus S w wr) r most (VI cur) HR.out (by rw [List.length_map]; exact hroom) num).mono ?_
          rintro e w1 ⟨rfl, hr1, hk1⟩
          have HR' := Lib.hid (show RingIn T 3 w1 (Plus S w w1) r (VI (playL ps most l (k + 1))) most by rw [HN2.out, show VI (cur ++ [num]) = VI cur ++ [.int .i64 num] by simp]; exact RingIn.plus hr1 HK.out.size hk1.size HS.out)
          have HK' := Lib.hid (HK.out.trans hk1)
          clear hr1 hk1
          go_wp2_with fail
          go_roundw
          case rel => exact ⟨k + 1, by omega, by omega, by go_num, HR'.out, HK'.out⟩
          case measure => simp [intOf]; omega
        · have HN2 := Lib.hid (HN'.out.trans (if_neg hroom))
          have hle := HR.out.le
          rw [List.length_map] at hle
          go_wp2_with fail
          refine (putNo wr (Plus S w wr) r most (VI cur) HR.out (by rw [List.length_map]; omega) num).mono ?_
          rintro e w1 ⟨rfl, q, rfl⟩
          have HR' := Lib.hid (show RingIn T 3 (wr.drewN q) (Plus S w (wr.drewN q)) r (VI (playL ps most l (k + 1))) most by rw [HN2.out]; exact HR.out.drewN q)
          have HK' := Lib.hid (HK.out.drewN q)
          go_wp2_with fail
          go_roundw
          case rel => exact ⟨k + 1, by omega, by omega, by go_num, HR'.out, HK'.out⟩
          case measure => simp [intOf]; omega
    · have hkm : k = min len 30 := by omega
      have HKM := Lib.hid hkm
      clear hkm
      by_cases hl1 : k < len
      · have hl2 : ¬ k < 30 := fun h => hlt ⟨hl1, h⟩
        clear hlt
        go_wp2_with fail
        go_end0
        exact ⟨rfl, by rw [← HKM.out]; exact HR.out, HK.out⟩
      · clear hlt
        go_wp2_with fail
        go_end0
        exact ⟨rfl, by rw [← HKM.out]; exact HR.out, HK.out⟩

theorem kept_of_below {S : Nat → Prop} {w w' : World} (h : Below w.heap.size w w') : Kept S w w' := Kept.of_below h

set_option maxHeartbeats 2000000 in
set_option maxRecDepth 100000 in
theorem walk_RingClones (m : Int) (A0 A1 A2 : Option Addr) (l0 c0 l1 c1 l2 c2 : Nat) (p0 p1 p2 : Nat → Int × Int) (w : World) (h0 : PairRow w A0 l0 p0) (h1 : PairRow w A1 l1 p1) (h2 : PairRow w A2 l2 p2) :
    Calls Try.prog 11 #[.agg #[.int .i64 m, .slice A0 l0 c0, .slice A1 l1 c1, .slice A2 l2 c2]] w fun e w' => e = .returned (.bool true) ∧ Below w.heap.size w w' := by
  obtain ⟨c, hcb, hc⟩ := and15 m
  have H0 := Lib.hid h0
  have H1 := Lib.hid h1
  have H2 := Lib.hid h2
  clear h0 h1 h2
  go_enter Try.func11, Try.ntmps11
  go_wp2_with fail
  refine (ring_awake _).mono ?_
  rintro e w1 ⟨rfl, hb1⟩
  have hg : (w.alloc (.cells #[.int .i64 m, .slice A0 l0 c0, .slice A1 l1 c1, .slice A2 l2 c2] 71)).heap[w.heap.size]? = some (.cells #[.int .i64 m, .slice A0 l0 c0, .slice A1 l1 c1, .slice A2 l2 c2] 71 (0, 0)) := heap_alloc_new w _
  have hg1 := (hb1.block w.heap.size (by simp)).trans hg
  have k0 : w1.cell? ⟨w.heap.size, 0, none⟩ = some (.int .i64 m) := by rw [cell_blk hg1]; rfl
  have k1 : w1.cell? ⟨w.heap.size, 1, none⟩ = some (.slice A0 l0 c0) := by rw [cell_blk hg1]; rfl
  have k2 : w1.cell? ⟨w.heap.size, 2, none⟩ = some (.slice A1 l1 c1) := by rw [cell_blk hg1]; rfl
  have k3 : w1.cell? ⟨w.heap.size, 3, none⟩ = some (.slice A2 l2 c2) := by rw [cell_blk hg1]; rfl
  have hb : Below w.heap.size w w1 := ((Below.refl _ w).alloc (Nat.le_refl _) _).trans (hb1.mono (by simp))
  have HB1 := Lib.hid hb
  clear hb1 hg hg1 hb
  go_wp2_with fail
  go_quiet (fail)
  go_wp2_with fail
  have hbW : Below w.heap.size w (w1.drewN nq) := HB1.out.trans ⟨rfl, rfl, rfl, Nat.le_refl _, fun _ _ => rfl⟩
  clear k0 k1 k2 k3
  generalize w1.drewN nq = W at *
  have HBW := Lib.hid hbW
  clear hbW HB1
  have HC := Lib.hid hc
  clear hc
  refine (new W (1 + (c : Int)) (1 + c) (.inr (.inr ⟨by omega, by omega⟩)) (by omega) (by omega)).mono ?_
  rintro e w2 ⟨r, rfl, hr2, hb2⟩
  have HR2 := Lib.hid (show RingIn T 3 w2 (fun k => W.heap.size ≤ k ∧ k < w2.heap.size) r (VI []) (1 + c) from hr2)
  have HB2 := Lib.hid (HBW.out.trans (hb2.mono HBW.out.size))
  have s2 := hb2.size
  have sW := HBW.out.size
  clear hr2 hb2
  go_wp2_with fail
  refine (play w2 _ r (1 + c) l0 c0 A0 p0 [] HR2.out HB2.out H0.out (fun k hk => Nat.le_trans sW hk.1)).mono ?_
  rintro e w3 ⟨rfl, hr3, hk3⟩
  have s3 := hk3.size
  have hr3' := hr3.of_blocks (S' := fun k => W.heap.size ≤ k ∧ k < w3.heap.size) (w' := w3) (fun k hk => hk.elim (fun h => ⟨h.1, by omega⟩) (fun h => ⟨by omega, h.2⟩)) (fun _ _ => rfl) (fun _ h => h.2)
  have HB3 := Lib.hid (HB2.out.trans (hk3.below HB2.out.size (fun k hk => Nat.le_trans sW hk.1)))
  generalize playL p0 (1 + c) [] (min l0 30) = lb at *
  have HR3 := Lib.hid hr3'
  clear hr3 hr3' hk3 HR2 HB2
  go_wp2_with fail
  refine (clone w3 _ r (1 + c) _ HR3.out).mono ?_
  rintro e w4 ⟨p, rfl, hp4, hb4⟩
  have s4 := hb4.size
  have HR4 := Lib.hid (HR3.out.below hb4)
  have HP4 := Lib.hid hp4
  have HB4 := Lib.hid (HB3.out.trans (hb4.mono HB3.out.size))
  clear hp4 hb4 HR3 HB3
  go_wp2_with fail
  refine (clone w4 _ r (1 + c) _ HR4.out).mono ?_
  rintro e w5 ⟨q, rfl, hq5, hb5⟩
  have s5 := hb5.size
  have HR5 := Lib.hid (HR4.out.below hb5)
  have HP5 := Lib.hid (HP4.out.below hb5)
  have HQ5 := Lib.hid hq5
  have HB5 := Lib.hid (HB4.out.trans (hb5.mono HB4.out.size))
  clear hq5 hb5 HR4 HP4 HB4
  go_wp2_with fail
  refine (play w5 _ r (1 + c) l1 c1 A1 p1 lb HR5.out HB5.out H1.out (fun k hk => Nat.le_trans sW hk.1)).mono ?_
  rintro e w6 ⟨rfl, hr6, hk6⟩
  have s6 := hk6.size
  have HR6 := Lib.hid hr6
  have HP6 := Lib.hid (HP5.out.kept hk6 (fun k h1 h2 => by have := h1.1; have := h2.2; omega))
  have HQ6 := Lib.hid (HQ5.out.kept hk6 (fun k h1 h2 => by have := h1.1; have := h2.2; omega))
  have HB6 := Lib.hid (HB5.out.trans (hk6.below HB5.out.size (fun k hk => Nat.le_trans sW hk.1)))
  clear hr6 hk6 HR5 HP5 HQ5 HB5
  go_wp2_with fail
  refine (play w6 _ q (1 + c) l2 c2 A2 p2 lb HQ6.out HB6.out H2.out (fun k hk => by have := hk.1; omega)).mono ?_
  rintro e w7 ⟨rfl, hq7, hk7⟩
  have s7 := hk7.size
  have HQ7 := Lib.hid hq7
  have HP7 := Lib.hid (HP6.out.kept hk7 (fun k h1 h2 => by have := h1.2; have := h2.1; omega))
  have HR7 := Lib.hid (HR6.out.kept hk7 (fun k h1 h2 => by have h3 := h2.1; have h4 := h2.2; rcases h1 with h1 | h1 <;> (have := h1.2; have := h1.1; omega)))
  have HB7 := Lib.hid (HB6.out.trans (hk7.below HB6.out.size (fun k hk => by have := hk.1; omega)))
  clear hq7 hk7 HR6 HP6 HQ6 HB6
  go_wp2_with fail
  refine (play w7 _ p (1 + c) l1 c1 A1 p1 lb HP7.out HB7.out H1.out (fun k hk => by have := hk.1; omega)).mono ?_
  rintro e w8 ⟨rfl, hp8, hk8⟩
  have s8 := hk8.size
  have HP8 := Lib.hid hp8
  have HQ8 := Lib.hid (HQ7.out.kept hk8 (fun k h1 h2 => by have h3 := h2.1; have h4 := h2.2; rcases h1 with h1 | h1 <;> (have := h1.2; have := h1.1; omega)))
  have HR8 := Lib.hid (HR7.out.kept hk8 (fun k h1 h2 => by have h3 := h2.1; have h4 := h2.2; rcases h1 with h1 | h1 <;> (have := h1.2; have := h1.1; omega)))
  have HB8 := Lib.hid (HB7.out.trans (hk8.below HB7.out.size (fun k hk => by have := hk.1; omega)))
  generalize playL p1 (1 + c) lb (min l1 30) = le at *
  have hle : le.length ≤ 1048576 := by have h := HR8.out.le; rw [List.length_map] at h; omega
  clear hp8 hk8 HR7 HP7 HQ7 HB7
  go_wp2_with fail
  refine (all w8 _ r (1 + c) _ HR8.out).mono ?_
  rintro e w9 ⟨v1, rfl, hv1, hb9⟩
  have HV1 := Lib.hid (intRow_of (hv1.imp id fun h => ⟨h.1, _, h.2⟩) hle)
  have HR9 := Lib.hid (HR8.out.below hb9)
  have HP9 := Lib.hid (HP8.out.below hb9)
  have HQ9 := Lib.hid (HQ8.out.below hb9)
  have HB9 := Lib.hid (HB8.out.trans (hb9.mono HB8.out.size))
  clear hv1 hb9 HR8 HP8 HQ8 HB8
  go_wp2_with fail
  refine (all w9 _ p (1 + c) _ HP9.out).mono ?_
  rintro e w10 ⟨v2, rfl, hv2, hb10⟩
  have HV2 := Lib.hid (intRow_of (hv2.imp id fun h => ⟨h.1, _, h.2⟩) hle)
  have HV1' := Lib.hid (HV1.out.below hb10)
  have HR10 := Lib.hid (HR9.out.below hb10)
  have HP10 := Lib.hid (HP9.out.below hb10)
  have HQ10 := Lib.hid (HQ9.out.below hb10)
  have HB10 := Lib.hid (HB9.out.trans (hb10.mono HB9.out.size))
  clear hv2 hb10 HR9 HP9 HQ9 HB9 HV1
  go_wp2_with fail
  refine (ref_same v1 v2 le le w10 HV1'.out HV2.out).mono ?_
  rintro e w11 ⟨rfl, q1, rfl⟩
  rw [show sameB le le = true by simp [sameB]]
  have HRd := Lib.hid (HR10.out.drewN q1)
  have HPd := Lib.hid (HP10.out.drewN q1)
  have HQd := Lib.hid (HQ10.out.drewN q1)
  have HBd : Hid (Below w.heap.size w (w10.drewN q1)) := HB10.out.trans ⟨rfl, rfl, rfl, Nat.le_refl _, fun _ _ => rfl⟩
  clear HR10 HP10 HQ10 HB10 HV1' HV2
  generalize w10.drewN q1 = Wa at *
  go_wp2_with fail
  refine (room Wa _ r (1 + c) _ HRd.out).mono ?_
  rintro e w11 ⟨rfl, q2, rfl⟩
  have HPe := Lib.hid (HPd.out.drewN q2)
  have HRe := Lib.hid (HRd.out.drewN q2)
  have HQe := Lib.hid (HQd.out.drewN q2)
  have HBe : Hid (Below w.heap.size w (Wa.drewN q2)) := HBd.out.trans ⟨rfl, rfl, rfl, Nat.le_refl _, fun _ _ => rfl⟩
  clear HRd HPd HQd HBd
  generalize Wa.drewN q2 = Wb at *
  obtain ⟨rm, hrm⟩ : ∃ rm, rm = 1 + c - (VI le).length := ⟨_, rfl⟩
  rw [← hrm]
  have Hrm := Lib.hid hrm
  clear hrm
  go_wp2_with fail
  refine (room Wb _ p (1 + c) _ HPe.out).mono ?_
  rintro e w11 ⟨rfl, q3, rfl⟩
  rw [← Hrm.out]
  have HRf := Lib.hid (HRe.out.drewN q3)
  have HQf := Lib.hid (HQe.out.drewN q3)
  have HBf : Hid (Below w.heap.size w (Wb.drewN q3)) := HBe.out.trans ⟨rfl, rfl, rfl, Nat.le_refl _, fun _ _ => rfl⟩
  clear HRe HQe HBe HPe
  generalize Wb.drewN q3 = Wc at *
  go_wp2_with fail
  refine (mostOf Wc _ q (1 + c) _ HQf.out).mono ?_
  rintro e w11 ⟨rfl, rfl⟩
  go_wp2_with fail
  refine (mostOf Wc _ r (1 + c) _ HRf.out).mono ?_
  rintro e w11 ⟨rfl, rfl⟩
  go_wp2_with fail
  go_ret
  exact ⟨rfl, HBf.out⟩
end Go.Proofs.Ytcdfjhbciknfkaa.int
