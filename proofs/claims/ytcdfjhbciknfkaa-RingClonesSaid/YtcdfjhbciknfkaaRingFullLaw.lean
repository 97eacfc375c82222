/- The walk of RingFull: a row that is filled, emptied, and filled again, has what it should, over its end, too. Condition: the list reads as a row of numbers. -/
import Derived.Test.YtcdfjhbciknfkaaRingAwake
import Derived.Laws.BitsLemmas
import Derived.ProofKit
import Derived.OpenShut
import Derived.Outline
namespace Go.Proofs.Ytcdfjhbciknfkaa.int
open Go.RowKit
set_option linter.unusedVariables false

theorem i64_and31 (n : Int) : bits .and .i64 n 31 = n % 32 := by
  have h : (BitVec.ofInt 64 31).toNat = 2 ^ 5 - 1 := by decide
  have key : (BitVec.ofInt 64 n &&& BitVec.ofInt 64 31).toNat = (n % ((2 ^ 64 : Nat) : Int)).toNat % 2 ^ 5 := by
    rw [BitVec.toNat_and, BitVec.toNat_ofInt, h, Nat.and_two_pow_sub_one_eq_mod]
  show IntKind.i64.wrap ((BitVec.ofInt 64 n &&& BitVec.ofInt 64 31).toNat : Nat) = n % 32
  rw [key, IntKind.wrap_i64]
  omega
theorem and31 (n : Int) : ∃ c : Nat, c ≤ 31 ∧ bits .and .i64 n 31 = (c : Int) := ⟨(n % 32).toNat, by omega, by rw [i64_and31]; omega⟩

/-- A slice of numbers that came in: nil, or a row of cells. -/
def InRow (w : World) (a : Option Addr) (len cap : Nat) (zs : List Int) : Prop :=
  (a = none ∧ len = 0 ∧ cap = 0 ∧ zs = []) ∨
  ∃ x, a = some x ∧ len ≤ cap ∧ cap ≤ maxLen ∧ zs.length = cap ∧ (∀ i, i < zs.length → w.cell? (x.add i) = some (.int .i64 (zs.getD i 0))) ∧ ∀ n ∈ zs, (Lit.int .i64 n).wf = true
def InCells (w : World) (A : Option Addr) (len : Nat) (zs : List Int) : Prop :=
  len = 0 ∨ ∃ b off, A = some ⟨b, off, none⟩ ∧ b < w.heap.size ∧ ∀ i, i < len → w.cell? ⟨b, off + i, none⟩ = some (.int .i64 (zs.getD i 0)) ∧ (Lit.int .i64 (zs.getD i 0)).wf = true
theorem InCells.below {w w' : World} {A : Option Addr} {len : Nat} {zs : List Int} (h : InCells w A len zs) (hb : Below w.heap.size w w') : InCells w' A len zs :=
  h.imp id fun ⟨b, off, e, hl, hc⟩ => ⟨b, off, e, Nat.lt_of_lt_of_le hl hb.size, fun i hi => ⟨by rw [hb.cell (p := ⟨b, off + i, none⟩) hl]; exact (hc i hi).1, (hc i hi).2⟩⟩
theorem InCells.get {w : World} {A : Option Addr} {len k : Nat} {zs : List Int} (h : InCells w A len zs) (hk : k < len) :
    ∃ b off, A = some ⟨b, off, none⟩ ∧ ∃ z, w.cell? ⟨b, off + k, none⟩ = some (.int .i64 z) ∧ -9223372036854775808 ≤ z ∧ z ≤ 9223372036854775807 ∧ z = zs.getD k 0 := by
  rcases h with h | ⟨b, off, e, hl, hc⟩
  · omega
  · have h := hc k hk
    have hw := Go.bounds_i64 h.2
    exact ⟨b, off, e, _, h.1, by omega, by omega, rfl⟩
theorem inRow_cells {w : World} {A : Option Addr} {len cap : Nat} {zs : List Int} (h : InRow w A len cap zs) :
    len ≤ 9223372036854775807 ∧ InCells w A len zs := by
  rcases h with ⟨rfl, rfl, rfl, rfl⟩ | ⟨x, rfl, hl, hm, hz, hcell, hwz⟩
  · exact ⟨by decide, .inl rfl⟩
  · refine ⟨by unfold maxLen at hm; omega, ?_⟩
    by_cases h0 : len = 0
    · exact .inl h0
    · obtain ⟨b, off, spot⟩ := x
      have hc := hcell 0 (by omega)
      have hspot : spot = none := by simpa [Addr.add] using World.cell?_spot hc
      subst hspot
      have hcc : ∀ k, k < len → w.cell? ⟨b, off + k, none⟩ = some (.int .i64 (zs.getD k 0)) := fun k hk => by
        have h1 := hcell k (by omega)
        by_cases hk0 : k = 0
        · subst hk0; simpa [Addr.add] using h1
        · simpa [Addr.add, hk0] using h1
      exact .inr ⟨b, off, rfl, block_lt_of_cell (hcc 0 (by omega)), fun k hk => ⟨hcc k hk, hwz _ (by rw [List.getD_eq_getElem?_getD, List.getElem?_eq_getElem (by omega)]; exact List.getElem_mem _)⟩⟩

/-- The numbers from f on, ahead of n, as Values. -/
def seg (f n : Nat) : List Value := (List.range' f (n - f)).map fun i : Nat => .int .i64 (i : Int)
theorem seg_length (f n : Nat) : (seg f n).length = n - f := by simp [seg]
theorem seg_none (n : Nat) : seg n n = [] := by simp [seg]
theorem seg_snoc {f n : Nat} (h : f ≤ n) : seg f n ++ [.int .i64 (n : Int)] = seg f (n + 1) := by
  unfold seg
  rw [show n + 1 - f = (n - f) + 1 by omega, List.range'_concat, List.map_append]
  simp
  omega
theorem seg_cons {f n : Nat} (h : f < n) : seg f n = .int .i64 (f : Int) :: seg (f + 1) n := by
  unfold seg
  rw [show n - f = (n - (f + 1)) + 1 by omega, List.range'_succ]
  simp

set_option maxHeartbeats 2000000 in
set_option maxRecDepth 100000 in
theorem walk_RingFull (m : Int) (A : Option Addr) (len cap : Nat) (zs : List Int) (w : World) (m1 : -9223372036854775808 ≤ m) (m2 : m ≤ 9223372036854775807) (h : InRow w A len cap zs) :
    Calls Try.prog 10 #[.int .i64 m, .slice A len cap] w fun e w' => e = .returned (.bool true) ∧ Below w.heap.size w w' := by
  obtain ⟨hlen, hc⟩ := inRow_cells h
  have HC := Lib.hid hc
  clear h hc
  obtain ⟨c, hcb, hc⟩ := and31 m
  go_enter Try.func10, Try.ntmps10
  go_wp2_with fail
  refine (ring_awake _).mono ?_
  rintro e w0 ⟨rfl, hb0⟩
  go_wp2_with fail
  refine (s_new _ (1 + (c : Int)) (1 + c) (.inr (.inr ⟨by omega, by omega⟩)) (by omega) (by omega)).mono ?_
  rintro e w1 ⟨r, rfl, h1⟩
  have HB0 := Lib.hid hb0
  have hc0 := Lib.hid hc
  clear hb0 hc
  have H1 := Lib.hid (show Sess w0 w1 r (seg 0 0) (1 + c) from h1)
  clear h1
  go_wp2_with fail
  go_loopw [6, 7, 8] (fun n f i wr => ∃ (k f' n' : Nat), k ≤ 40 ∧ i = .int .i64 k ∧ f = .int .i64 f' ∧ n = .int .i64 n' ∧ f' ≤ n' ∧ n' ≤ 31 * k ∧ Hid (Sess w0 wr r (seg f' n') (1 + c))) (fun _ _ i _ => 40 - (intOf i).toNat)
  case atStart => exact ⟨0, 0, 0, by omega, rfl, rfl, rfl, by omega, by omega, H1⟩
  case round =>
    obtain ⟨k, f, n, hk, rfl, rfl, rfl, hfn, hn, HS⟩ := hrel
    clear H1
    by_cases hlt : k < len ∧ k < 40
    · obtain ⟨hlt, hlt2⟩ := hlt
      have hd40 : decide ((k : Int) < 40) = true := by simp; omega
      obtain ⟨b, off, rfl, z, hcell, hz1, hz2, hz⟩ := (HC.out.below (HB0.out.trans (HS.out.bel.mono HB0.out.size))).get hlt
      have Hz := Lib.hid hz
      clear hz
      obtain ⟨c1, hc1b, hc1⟩ := and31 z
      go_wp2_with fail
      obtain ⟨wo, rfl⟩ : ∃ wo : World, wo = wr := ⟨_, rfl⟩
      have HC1 := Lib.hid hc1
      clear hc1
      have hn0 : f ≤ n := hfn
      go_loopw [6, 35] (fun n2 j wr => ∃ (jj n' : Nat), jj ≤ c1 ∧ j = .int .i64 jj ∧ n2 = .int .i64 n' ∧ f ≤ n' ∧ n' ≤ 31 * k + jj ∧ Hid (Sess w0 wr r (seg f n') (1 + c))) (fun _ j _ => c1 - (intOf j).toNat)
      case atStart => exact ⟨0, n, by omega, rfl, rfl, hfn, by omega, HS⟩
      case round =>
        obtain ⟨jj, n1, hjj, rfl, rfl, hf1, hn1, HS1⟩ := hrel
        clear HS
        by_cases hj : jj < c1
        · have hle := HS1.out.le
          rw [seg_length] at hle
          by_cases hroom : n1 - f < 1 + c
          · have i1 : (n1 : Int) - (f : Int) < 1 + (c : Int) := by omega
            go_wp2_with fail
            refine (s_putYes HS1.out (by rw [seg_length]; exact hroom) (n1 : Int)).mono ?_
            rintro e w3 ⟨rfl, h3⟩
            rw [seg_snoc hf1] at h3
            have H3 := Lib.hid h3
            clear h3
            go_wp2_with fail
            go_roundw
            case rel => exact ⟨jj + 1, n1 + 1, by omega, by go_num, by go_num, by omega, by omega, H3⟩
            case measure => simp [intOf]; omega
          · have i1 : ¬ (n1 : Int) - (f : Int) < 1 + (c : Int) := by omega
            go_wp2_with fail
            refine (s_putNo HS1.out (by rw [seg_length]; omega) (n1 : Int)).mono ?_
            rintro e w3 ⟨rfl, h3⟩
            have H3 := Lib.hid h3
            clear h3
            go_wp2_with fail
            go_roundw
            case rel => exact ⟨jj + 1, n1, by omega, by go_num, rfl, by omega, by omega, H3⟩
            case measure => simp [intOf]; omega
        · have hn2 : n1 ≤ 31 * (k + 1) := by omega
          have hcell2 : wr.cell? ⟨b, off + k, none⟩ = some (.int .i64 z) := by
            obtain ⟨b', off', e', z', hc', _, _, hz'⟩ := (HC.out.below (HB0.out.trans (HS1.out.bel.mono HB0.out.size))).get hlt
            injection e' with e'
            injection e' with e1 e2
            rw [e1, e2, Hz.out, ← hz']; exact hc'
          clear hcell
          obtain ⟨c2, hc2b, hc2⟩ := and31 (z / 32)
          go_wp2_with fail
          obtain ⟨w2, rfl⟩ : ∃ w2 : World, w2 = wr := ⟨_, rfl⟩
          have HC2 := Lib.hid hc2
          clear hc2
          go_loopw [7, 61] (fun f2 j wr => ∃ (jj f' : Nat), jj ≤ c2 ∧ j = .int .i64 jj ∧ f2 = .int .i64 f' ∧ f' ≤ n1 ∧ Hid (Sess w0 wr r (seg f' n1) (1 + c))) (fun _ j _ => c2 - (intOf j).toNat)
          case atStart => exact ⟨0, f, by omega, rfl, rfl, hf1, HS1⟩
          case round =>
            clear HS1
            obtain ⟨jj, f1, hjj, rfl, rfl, hff, HS⟩ := hrel
            by_cases hj : jj < c2
            · by_cases hroom : f1 < n1
              · have i1 : (f1 : Int) < (n1 : Int) := by omega
                have i2 : ((f1 : Int) != (f1 : Int)) = false := by rw [bne_eq_false_iff_eq]
                have hs := HS.out
                rw [seg_cons hroom] at hs
                have HS2 := Lib.hid hs
                clear hs HS
                go_wp2_with fail
                refine (s_takeYes HS2.out).mono ?_
                rintro e w3 ⟨rfl, h3⟩
                have H3 := Lib.hid h3
                clear h3
                go_wp2_with fail
                go_roundw
                case rel => exact ⟨jj + 1, f1 + 1, by omega, by go_num, by go_num, by omega, H3⟩
                case measure => simp [intOf]; omega
              · have hff2 : f1 = n1 := by omega
                have i1 : ¬ (f1 : Int) < (n1 : Int) := by omega
                have hs := HS.out
                rw [hff2, seg_none] at hs
                have HS2 := Lib.hid hs
                have HF := Lib.hid hff2
                clear hs hff2
                go_wp2_with fail
                refine (s_takeNo HS2.out).mono ?_
                rintro e w3 ⟨rfl, rfl⟩
                go_wp2_with fail
                go_roundw
                case rel => exact ⟨jj + 1, f1, by omega, by go_num, rfl, by omega, HS⟩
                case measure => simp [intOf]; omega
            · obtain ⟨f, hfe⟩ : ∃ f, f = f1 := ⟨_, rfl⟩
              subst hfe
              obtain ⟨n, hne⟩ : ∃ n, n = n1 := ⟨_, rfl⟩
              subst hne
              go_wp2_with fail
              refine (s_len HS.out).mono ?_
              rintro e w3 ⟨rfl, rfl⟩
              rw [seg_length, show (((n - f : Nat)) : Int) = (n : Int) - (f : Int) by omega]
              go_wp2_with fail
              refine (s_room HS.out).mono ?_
              rintro e w3 ⟨rfl, q, rfl⟩
              rw [seg_length]
              have HS2 := Lib.hid (HS.out.drewN q)
              have hcast : (((1 + c - (n - f) : Nat)) : Int) = 1 + (c : Int) - ((n : Int) - (f : Int)) := by have := HS.out.le; rw [seg_length] at this; omega
              rw [hcast]
              clear hcast
              go_wp2_with fail
              go_roundw
              case rel => exact ⟨k + 1, f, n, by omega, by go_num, rfl, rfl, by omega, by omega, HS2.out⟩
              case measure => simp [intOf]; omega
    · have hlt0 : True := trivial
      by_cases hl1 : k < len
      · have hl2 : ¬ k < 40 := fun h => hlt ⟨hl1, h⟩
        clear hlt
        go_wp2_with fail
        go_ret
        exact ⟨rfl, HB0.out.trans (HS.out.bel.mono HB0.out.size)⟩
      · clear hlt
        go_wp2_with fail
        go_ret
        exact ⟨rfl, HB0.out.trans (HS.out.bel.mono HB0.out.size)⟩
end Go.Proofs.Ytcdfjhbciknfkaa.int
