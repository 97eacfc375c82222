/- The walk of PolliwogRow: what goes through a row, sealed, fits behind it, each once. Condition: the list reads as a row of texts. -/
import Derived.Test.YtcdfjhbciknfkaaCrcAwake
import Derived.Test.YtcdfjhbciknfkaaRingSessStr
import Derived.Test.YtcdfjhbciknfkaaStrRow
namespace Go.Proofs.Ytcdfjhbciknfkaa
open Go.RowKit Crc
set_option linter.unusedVariables false

/-- Texts that fit, none of them long. -/
def AllFit (l : List ByteArray) : Prop := ∀ x, x ∈ l → fitsB x = true ∧ x.size ≤ 34
theorem allFit_snoc {l : List ByteArray} {x : ByteArray} (h : AllFit l) (h1 : fitsB x = true) (h2 : x.size ≤ 34) : AllFit (l ++ [x]) := fun y hy => by
  rcases List.mem_append.1 hy with hy | hy
  · exact h y hy
  · simp at hy; subst hy; exact ⟨h1, h2⟩

set_option maxHeartbeats 4000000 in
set_option maxRecDepth 100000 in
theorem walkRow_mid (A : Option Addr) (len cap : Nat) (m : Int) (w : World) (M : Nat) (m1 : 1 < m) (m2 : m ≤ 40) (hMm : m = (M : Int)) (h : StrRow w A len) :
    Calls Try.prog 13 #[.slice A len cap, .int .i64 m] w fun e w' => e = .returned (.bool true) ∧ Below w.heap.size w w' := by
  have hz := (zero_of_info infoTab).1
  have HZ := Lib.hid zeros_tab
  generalize zeros256 = Z at *
  have H := Lib.hid h.2
  have hlen := h.1
  unfold maxLen at hlen
  clear h
  subst hMm
  have hM1 : 1 ≤ M := by omega
  have hM2 : M ≤ 40 := by omega
  go_enter Try.func13, Try.ntmps13
  go_wp2_with fail
  refine (crc_make _).mono ?_
  rintro e w1 ⟨rfl, hb1⟩
  go_wp2_with (refine wpList_store_row rfl 82 (.tmp 5) (.tmp 14) rfl w1.heap.size tabArr rfl rfl 82 Z (heap_alloc_new w1 _) tabInfo HZ.out tabArr_one ?_)
  have hh := Has.made hb1 Z 82
  generalize (w1.alloc (.cells Z 82)).setRow w1.heap.size tabArr = w2 at *
  generalize w1.heap.size = g at *
  have HT0 := Lib.hid hh
  clear hb1 hz HZ hh
  refine (string.s_new _ _ M (.inr (.inr ⟨by omega, by omega⟩)) (by omega) (by omega)).mono ?_
  rintro e w1 ⟨r, rfl, h1⟩
  have H1 := Lib.hid h1
  have HT1 := Lib.hid (HT0.out.next h1.bel)
  clear h1
  go_wp2_with fail
  refine (crc_sum [] none 0 g w1 (by simp) HT1.out.tab ⟨by simp, .inl rfl⟩).mono ?_
  rintro e w3 ⟨rfl, qs, rfl⟩
  have hs1 := H1.out.drewN qs
  rw [sum_none]
  clear HT1 H1
  generalize w1.drewN qs = w1 at *
  have H1 := Lib.hid hs1
  clear hs1
  go_wp2_with fail
  go_loopw [7, 8] (fun n2 i wr => ∃ (k n : Nat) (L : List ByteArray), k ≤ len ∧ k ≤ 40 ∧ i = .int .i64 k ∧ n2 = .int .i64 n ∧ n + L.length = k ∧ AllFit L ∧ Hid (string.Sess w2 wr r (L.map Value.string) M)) (fun _ i _ => 40 - (intOf i).toNat)
  case atStart => exact ⟨0, 0, [], by omega, by omega, rfl, rfl, rfl, fun x hx => (by simp at hx), H1⟩
  case round =>
    obtain ⟨k, n, L, hk1, hk2, rfl, rfl, hn, hF, HS⟩ := hrel
    have HF := Lib.hid hF
    have HT := Lib.hid (HT0.out.next HS.out.bel)
    clear H1 hF
    by_cases hlt : k < len ∧ k < 40
    · obtain ⟨hlt, hlt2⟩ := hlt
      obtain ⟨b, off, rfl, s, hs, hcell⟩ : ∃ b off, A = some ⟨b, off, none⟩ ∧ ∃ s : ByteArray, s.size ≤ maxLen ∧ wr.cell? ⟨b, off + k, none⟩ = some (.string s) := by
        rcases H.out with h0 | ⟨b, off, hA, hcell⟩
        · omega
        · obtain ⟨s, hs, hc⟩ := hcell k hlt
          exact ⟨b, off, hA, s, hs, by rw [HT.out.below.cell (block_lt_of_cell hc)]; exact hc⟩
      have hs2 := hs
      unfold maxLen at hs2
      by_cases hlong : 30 < s.size
      · have hq : (s.extract 0 30).size ≤ 30 := by rw [ByteArray.size_extract]; omega
        go_wp2_with fail
        generalize s.extract 0 30 = q at *
        clear hs hs2 hlong
        go_wp2_with fail
        refine (string.s_room HS.out).mono ?_
        rintro e w3 ⟨rfl, qq, rfl⟩
        rw [List.length_map]
        have hSd := HS.out.drewN qq
        have hTd := HT.out.drewN qq
        clear HS HT hcell
        generalize wr.drewN qq = W at *
        have HS := Lib.hid hSd
        have HT := Lib.hid hTd
        clear hSd hTd
        obtain ⟨R, hR⟩ : ∃ R, R = M - L.length := ⟨_, rfl⟩
        rw [← hR]
        by_cases hfull : L.length = M
        · have hz : (((R : Nat) : Int) == 0) = true := by rw [beq_iff_eq]; omega
          clear hR
          cases L with
          | nil => simp at hfull; omega
          | cons x L' =>
            rw [List.length_cons] at hfull hn
            have hS0 : string.Sess w2 W r (.string x :: L'.map Value.string) M := HS.out
            have HS0 := Lib.hid hS0
            have HFx := HF.out x List.mem_cons_self
            have HFR : Hid (AllFit L') := fun y hy => HF.out y (List.mem_cons_of_mem _ hy)
            have hx1 : x.size ≤ maxLen := by unfold maxLen; have := HFx.2; omega
            have HFx1 := Lib.hid HFx.1
            have Hx1 := Lib.hid hx1
            have HFL := Lib.hid (show L'.length < M by omega)
            have HN := Lib.hid hn
            have hnb : (n : Int) ≤ 40 := by omega
            clear HS HF HFx hS0 hx1 hn hfull
            go_wp2_with fail
            refine (string.s_takeYes HS0.out).mono ?_
            rintro e w4 ⟨rfl, hs4⟩
            have HS4 := Lib.hid hs4
            have HT4 := Lib.hid (HT0.out.next (hs4.bel))
            clear hs4
            go_wp2_with fail
            refine (fits2 x g _ Hx1.out HT4.out.tab).mono ?_
            rintro e w5 ⟨rfl, hb5⟩
            rw [HFx1.out]
            have HSR := Lib.hid (HS4.out.below hb5)
            have HTR := Lib.hid (HT4.out.next hb5)
            clear hb5
            obtain ⟨LR, hLR⟩ : ∃ LR, LR = L' := ⟨_, rfl⟩
            subst hLR
            clear HS4 HT4 HS0
            go_wp2_with fail
            refine (crc_seal q g _ (by omega) HTR.out.tab).mono ?_
            rintro e w5 ⟨rfl, hb5⟩
            have HB5 := Lib.hid hb5
            clear hb5
            have HS5 := Lib.hid (HSR.out.below HB5.out)
            have hfq := fits_seal q
            have hsq : (q ++ four (sumOf q)).size ≤ 34 := by rw [ByteArray.size_append, four_size]; omega
            generalize q ++ four (sumOf q) = t at *
            have Hfq := Lib.hid hfq
            clear hfq
            go_wp2_with fail
            refine (string.s_putYes HS5.out (by rw [List.length_map]; have := HFL.out; omega) t).mono ?_
            rintro e w6 ⟨rfl, hs6⟩
            rw [show LR.map Value.string ++ [.string t] = (LR ++ [t]).map Value.string by simp] at hs6
            have HS6 := Lib.hid hs6
            clear hs6
            go_wp2_with fail
            go_roundw
            case rel => exact ⟨k + 1, n + 1, LR ++ [t], by omega, by omega, by go_num, by go_num, by simp; have := HN.out; omega, allFit_snoc HFR.out Hfq.out hsq, HS6⟩
            case measure => simp [intOf]; omega
        · have hle := HS.out.le
          rw [List.length_map] at hle
          have hz : (((R : Nat) : Int) == 0) = false := by rw [beq_eq_false_iff_ne]; omega
          clear hR
          obtain ⟨LR, hLR⟩ : ∃ LR, LR = L := ⟨_, rfl⟩
          subst hLR
          have HSR := HS
          have HTR := HT
          have HFR := HF
          have HFL := Lib.hid (show LR.length < M by omega)
          have HN := Lib.hid hn
          have hnb : (n : Int) ≤ 40 := by omega
          clear HS HT HF hn hfull
          go_wp2_with fail
          refine (crc_seal q g _ (by omega) HTR.out.tab).mono ?_
          rintro e w5 ⟨rfl, hb5⟩
          have HB5 := Lib.hid hb5
          clear hb5
          have HS5 := Lib.hid (HSR.out.below HB5.out)
          have hfq := fits_seal q
          have hsq : (q ++ four (sumOf q)).size ≤ 34 := by rw [ByteArray.size_append, four_size]; omega
          generalize q ++ four (sumOf q) = t at *
          have Hfq := Lib.hid hfq
          clear hfq
          go_wp2_with fail
          refine (string.s_putYes HS5.out (by rw [List.length_map]; have := HFL.out; omega) t).mono ?_
          rintro e w6 ⟨rfl, hs6⟩
          rw [show LR.map Value.string ++ [.string t] = (LR ++ [t]).map Value.string by simp] at hs6
          have HS6 := Lib.hid hs6
          clear hs6
          go_wp2_with fail
          go_roundw
          case rel => exact ⟨k + 1, n, LR ++ [t], by omega, by omega, by go_num, rfl, by simp; have := HN.out; omega, allFit_snoc HFR.out Hfq.out hsq, HS6⟩
          case measure => simp [intOf]; omega
      · have hq : s.size ≤ 30 := by omega
        obtain ⟨q, hqe⟩ : ∃ q, q = s := ⟨_, rfl⟩
        subst hqe
        go_wp2_with fail
        refine (string.s_room HS.out).mono ?_
        rintro e w3 ⟨rfl, qq, rfl⟩
        rw [List.length_map]
        have hSd := HS.out.drewN qq
        have hTd := HT.out.drewN qq
        clear HS HT hcell
        generalize wr.drewN qq = W at *
        have HS := Lib.hid hSd
        have HT := Lib.hid hTd
        clear hSd hTd
        obtain ⟨R, hR⟩ : ∃ R, R = M - L.length := ⟨_, rfl⟩
        rw [← hR]
        by_cases hfull : L.length = M
        · have hz : (((R : Nat) : Int) == 0) = true := by rw [beq_iff_eq]; omega
          clear hR
          cases L with
          | nil => simp at hfull; omega
          | cons x L' =>
            rw [List.length_cons] at hfull hn
            have hS0 : string.Sess w2 W r (.string x :: L'.map Value.string) M := HS.out
            have HS0 := Lib.hid hS0
            have HFx := HF.out x List.mem_cons_self
            have HFR : Hid (AllFit L') := fun y hy => HF.out y (List.mem_cons_of_mem _ hy)
            have hx1 : x.size ≤ maxLen := by unfold maxLen; have := HFx.2; omega
            have HFx1 := Lib.hid HFx.1
            have Hx1 := Lib.hid hx1
            have HFL := Lib.hid (show L'.length < M by omega)
            have HN := Lib.hid hn
            have hnb : (n : Int) ≤ 40 := by omega
            clear HS HF HFx hS0 hx1 hn hfull
            go_wp2_with fail
            refine (string.s_takeYes HS0.out).mono ?_
            rintro e w4 ⟨rfl, hs4⟩
            have HS4 := Lib.hid hs4
            have HT4 := Lib.hid (HT0.out.next (hs4.bel))
            clear hs4
            go_wp2_with fail
            refine (fits2 x g _ Hx1.out HT4.out.tab).mono ?_
            rintro e w5 ⟨rfl, hb5⟩
            rw [HFx1.out]
            have HSR := Lib.hid (HS4.out.below hb5)
            have HTR := Lib.hid (HT4.out.next hb5)
            clear hb5
            obtain ⟨LR, hLR⟩ : ∃ LR, LR = L' := ⟨_, rfl⟩
            subst hLR
            clear HS4 HT4 HS0
            go_wp2_with fail
            refine (crc_seal q g _ (by omega) HTR.out.tab).mono ?_
            rintro e w5 ⟨rfl, hb5⟩
            have HB5 := Lib.hid hb5
            clear hb5
            have HS5 := Lib.hid (HSR.out.below HB5.out)
            have hfq := fits_seal q
            have hsq : (q ++ four (sumOf q)).size ≤ 34 := by rw [ByteArray.size_append, four_size]; omega
            generalize q ++ four (sumOf q) = t at *
            have Hfq := Lib.hid hfq
            clear hfq
            go_wp2_with fail
            refine (string.s_putYes HS5.out (by rw [List.length_map]; have := HFL.out; omega) t).mono ?_
            rintro e w6 ⟨rfl, hs6⟩
            rw [show LR.map Value.string ++ [.string t] = (LR ++ [t]).map Value.string by simp] at hs6
            have HS6 := Lib.hid hs6
            clear hs6
            go_wp2_with fail
            go_roundw
            case rel => exact ⟨k + 1, n + 1, LR ++ [t], by omega, by omega, by go_num, by go_num, by simp; have := HN.out; omega, allFit_snoc HFR.out Hfq.out hsq, HS6⟩
            case measure => simp [intOf]; omega
        · have hle := HS.out.le
          rw [List.length_map] at hle
          have hz : (((R : Nat) : Int) == 0) = false := by rw [beq_eq_false_iff_ne]; omega
          clear hR
          obtain ⟨LR, hLR⟩ : ∃ LR, LR = L := ⟨_, rfl⟩
          subst hLR
          have HSR := HS
          have HTR := HT
          have HFR := HF
          have HFL := Lib.hid (show LR.length < M by omega)
          have HN := Lib.hid hn
          have hnb : (n : Int) ≤ 40 := by omega
          clear HS HT HF hn hfull
          go_wp2_with fail
          refine (crc_seal q g _ (by omega) HTR.out.tab).mono ?_
          rintro e w5 ⟨rfl, hb5⟩
          have HB5 := Lib.hid hb5
          clear hb5
          have HS5 := Lib.hid (HSR.out.below HB5.out)
          have hfq := fits_seal q
          have hsq : (q ++ four (sumOf q)).size ≤ 34 := by rw [ByteArray.size_append, four_size]; omega
          generalize q ++ four (sumOf q) = t at *
          have Hfq := Lib.hid hfq
          clear hfq
          go_wp2_with fail
          refine (string.s_putYes HS5.out (by rw [List.length_map]; have := HFL.out; omega) t).mono ?_
          rintro e w6 ⟨rfl, hs6⟩
          rw [show LR.map Value.string ++ [.string t] = (LR ++ [t]).map Value.string by simp] at hs6
          have HS6 := Lib.hid hs6
          clear hs6
          go_wp2_with fail
          go_roundw
          case rel => exact ⟨k + 1, n, LR ++ [t], by omega, by omega, by go_num, rfl, by simp; have := HN.out; omega, allFit_snoc HFR.out Hfq.out hsq, HS6⟩
          case measure => simp [intOf]; omega
    · by_cases hl1 : k < len
      · have hl2 : ¬ k < 40 := fun h => hlt ⟨hl1, h⟩
        clear hlt
        go_wp2_with fail
        refine (string.s_clear HS.out).mono ?_
        rintro e w3 ⟨v, rfl, hv, hs3⟩
        have HB3 := Lib.hid hs3.bel
        clear hs3
        have hL : (L.map Value.string).length = L.length := List.length_map ..
        obtain ⟨A, cp, rfl, hrow⟩ : ∃ A cp, v = .slice A L.length cp ∧ (L = [] ∨ ∃ b, A = some ⟨b, 0, none⟩ ∧ b < w3.heap.size ∧ ∀ j s, L[j]? = some s → w3.cell? ⟨b, j, none⟩ = some (.string s)) := by
          rcases hv with ⟨h0, rfl⟩ | ⟨h0, b, rfl, hg⟩
          · exact ⟨none, 0, by rw [List.map_eq_nil_iff.1 h0]; rfl, .inl (List.map_eq_nil_iff.1 h0)⟩
          · exact ⟨_, _, by rw [hL], .inr ⟨b, rfl, (Array.getElem?_eq_some_iff.1 hg).1, fun j s hj => by rw [cell_blk hg]; simp [hj]⟩⟩
        have HRow := Lib.hid hrow
        have HT3 := Lib.hid (HT0.out.next HB3.out)
        clear hv hrow HS HT hL
        go_wp2_with fail
        go_loopw [7, 69] (fun n2 j wr => ∃ jj : Nat, jj ≤ L.length ∧ j = .int .i64 jj ∧ n2 = .int .i64 ((n + jj : Nat) : Int) ∧ Hid (Below w3.heap.size w3 wr)) (fun _ j _ => L.length - (intOf j).toNat)
        case atStart => exact ⟨0, by omega, rfl, rfl, Below.refl _ _⟩
        case round =>
          obtain ⟨jj, hjj, rfl, rfl, HB⟩ := hrel
          by_cases hj : jj < L.length
          · obtain ⟨b, rfl, hb, hc⟩ := HRow.out.resolve_left (fun e => by rw [e] at hj; simp at hj)
            have ex := List.getElem?_eq_getElem hj
            have hc := hc jj _ ex
            have hfx := HF.out _ (List.getElem_mem hj)
            generalize L[jj] = x at *
            have hcell : wr.cell? ⟨b, jj, none⟩ = some (.string x) := by rw [HB.out.cell (p := ⟨b, jj, none⟩) hb]; exact hc
            have Hfx := Lib.hid hfx
            have Hx := Lib.hid (show x.size ≤ maxLen by unfold maxLen; have := hfx.2; omega)
            have HTj := Lib.hid (HT3.out.next HB.out)
            clear ex hc hfx
            have i1 : (0 : Int) ≤ (jj : Int) := by omega
            have i2 : (jj : Int) < (L.length : Int) := by omega
            go_wp2_with fail
            refine (fits2 x g _ Hx.out HTj.out.tab).mono ?_
            rintro e w5 ⟨rfl, hb5⟩
            rw [Hfx.out.1]
            have HB5 := Lib.hid (HB.out.trans (hb5.mono HB.out.size))
            clear hb5
            have hnn : ((n + jj : Nat) : Int) + 1 = ((n + (jj + 1) : Nat) : Int) := by omega
            go_wp2_with fail
            go_roundw
            case rel => exact ⟨jj + 1, by omega, by go_num, by first | rfl | (rw [hnn]) | go_num, HB5⟩
            case measure => simp [intOf]; omega
          · have hend : n + jj = k := by omega
            go_wp2_with fail
            go_ret
            have hbel := HT3.out.next HB.out
            exact ⟨by rw [hend]; congr 2; simp; omega, hbel.below⟩
      · clear hlt
        go_wp2_with fail
        refine (string.s_clear HS.out).mono ?_
        rintro e w3 ⟨v, rfl, hv, hs3⟩
        have HB3 := Lib.hid hs3.bel
        clear hs3
        have hL : (L.map Value.string).length = L.length := List.length_map ..
        obtain ⟨A, cp, rfl, hrow⟩ : ∃ A cp, v = .slice A L.length cp ∧ (L = [] ∨ ∃ b, A = some ⟨b, 0, none⟩ ∧ b < w3.heap.size ∧ ∀ j s, L[j]? = some s → w3.cell? ⟨b, j, none⟩ = some (.string s)) := by
          rcases hv with ⟨h0, rfl⟩ | ⟨h0, b, rfl, hg⟩
          · exact ⟨none, 0, by rw [List.map_eq_nil_iff.1 h0]; rfl, .inl (List.map_eq_nil_iff.1 h0)⟩
          · exact ⟨_, _, by rw [hL], .inr ⟨b, rfl, (Array.getElem?_eq_some_iff.1 hg).1, fun j s hj => by rw [cell_blk hg]; simp [hj]⟩⟩
        have HRow := Lib.hid hrow
        have HT3 := Lib.hid (HT0.out.next HB3.out)
        clear hv hrow HS HT hL
        go_wp2_with fail
        go_loopw [7, 69] (fun n2 j wr => ∃ jj : Nat, jj ≤ L.length ∧ j = .int .i64 jj ∧ n2 = .int .i64 ((n + jj : Nat) : Int) ∧ Hid (Below w3.heap.size w3 wr)) (fun _ j _ => L.length - (intOf j).toNat)
        case atStart => exact ⟨0, by omega, rfl, rfl, Below.refl _ _⟩
        case round =>
          obtain ⟨jj, hjj, rfl, rfl, HB⟩ := hrel
          by_cases hj : jj < L.length
          · obtain ⟨b, rfl, hb, hc⟩ := HRow.out.resolve_left (fun e => by rw [e] at hj; simp at hj)
            have ex := List.getElem?_eq_getElem hj
            have hc := hc jj _ ex
            have hfx := HF.out _ (List.getElem_mem hj)
            generalize L[jj] = x at *
            have hcell : wr.cell? ⟨b, jj, none⟩ = some (.string x) := by rw [HB.out.cell (p := ⟨b, jj, none⟩) hb]; exact hc
            have Hfx := Lib.hid hfx
            have Hx := Lib.hid (show x.size ≤ maxLen by unfold maxLen; have := hfx.2; omega)
            have HTj := Lib.hid (HT3.out.next HB.out)
            clear ex hc hfx
            have i1 : (0 : Int) ≤ (jj : Int) := by omega
            have i2 : (jj : Int) < (L.length : Int) := by omega
            go_wp2_with fail
            refine (fits2 x g _ Hx.out HTj.out.tab).mono ?_
            rintro e w5 ⟨rfl, hb5⟩
            rw [Hfx.out.1]
            have HB5 := Lib.hid (HB.out.trans (hb5.mono HB.out.size))
            clear hb5
            have hnn : ((n + jj : Nat) : Int) + 1 = ((n + (jj + 1) : Nat) : Int) := by omega
            go_wp2_with fail
            go_roundw
            case rel => exact ⟨jj + 1, by omega, by go_num, by first | rfl | (rw [hnn]) | go_num, HB5⟩
            case measure => simp [intOf]; omega
          · have hend : n + jj = k := by omega
            go_wp2_with fail
            go_ret
            have hbel := HT3.out.next HB.out
            exact ⟨by rw [hend]; congr 2; simp; omega, hbel.below⟩
set_option maxHeartbeats 4000000 in
set_option maxRecDepth 100000 in
theorem walkRow_low (A : Option Addr) (len cap : Nat) (m : Int) (w : World) (m1 : m ≤ 1) (h : StrRow w A len) :
    Calls Try.prog 13 #[.slice A len cap, .int .i64 m] w fun e w' => e = .returned (.bool true) ∧ Below w.heap.size w w' := by
  have hz := (zero_of_info infoTab).1
  have HZ := Lib.hid zeros_tab
  generalize zeros256 = Z at *
  have H := Lib.hid h.2
  have hlen := h.1
  unfold maxLen at hlen
  clear h
  have hm40 : ¬ 40 < m := by omega
  have hm1 : ¬ 1 < m := by omega
  obtain ⟨M, hM⟩ : ∃ M : Nat, M = 1 := ⟨1, rfl⟩
  have hM1 : 1 ≤ M := by omega
  have hM2 : M ≤ 40 := by omega
  have HM := Lib.hid hM
  clear hM
  go_enter Try.func13, Try.ntmps13
  go_wp2_with fail
  refine (crc_make _).mono ?_
  rintro e w1 ⟨rfl, hb1⟩
  go_wp2_with (refine wpList_store_row rfl 82 (.tmp 5) (.tmp 14) rfl w1.heap.size tabArr rfl rfl 82 Z (heap_alloc_new w1 _) tabInfo HZ.out tabArr_one ?_)
  have hh := Has.made hb1 Z 82
  generalize (w1.alloc (.cells Z 82)).setRow w1.heap.size tabArr = w2 at *
  generalize w1.heap.size = g at *
  have HT0 := Lib.hid hh
  clear hb1 hz HZ hh
  refine (string.s_new _ _ M (.inr (.inr ⟨by have := HM.out; omega, by omega⟩)) (by omega) (by omega)).mono ?_
  rintro e w1 ⟨r, rfl, h1⟩
  have H1 := Lib.hid h1
  have HT1 := Lib.hid (HT0.out.next h1.bel)
  clear h1
  go_wp2_with fail
  refine (crc_sum [] none 0 g w1 (by simp) HT1.out.tab ⟨by simp, .inl rfl⟩).mono ?_
  rintro e w3 ⟨rfl, qs, rfl⟩
  have hs1 := H1.out.drewN qs
  rw [sum_none]
  clear HT1 H1
  generalize w1.drewN qs = w1 at *
  have H1 := Lib.hid hs1
  clear hs1
  go_wp2_with fail
  go_loopw [7, 8] (fun n2 i wr => ∃ (k n : Nat) (L : List ByteArray), k ≤ len ∧ k ≤ 40 ∧ i = .int .i64 k ∧ n2 = .int .i64 n ∧ n + L.length = k ∧ AllFit L ∧ Hid (string.Sess w2 wr r (L.map Value.string) M)) (fun _ i _ => 40 - (intOf i).toNat)
  case atStart => exact ⟨0, 0, [], by omega, by omega, rfl, rfl, rfl, fun x hx => (by simp at hx), H1⟩
  case round =>
    obtain ⟨k, n, L, hk1, hk2, rfl, rfl, hn, hF, HS⟩ := hrel
    have HF := Lib.hid hF
    have HT := Lib.hid (HT0.out.next HS.out.bel)
    clear H1 hF
    by_cases hlt : k < len ∧ k < 40
    · obtain ⟨hlt, hlt2⟩ := hlt
      obtain ⟨b, off, rfl, s, hs, hcell⟩ : ∃ b off, A = some ⟨b, off, none⟩ ∧ ∃ s : ByteArray, s.size ≤ maxLen ∧ wr.cell? ⟨b, off + k, none⟩ = some (.string s) := by
        rcases H.out with h0 | ⟨b, off, hA, hcell⟩
        · omega
        · obtain ⟨s, hs, hc⟩ := hcell k hlt
          exact ⟨b, off, hA, s, hs, by rw [HT.out.below.cell (block_lt_of_cell hc)]; exact hc⟩
      have hs2 := hs
      unfold maxLen at hs2
      by_cases hlong : 30 < s.size
      · have hq : (s.extract 0 30).size ≤ 30 := by rw [ByteArray.size_extract]; omega
        go_wp2_with fail
        generalize s.extract 0 30 = q at *
        clear hs hs2 hlong
        go_wp2_with fail
        refine (string.s_room HS.out).mono ?_
        rintro e w3 ⟨rfl, qq, rfl⟩
        rw [List.length_map]
        have hSd := HS.out.drewN qq
        have hTd := HT.out.drewN qq
        clear HS HT hcell
        generalize wr.drewN qq = W at *
        have HS := Lib.hid hSd
        have HT := Lib.hid hTd
        clear hSd hTd
        obtain ⟨R, hR⟩ : ∃ R, R = M - L.length := ⟨_, rfl⟩
        rw [← hR]
        by_cases hfull : L.length = M
        · have hz : (((R : Nat) : Int) == 0) = true := by rw [beq_iff_eq]; omega
          clear hR
          cases L with
          | nil => simp at hfull; omega
          | cons x L' =>
            rw [List.length_cons] at hfull hn
            have hS0 : string.Sess w2 W r (.string x :: L'.map Value.string) M := HS.out
            have HS0 := Lib.hid hS0
            have HFx := HF.out x List.mem_cons_self
            have HFR : Hid (AllFit L') := fun y hy => HF.out y (List.mem_cons_of_mem _ hy)
            have hx1 : x.size ≤ maxLen := by unfold maxLen; have := HFx.2; omega
            have HFx1 := Lib.hid HFx.1
            have Hx1 := Lib.hid hx1
            have HFL := Lib.hid (show L'.length < M by omega)
            have HN := Lib.hid hn
            have hnb : (n : Int) ≤ 40 := by omega
            clear HS HF HFx hS0 hx1 hn hfull
            go_wp2_with fail
            refine (string.s_takeYes HS0.out).mono ?_
            rintro e w4 ⟨rfl, hs4⟩
            have HS4 := Lib.hid hs4
            have HT4 := Lib.hid (HT0.out.next (hs4.bel))
            clear hs4
            go_wp2_with fail
            refine (fits2 x g _ Hx1.out HT4.out.tab).mono ?_
            rintro e w5 ⟨rfl, hb5⟩
            rw [HFx1.out]
            have HSR := Lib.hid (HS4.out.below hb5)
            have HTR := Lib.hid (HT4.out.next hb5)
            clear hb5
            obtain ⟨LR, hLR⟩ : ∃ LR, LR = L' := ⟨_, rfl⟩
            subst hLR
            clear HS4 HT4 HS0
            go_wp2_with fail
            refine (crc_seal q g _ (by omega) HTR.out.tab).mono ?_
            rintro e w5 ⟨rfl, hb5⟩
            have HB5 := Lib.hid hb5
            clear hb5
            have HS5 := Lib.hid (HSR.out.below HB5.out)
            have hfq := fits_seal q
            have hsq : (q ++ four (sumOf q)).size ≤ 34 := by rw [ByteArray.size_append, four_size]; omega
            generalize q ++ four (sumOf q) = t at *
            have Hfq := Lib.hid hfq
            clear hfq
            go_wp2_with fail
            refine (string.s_putYes HS5.out (by rw [List.length_map]; have := HFL.out; omega) t).mono ?_
            rintro e w6 ⟨rfl, hs6⟩
            rw [show LR.map Value.string ++ [.string t] = (LR ++ [t]).map Value.string by simp] at hs6
            have HS6 := Lib.hid hs6
            clear hs6
            go_wp2_with fail
            go_roundw
            case rel => exact ⟨k + 1, n + 1, LR ++ [t], by omega, by omega, by go_num, by go_num, by simp; have := HN.out; omega, allFit_snoc HFR.out Hfq.out hsq, HS6⟩
            case measure => simp [intOf]; omega
        · have hle := HS.out.le
          rw [List.length_map] at hle
          have hz : (((R : Nat) : Int) == 0) = false := by rw [beq_eq_false_iff_ne]; omega
          clear hR
          obtain ⟨LR, hLR⟩ : ∃ LR, LR = L := ⟨_, rfl⟩
          subst hLR
          have HSR := HS
          have HTR := HT
          have HFR := HF
          have HFL := Lib.hid (show LR.length < M by omega)
          have HN := Lib.hid hn
          have hnb : (n : Int) ≤ 40 := by omega
          clear HS HT HF hn hfull
          go_wp2_with fail
          refine (crc_seal q g _ (by omega) HTR.out.tab).mono ?_
          rintro e w5 ⟨rfl, hb5⟩
          have HB5 := Lib.hid hb5
          clear hb5
          have HS5 := Lib.hid (HSR.out.below HB5.out)
          have hfq := fits_seal q
          have hsq : (q ++ four (sumOf q)).size ≤ 34 := by rw [ByteArray.size_append, four_size]; omega
          generalize q ++ four (sumOf q) = t at *
          have Hfq := Lib.hid hfq
          clear hfq
          go_wp2_with fail
          refine (string.s_putYes HS5.out (by rw [List.length_map]; have := HFL.out; omega) t).mono ?_
          rintro e w6 ⟨rfl, hs6⟩
          rw [show LR.map Value.string ++ [.string t] = (LR ++ [t]).map Value.string by simp] at hs6
          have HS6 := Lib.hid hs6
          clear hs6
          go_wp2_with fail
          go_roundw
          case rel => exact ⟨k + 1, n, LR ++ [t], by omega, by omega, by go_num, rfl, by simp; have := HN.out; omega, allFit_snoc HFR.out Hfq.out hsq, HS6⟩
          case measure => simp [intOf]; omega
      · have hq : s.size ≤ 30 := by omega
        obtain ⟨q, hqe⟩ : ∃ q, q = s := ⟨_, rfl⟩
        subst hqe
        go_wp2_with fail
        refine (string.s_room HS.out).mono ?_
        rintro e w3 ⟨rfl, qq, rfl⟩
        rw [List.length_map]
        have hSd := HS.out.drewN qq
        have hTd := HT.out.drewN qq
        clear HS HT hcell
        generalize wr.drewN qq = W at *
        have HS := Lib.hid hSd
        have HT := Lib.hid hTd
        clear hSd hTd
        obtain ⟨R, hR⟩ : ∃ R, R = M - L.length := ⟨_, rfl⟩
        rw [← hR]
        by_cases hfull : L.length = M
        · have hz : (((R : Nat) : Int) == 0) = true := by rw [beq_iff_eq]; omega
          clear hR
          cases L with
          | nil => simp at hfull; omega
          | cons x L' =>
            rw [List.length_cons] at hfull hn
            have hS0 : string.Sess w2 W r (.string x :: L'.map Value.string) M := HS.out
            have HS0 := Lib.hid hS0
            have HFx := HF.out x List.mem_cons_self
            have HFR : Hid (AllFit L') := fun y hy => HF.out y (List.mem_cons_of_mem _ hy)
            have hx1 : x.size ≤ maxLen := by unfold maxLen; have := HFx.2; omega
            have HFx1 := Lib.hid HFx.1
            have Hx1 := Lib.hid hx1
            have HFL := Lib.hid (show L'.length < M by omega)
            have HN := Lib.hid hn
            have hnb : (n : Int) ≤ 40 := by omega
            clear HS HF HFx hS0 hx1 hn hfull
            go_wp2_with fail
            refine (string.s_takeYes HS0.out).mono ?_
            rintro e w4 ⟨rfl, hs4⟩
            have HS4 := Lib.hid hs4
            have HT4 := Lib.hid (HT0.out.next (hs4.bel))
            clear hs4
            go_wp2_with fail
            refine (fits2 x g _ Hx1.out HT4.out.tab).mono ?_
            rintro e w5 ⟨rfl, hb5⟩
            rw [HFx1.out]
            have HSR := Lib.hid (HS4.out.below hb5)
            have HTR := Lib.hid (HT4.out.next hb5)
            clear hb5
            obtain ⟨LR, hLR⟩ : ∃ LR, LR = L' := ⟨_, rfl⟩
            subst hLR
            clear HS4 HT4 HS0
            go_wp2_with fail
            refine (crc_seal q g _ (by omega) HTR.out.tab).mono ?_
            rintro e w5 ⟨rfl, hb5⟩
            have HB5 := Lib.hid hb5
            clear hb5
            have HS5 := Lib.hid (HSR.out.below HB5.out)
            have hfq := fits_seal q
            have hsq : (q ++ four (sumOf q)).size ≤ 34 := by rw [ByteArray.size_append, four_size]; omega
            generalize q ++ four (sumOf q) = t at *
            have Hfq := Lib.hid hfq
            clear hfq
            go_wp2_with fail
            refine (string.s_putYes HS5.out (by rw [List.length_map]; have := HFL.out; omega) t).mono ?_
            rintro e w6 ⟨rfl, hs6⟩
            rw [show LR.map Value.string ++ [.string t] = (LR ++ [t]).map Value.string by simp] at hs6
            have HS6 := Lib.hid hs6
            clear hs6
            go_wp2_with fail
            go_roundw
            case rel => exact ⟨k + 1, n + 1, LR ++ [t], by omega, by omega, by go_num, by go_num, by simp; have := HN.out; omega, allFit_snoc HFR.out Hfq.out hsq, HS6⟩
            case measure => simp [intOf]; omega
        · have hle := HS.out.le
          rw [List.length_map] at hle
          have hz : (((R : Nat) : Int) == 0) = false := by rw [beq_eq_false_iff_ne]; omega
          clear hR
          obtain ⟨LR, hLR⟩ : ∃ LR, LR = L := ⟨_, rfl⟩
          subst hLR
          have HSR := HS
          have HTR := HT
          have HFR := HF
          have HFL := Lib.hid (show LR.length < M by omega)
          have HN := Lib.hid hn
          have hnb : (n : Int) ≤ 40 := by omega
          clear HS HT HF hn hfull
          go_wp2_with fail
          refine (crc_seal q g _ (by omega) HTR.out.tab).mono ?_
          rintro e w5 ⟨rfl, hb5⟩
          have HB5 := Lib.hid hb5
          clear hb5
          have HS5 := Lib.hid (HSR.out.below HB5.out)
          have hfq := fits_seal q
          have hsq : (q ++ four (sumOf q)).size ≤ 34 := by rw [ByteArray.size_append, four_size]; omega
          generalize q ++ four (sumOf q) = t at *
          have Hfq := Lib.hid hfq
          clear hfq
          go_wp2_with fail
          refine (string.s_putYes HS5.out (by rw [List.length_map]; have := HFL.out; omega) t).mono ?_
          rintro e w6 ⟨rfl, hs6⟩
          rw [show LR.map Value.string ++ [.string t] = (LR ++ [t]).map Value.string by simp] at hs6
          have HS6 := Lib.hid hs6
          clear hs6
          go_wp2_with fail
          go_roundw
          case rel => exact ⟨k + 1, n, LR ++ [t], by omega, by omega, by go_num, rfl, by simp; have := HN.out; omega, allFit_snoc HFR.out Hfq.out hsq, HS6⟩
          case measure => simp [intOf]; omega
    · by_cases hl1 : k < len
      · have hl2 : ¬ k < 40 := fun h => hlt ⟨hl1, h⟩
        clear hlt
        go_wp2_with fail
        refine (string.s_clear HS.out).mono ?_
        rintro e w3 ⟨v, rfl, hv, hs3⟩
        have HB3 := Lib.hid hs3.bel
        clear hs3
        have hL : (L.map Value.string).length = L.length := List.length_map ..
        obtain ⟨A, cp, rfl, hrow⟩ : ∃ A cp, v = .slice A L.length cp ∧ (L = [] ∨ ∃ b, A = some ⟨b, 0, none⟩ ∧ b < w3.heap.size ∧ ∀ j s, L[j]? = some s → w3.cell? ⟨b, j, none⟩ = some (.string s)) := by
          rcases hv with ⟨h0, rfl⟩ | ⟨h0, b, rfl, hg⟩
          · exact ⟨none, 0, by rw [List.map_eq_nil_iff.1 h0]; rfl, .inl (List.map_eq_nil_iff.1 h0)⟩
          · exact ⟨_, _, by rw [hL], .inr ⟨b, rfl, (Array.getElem?_eq_some_iff.1 hg).1, fun j s hj => by rw [cell_blk hg]; simp [hj]⟩⟩
        have HRow := Lib.hid hrow
        have HT3 := Lib.hid (HT0.out.next HB3.out)
        clear hv hrow HS HT hL
        go_wp2_with fail
        go_loopw [7, 69] (fun n2 j wr => ∃ jj : Nat, jj ≤ L.length ∧ j = .int .i64 jj ∧ n2 = .int .i64 ((n + jj : Nat) : Int) ∧ Hid (Below w3.heap.size w3 wr)) (fun _ j _ => L.length - (intOf j).toNat)
        case atStart => exact ⟨0, by omega, rfl, rfl, Below.refl _ _⟩
        case round =>
          obtain ⟨jj, hjj, rfl, rfl, HB⟩ := hrel
          by_cases hj : jj < L.length
          · obtain ⟨b, rfl, hb, hc⟩ := HRow.out.resolve_left (fun e => by rw [e] at hj; simp at hj)
            have ex := List.getElem?_eq_getElem hj
            have hc := hc jj _ ex
            have hfx := HF.out _ (List.getElem_mem hj)
            generalize L[jj] = x at *
            have hcell : wr.cell? ⟨b, jj, none⟩ = some (.string x) := by rw [HB.out.cell (p := ⟨b, jj, none⟩) hb]; exact hc
            have Hfx := Lib.hid hfx
            have Hx := Lib.hid (show x.size ≤ maxLen by unfold maxLen; have := hfx.2; omega)
            have HTj := Lib.hid (HT3.out.next HB.out)
            clear ex hc hfx
            have i1 : (0 : Int) ≤ (jj : Int) := by omega
            have i2 : (jj : Int) < (L.length : Int) := by omega
            go_wp2_with fail
            refine (fits2 x g _ Hx.out HTj.out.tab).mono ?_
            rintro e w5 ⟨rfl, hb5⟩
            rw [Hfx.out.1]
            have HB5 := Lib.hid (HB.out.trans (hb5.mono HB.out.size))
            clear hb5
            have hnn : ((n + jj : Nat) : Int) + 1 = ((n + (jj + 1) : Nat) : Int) := by omega
            go_wp2_with fail
            go_roundw
            case rel => exact ⟨jj + 1, by omega, by go_num, by first | rfl | (rw [hnn]) | go_num, HB5⟩
            case measure => simp [intOf]; omega
          · have hend : n + jj = k := by omega
            go_wp2_with fail
            go_ret
            have hbel := HT3.out.next HB.out
            exact ⟨by rw [hend]; congr 2; simp; omega, hbel.below⟩
      · clear hlt
        go_wp2_with fail
        refine (string.s_clear HS.out).mono ?_
        rintro e w3 ⟨v, rfl, hv, hs3⟩
        have HB3 := Lib.hid hs3.bel
        clear hs3
        have hL : (L.map Value.string).length = L.length := List.length_map ..
        obtain ⟨A, cp, rfl, hrow⟩ : ∃ A cp, v = .slice A L.length cp ∧ (L = [] ∨ ∃ b, A = some ⟨b, 0, none⟩ ∧ b < w3.heap.size ∧ ∀ j s, L[j]? = some s → w3.cell? ⟨b, j, none⟩ = some (.string s)) := by
          rcases hv with ⟨h0, rfl⟩ | ⟨h0, b, rfl, hg⟩
          · exact ⟨none, 0, by rw [List.map_eq_nil_iff.1 h0]; rfl, .inl (List.map_eq_nil_iff.1 h0)⟩
          · exact ⟨_, _, by rw [hL], .inr ⟨b, rfl, (Array.getElem?_eq_some_iff.1 hg).1, fun j s hj => by rw [cell_blk hg]; simp [hj]⟩⟩
        have HRow := Lib.hid hrow
        have HT3 := Lib.hid (HT0.out.next HB3.out)
        clear hv hrow HS HT hL
        go_wp2_with fail
        go_loopw [7, 69] (fun n2 j wr => ∃ jj : Nat, jj ≤ L.length ∧ j = .int .i64 jj ∧ n2 = .int .i64 ((n + jj : Nat) : Int) ∧ Hid (Below w3.heap.size w3 wr)) (fun _ j _ => L.length - (intOf j).toNat)
        case atStart => exact ⟨0, by omega, rfl, rfl, Below.refl _ _⟩
        case round =>
          obtain ⟨jj, hjj, rfl, rfl, HB⟩ := hrel
          by_cases hj : jj < L.length
          · obtain ⟨b, rfl, hb, hc⟩ := HRow.out.resolve_left (fun e => by rw [e] at hj; simp at hj)
            have ex := List.getElem?_eq_getElem hj
            have hc := hc jj _ ex
            have hfx := HF.out _ (List.getElem_mem hj)
            generalize L[jj] = x at *
            have hcell : wr.cell? ⟨b, jj, none⟩ = some (.string x) := by rw [HB.out.cell (p := ⟨b, jj, none⟩) hb]; exact hc
            have Hfx := Lib.hid hfx
            have Hx := Lib.hid (show x.size ≤ maxLen by unfold maxLen; have := hfx.2; omega)
            have HTj := Lib.hid (HT3.out.next HB.out)
            clear ex hc hfx
            have i1 : (0 : Int) ≤ (jj : Int) := by omega
            have i2 : (jj : Int) < (L.length : Int) := by omega
            go_wp2_with fail
            refine (fits2 x g _ Hx.out HTj.out.tab).mono ?_
            rintro e w5 ⟨rfl, hb5⟩
            rw [Hfx.out.1]
            have HB5 := Lib.hid (HB.out.trans (hb5.mono HB.out.size))
            clear hb5
            have hnn : ((n + jj : Nat) : Int) + 1 = ((n + (jj + 1) : Nat) : Int) := by omega
            go_wp2_with fail
            go_roundw
            case rel => exact ⟨jj + 1, by omega, by go_num, by first | rfl | (rw [hnn]) | go_num, HB5⟩
            case measure => simp [intOf]; omega
          · have hend : n + jj = k := by omega
            go_wp2_with fail
            go_ret
            have hbel := HT3.out.next HB.out
            exact ⟨by rw [hend]; congr 2; simp; omega, hbel.below⟩
set_option maxHeartbeats 4000000 in
set_option maxRecDepth 100000 in
theorem walkRow_high (A : Option Addr) (len cap : Nat) (m : Int) (w : World) (m1 : 40 < m) (h : StrRow w A len) :
    Calls Try.prog 13 #[.slice A len cap, .int .i64 m] w fun e w' => e = .returned (.bool true) ∧ Below w.heap.size w w' := by
  have hz := (zero_of_info infoTab).1
  have HZ := Lib.hid zeros_tab
  generalize zeros256 = Z at *
  have H := Lib.hid h.2
  have hlen := h.1
  unfold maxLen at hlen
  clear h
  obtain ⟨M, hM⟩ : ∃ M : Nat, M = 40 := ⟨40, rfl⟩
  have hM1 : 1 ≤ M := by omega
  have hM2 : M ≤ 40 := by omega
  have HM := Lib.hid hM
  clear hM
  go_enter Try.func13, Try.ntmps13
  go_wp2_with fail
  refine (crc_make _).mono ?_
  rintro e w1 ⟨rfl, hb1⟩
  go_wp2_with (refine wpList_store_row rfl 82 (.tmp 5) (.tmp 14) rfl w1.heap.size tabArr rfl rfl 82 Z (heap_alloc_new w1 _) tabInfo HZ.out tabArr_one ?_)
  have hh := Has.made hb1 Z 82
  generalize (w1.alloc (.cells Z 82)).setRow w1.heap.size tabArr = w2 at *
  generalize w1.heap.size = g at *
  have HT0 := Lib.hid hh
  clear hb1 hz HZ hh
  refine (string.s_new _ _ M (.inr (.inr ⟨by have := HM.out; omega, by omega⟩)) (by omega) (by omega)).mono ?_
  rintro e w1 ⟨r, rfl, h1⟩
  have H1 := Lib.hid h1
  have HT1 := Lib.hid (HT0.out.next h1.bel)
  clear h1
  go_wp2_with fail
  refine (crc_sum [] none 0 g w1 (by simp) HT1.out.tab ⟨by simp, .inl rfl⟩).mono ?_
  rintro e w3 ⟨rfl, qs, rfl⟩
  have hs1 := H1.out.drewN qs
  rw [sum_none]
  clear HT1 H1
  generalize w1.drewN qs = w1 at *
  have H1 := Lib.hid hs1
  clear hs1
  go_wp2_with fail
  go_loopw [7, 8] (fun n2 i wr => ∃ (k n : Nat) (L : List ByteArray), k ≤ len ∧ k ≤ 40 ∧ i = .int .i64 k ∧ n2 = .int .i64 n ∧ n + L.length = k ∧ AllFit L ∧ Hid (string.Sess w2 wr r (L.map Value.string) M)) (fun _ i _ => 40 - (intOf i).toNat)
  case atStart => exact ⟨0, 0, [], by omega, by omega, rfl, rfl, rfl, fun x hx => (by simp at hx), H1⟩
  case round =>
    obtain ⟨k, n, L, hk1, hk2, rfl, rfl, hn, hF, HS⟩ := hrel
    have HF := Lib.hid hF
    have HT := Lib.hid (HT0.out.next HS.out.bel)
    clear H1 hF
    by_cases hlt : k < len ∧ k < 40
    · obtain ⟨hlt, hlt2⟩ := hlt
      obtain ⟨b, off, rfl, s, hs, hcell⟩ : ∃ b off, A = some ⟨b, off, none⟩ ∧ ∃ s : ByteArray, s.size ≤ maxLen ∧ wr.cell? ⟨b, off + k, none⟩ = some (.string s) := by
        rcases H.out with h0 | ⟨b, off, hA, hcell⟩
        · omega
        · obtain ⟨s, hs, hc⟩ := hcell k hlt
          exact ⟨b, off, hA, s, hs, by rw [HT.out.below.cell (block_lt_of_cell hc)]; exact hc⟩
      have hs2 := hs
      unfold maxLen at hs2
      by_cases hlong : 30 < s.size
      · have hq : (s.extract 0 30).size ≤ 30 := by rw [ByteArray.size_extract]; omega
        go_wp2_with fail
        generalize s.extract 0 30 = q at *
        clear hs hs2 hlong
        go_wp2_with fail
        refine (string.s_room HS.out).mono ?_
        rintro e w3 ⟨rfl, qq, rfl⟩
        rw [List.length_map]
        have hSd := HS.out.drewN qq
        have hTd := HT.out.drewN qq
        clear HS HT hcell
        generalize wr.drewN qq = W at *
        have HS := Lib.hid hSd
        have HT := Lib.hid hTd
        clear hSd hTd
        obtain ⟨R, hR⟩ : ∃ R, R = M - L.length := ⟨_, rfl⟩
        rw [← hR]
        by_cases hfull : L.length = M
        · have hz : (((R : Nat) : Int) == 0) = true := by rw [beq_iff_eq]; omega
          clear hR
          cases L with
          | nil => simp at hfull; omega
          | cons x L' =>
            rw [List.length_cons] at hfull hn
            have hS0 : string.Sess w2 W r (.string x :: L'.map Value.string) M := HS.out
            have HS0 := Lib.hid hS0
            have HFx := HF.out x List.mem_cons_self
            have HFR : Hid (AllFit L') := fun y hy => HF.out y (List.mem_cons_of_mem _ hy)
            have hx1 : x.size ≤ maxLen := by unfold maxLen; have := HFx.2; omega
            have HFx1 := Lib.hid HFx.1
            have Hx1 := Lib.hid hx1
            have HFL := Lib.hid (show L'.length < M by omega)
            have HN := Lib.hid hn
            have hnb : (n : Int) ≤ 40 := by omega
            clear HS HF HFx hS0 hx1 hn hfull
            go_wp2_with fail
            refine (string.s_takeYes HS0.out).mono ?_
            rintro e w4 ⟨rfl, hs4⟩
            have HS4 := Lib.hid hs4
            have HT4 := Lib.hid (HT0.out.next (hs4.bel))
            clear hs4
            go_wp2_with fail
            refine (fits2 x g _ Hx1.out HT4.out.tab).mono ?_
            rintro e w5 ⟨rfl, hb5⟩
            rw [HFx1.out]
            have HSR := Lib.hid (HS4.out.below hb5)
            have HTR := Lib.hid (HT4.out.next hb5)
            clear hb5
            obtain ⟨LR, hLR⟩ : ∃ LR, LR = L' := ⟨_, rfl⟩
            subst hLR
            clear HS4 HT4 HS0
            go_wp2_with fail
            refine (crc_seal q g _ (by omega) HTR.out.tab).mono ?_
            rintro e w5 ⟨rfl, hb5⟩
            have HB5 := Lib.hid hb5
            clear hb5
            have HS5 := Lib.hid (HSR.out.below HB5.out)
            have hfq := fits_seal q
            have hsq : (q ++ four (sumOf q)).size ≤ 34 := by rw [ByteArray.size_append, four_size]; omega
            generalize q ++ four (sumOf q) = t at *
            have Hfq := Lib.hid hfq
            clear hfq
            go_wp2_with fail
            refine (string.s_putYes HS5.out (by rw [List.length_map]; have := HFL.out; omega) t).mono ?_
            rintro e w6 ⟨rfl, hs6⟩
            rw [show LR.map Value.string ++ [.string t] = (LR ++ [t]).map Value.string by simp] at hs6
            have HS6 := Lib.hid hs6
            clear hs6
            go_wp2_with fail
            go_roundw
            case rel => exact ⟨k + 1, n + 1, LR ++ [t], by omega, by omega, by go_num, by go_num, by simp; have := HN.out; omega, allFit_snoc HFR.out Hfq.out hsq, HS6⟩
            case measure => simp [intOf]; omega
        · have hle := HS.out.le
          rw [List.length_map] at hle
          have hz : (((R : Nat) : Int) == 0) = false := by rw [beq_eq_false_iff_ne]; omega
          clear hR
          obtain ⟨LR, hLR⟩ : ∃ LR, LR = L := ⟨_, rfl⟩
          subst hLR
          have HSR := HS
          have HTR := HT
          have HFR := HF
          have HFL := Lib.hid (show LR.length < M by omega)
          have HN := Lib.hid hn
          have hnb : (n : Int) ≤ 40 := by omega
          clear HS HT HF hn hfull
          go_wp2_with fail
          refine (crc_seal q g _ (by omega) HTR.out.tab).mono ?_
          rintro e w5 ⟨rfl, hb5⟩
          have HB5 := Lib.hid hb5
          clear hb5
          have HS5 := Lib.hid (HSR.out.below HB5.out)
          have hfq := fits_seal q
          have hsq : (q ++ four (sumOf q)).size ≤ 34 := by rw [ByteArray.size_append, four_size]; omega
          generalize q ++ four (sumOf q) = t at *
          have Hfq := Lib.hid hfq
          clear hfq
          go_wp2_with fail
          refine (string.s_putYes HS5.out (by rw [List.length_map]; have := HFL.out; omega) t).mono ?_
          rintro e w6 ⟨rfl, hs6⟩
          rw [show LR.map Value.string ++ [.string t] = (LR ++ [t]).map Value.string by simp] at hs6
          have HS6 := Lib.hid hs6
          clear hs6
          go_wp2_with fail
          go_roundw
          case rel => exact ⟨k + 1, n, LR ++ [t], by omega, by omega, by go_num, rfl, by simp; have := HN.out; omega, allFit_snoc HFR.out Hfq.out hsq, HS6⟩
          case measure => simp [intOf]; omega
      · have hq : s.size ≤ 30 := by omega
        obtain ⟨q, hqe⟩ : ∃ q, q = s := ⟨_, rfl⟩
        subst hqe
        go_wp2_with fail
        refine (string.s_room HS.out).mono ?_
        rintro e w3 ⟨rfl, qq, rfl⟩
        rw [List.length_map]
        have hSd := HS.out.drewN qq
        have hTd := HT.out.drewN qq
        clear HS HT hcell
        generalize wr.drewN qq = W at *
        have HS := Lib.hid hSd
        have HT := Lib.hid hTd
        clear hSd hTd
        obtain ⟨R, hR⟩ : ∃ R, R = M - L.length := ⟨_, rfl⟩
        rw [← hR]
        by_cases hfull : L.length = M
        · have hz : (((R : Nat) : Int) == 0) = true := by rw [beq_iff_eq]; omega
          clear hR
          cases L with
          | nil => simp at hfull; omega
          | cons x L' =>
            rw [List.length_cons] at hfull hn
            have hS0 : string.Sess w2 W r (.string x :: L'.map Value.string) M := HS.out
            have HS0 := Lib.hid hS0
            have HFx := HF.out x List.mem_cons_self
            have HFR : Hid (AllFit L') := fun y hy => HF.out y (List.mem_cons_of_mem _ hy)
            have hx1 : x.size ≤ maxLen := by unfold maxLen; have := HFx.2; omega
            have HFx1 := Lib.hid HFx.1
            have Hx1 := Lib.hid hx1
            have HFL := Lib.hid (show L'.length < M by omega)
            have HN := Lib.hid hn
            have hnb : (n : Int) ≤ 40 := by omega
            clear HS HF HFx hS0 hx1 hn hfull
            go_wp2_with fail
            refine (string.s_takeYes HS0.out).mono ?_
            rintro e w4 ⟨rfl, hs4⟩
            have HS4 := Lib.hid hs4
            have HT4 := Lib.hid (HT0.out.next (hs4.bel))
            clear hs4
            go_wp2_with fail
            refine (fits2 x g _ Hx1.out HT4.out.tab).mono ?_
            rintro e w5 ⟨rfl, hb5⟩
            rw [HFx1.out]
            have HSR := Lib.hid (HS4.out.below hb5)
            have HTR := Lib.hid (HT4.out.next hb5)
            clear hb5
            obtain ⟨LR, hLR⟩ : ∃ LR, LR = L' := ⟨_, rfl⟩
            subst hLR
            clear HS4 HT4 HS0
            go_wp2_with fail
            refine (crc_seal q g _ (by omega) HTR.out.tab).mono ?_
            rintro e w5 ⟨rfl, hb5⟩
            have HB5 := Lib.hid hb5
            clear hb5
            have HS5 := Lib.hid (HSR.out.below HB5.out)
            have hfq := fits_seal q
            have hsq : (q ++ four (sumOf q)).size ≤ 34 := by rw [ByteArray.size_append, four_size]; omega
            generalize q ++ four (sumOf q) = t at *
            have Hfq := Lib.hid hfq
            clear hfq
            go_wp2_with fail
            refine (string.s_putYes HS5.out (by rw [List.length_map]; have := HFL.out; omega) t).mono ?_
            rintro e w6 ⟨rfl, hs6⟩
            rw [show LR.map Value.string ++ [.string t] = (LR ++ [t]).map Value.string by simp] at hs6
            have HS6 := Lib.hid hs6
            clear hs6
            go_wp2_with fail
            go_roundw
            case rel => exact ⟨k + 1, n + 1, LR ++ [t], by omega, by omega, by go_num, by go_num, by simp; have := HN.out; omega, allFit_snoc HFR.out Hfq.out hsq, HS6⟩
            case measure => simp [intOf]; omega
        · have hle := HS.out.le
          rw [List.length_map] at hle
          have hz : (((R : Nat) : Int) == 0) = false := by rw [beq_eq_false_iff_ne]; omega
          clear hR
          obtain ⟨LR, hLR⟩ : ∃ LR, LR = L := ⟨_, rfl⟩
          subst hLR
          have HSR := HS
          have HTR := HT
          have HFR := HF
          have HFL := Lib.hid (show LR.length < M by omega)
          have HN := Lib.hid hn
          have hnb : (n : Int) ≤ 40 := by omega
          clear HS HT HF hn hfull
          go_wp2_with fail
          refine (crc_seal q g _ (by omega) HTR.out.tab).mono ?_
          rintro e w5 ⟨rfl, hb5⟩
          have HB5 := Lib.hid hb5
          clear hb5
          have HS5 := Lib.hid (HSR.out.below HB5.out)
          have hfq := fits_seal q
          have hsq : (q ++ four (sumOf q)).size ≤ 34 := by rw [ByteArray.size_append, four_size]; omega
          generalize q ++ four (sumOf q) = t at *
          have Hfq := Lib.hid hfq
          clear hfq
          go_wp2_with fail
          refine (string.s_putYes HS5.out (by rw [List.length_map]; have := HFL.out; omega) t).mono ?_
          rintro e w6 ⟨rfl, hs6⟩
          rw [show LR.map Value.string ++ [.string t] = (LR ++ [t]).map Value.string by simp] at hs6
          have HS6 := Lib.hid hs6
          clear hs6
          go_wp2_with fail
          go_roundw
          case rel => exact ⟨k + 1, n, LR ++ [t], by omega, by omega, by go_num, rfl, by simp; have := HN.out; omega, allFit_snoc HFR.out Hfq.out hsq, HS6⟩
          case measure => simp [intOf]; omega
    · by_cases hl1 : k < len
      · have hl2 : ¬ k < 40 := fun h => hlt ⟨hl1, h⟩
        clear hlt
        go_wp2_with fail
        refine (string.s_clear HS.out).mono ?_
        rintro e w3 ⟨v, rfl, hv, hs3⟩
        have HB3 := Lib.hid hs3.bel
        clear hs3
        have hL : (L.map Value.string).length = L.length := List.length_map ..
        obtain ⟨A, cp, rfl, hrow⟩ : ∃ A cp, v = .slice A L.length cp ∧ (L = [] ∨ ∃ b, A = some ⟨b, 0, none⟩ ∧ b < w3.heap.size ∧ ∀ j s, L[j]? = some s → w3.cell? ⟨b, j, none⟩ = some (.string s)) := by
          rcases hv with ⟨h0, rfl⟩ | ⟨h0, b, rfl, hg⟩
          · exact ⟨none, 0, by rw [List.map_eq_nil_iff.1 h0]; rfl, .inl (List.map_eq_nil_iff.1 h0)⟩
          · exact ⟨_, _, by rw [hL], .inr ⟨b, rfl, (Array.getElem?_eq_some_iff.1 hg).1, fun j s hj => by rw [cell_blk hg]; simp [hj]⟩⟩
        have HRow := Lib.hid hrow
        have HT3 := Lib.hid (HT0.out.next HB3.out)
        clear hv hrow HS HT hL
        go_wp2_with fail
        go_loopw [7, 69] (fun n2 j wr => ∃ jj : Nat, jj ≤ L.length ∧ j = .int .i64 jj ∧ n2 = .int .i64 ((n + jj : Nat) : Int) ∧ Hid (Below w3.heap.size w3 wr)) (fun _ j _ => L.length - (intOf j).toNat)
        case atStart => exact ⟨0, by omega, rfl, rfl, Below.refl _ _⟩
        case round =>
          obtain ⟨jj, hjj, rfl, rfl, HB⟩ := hrel
          by_cases hj : jj < L.length
          · obtain ⟨b, rfl, hb, hc⟩ := HRow.out.resolve_left (fun e => by rw [e] at hj; simp at hj)
            have ex := List.getElem?_eq_getElem hj
            have hc := hc jj _ ex
            have hfx := HF.out _ (List.getElem_mem hj)
            generalize L[jj] = x at *
            have hcell : wr.cell? ⟨b, jj, none⟩ = some (.string x) := by rw [HB.out.cell (p := ⟨b, jj, none⟩) hb]; exact hc
            have Hfx := Lib.hid hfx
            have Hx := Lib.hid (show x.size ≤ maxLen by unfold maxLen; have := hfx.2; omega)
            have HTj := Lib.hid (HT3.out.next HB.out)
            clear ex hc hfx
            have i1 : (0 : Int) ≤ (jj : Int) := by omega
            have i2 : (jj : Int) < (L.length : Int) := by omega
            go_wp2_with fail
            refine (fits2 x g _ Hx.out HTj.out.tab).mono ?_
            rintro e w5 ⟨rfl, hb5⟩
            rw [Hfx.out.1]
            have HB5 := Lib.hid (HB.out.trans (hb5.mono HB.out.size))
            clear hb5
            have hnn : ((n + jj : Nat) : Int) + 1 = ((n + (jj + 1) : Nat) : Int) := by omega
            go_wp2_with fail
            go_roundw
            case rel => exact ⟨jj + 1, by omega, by go_num, by first | rfl | (rw [hnn]) | go_num, HB5⟩
            case measure => simp [intOf]; omega
          · have hend : n + jj = k := by omega
            go_wp2_with fail
            go_ret
            have hbel := HT3.out.next HB.out
            exact ⟨by rw [hend]; congr 2; simp; omega, hbel.below⟩
      · clear hlt
        go_wp2_with fail
        refine (string.s_clear HS.out).mono ?_
        rintro e w3 ⟨v, rfl, hv, hs3⟩
        have HB3 := Lib.hid hs3.bel
        clear hs3
        have hL : (L.map Value.string).length = L.length := List.length_map ..
        obtain ⟨A, cp, rfl, hrow⟩ : ∃ A cp, v = .slice A L.length cp ∧ (L = [] ∨ ∃ b, A = some ⟨b, 0, none⟩ ∧ b < w3.heap.size ∧ ∀ j s, L[j]? = some s → w3.cell? ⟨b, j, none⟩ = some (.string s)) := by
          rcases hv with ⟨h0, rfl⟩ | ⟨h0, b, rfl, hg⟩
          · exact ⟨none, 0, by rw [List.map_eq_nil_iff.1 h0]; rfl, .inl (List.map_eq_nil_iff.1 h0)⟩
          · exact ⟨_, _, by rw [hL], .inr ⟨b, rfl, (Array.getElem?_eq_some_iff.1 hg).1, fun j s hj => by rw [cell_blk hg]; simp [hj]⟩⟩
        have HRow := Lib.hid hrow
        have HT3 := Lib.hid (HT0.out.next HB3.out)
        clear hv hrow HS HT hL
        go_wp2_with fail
        go_loopw [7, 69] (fun n2 j wr => ∃ jj : Nat, jj ≤ L.length ∧ j = .int .i64 jj ∧ n2 = .int .i64 ((n + jj : Nat) : Int) ∧ Hid (Below w3.heap.size w3 wr)) (fun _ j _ => L.length - (intOf j).toNat)
        case atStart => exact ⟨0, by omega, rfl, rfl, Below.refl _ _⟩
        case round =>
          obtain ⟨jj, hjj, rfl, rfl, HB⟩ := hrel
          by_cases hj : jj < L.length
          · obtain ⟨b, rfl, hb, hc⟩ := HRow.out.resolve_left (fun e => by rw [e] at hj; simp at hj)
            have ex := List.getElem?_eq_getElem hj
            have hc := hc jj _ ex
            have hfx := HF.out _ (List.getElem_mem hj)
            generalize L[jj] = x at *
            have hcell : wr.cell? ⟨b, jj, none⟩ = some (.string x) := by rw [HB.out.cell (p := ⟨b, jj, none⟩) hb]; exact hc
            have Hfx := Lib.hid hfx
            have Hx := Lib.hid (show x.size ≤ maxLen by unfold maxLen; have := hfx.2; omega)
            have HTj := Lib.hid (HT3.out.next HB.out)
            clear ex hc hfx
            have i1 : (0 : Int) ≤ (jj : Int) := by omega
            have i2 : (jj : Int) < (L.length : Int) := by omega
            go_wp2_with fail
            refine (fits2 x g _ Hx.out HTj.out.tab).mono ?_
            rintro e w5 ⟨rfl, hb5⟩
            rw [Hfx.out.1]
            have HB5 := Lib.hid (HB.out.trans (hb5.mono HB.out.size))
            clear hb5
            have hnn : ((n + jj : Nat) : Int) + 1 = ((n + (jj + 1) : Nat) : Int) := by omega
            go_wp2_with fail
            go_roundw
            case rel => exact ⟨jj + 1, by omega, by go_num, by first | rfl | (rw [hnn]) | go_num, HB5⟩
            case measure => simp [intOf]; omega
          · have hend : n + jj = k := by omega
            go_wp2_with fail
            go_ret
            have hbel := HT3.out.next HB.out
            exact ⟨by rw [hend]; congr 2; simp; omega, hbel.below⟩
theorem walk_PolliwogRow (A : Option Addr) (len cap : Nat) (m : Int) (w : World) (m1 : -9223372036854775808 ≤ m) (m2 : m ≤ 9223372036854775807) (h : StrRow w A len) :
    Calls Try.prog 13 #[.slice A len cap, .int .i64 m] w fun e w' => e = .returned (.bool true) ∧ Below w.heap.size w w' := by
  by_cases h1 : m ≤ 1
  · exact walkRow_low A len cap m w h1 h
  · by_cases h2 : 40 < m
    · exact walkRow_high A len cap m w h2 h
    · exact walkRow_mid A len cap m w m.toNat (by omega) (by omega) (by omega) h
end Go.Proofs.Ytcdfjhbciknfkaa
