/- The walk of RingOrder: what is taken is what was put, in its order, each once. Conditions: the lists read as rows. -/
import Derived.Test.YtcdfjhbciknfkaaRingOrd
import Derived.Test.YtcdfjhbciknfkaaRingAwake
import Derived.Test.YtcdfjhbciknfkaaStrRow
import Derived.Test.YtcdfjhbciknfkaaBoolRow
import Derived.Deep.DeepCutAuto
import Derived.Deep.CutBlock
import Derived.Outline
import Derived.BigQuiet
namespace Go.Proofs.Ytcdfjhbciknfkaa.string
open Go.RowKit
set_option linter.unusedVariables false

theorem infoStr1 : (Try.prog.info? 9).map (fun i => (i.zero, i.size, i.bytes)) = some (some (.string ⟨#[]⟩), 1, 16) := by kernel_rfl
theorem one_src {w : World} {b : Nat} {x : Value} (h : w.cell? ⟨b, 0, none⟩ = some x) : ∀ ad, some (⟨b, 0, none⟩ : Addr) = some ad → ∀ j u, [x][j]? = some u → w.cell? (ad.add j) = some u := by
  intro ad he j u hj
  injection he with he
  subst he
  match j with
  | 0 => simp at hj; subst hj; rw [Addr.add_lit]; exact h
  | j + 1 => simp at hj

theorem rowV_src {w : World} {u : Value} {xs : List ByteArray} (h : RowV w u (VI xs)) : ∃ A cap, u = .slice A xs.length cap ∧ (A = none → xs.length = 0) ∧ ∀ ad, A = some ad → ∀ j v, (VI xs)[j]? = some v → w.cell? (ad.add j) = some v := by
  rcases h with ⟨h1, rfl⟩ | ⟨_, g, rfl, hg⟩
  · have : xs = [] := by simpa using h1
    subst this
    exact ⟨none, 0, rfl, fun _ => rfl, fun ad he => by cases he⟩
  · refine ⟨_, _, by rw [List.length_map], (fun he => by cases he), fun ad he j v hj => ?_⟩
    injection he with he
    subst he
    rw [Addr.add_lit, Nat.zero_add, cell_blk hg, List.getElem?_toArray]
    exact hj
theorem own_get {w : World} {base n cap j : Nat} {e : TypeId} {A : Option Addr} {zs : List ByteArray} {x : ByteArray} (h : w.ownsRow base e 1 (.slice A n cap) n (VI zs)) (hj : zs[j]? = some x) : ∃ b, A = some ⟨b, 0, none⟩ ∧ b < w.heap.size ∧ w.cell? ⟨b, j, none⟩ = some (.string x) := by
  have h0 := h
  rcases h.2 with ⟨hv, hn⟩ | ⟨g, c, cur, hv, _, hg, _⟩
  · have h1 := h.1
    rw [hn, Nat.zero_mul, List.length_map] at h1
    have : zs = [] := List.eq_nil_of_length_eq_zero h1
    subst this
    simp at hj
  · rw [Value.slice.injEq] at hv
    obtain ⟨rfl, _, rfl⟩ := hv
    have c1 := h0.cells (g := g) rfl j (.string x) (by rw [List.getElem?_map, hj]; rfl)
    rw [Addr.add_lit, Nat.zero_add] at c1
    exact ⟨g, rfl, (Array.getElem?_eq_some_iff.1 hg).1, c1⟩
theorem own_form {w : World} {base n : Nat} {e : TypeId} {v : Value} {l : List Value} (h : w.ownsRow base e 1 v n l) : ∃ A cap, v = .slice A n cap ∧ n ≤ cap ∧ cap ≤ maxLen := by
  rcases h.2 with ⟨rfl, rfl⟩ | ⟨g, cap, cur, rfl, _, _, h1, h2, _⟩
  · exact ⟨none, 0, rfl, Nat.le_refl _, by decide⟩
  · exact ⟨_, cap, rfl, h1, h2⟩

set_option maxHeartbeats 8000000 in
set_option maxRecDepth 100000 in
theorem walk_RingOrder (m : Int) (A : Option Addr) (len cap : Nat) (A2 : Option Addr) (len2 cap2 : Nat) (w : World) (m1 : -9223372036854775808 ≤ m) (m2 : m ≤ 9223372036854775807) (h : StrRow w A len) (h2 : BoolRow w A2 len2) :
    Calls Try.prog 9 #[.int .i64 m, .slice A len cap, .slice A2 len2 cap2] w fun e w' => e = .returned (.bool true) ∧ Below w.heap.size w w' := by
  have hlen := h.1
  have hlen2 := h2.1
  unfold maxLen at hlen hlen2
  have H := Lib.hid h
  have HBR := Lib.hid h2
  clear h h2
  obtain ⟨i0, hi, hz0, hz1, hz2⟩ := info_parts infoStr1
  have Hi := Lib.hid hi
  have Hz0 := Lib.hid hz0
  have Hz1 := Lib.hid hz1
  have Hz2 := Lib.hid hz2
  clear hi hz0 hz1 hz2
  go_enter Try.func9, Try.ntmps9
  go_upto_region 3 with (go_at_call 28; refine (int.ring_awake _).mono ?_; rintro e w1 ⟨rfl, hb1⟩; have HB1 := Lib.hid hb1; clear hb1)
  obtain ⟨wa, rfl⟩ : ∃ wa, wa = w1 := ⟨_, rfl⟩
  go_cut [7] (fun s w' => ∃ r M : Nat, s = .pointer (some ⟨r, 0, none⟩) ∧ 1 ≤ M ∧ M ≤ 50 ∧ Hid (Sess wa w' r [] M))
  case first =>
    go_wp2_with fail
    all_goals first
      | (exfalso; omega)
      | (refine (s_new wa 50 50 (.inr (.inr ⟨rfl, by omega⟩)) (by omega) (by omega)).mono ?_; rintro e w2 ⟨r, rfl, hs⟩; have HS := Lib.hid hs; clear hs; go_wp2_with fail; go_meet; exact ⟨r, 50, rfl, by omega, by omega, HS⟩)
      | (refine (s_new wa 1 1 (.inr (.inr ⟨rfl, by omega⟩)) (by omega) (by omega)).mono ?_; rintro e w2 ⟨r, rfl, hs⟩; have HS := Lib.hid hs; clear hs; go_wp2_with fail; go_meet; exact ⟨r, 1, rfl, by omega, by omega, HS⟩)
      | (refine (s_new wa m m.toNat (.inr (.inr ⟨by omega, by omega⟩)) (by omega) (by omega)).mono ?_; rintro e w2 ⟨r, rfl, hs⟩; have HS := Lib.hid hs; clear hs; go_wp2_with fail; go_meet; exact ⟨r, m.toNat, rfl, by omega, by omega, HS⟩)
  obtain ⟨r, M, rfl, hM0, hM1, HS⟩ := hcut
  have HT0 := Lib.hid (Ord.start (xs := []) HS.out)
  clear HS
  go_wp2_with fail
  go_loopw [8, 9, 10] (fun a b i wr => ∃ (k : Nat) (vi vo : Value) (ins outs xs : List ByteArray), k ≤ 100 ∧ vi = a ∧ vo = b ∧ i = .int .i64 k ∧ ins = outs ++ xs ∧ ins.length ≤ k ∧ Hid (Ord wa wr r M xs vi ins vo outs)) (fun _ _ i _ => 100 - (intOf i).toNat)
  case atStart => exact ⟨0, _, _, [], [], [], by omega, rfl, rfl, rfl, rfl, by simp, HT0⟩
  case round =>
    obtain ⟨k, vi, vo, ins, outs, xs, hk, rfl, rfl, rfl, hins, hil, HT⟩ := hrel
    clear HT0
    by_cases hlt : k < len ∧ k < 100
    · obtain ⟨hlt, hlt2⟩ := hlt
      have hd100 : decide ((k : Int) < 100) = true := by simp; omega
      obtain ⟨bx, ox, rfl, tx, hcx⟩ : ∃ bx ox, A = some ⟨bx, ox, none⟩ ∧ ∃ tx, w.cell? ⟨bx, ox + k, none⟩ = some (.string tx) := by
        rcases H.out.2 with h | ⟨b, o, e, h⟩
        · omega
        · obtain ⟨s, _, hs⟩ := h k hlt
          exact ⟨b, o, e, s, hs⟩
      have hbx := World.block_lt_of_cell? w _ hcx
      have HCX := Lib.hid hcx
      have hc0 : wr.cell? ⟨bx, ox + k, none⟩ = some (.string tx) := by rw [(HB1.out.trans (HT.out.bel.mono HB1.out.size)).cell hbx]; exact HCX.out
      clear hcx
      obtain ⟨wo, rfl⟩ : ∃ wo, wo = wr := ⟨_, rfl⟩
      go_upto_region 10 with fail
      go_cut [38] (fun s w' => ∃ (p : Bool) (ys : List ByteArray), s = .bool p ∧ ys = (if p then xs ++ [tx] else xs) ∧ Hid (Ord wa w' r M ys vi ins vo outs))
      case first =>
        by_cases hroom : xs.length < M
        · go_wp2_with fail
          refine (o_putYes HT.out hroom tx).mono ?_
          rintro e w3 ⟨rfl, h3⟩
          have H3 := Lib.hid h3
          clear h3
          go_wp2_with fail
          go_meet
          exact ⟨true, _, rfl, rfl, H3⟩
        · go_wp2_with fail
          refine (o_putNo HT.out (by have := HT.out.le; omega) tx).mono ?_
          rintro e w3 ⟨rfl, h3⟩
          have H3 := Lib.hid h3
          clear h3
          go_wp2_with fail
          go_meet
          exact ⟨false, _, rfl, rfl, H3⟩
      case rest =>
        obtain ⟨p, ys, rfl, hys, HP⟩ := hcut
        have hc1 : wc.cell? ⟨bx, ox + k, none⟩ = some (.string tx) := by rw [(HB1.out.trans (HP.out.bel.mono HB1.out.size)).cell hbx]; exact HCX.out
        clear hc0 HT
        obtain ⟨w3, rfl⟩ : ∃ w3, w3 = wc := ⟨_, rfl⟩
        go_upto_if 38 with fail
        go_cut [8] (fun s8 w' => ∃ (ins' : List ByteArray), ins' = outs ++ ys ∧ ins'.length ≤ k + 1 ∧ Hid (Ord wa w' r M ys s8 ins' vo outs))
        case first =>
          cases p with
          | false =>
            go_wp2_with fail
            go_meet
            exact ⟨ins, by rw [hys]; exact hins, by omega, HP⟩
          | true =>
            have hbx0 : (w3.alloc (.cells #[.string tx] 9)).cell? ⟨w3.heap.size, 0, none⟩ = some (.string tx) := by rw [cell_of_row _ _ 0 _ _ (0, 0) (heap_alloc_new w3 _)]; rfl
            have HPW := Lib.hid (HP.out.below ((Below.refl _ w3).alloc (Nat.le_refl _) (.cells #[.string tx] 9)))
            have hpz := HP.out.bel.size
            go_wp2_with (at_builtin; refine wpList_append_src _ rfl (.tmp 39) (.tmp 44) 59 rfl wa.heap.size 9 i0 (.string ⟨#[]⟩) 1 16 Try.underlying59 Hi.out Hz0.out Hz1.out Hz2.out rfl (by decide) vi ins.length (VI ins) rfl HPW.out.rowIn (some ⟨w3.heap.size, 0, none⟩) 1 1 [.string tx] rfl rfl (fun h => by cases h) (one_src hbx0) (fun u hu => by simp at hu; subst hu; rfl) (by unfold maxLen; omega) (by omega) (by simp; omega) ?_; intro v' w4 hown4 hg4 hv4; have HO4 := Lib.hid hown4; have HG4 := Lib.hid hg4; have HV4 := Lib.hid hv4; clear hown4 hg4 hv4)
            go_meet
            exact ⟨ins ++ [tx], by rw [hys, hins]; simp, by simp; omega, HPW.out.addIn HG4.out (zs := ins ++ [tx]) (by have h := HO4.out; rw [← List.map_singleton (f := Value.string), ← List.map_append] at h; exact h) (by simp) HV4.out⟩
        case rest =>
          obtain ⟨ins', hins', hil', HQ⟩ := hcut
          clear HP hc1
          obtain ⟨w4, rfl⟩ : ∃ w4, w4 = wc := ⟨_, rfl⟩
          by_cases ht : k < len2
          · obtain ⟨b2, o2, rfl, p2, hcp⟩ : ∃ b o, A2 = some ⟨b, o, none⟩ ∧ ∃ p, w.cell? ⟨b, o + k, none⟩ = some (.bool p) := by
              rcases HBR.out.2 with h | ⟨b, o, e, h⟩
              · omega
              · exact ⟨b, o, e, h k ht⟩
            have hcq : w4.cell? ⟨b2, o2 + k, none⟩ = some (.bool p2) := by rw [(HB1.out.trans (HQ.out.bel.mono HB1.out.size)).cell (World.block_lt_of_cell? w _ hcp)]; exact hcp
            clear hcp
            cases p2 with
            | false =>
              go_wp2_with fail
              go_roundw
              case rel => exact ⟨k + 1, _, vo, ins', outs, ys, by omega, rfl, rfl, by go_num, hins', hil', HQ⟩
              case measure => simp [intOf]; omega
            | true =>
              cases ys with
              | nil =>
                go_wp2_with fail
                refine (o_takeNo HQ.out).mono ?_
                rintro e w5 ⟨rfl, rfl⟩
                go_wp2_with fail
                go_roundw
                case rel => exact ⟨k + 1, _, vo, ins', outs, [], by omega, rfl, rfl, by go_num, hins', hil', HQ⟩
                case measure => simp [intOf]; omega
              | cons x ys =>
                go_wp2_with fail
                refine (o_takeYes HQ.out).mono ?_
                rintro e w5 ⟨rfl, h5⟩
                have H5 := Lib.hid h5
                clear h5 HQ hcq
                have hbx0 : (w5.alloc (.cells #[.string x] 9)).cell? ⟨w5.heap.size, 0, none⟩ = some (.string x) := by rw [cell_of_row _ _ 0 _ _ (0, 0) (heap_alloc_new w5 _)]; rfl
                have HPW := Lib.hid (H5.out.below ((Below.refl _ w5).alloc (Nat.le_refl _) (.cells #[.string x] 9)))
                have hpz := H5.out.bel.size
                have hol : outs.length ≤ k := by rw [hins', List.length_append, List.length_cons] at hil'; omega
                go_wp2_with (at_builtin; refine wpList_append_src _ rfl (.tmp 63) (.tmp 65) 59 rfl wa.heap.size 9 i0 (.string ⟨#[]⟩) 1 16 Try.underlying59 Hi.out Hz0.out Hz1.out Hz2.out rfl (by decide) vo outs.length (VI outs) rfl HPW.out.rowOut (some ⟨w5.heap.size, 0, none⟩) 1 1 [.string x] rfl rfl (fun h => by cases h) (one_src hbx0) (fun u hu => by simp at hu; subst hu; rfl) (by unfold maxLen; omega) (by omega) (by simp; omega) ?_; intro v' w6 hown4 hg4 hv4; have HO4 := Lib.hid hown4; have HG4 := Lib.hid hg4; have HV4 := Lib.hid hv4; clear hown4 hg4 hv4)
                go_roundw
                case rel => exact ⟨k + 1, _, v', ins', outs ++ [x], ys, by omega, rfl, rfl, by go_num, by rw [hins']; simp, hil', HPW.out.addOut HG4.out (zs := outs ++ [x]) (by have h := HO4.out; rw [← List.map_singleton (f := Value.string), ← List.map_append] at h; exact h) (by simp) HV4.out⟩
                case measure => simp [intOf]; omega
          · go_wp2_with fail
            go_roundw
            case rel => exact ⟨k + 1, _, vo, ins', outs, ys, by omega, rfl, rfl, by go_num, hins', hil', HQ⟩
            case measure => simp [intOf]; omega
    · have hol : outs.length + xs.length ≤ k := by rw [hins, List.length_append] at hil; omega
      have HINS := Lib.hid hins
      clear hins
      by_cases hl1 : k < len
      · have hl2 : ¬ k < 100 := fun h => hlt ⟨hl1, h⟩
        clear hlt
        obtain ⟨Ai, ci, rfl, hi1, hi2⟩ := own_form HT.out.rowIn
        unfold maxLen at hi2
        go_wp2_with fail
        refine (o_clear HT.out).mono ?_
        rintro e w3 ⟨u, rfl, hu, h3⟩
        obtain ⟨Au, cu, rfl, hu0, hu1⟩ := rowV_src hu
        have H3 := Lib.hid h3
        have HU0 := Lib.hid hu0
        have HU1 := Lib.hid hu1
        clear h3 hu hu0 hu1 HT
        have hpz := H3.out.bel.size
        go_wp2_with (at_builtin; refine wpList_append_src _ rfl (.tmp 67) (.tmp 69) 59 rfl wa.heap.size 9 i0 (.string ⟨#[]⟩) 1 16 Try.underlying59 Hi.out Hz0.out Hz1.out Hz2.out rfl (by decide) vo outs.length (VI outs) rfl H3.out.rowOut Au xs.length cu (VI xs) rfl (by simp) HU0.out HU1.out (fun u hu => by rw [List.mem_map] at hu; obtain ⟨_, _, rfl⟩ := hu; rfl) (by unfold maxLen; omega) (by omega) hpz ?_; intro v' w6 hown4 hg4 hv4; rw [← List.length_append, ← List.map_append, ← HINS.out] at hown4; have H6 := Lib.hid (H3.out.addOut hg4 hown4 rfl hv4); clear hown4 hg4 hv4; obtain ⟨Ao, co, rfl, ho1, ho2⟩ := own_form H6.out.rowOut; unfold maxLen at ho2)
        clear H3 HU0 HU1
        refine (s_len H6.out.sess).mono ?_
        rintro e w7 ⟨rfl, rfl⟩
        rw [show (((VI []).length : Nat) : Int) = 0 from rfl]
        go_wp2_with fail
        go_loopw [83] (fun i wr => ∃ j : Nat, j ≤ ins.length ∧ i = .int .i64 j ∧ Hid (Below w6.heap.size w6 wr)) (fun i _ => ins.length - (intOf i).toNat)
        case atStart => exact ⟨0, by omega, rfl, Below.refl _ _⟩
        case round =>
          obtain ⟨j, hj, rfl, HJ⟩ := hrel
          by_cases hjl : j < ins.length
          · have ex := List.getElem?_eq_getElem hjl
            generalize ins[j] = x at *
            have H7 := Lib.hid (H6.out.below HJ.out)
            obtain ⟨bi, rfl, hbi, ci0⟩ := own_get H7.out.rowIn ex
            obtain ⟨bo, rfl, hbo, co0⟩ := own_get H7.out.rowOut ex
            go_wp2_with fail
            go_quiet (fail)
            go_wp2_with fail
            go_roundw
            case rel => exact ⟨j + 1, by omega, by go_num, HJ.out.trans (Below.mk rfl rfl rfl (Nat.le_refl _) (fun _ _ => rfl))⟩
            case measure => simp [intOf]; omega
          · go_wp2_with fail
            go_ret
            exact ⟨rfl, HB1.out.trans ((H6.out.bel.trans (HJ.out.mono H6.out.bel.size)).mono HB1.out.size)⟩
      · clear hlt
        obtain ⟨Ai, ci, rfl, hi1, hi2⟩ := own_form HT.out.rowIn
        unfold maxLen at hi2
        go_wp2_with fail
        refine (o_clear HT.out).mono ?_
        rintro e w3 ⟨u, rfl, hu, h3⟩
        obtain ⟨Au, cu, rfl, hu0, hu1⟩ := rowV_src hu
        have H3 := Lib.hid h3
        have HU0 := Lib.hid hu0
        have HU1 := Lib.hid hu1
        clear h3 hu hu0 hu1 HT
        have hpz := H3.out.bel.size
        go_wp2_with (at_builtin; refine wpList_append_src _ rfl (.tmp 67) (.tmp 69) 59 rfl wa.heap.size 9 i0 (.string ⟨#[]⟩) 1 16 Try.underlying59 Hi.out Hz0.out Hz1.out Hz2.out rfl (by decide) vo outs.length (VI outs) rfl H3.out.rowOut Au xs.length cu (VI xs) rfl (by simp) HU0.out HU1.out (fun u hu => by rw [List.mem_map] at hu; obtain ⟨_, _, rfl⟩ := hu; rfl) (by unfold maxLen; omega) (by omega) hpz ?_; intro v' w6 hown4 hg4 hv4; rw [← List.length_append, ← List.map_append, ← HINS.out] at hown4; have H6 := Lib.hid (H3.out.addOut hg4 hown4 rfl hv4); clear hown4 hg4 hv4; obtain ⟨Ao, co, rfl, ho1, ho2⟩ := own_form H6.out.rowOut; unfold maxLen at ho2)
        clear H3 HU0 HU1
        refine (s_len H6.out.sess).mono ?_
        rintro e w7 ⟨rfl, rfl⟩
        rw [show (((VI []).length : Nat) : Int) = 0 from rfl]
        go_wp2_with fail
        go_loopw [83] (fun i wr => ∃ j : Nat, j ≤ ins.length ∧ i = .int .i64 j ∧ Hid (Below w6.heap.size w6 wr)) (fun i _ => ins.length - (intOf i).toNat)
        case atStart => exact ⟨0, by omega, rfl, Below.refl _ _⟩
        case round =>
          obtain ⟨j, hj, rfl, HJ⟩ := hrel
          by_cases hjl : j < ins.length
          · have ex := List.getElem?_eq_getElem hjl
            generalize ins[j] = x at *
            have H7 := Lib.hid (H6.out.below HJ.out)
            obtain ⟨bi, rfl, hbi, ci0⟩ := own_get H7.out.rowIn ex
            obtain ⟨bo, rfl, hbo, co0⟩ := own_get H7.out.rowOut ex
            go_wp2_with fail
            go_quiet (fail)
            go_wp2_with fail
            go_roundw
            case rel => exact ⟨j + 1, by omega, by go_num, HJ.out.trans (Below.mk rfl rfl rfl (Nat.le_refl _) (fun _ _ => rfl))⟩
            case measure => simp [intOf]; omega
          · go_wp2_with fail
            go_ret
            exact ⟨rfl, HB1.out.trans ((H6.out.bel.trans (HJ.out.mono H6.out.bel.size)).mono HB1.out.size)⟩
end Go.Proofs.Ytcdfjhbciknfkaa.string
