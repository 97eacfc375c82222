/- The contract of package event's Text. Conditions: event's variables and the library's table lie as their initialisers leave them. -/
import Derived.Test.YtnocckgbcjienaaDoorEvText
import Derived.Lib.ItoaLen
namespace Go.Proofs.YtnocckgbcjienaaDoor
open Go.RowKit
set_option linter.unusedVariables false
set_option linter.unusedSimpArgs false

def textB (k n : Int) (d : ByteArray) (se : Bool) (code : Int) : ByteArray := if 1 ≤ k ∧ k ≤ 12 then joinB (wordS k.toNat :: partsL k n d se code) else ⟨#[]⟩
theorem size_toList (s : ByteArray) : s.data.toList.length = s.size := Array.length_toList
theorem joinB_size (x : ByteArray) (r : List ByteArray) : (joinB (x :: r)).size = r.length + x.size + (r.map ByteArray.size).sum := by
  unfold joinB
  have e : (ByteArray.mk (Lib.join ((x :: r).map (·.data.toList)) [32]).toArray).size = (Lib.join ((x :: r).map (·.data.toList)) [32]).length := by simp [ByteArray.size]
  rw [e, List.map_cons, Lib.join_length]
  unfold Lib.lens
  simp only [List.map_cons, List.map_map, List.sum_cons, List.length_map, List.length_singleton, Nat.one_mul]
  have e2 : (List.length ∘ fun s : ByteArray => s.data.toList) = ByteArray.size := by funext s; exact size_toList s
  rw [e2, size_toList]
  omega
theorem hexL_len (d : ByteArray) : (hexL d).length = 2 * d.size := by
  unfold hexL
  rw [List.length_flatMap]
  have e : ((nums d).map fun b => ([hexDigit (b / 16), hexDigit (b % 16)]).length) = (nums d).map fun _ => 2 := rfl
  rw [e, List.map_const', List.sum_replicate_nat, nums_len]; omega
theorem hexB_size (d : ByteArray) : (hexB d).size ≤ 2 * d.size + 1 := by
  unfold hexB
  split
  · show 1 ≤ _; omega
  · rw [strOfNums_size, hexL_len]; omega
theorem word_size (k : Nat) (hk : k < 13) : (wordS k).size ≤ 11 := by
  have hc : k = 0 ∨ k = 1 ∨ k = 2 ∨ k = 3 ∨ k = 4 ∨ k = 5 ∨ k = 6 ∨ k = 7 ∨ k = 8 ∨ k = 9 ∨ k = 10 ∨ k = 11 ∨ k = 12 := by omega
  rcases hc with rfl | rfl | rfl | rfl | rfl | rfl | rfl | rfl | rfl | rfl | rfl | rfl | rfl <;> decide
theorem parts_sizes (k n : Int) (d : ByteArray) (se : Bool) (code : Int) (hd : d.size ≤ 1000) (h0 : -9223372036854775808 ≤ n) (h1 : n ≤ 9223372036854775807) :
    (partsL k n d se code).length ≤ 2 ∧ ((partsL k n d se code).map ByteArray.size).sum ≤ 2100 := by
  have hh := hexB_size d
  have hi : (itoaB n).size ≤ 21 := by
    have := Lib.itoa_length_le n h0 h1
    unfold itoaB; simpa [ByteArray.size] using this
  have hc : (strOfNums [code]).size = 1 := by rw [strOfNums_size]; rfl
  have hs : (doerS se).size = 4 := by cases se <;> rfl
  unfold partsL reportL
  repeat' split
  all_goals simp only [List.length_cons, List.length_nil, List.map_cons, List.map_nil, List.sum_cons, List.sum_nil]
  all_goals omega
theorem own_strs {w : World} {base n : Nat} {e : TypeId} {v : Value} {ys : List ByteArray} (h : w.ownsRow base e 1 v n (ys.map Value.string)) (hn : 0 < n) : ∃ g c, v = .slice (some ⟨g, 0, none⟩) ys.length c ∧ base ≤ g ∧ g < w.heap.size ∧ ys.length ≤ c ∧ ∀ i x, ys[i]? = some x → w.cell? ⟨g, 0 + i, none⟩ = some (.string x) := by
  have hl : ys.length = n := by have := h.1; rw [List.length_map] at this; omega
  rcases h.2 with ⟨_, h'⟩ | ⟨g, cap, cur, rfl, hb, hg, hnc, _, hcs, htake⟩
  · omega
  · refine ⟨g, cap, by rw [hl], hb, (Array.getElem?_eq_some_iff.1 hg).1, by omega, fun i x hx => ?_⟩
    have hi := (List.getElem?_eq_some_iff.1 hx).1
    rw [Nat.zero_add, cell_of_row w g i cur e (0, 0) hg]
    have := congrArg (·[i]?) htake
    simp only [List.getElem?_map, hx, Option.map_some] at this
    rw [List.getElem?_take_of_lt (by omega)] at this
    simpa using this
theorem srow_src {w : World} {A : Option Addr} {m c : Nat} {ys : List ByteArray} (h : SRow w (.slice A m c) ys) : m = ys.length ∧ (A = none → ys.length = 0) ∧ ∀ ad, A = some ad → ∀ j u, (ys.map Value.string)[j]? = some u → w.cell? (ad.add j) = some u := by
  obtain ⟨A', c', e, h⟩ := h
  injection e with e1 e2 e3
  subst e1 e2 e3
  refine ⟨rfl, ?_, ?_⟩
  · rintro rfl
    rcases h with ⟨rfl, _⟩ | ⟨b, e, _⟩
    · rfl
    · cases e
  · rintro ad rfl j u hu
    rcases h with ⟨_, e⟩ | ⟨b, e, hb, hc⟩
    · cases e
    · injection e with e
      subst e
      rw [Addr.add_lit, Nat.zero_add]
      rw [List.getElem?_map] at hu
      cases hy : ys[j]? with
      | none => rw [hy] at hu; simp at hu
      | some y => rw [hy] at hu; simp at hu; subst hu; exact hc j y hy
theorem ownsRow_below {w w' : World} {base size n : Nat} {e : TypeId} {v : Value} {xs : List Value} (h : w.ownsRow base e size v n xs) (hb : Below w.heap.size w w') : w'.ownsRow base e size v n xs := by
  refine ⟨h.1, h.2.imp id ?_⟩
  rintro ⟨g, cap, cur, e1, h1, h2, h3⟩
  exact ⟨g, cap, cur, e1, h1, by rw [hb.block g (Array.getElem?_eq_some_iff.1 h2).1]; exact h2, h3⟩
theorem infoStr : (Tryd.prog.info? 9).map (fun i => (i.zero, i.size, i.bytes)) = some (some (.string ⟨#[]⟩), 1, 16) := by kernel_rfl
theorem one_str (ys : List ByteArray) : ∀ u ∈ ys.map Value.string, u.oneCell' = true := by
  intro u hu
  obtain ⟨x, _, rfl⟩ := List.mem_map.1 hu
  rfl
set_option maxHeartbeats 4000000 in
set_option maxRecDepth 100000 in
theorem ev_text (k n : Int) (d : ByteArray) (se : Bool) (code : Int) (w : World) (hS : VarsIn w) (hd : d.size ≤ 1000) (h0 : -9223372036854775808 ≤ n) (h1 : n ≤ 9223372036854775807) (htab : TabIn w) :
    Calls Tryd.prog 13 #[.agg #[.int .i64 k, .string d, .bool se, .int .u8 code, .int .i64 n]] w fun e w' => e = .returned (.string (textB k n d se code)) ∧ Below w.heap.size w w' := by
  have HX := Lib.hid (sbox_new w k n d se code)
  have hb := (Below.refl _ w).alloc (Nat.le_refl _) (.cells #[.int .i64 k, .string d, .bool se, .int .u8 code, .int .i64 n] 31)
  have HB := Lib.hid hb
  have HT := Lib.hid (htab.next hb)
  have HS := Lib.hid (hS.next hb)
  clear hb htab hS
  obtain ⟨x0, x1, x2, x3, x4⟩ := HX.out
  have HV : Hid (textB k n d se code = if 1 ≤ k ∧ k ≤ 12 then joinB (wordS k.toNat :: partsL k n d se code) else ⟨#[]⟩) := rfl
  generalize textB k n d se code = V at *
  by_cases hk1 : 1 ≤ k
  case neg =>
    have d1 : decide (k < 1) = true := decide_eq_true (by omega)
    have HV1 := Lib.hid (HV.out.trans (if_neg (by omega)))
    clear HV
    go_enter Tryd.func13, Tryd.ntmps13
    go_upto_region 1 with fail
    generalize w.alloc (.cells #[.int .i64 k, .string d, .bool se, .int .u8 code, .int .i64 n] 31) = w1 at *
    go_wp2_with fail
    go_ret
    exact ⟨by rw [HV1.out]; rfl, HB.out⟩
  by_cases hk2 : k ≤ 12
  case neg =>
    have d1 : decide (k < 1) = false := decide_eq_false (by omega)
    have d2 : decide (12 < k) = true := decide_eq_true (by omega)
    have HV1 := Lib.hid (HV.out.trans (if_neg (by omega)))
    clear HV
    go_enter Tryd.func13, Tryd.ntmps13
    go_upto_region 1 with fail
    generalize w.alloc (.cells #[.int .i64 k, .string d, .bool se, .int .u8 code, .int .i64 n] 31) = w1 at *
    go_wp2_with fail
    go_ret
    exact ⟨by rw [HV1.out]; rfl, HB.out⟩
  have HV1 := Lib.hid (HV.out.trans (if_pos ⟨hk1, hk2⟩))
  clear HV
  obtain ⟨j, rfl⟩ : ∃ j : Nat, k = (j : Int) := ⟨k.toNat, by omega⟩
  rw [Int.toNat_natCast] at HV1
  have d1 : decide ((j : Int) < 1) = false := decide_eq_false (by omega)
  have d2 : decide (12 < (j : Int)) = false := decide_eq_false (by omega)
  have hj : j < 13 := by omega
  have hj0 : (0 : Int) ≤ (j : Int) := by omega
  have hj1 : (j : Int) < 13 := by omega
  have HPT := Lib.hid (fun W (hW : TabIn W) => ev_parts (j : Int) n d se code W hd h0 h1 hW)
  have hws := word_size j hj
  obtain ⟨hps, hpl⟩ := parts_sizes (j : Int) n d se code hd h0 h1
  have HSZ : Hid ((joinB (wordS j :: partsL (j : Int) n d se code)).size ≤ 1000000 ∧ (partsL (j : Int) n d se code).length ≤ 2) := ⟨by rw [joinB_size]; omega, hps⟩
  have v0 := HS.out.word0 hj
  obtain ⟨i0, hi, hz0, hz1, hz2⟩ := info_parts infoStr
  have Hi := Lib.hid hi
  have Hz0 := Lib.hid hz0
  have Hz1 := Lib.hid hz1
  have Hz2 := Lib.hid hz2
  clear hi hz0 hz1 hz2 hws hps hpl hk1 hk2 hd h0 h1
  generalize wordS j = WS at *
  generalize partsL (j : Int) n d se code = PL at *
  go_enter Tryd.func13, Tryd.ntmps13
  go_upto_region 1 with fail
  generalize w.alloc (.cells #[.int .i64 (j : Int), .string d, .bool se, .int .u8 code, .int .i64 n] 31) = w1 at *
  have H1L := HS.out.two
  have HV0 := Lib.hid v0
  have hb0 := Below.refl w1.heap.size w1
  go_upto_region 3 with fail
  go_region_held3 (fun w' => w'.cell? ⟨w.heap.size, 0, none⟩ = some (.int .i64 (j : Int)) ∧ w'.cell? ⟨w.heap.size, 1, none⟩ = some (.string d) ∧ w'.cell? ⟨w.heap.size, 2, none⟩ = some (.bool se) ∧ w'.cell? ⟨w.heap.size, 3, none⟩ = some (.int .u8 code) ∧ w'.cell? ⟨w.heap.size, 4, none⟩ = some (.int .i64 n) ∧ w'.cell? ⟨1, j, none⟩ = some (.string WS))
    (first | go_keep)
    (first
      | (go_at_call 21
         refine (HPT.out _ ?_).mono ?_
         · exact HT.out.next (by repeat (with_reducible first | exact hb0 | refine Below.drew ?_ | refine Below.alloc ?_ (by first | (simp; done) | (simp; omega)) _))
         rintro e wp ⟨v, rfl, hr, hbp⟩
         have HBP := Lib.hid (show Below w1.heap.size w1 wp from Below.trans (show Below w1.heap.size w1 _ by repeat (with_reducible first | exact hb0 | refine Below.drew ?_ | refine Below.alloc ?_ (by first | (simp; done) | (simp; omega)) _)) (hbp.mono (by first | (simp; done) | (simp; omega))))
         have HBQ := Lib.hid hbp
         have HXP := Lib.hid (HX.out.next HBP.out)
         have hvp : wp.cell? ⟨1, j, none⟩ = some (.string WS) := by rw [HBP.out.cell (p := ⟨1, j, none⟩) H1L]; exact HV0.out
         have HRP := Lib.hid hr
         obtain ⟨AP, cP, eP, _⟩ := id hr
         subst eP
         clear hr hbp
         obtain ⟨a0, a1, a2, a3, a4⟩ := HXP.out)
      | (refine step_append_src _ rfl (.tmp 15) (.tmp 17) 50 rfl w1.heap.size 9 i0 (.string ⟨#[]⟩) 1 16 Tryd.underlying50 Hi.out Hz0.out Hz1.out Hz2.out rfl (by decide) (.slice (some ⟨w1.heap.size, 0, none⟩) 1 1) 1 [.string WS] (by rfl) (ownsRow_below (World.ownsRow.drew (World.ownsRow_lit w1 #[.string WS] 1 (Nat.le_refl _) (by unfold maxLen; omega) rfl)) HBQ.out) AP PL.length cP (PL.map Value.string) (by rfl) (by rw [List.length_map, Nat.mul_one]) (fun h => (srow_src HRP.out).2.1 h) (srow_src HRP.out).2.2 (one_str PL) (by have := HSZ.out.2; unfold maxLen; omega) (by have := HSZ.out.2; omega) HBP.out.size ?_
         intro v6' w6 hown6 hg6 _
         have HOA : Hid (w6.ownsRow w1.heap.size 9 1 v6' (1 + PL.length) ((WS :: PL).map Value.string)) := hown6
         have HBA := Lib.hid (Below.grown HBP.out hg6 HBP.out.size (fun q hq => by have := Option.some.inj (show some w1.heap.size = some q from hq); omega))
         have HX6 := Lib.hid (HX.out.next HBA.out)
         have hv6 : w6.cell? ⟨1, j, none⟩ = some (.string WS) := by rw [HBA.out.cell (p := ⟨1, j, none⟩) H1L]; exact HV0.out
         obtain ⟨b0, b1, b2, b3, b4⟩ := HX6.out
         obtain ⟨g6, c6, rfl, hg60, hg61, hg62, hg63⟩ := own_strs HOA.out (by omega)
         have HJN := Lib.hid (ev_join g6 c6 (WS :: PL) w6 hg63 hg61 (by have := HSZ.out.2; rw [List.length_cons]; omega) hg62 HSZ.out.1)
         clear hown6 hg6 hg60 hg61 hg62 hg63)
      | (refine step_append_src _ rfl (.tmp 15) (.tmp 17) 50 rfl w1.heap.size 9 i0 (.string ⟨#[]⟩) 1 16 Tryd.underlying50 Hi.out Hz0.out Hz1.out Hz2.out rfl (by decide) (.slice (some ⟨wp.heap.size, 0, none⟩) 1 1) 1 [.string WS] (by rfl) (World.ownsRow_lit wp #[.string WS] 1 HBP.out.size (by unfold maxLen; omega) rfl) AP PL.length cP (PL.map Value.string) (by rfl) (by rw [List.length_map, Nat.mul_one]) (fun h => (srow_src HRP.out).2.1 h) (srow_src (HRP.out.next ((Below.refl _ wp).alloc (Nat.le_refl _) _))).2.2 (one_str PL) (by have := HSZ.out.2; unfold maxLen; omega) (by have := HSZ.out.2; omega) (by rw [World.size_alloc]; have := HBP.out.size; omega) ?_
         intro v6' w6 hown6 hg6 _
         have HOA : Hid (w6.ownsRow w1.heap.size 9 1 v6' (1 + PL.length) ((WS :: PL).map Value.string)) := hown6
         have HBA := Lib.hid (Below.grown (HBP.out.alloc HBP.out.size _) hg6 (by rw [World.size_alloc]; have := HBP.out.size; omega) (fun q hq => by have := Option.some.inj (show some wp.heap.size = some q from hq); have := HBP.out.size; omega))
         have HX6 := Lib.hid (HX.out.next HBA.out)
         have hv6 : w6.cell? ⟨1, j, none⟩ = some (.string WS) := by rw [HBA.out.cell (p := ⟨1, j, none⟩) H1L]; exact HV0.out
         obtain ⟨b0, b1, b2, b3, b4⟩ := HX6.out
         obtain ⟨g6, c6, rfl, hg60, hg61, hg62, hg63⟩ := own_strs HOA.out (by omega)
         have HJN := Lib.hid (ev_join g6 c6 (WS :: PL) w6 hg63 hg61 (by have := HSZ.out.2; rw [List.length_cons]; omega) hg62 HSZ.out.1)
         clear hown6 hg6 hg60 hg61 hg62 hg63)
      | (go_at_call 20; (have HJ2 := HJN.out); (rw [List.length_cons] at HJ2); (with_reducible refine HJ2.mono ?_); clear HJ2; rintro e wj ⟨rfl, hbj⟩
         have HBJ := Lib.hid (HBA.out.trans (hbj.mono HBA.out.size))
         have HXJ := Lib.hid (HX.out.next HBJ.out)
         have hvj : wj.cell? ⟨1, j, none⟩ = some (.string WS) := by rw [HBJ.out.cell (p := ⟨1, j, none⟩) H1L]; exact HV0.out
         clear hbj
         obtain ⟨e0, e1, e2, e3, e4⟩ := HXJ.out)
      | fail)
  all_goals
    go_wp2_with fail
    go_ret
    exact ⟨by rw [HV1.out]; rfl, HB.out.trans (HBJ.out.mono HB.out.size)⟩
end Go.Proofs.YtnocckgbcjienaaDoor
