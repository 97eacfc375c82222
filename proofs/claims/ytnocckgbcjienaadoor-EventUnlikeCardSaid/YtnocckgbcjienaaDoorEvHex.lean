/- The contract of package event's Hex. No conditions but the text's length. -/
import Derived.Test.YtnocckgbcjienaaDoorEvRefCheck
import Derived.Test.YtnocckgbcjienaaDoorByteRow
import Derived.Test.YtnocckgbcjienaaDoorStrRow
import Derived.Deep.RegionLaw
import Derived.Lib.ConvBytes
import Derived.OwnWalk
import Derived.Laws.MakeOwn
import Derived.Deep.DeepCutAuto
import Derived.Test.YtnocckgbcjienaaDoorNumStr
namespace Go.Proofs.YtnocckgbcjienaaDoor
open Go.RowKit
set_option linter.unusedVariables false
set_option linter.unusedSimpArgs false

theorem step_append_frow {P : Program} (w : World) {ops : Array Oper} {o : Oper} {a : Act} {K : Act → World → Prop} {Q : Exit → Act → World → Prop} {E : Prop} (hgd : o.guard = none) (s x : Operand) (t u : TypeId)
    (ho : o.op = .call { callee := .builtin .append, args := #[s, x], argTypes := #[t, u] })
    (B : Nat) (e : TypeId) (i : TypeInfo) (ht : P.underlying t = some (.slice e)) (hi : P.info? e = some i) (hz : i.zero = some (.int .u8 0)) (hs : i.size = 1) (hb : i.bytes = 1)
    (v y : Value) (xs news : List Int) (hv : a.eval s = v) (hy : a.eval x = y) (h : BRow w B e v xs) (hB : B ≤ w.heap.size) (hlen : xs.length + news.length ≤ 1000000)
    (hx : (t = u ∧ ∃ a c, y = .slice (some a) news.length c ∧ ∀ j q, news[j]? = some q → w.cell? (a.add j) = some (.int .u8 q)) ∨ (P.underlying u = some (.int .i64) ∧ y = .int .i64 (news.length : Int) ∧ ∀ q ∈ news, q = 0))
    (hk : ∀ v' w', BRow w' B e v' (xs ++ news) → w.grownBy w' v.ownBlock → (v'.ownBlock = v.ownBlock ∨ v'.ownBlock = some w.heap.size) → K (a.put o.dst v') w') :
    if Region.wanted o (yielded ops a.tmps) = true then Oper.wp P o a w K Q else E := by
  have hw : Region.wanted o (yielded ops a.tmps) = true := by simp [Region.wanted, hgd]
  rw [if_pos hw]
  obtain ⟨v', w', hr, h2, h3, h4⟩ := run_append_frow (P := P) w B t u o.type e i ht hi hz hs hb v y xs news h hB hlen hx
  unfold Oper.wp execOp
  simp only [ho, resolve, invoke, builtin, Sem.run_bind, Sem.run_pure, Result.andThen_ok, List.map_toArray, List.map_cons, List.map_nil, hv, hy, hr]
  exact hk v' w' h2 h3 h4
theorem brow_made (w : World) (B : Nat) (e : TypeId) (n : Nat) (hB : B ≤ w.heap.size) (hn : n ≤ maxLen) : BRow (w.alloc (.cells (madeCells #[.int .u8 0] n) e)) B e (.slice (some ⟨w.heap.size, 0, none⟩) 0 n) [] := by
  refine ⟨w.heap.size, n, _, 0, 0, rfl, hB, heap_alloc_new w _, fun j _ h => by omega, by simp, hn, ?_, ?_⟩
  · rw [size_madeCells]
  · simp
set_option maxRecDepth 1000000 in
theorem and15 (b : Nat) (h : b < 256) : bits .and .u8 (b : Int) 15 = (b : Int) % 16 := by
  have hc : ∀ x : Fin 256, bits .and .u8 (x.val : Int) 15 = (x.val : Int) % 16 := by decide +kernel
  exact hc ⟨b, h⟩
def hexDigit (x : Nat) : Int := if x < 10 then 48 + x else 87 + x
theorem dig_at (x : Int) (n : Nat) (hx : x = (n : Int)) (hn : n < 16) (h : x.toNat < (⟨#[48, 49, 50, 51, 52, 53, 54, 55, 56, 57, 97, 98, 99, 100, 101, 102]⟩ : ByteArray).size) : ((((⟨#[48, 49, 50, 51, 52, 53, 54, 55, 56, 57, 97, 98, 99, 100, 101, 102]⟩ : ByteArray)[x.toNat]'h).toNat : Nat) : Int) = hexDigit n := by
  subst hx
  have hc : ∀ k : Fin 16, ∀ h : (((k.val : Nat) : Int).toNat) < (⟨#[48, 49, 50, 51, 52, 53, 54, 55, 56, 57, 97, 98, 99, 100, 101, 102]⟩ : ByteArray).size, ((((⟨#[48, 49, 50, 51, 52, 53, 54, 55, 56, 57, 97, 98, 99, 100, 101, 102]⟩ : ByteArray)[((k.val : Nat) : Int).toNat]'h).toNat : Nat) : Int) = hexDigit k.val := by decide +kernel
  exact hc ⟨n, hn⟩ h
theorem two_src (w : World) (a b : Int) (t : TypeId) : ∀ j q, ([a, b] : List Int)[j]? = some q → (w.alloc (.cells #[.int .u8 a, .int .u8 b] t)).cell? ((⟨w.heap.size, 0, none⟩ : Addr).add j) = some (.int .u8 q) := by
  intro j q hj
  have hn := heap_alloc_new w (.cells #[.int .u8 a, .int .u8 b] t)
  rw [Addr.add_lit, Nat.zero_add]
  match j, hj with
  | 0, hj => simp at hj; subst hj; rw [cell_of_row _ _ 0 _ _ (0, 0) hn]; rfl
  | 1, hj => simp at hj; subst hj; rw [cell_of_row _ _ 1 _ _ (0, 0) hn]; rfl
  | j + 2, hj => simp at hj
def hexL (s : ByteArray) : List Int := (nums s).flatMap fun b => [hexDigit (b / 16), hexDigit (b % 16)]
/-- Bytes, as they are written. -/
def hexB (s : ByteArray) : ByteArray := if s.size = 0 then ⟨#[45]⟩ else strOfNums (hexL s)
theorem infoByte1 : (Tryd.prog.info? 5).map (fun i => (i.zero, i.size, i.bytes)) = some (some (.int .u8 0), 1, 1) := by kernel_rfl
set_option maxHeartbeats 4000000 in
set_option maxRecDepth 100000 in
theorem ev_hex (s : ByteArray) (w : World) (hs : s.size ≤ 1000) :
    Calls Tryd.prog 17 #[.string s] w fun e w' => e = .returned (.string (hexB s)) ∧ Below w.heap.size w w' := by
  have hE := empty_size s
  have HV : Hid (hexB s = if s.size = 0 then ⟨#[45]⟩ else strOfNums (hexL s)) := rfl
  generalize hexB s = V at *
  by_cases h0 : s.size = 0
  · have HV2 := Lib.hid (HV.out.trans (if_pos h0))
    rw [decide_eq_true h0] at hE
    obtain rfl := HV2.out
    clear HV h0
    go_enter Tryd.func17, Tryd.ntmps17
    go_wp2_with fail
    go_ret
    exact ⟨rfl, Below.refl _ _⟩
  · have HV2 := Lib.hid (HV.out.trans (if_neg h0))
    rw [decide_eq_false h0] at hE
    have hm : IntKind.i64.wrap (2 * (s.size : Int)) = 2 * (s.size : Int) := by rw [IntKind.wrap_i64]; omega
    have HS := Lib.hid hs
    clear HV hs
    go_enter Tryd.func17, Tryd.ntmps17
    obtain ⟨i0, hi, hz0, hz1, hz2⟩ := info_parts infoByte1
    have hmk : ∀ W : World, (Instr.makeSlice 43 (.int .i64 0) (.int .i64 (2 * (s.size : Int)))).run Tryd.prog W = .ok (.slice (some ⟨W.heap.size, 0, none⟩) 0 (2 * s.size)) (W.alloc (.cells (madeCells #[.int .u8 0] (2 * s.size)) 5)) := fun W => by
      have h := run_make (P := Tryd.prog) W 43 5 i0 (.int .u8 0) Tryd.underlying43 hi hz0 .i64 .i64 0 ((2 * s.size : Nat) : Int) (by omega) (by omega) (by rw [hz2]; have := HS.out; omega) (by have := HS.out; omega)
      rw [hz1, Nat.mul_one, Int.toNat_natCast] at h
      exact h
    have Hi := Lib.hid hi
    have Hz0 := Lib.hid hz0
    have Hz1 := Lib.hid hz1
    have Hz2 := Lib.hid hz2
    clear hi hz0 hz1 hz2
    go_upto_region 4 with fail
    have HR0 := Lib.hid (brow_made w w.heap.size 5 (2 * s.size) (Nat.le_refl _) (by unfold maxLen; have := HS.out; omega))
    have HB0 := Lib.hid ((Below.refl _ w).alloc (Nat.le_refl _) (.cells (madeCells #[.int .u8 0] (2 * s.size)) 5))
    clear hmk hm
    generalize w.alloc (.cells (madeCells #[.int .u8 0] (2 * s.size)) 5) = w1 at *
    generalize Value.slice (some ⟨w.heap.size, 0, none⟩) 0 (2 * s.size) = v1 at *
    go_wp2_with fail
    go_loopw [3, 13] (fun b i wr => ∃ (j : Nat) (v : Value), j ≤ s.size ∧ v = b ∧ i = .int .i64 j ∧ Hid (BRow wr w.heap.size 5 v (((nums s).take j).flatMap fun b => [hexDigit (b / 16), hexDigit (b % 16)])) ∧ Hid (Below w.heap.size w wr)) (fun _ i _ => s.size - (intOf i).toNat)
    case atStart => exact ⟨0, _, by omega, rfl, rfl, HR0, HB0⟩
    case round =>
      obtain ⟨j, v, hj, rfl, rfl, HR, HB⟩ := hrel
      by_cases hlt : j < s.size
      · have hj0 : (0 : Int) ≤ (j : Int) := by omega
        have hj1 : (j : Int) < (s.size : Int) := by omega
        have hb := s[j].toNat_lt
        have hs9 := HS.out
        have q0 : (0 : Int) ≤ (s[j].toNat : Int) / 16 := by omega
        have q1 : (s[j].toNat : Int) / 16 < 16 := by omega
        have ha := and15 s[j].toNat hb
        have r0 : (0 : Int) ≤ (s[j].toNat : Int) % 16 := by omega
        have r1 : (s[j].toNat : Int) % 16 < 16 := by omega
        go_upto_region 7 with fail
        have HLL : Hid ((((nums s).take j).flatMap fun b => [hexDigit (b / 16), hexDigit (b % 16)]).length ≤ 2000) := by
          show _ ≤ _
          rw [List.length_flatMap]
          have e : (((nums s).take j).map fun b => ([hexDigit (b / 16), hexDigit (b % 16)]).length) = ((nums s).take j).map fun _ => 2 := rfl
          rw [e, List.map_const', List.sum_replicate_nat, List.length_take, nums_len]
          have := HS.out
          omega
        have HTK : Hid (((nums s).take (j + 1)).flatMap (fun b => [hexDigit (b / 16), hexDigit (b % 16)]) = (((nums s).take j).flatMap fun b => [hexDigit (b / 16), hexDigit (b % 16)]) ++ [hexDigit (s[j].toNat / 16), hexDigit (s[j].toNat % 16)]) := by
          show _ = _
          rw [nums_take s j hlt, List.flatMap_append]
          simp
        generalize (((nums s).take j).flatMap fun b => [hexDigit (b / 16), hexDigit (b % 16)]) = YS at *
        have HBD := Lib.hid (HB.out.drew)
        have HRD := Lib.hid (HR.out.next (Below.drew (Below.refl _ wr)))
        go_region_law (refine step_append_frow _ rfl (.tmp 16) (.tmp 27) 43 43 rfl w.heap.size 5 i0 Tryd.underlying43 Hi.out Hz0.out Hz1.out Hz2.out v (.slice (some ⟨wr.heap.size, 0, none⟩) 2 2) YS [_, _] rfl rfl ((HR.out.next ((Below.refl _ wr).alloc (Nat.le_refl _) _)).next (Below.drew (Below.refl _ _))) (by show w.heap.size ≤ (wr.alloc _).heap.size; rw [World.size_alloc]; exact Nat.le_trans HB.out.size (Nat.le_succ _)) (by have := HLL.out; simp; omega) (.inl ⟨rfl, ⟨wr.heap.size, 0, none⟩, 2, rfl, two_src wr _ _ _⟩) ?_; intro v5 w5 hown4 hg4 hv4; have HO5 := Lib.hid hown4; have HG5 := Lib.hid hg4; clear hown4 hg4 hv4)
        all_goals
          go_wp2_with fail
          go_roundw
          case rel =>
            refine ⟨j + 1, v5, by omega, rfl, by go_num, ?_, ?_⟩
            · show BRow _ _ _ _ _
              rw [HTK.out]
              have h := HO5.out
              rw [dig_at ((s[j].toNat : Int) / 16) (s[j].toNat / 16) rfl (by omega), dig_at ((s[j].toNat : Int) % 16) (s[j].toNat % 16) rfl (by omega)] at h
              exact h
            · show Below _ _ _
              exact Below.grown (show Below w.heap.size w ((wr.alloc _).drew) from (HB.out.alloc HB.out.size _).drew) HG5.out (by show w.heap.size ≤ (wr.alloc _).heap.size; rw [World.size_alloc]; exact Nat.le_trans HB.out.size (Nat.le_succ _)) (fun q hq => (HR.out.lt q hq).1)
          case measure => simp [intOf]; omega
      · have hjl : j = s.size := by omega
        subst hjl
        have hTA : ((nums s).take s.size).flatMap (fun b => [hexDigit (b / 16), hexDigit (b % 16)]) = hexL s := by
          rw [List.take_of_length_le (by rw [nums_len]; exact Nat.le_refl _)]; rfl
        rw [hTA] at HR
        clear hTA
        generalize hexL s = SO at *
        obtain ⟨gb, cb, rfl, hgb, hcb⟩ := HR.out.cells
        have hcv := run_convert_bytes_arg (P := Tryd.prog) wr 43 5 Tryd.underlying43 Tryd.underlying5 gb 0 SO.length cb SO rfl hcb 9 Tryd.underlying9
        clear hcb hgb HR
        go_wp2_with fail
        go_ret
        exact ⟨by rw [HV2.out]; rfl, HB.out⟩
end Go.Proofs.YtnocckgbcjienaaDoor
