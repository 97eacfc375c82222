/- The walk of CrcXors: the sums of three texts of one length, and of all three xored, are nought together, xored. Condition: the list reads as a row of triples of bytes. -/
import Derived.Test.YtamnmablodgdjaaCrcXorsInv
namespace Go.Proofs.Ytamnmablodgdjaa
open Go.RowKit Crc Reg
set_option linter.unusedVariables false

/-- A slice of triples of bytes that came in. -/
def TriRow (w : World) (A : Option Addr) (len cap : Nat) : Prop :=
  len ≤ cap ∧ cap ≤ maxLen ∧ (len = 0 ∨ ∃ b off, A = some ⟨b, off, none⟩ ∧ ∀ i, i < len → ∃ x y z : Nat, x < 256 ∧ y < 256 ∧ z < 256 ∧ w.cell? ⟨b, off + i * 3, none⟩ = some (.int .u8 (x : Int)) ∧ w.cell? ⟨b, off + i * 3 + 1, none⟩ = some (.int .u8 (y : Int)) ∧ w.cell? ⟨b, off + i * 3 + 2, none⟩ = some (.int .u8 (z : Int)))

/-- Three texts of k bytes, and the one of all three xored. -/
def XorRel (k : Nat) (ta tb tc td : Value) : Prop :=
  ∃ a b c d : ByteArray, ta = .string a ∧ tb = .string b ∧ tc = .string c ∧ td = .string d ∧ a.size = k ∧ b.size = k ∧ c.size = k ∧ d.size = k ∧
    nums d = List.zipWith (· ^^^ ·) (List.zipWith (· ^^^ ·) (nums a) (nums b)) (nums c)
theorem xorRel_start : XorRel 0 (.string ⟨#[]⟩) (.string ⟨#[]⟩) (.string ⟨#[]⟩) (.string ⟨#[]⟩) := ⟨_, _, _, _, rfl, rfl, rfl, rfl, rfl, rfl, rfl, rfl, rfl⟩

theorem nums_one (x : Nat) (hx : x < 256) : nums (Xo.one x) = [x] := by
  unfold Xo.one
  rw [nums_strOfNums]
  simp
  omega
theorem one_size (x : Nat) : (Xo.one x).size = 1 := by unfold Xo.one; rw [strOfNums_size]; rfl
theorem xorRel_step {k : Nat} {a b c d : ByteArray} {x y z : Nat} (ha : a.size = k) (hb : b.size = k) (hc : c.size = k) (hd : d.size = k) (hx : x < 256) (hy : y < 256) (hz : z < 256)
    (h : nums d = List.zipWith (· ^^^ ·) (List.zipWith (· ^^^ ·) (nums a) (nums b)) (nums c)) :
    XorRel (k + 1) (.string (a ++ Xo.one x)) (.string (b ++ Xo.one y)) (.string (c ++ Xo.one z)) (.string (d ++ Xo.one (x ^^^ y ^^^ z))) := by
  refine ⟨_, _, _, _, rfl, rfl, rfl, rfl, by rw [ByteArray.size_append, one_size, ha], by rw [ByteArray.size_append, one_size, hb], by rw [ByteArray.size_append, one_size, hc], by rw [ByteArray.size_append, one_size, hd], ?_⟩
  have hxyz : x ^^^ y ^^^ z < 256 := Nat.xor_lt_two_pow (n := 8) (Nat.xor_lt_two_pow (n := 8) hx hy) hz
  rw [nums_append, nums_append, nums_append, nums_append, nums_one _ hx, nums_one _ hy, nums_one _ hz, nums_one _ hxyz, h,
    List.zipWith_append (by rw [nums_len, nums_len, ha, hb]), List.zipWith_append (by rw [List.length_zipWith, nums_len, nums_len, nums_len, ha, hb, hc]; simp)]
  rfl

theorem on_xor (x y : BitVec 32) (a b : Nat) (ha : a < 256) (hb : b < 256) : on (x ^^^ y) (a ^^^ b) = on x a ^^^ on y b := by
  unfold on byteAt
  rw [ofNat_xor32 a b (by omega) (by omega), BitVec.shiftLeft_xor_distrib, xor_comm4, shN_xor]
theorem run_xor (l : List Nat) : ∀ (m : List Nat) (x y : BitVec 32), l.length = m.length → (∀ b ∈ l, b < 256) → (∀ b ∈ m, b < 256) → run (x ^^^ y) (List.zipWith (· ^^^ ·) l m) = run x l ^^^ run y m := by
  induction l with
  | nil => intro m x y h _ _; cases m with
    | nil => rfl
    | cons b m => simp at h
  | cons a l ih =>
    intro m x y h hl hm
    cases m with
    | nil => simp at h
    | cons b m =>
      rw [List.zipWith_cons_cons, run_cons, run_cons, run_cons, on_xor _ _ _ _ (hl a List.mem_cons_self) (hm b List.mem_cons_self)]
      exact ih m _ _ (by simpa using h) (fun c hc => hl c (List.mem_cons_of_mem _ hc)) (fun c hc => hm c (List.mem_cons_of_mem _ hc))
theorem zip_lt (l m : List Nat) (hl : ∀ b ∈ l, b < 256) (hm : ∀ b ∈ m, b < 256) : ∀ b ∈ List.zipWith (· ^^^ ·) l m, b < 256 := by
  intro b hb
  obtain ⟨i, hi, rfl⟩ := List.mem_iff_getElem.1 hb
  rw [List.getElem_zipWith]
  exact Nat.xor_lt_two_pow (n := 8) (hl _ (List.getElem_mem _)) (hm _ (List.getElem_mem _))
theorem not_three (a b c : BitVec 32) : ~~~a ^^^ ~~~b ^^^ ~~~c = ~~~(a ^^^ b ^^^ c) := by
  apply BitVec.eq_of_getLsbD_eq
  intro i hi
  simp only [BitVec.getLsbD_xor, BitVec.getLsbD_not]
  simp only [hi, decide_true, Bool.true_and]
  cases a.getLsbD i <;> cases b.getLsbD i <;> cases c.getLsbD i <;> rfl
theorem xors_sums {k : Nat} {a b c d : ByteArray} (ha : a.size = k) (hb : b.size = k) (hc : c.size = k)
    (h : nums d = List.zipWith (· ^^^ ·) (List.zipWith (· ^^^ ·) (nums a) (nums b)) (nums c)) :
    Go.bits .xor .u32 ((sumOf a).toNat : Int) ((sumOf b).toNat : Int) = ((sumOf a ^^^ sumOf b).toNat : Int) ∧ Go.bits .xor .u32 ((sumOf a ^^^ sumOf b).toNat : Int) ((sumOf c).toNat : Int) = ((sumOf d).toNat : Int) := by
  refine ⟨bv_xor _ _, ?_⟩
  rw [bv_xor]
  congr 2
  unfold sumOf
  rw [not_three, h]
  have h1 := run_xor (nums a) (nums b) ones ones (by rw [nums_len, nums_len, ha, hb]) (nums_lt a) (nums_lt b)
  have h2 := run_xor (List.zipWith (· ^^^ ·) (nums a) (nums b)) (nums c) (ones ^^^ ones) ones (by rw [List.length_zipWith, nums_len, nums_len, nums_len, ha, hb, hc]; simp) (zip_lt _ _ (nums_lt a) (nums_lt b)) (nums_lt c)
  rw [h1] at h2
  rw [← h2, BitVec.xor_self, BitVec.zero_xor]

set_option maxHeartbeats 1000000 in
set_option maxRecDepth 100000 in
theorem xors_few (b off : Nat) (n cap : Nat) (w : World) (hl : n ≤ cap) (hc : cap ≤ maxLen) (hn1 : n ≤ 60) (hn2 : (n : Int) ≤ 60)
    (h : ∀ i, i < n → ∃ x y z : Nat, x < 256 ∧ y < 256 ∧ z < 256 ∧ w.cell? ⟨b, off + i * 3, none⟩ = some (.int .u8 (x : Int)) ∧ w.cell? ⟨b, off + i * 3 + 1, none⟩ = some (.int .u8 (y : Int)) ∧ w.cell? ⟨b, off + i * 3 + 2, none⟩ = some (.int .u8 (z : Int))) :
    Calls Try.prog 13 #[.slice (some ⟨b, off, none⟩) n cap] w fun e w' => e = .returned (.bool true) ∧ Below w.heap.size w w' := by
  unfold maxLen at hc
  have H := Lib.hid h
  clear h
  go_enter Try.func13, Try.ntmps13
  go_wp2_with fail
  refine (crc_awake _).mono ?_
  rintro e w0 ⟨rfl, hb0⟩
  go_wp2_with fail
  go_loopw [3, 4, 5, 6, 19] (fun ta tb tc td i wr => ∃ k : Nat, k ≤ n ∧ i = .int .i64 k ∧ XorRel k ta tb tc td ∧ Below w.heap.size w wr) (fun _ _ _ _ i _ => n - (intOf i).toNat)
  case atStart => exact ⟨0, by omega, rfl, xorRel_start, hb0⟩
  case round =>
    obtain ⟨k, hk, rfl, ⟨a, b', c, d, rfl, rfl, rfl, rfl, ha, hb, hc', hd, hx⟩, hbel⟩ := hrel
    by_cases hlt : k < n
    · obtain ⟨x, y, z, hxl, hyl, hzl, h0', h1', h2'⟩ := H.out k (by omega)
      have hc0 : wr.cell? ⟨b, off + k * 3, none⟩ = some (.int .u8 (x : Int)) := by rw [hbel.cell (block_lt_of_cell h0')]; exact h0'
      have hc1 : wr.cell? ⟨b, off + k * 3 + 1, none⟩ = some (.int .u8 (y : Int)) := by rw [hbel.cell (block_lt_of_cell h1')]; exact h1'
      have hc2 : wr.cell? ⟨b, off + k * 3 + 2, none⟩ = some (.int .u8 (z : Int)) := by rw [hbel.cell (block_lt_of_cell h2')]; exact h2'
      clear h0' h1' h2'
      have Hx := Lib.hid hx
      have Hbel := Lib.hid hbel
      have Ha := Lib.hid ha
      have Hb := Lib.hid hb
      have Hc := Lib.hid hc'
      have Hd := Lib.hid hd
      clear hx hbel ha hb hc' hd
      go_wp2_with fail
      refine Reg.wp_region_named (fun a0 ha0 => ?_)
      have h3 : a0.tmps.getD 3 undef = .string a := by rw [ha0]; rfl
      have h4 : a0.tmps.getD 4 undef = .string b' := by rw [ha0]; rfl
      have h5 : a0.tmps.getD 5 undef = .string c := by rw [ha0]; rfl
      have h6 : a0.tmps.getD 6 undef = .string d := by rw [ha0]; rfl
      have h8 : a0.tmps.getD 8 undef = .pointer (some ⟨wr.heap.size, 0, none⟩) := by rw [ha0]; rfl
      have hs0 : a0.tmps.size = 78 := by rw [ha0]; rfl
      have hna : ¬ 9223372036854775807 < a.size + (Xo.one x).size := by rw [Ha.out]; unfold Xo.one; rw [strOfNums_size]; simp; omega
      have hnb : ¬ 9223372036854775807 < b'.size + (Xo.one y).size := by rw [Hb.out]; unfold Xo.one; rw [strOfNums_size]; simp; omega
      have hnc : ¬ 9223372036854775807 < c.size + (Xo.one z).size := by rw [Hc.out]; unfold Xo.one; rw [strOfNums_size]; simp; omega
      have hnd : ¬ 9223372036854775807 < d.size + (Xo.one (x ^^^ y ^^^ z)).size := by rw [Hd.out]; unfold Xo.one; rw [strOfNums_size]; simp; omega
      refine Reg.wp_region_inv (Xo.Inv ⟨a, b', c, d, x, y, z, wr.heap.size⟩ w a0) (by kernel_rfl) (Reg.hac_of (by kernel_rfl)) ?_ ?_ ?_
      · have hrep : ∀ j, j < 34 → (Array.replicate 34 false).getD j true = false := fun j hj => by simp [hj]
        refine ⟨rfl, hs0, fun _ _ => rfl, fun j hj hL => ?_, fun _ _ _ => rfl, fun m hm hL => ?_, ⟨?_, ?_, ?_⟩, below_drewN (n := 1) (Hbel.out.alloc Hbel.out.size _)⟩
        · have hL2 : (Array.replicate 34 false).getD j true = true := hL
          rw [hrep j hj] at hL2; cases hL2
        · have hL2 : (Array.replicate 34 false).getD (30 + m) true = true := hL
          rw [hrep (30 + m) (by omega)] at hL2; cases hL2
        · exact cell_of_row _ _ 0 _ _ (0, 0) (heap_alloc_new wr _)
        · exact cell_of_row _ _ 1 _ _ (0, 0) (heap_alloc_new wr _)
        · exact cell_of_row _ _ 2 _ _ (0, 0) (heap_alloc_new wr _)
      · intro i o ho L a1 w1 hsz hI hL hE
        have hi : i < 34 := (Array.getElem?_eq_some_iff.1 ho).1
        have hsz : L.size = 34 := hsz
        revert hE
        match i, hi, ho, hL with
        | 0, _, ho, hL =>
          cases ho
          intro hE
          have hno : L.getD 30 true = false := by
            cases h : L.getD 30 true with
            | false => rfl
            | true => exact absurd (hI.wait 0 (by omega) h) (by rw [hL]; decide)
          exact Xo.inv_step hI hsz (by omega) rfl rfl rfl (Xo.run_move _ rfl) (Xo.Ext.refl _) hI.below (Xo.Good.of rfl rfl ((hI.inp 0 (by omega) hno).trans h3)) (fun m hm e => by omega)
        | 1, _, ho, hL =>
          cases ho
          intro hE
          have e8 : a1.eval (.tmp 8) = _ := (hI.rest 8 (fun j hj => by unfold Xo.dst; split <;> omega)).trans h8
          exact Xo.inv_step hI hsz (by omega) rfl rfl rfl (Xo.run_addr _ _ rfl _ 0 (by omega) e8 rfl) (Xo.Ext.refl _) hI.below (Xo.Good.of rfl rfl rfl) (fun m hm e => by omega)
        | 2, _, ho, hL =>
          cases ho
          intro hE
          have e24 : a1.eval (.tmp 24) = _ := (hI.of hsz 1 (by omega) (edge hE 1 rfl)).1 _ rfl
          exact Xo.inv_step hI hsz (by omega) rfl rfl rfl (Xo.run_load _ rfl _ _ e24 hI.cells.1) (Xo.Ext.refl _) hI.below (Xo.Good.of rfl rfl rfl) (fun m hm e => by omega)
        | 3, _, ho, hL =>
          cases ho
          intro hE
          have e25 : a1.eval (.tmp 25) = _ := (hI.of hsz 2 (by omega) (edge hE 2 rfl)).1 _ rfl
          exact Xo.inv_step hI hsz (by omega) rfl rfl rfl (Xo.run_build _ rfl _ e25) (Xo.Ext.alloc _ _) (hI.below.alloc hI.below.size _) (Xo.Good.ofSlice rfl rfl rfl (Xo.newCell _ _ _)) (fun m hm e => by omega)
        | 4, _, ho, hL =>
          cases ho
          intro hE
          obtain ⟨g, eg, cg⟩ := (hI.of hsz 3 (by omega) (edge hE 3 rfl)).2 _ rfl
          have eg' : a1.eval (.tmp 26) = _ := eg
          exact Xo.inv_step hI hsz (by omega) rfl rfl rfl (Xo.run_conv _ rfl g _ eg' cg) (Xo.Ext.refl _) hI.below (Xo.Good.of rfl rfl rfl) (fun m hm e => by omega)
        | 5, _, ho, hL =>
          cases ho
          intro hE
          have e23 : a1.eval (.tmp 23) = _ := (hI.of hsz 0 (by omega) (edge hE 0 rfl)).1 _ rfl
          have e27 : a1.eval (.tmp 27) = _ := (hI.of hsz 4 (by omega) (edge hE 4 rfl)).1 _ rfl
          exact Xo.inv_step hI hsz (by omega) rfl rfl rfl (Xo.run_add _ _ _ rfl _ _ hna e23 e27) (Xo.Ext.refl _) hI.below (Xo.Good.of rfl rfl rfl) (fun m hm e => by omega)
        | 6, _, ho, hL =>
          cases ho
          intro hE
          have hno : L.getD 31 true = false := by
            cases h : L.getD 31 true with
            | false => rfl
            | true => exact absurd (hI.wait 1 (by omega) h) (by rw [hL]; decide)
          exact Xo.inv_step hI hsz (by omega) rfl rfl rfl (Xo.run_move _ rfl) (Xo.Ext.refl _) hI.below (Xo.Good.of rfl rfl ((hI.inp 1 (by omega) hno).trans h4)) (fun m hm e => by omega)
        | 7, _, ho, hL =>
          cases ho
          intro hE
          have e8 : a1.eval (.tmp 8) = _ := (hI.rest 8 (fun j hj => by unfold Xo.dst; split <;> omega)).trans h8
          exact Xo.inv_step hI hsz (by omega) rfl rfl rfl (Xo.run_addr _ _ rfl _ 1 (by omega) e8 rfl) (Xo.Ext.refl _) hI.below (Xo.Good.of rfl rfl rfl) (fun m hm e => by omega)
        | 8, _, ho, hL =>
          cases ho
          intro hE
          have e30 : a1.eval (.tmp 30) = _ := (hI.of hsz 7 (by omega) (edge hE 7 rfl)).1 _ rfl
          exact Xo.inv_step hI hsz (by omega) rfl rfl rfl (Xo.run_load _ rfl _ _ e30 hI.cells.2.1) (Xo.Ext.refl _) hI.below (Xo.Good.of rfl rfl rfl) (fun m hm e => by omega)
        | 9, _, ho, hL =>
          cases ho
          intro hE
          have e31 : a1.eval (.tmp 31) = _ := (hI.of hsz 8 (by omega) (edge hE 8 rfl)).1 _ rfl
          exact Xo.inv_step hI hsz (by omega) rfl rfl rfl (Xo.run_build _ rfl _ e31) (Xo.Ext.alloc _ _) (hI.below.alloc hI.below.size _) (Xo.Good.ofSlice rfl rfl rfl (Xo.newCell _ _ _)) (fun m hm e => by omega)
        | 10, _, ho, hL =>
          cases ho
          intro hE
          obtain ⟨g, eg, cg⟩ := (hI.of hsz 9 (by omega) (edge hE 9 rfl)).2 _ rfl
          have eg' : a1.eval (.tmp 32) = _ := eg
          exact Xo.inv_step hI hsz (by omega) rfl rfl rfl (Xo.run_conv _ rfl g _ eg' cg) (Xo.Ext.refl _) hI.below (Xo.Good.of rfl rfl rfl) (fun m hm e => by omega)
        | 11, _, ho, hL =>
          cases ho
          intro hE
          have e29 : a1.eval (.tmp 29) = _ := (hI.of hsz 6 (by omega) (edge hE 6 rfl)).1 _ rfl
          have e33 : a1.eval (.tmp 33) = _ := (hI.of hsz 10 (by omega) (edge hE 10 rfl)).1 _ rfl
          exact Xo.inv_step hI hsz (by omega) rfl rfl rfl (Xo.run_add _ _ _ rfl _ _ hnb e29 e33) (Xo.Ext.refl _) hI.below (Xo.Good.of rfl rfl rfl) (fun m hm e => by omega)
        | 12, _, ho, hL =>
          cases ho
          intro hE
          have hno : L.getD 32 true = false := by
            cases h : L.getD 32 true with
            | false => rfl
            | true => exact absurd (hI.wait 2 (by omega) h) (by rw [hL]; decide)
          exact Xo.inv_step hI hsz (by omega) rfl rfl rfl (Xo.run_move _ rfl) (Xo.Ext.refl _) hI.below (Xo.Good.of rfl rfl ((hI.inp 2 (by omega) hno).trans h5)) (fun m hm e => by omega)
        | 13, _, ho, hL =>
          cases ho
          intro hE
          have e8 : a1.eval (.tmp 8) = _ := (hI.rest 8 (fun j hj => by unfold Xo.dst; split <;> omega)).trans h8
          exact Xo.inv_step hI hsz (by omega) rfl rfl rfl (Xo.run_addr _ _ rfl _ 2 (by omega) e8 rfl) (Xo.Ext.refl _) hI.below (Xo.Good.of rfl rfl rfl) (fun m hm e => by omega)
        | 14, _, ho, hL =>
          cases ho
          intro hE
          have e36 : a1.eval (.tmp 36) = _ := (hI.of hsz 13 (by omega) (edge hE 13 rfl)).1 _ rfl
          exact Xo.inv_step hI hsz (by omega) rfl rfl rfl (Xo.run_load _ rfl _ _ e36 hI.cells.2.2) (Xo.Ext.refl _) hI.below (Xo.Good.of rfl rfl rfl) (fun m hm e => by omega)
        | 15, _, ho, hL =>
          cases ho
          intro hE
          have e37 : a1.eval (.tmp 37) = _ := (hI.of hsz 14 (by omega) (edge hE 14 rfl)).1 _ rfl
          exact Xo.inv_step hI hsz (by omega) rfl rfl rfl (Xo.run_build _ rfl _ e37) (Xo.Ext.alloc _ _) (hI.below.alloc hI.below.size _) (Xo.Good.ofSlice rfl rfl rfl (Xo.newCell _ _ _)) (fun m hm e => by omega)
        | 16, _, ho, hL =>
          cases ho
          intro hE
          obtain ⟨g, eg, cg⟩ := (hI.of hsz 15 (by omega) (edge hE 15 rfl)).2 _ rfl
          have eg' : a1.eval (.tmp 38) = _ := eg
          exact Xo.inv_step hI hsz (by omega) rfl rfl rfl (Xo.run_conv _ rfl g _ eg' cg) (Xo.Ext.refl _) hI.below (Xo.Good.of rfl rfl rfl) (fun m hm e => by omega)
        | 17, _, ho, hL =>
          cases ho
          intro hE
          have e35 : a1.eval (.tmp 35) = _ := (hI.of hsz 12 (by omega) (edge hE 12 rfl)).1 _ rfl
          have e39 : a1.eval (.tmp 39) = _ := (hI.of hsz 16 (by omega) (edge hE 16 rfl)).1 _ rfl
          exact Xo.inv_step hI hsz (by omega) rfl rfl rfl (Xo.run_add _ _ _ rfl _ _ hnc e35 e39) (Xo.Ext.refl _) hI.below (Xo.Good.of rfl rfl rfl) (fun m hm e => by omega)
        | 18, _, ho, hL =>
          cases ho
          intro hE
          have hno : L.getD 33 true = false := by
            cases h : L.getD 33 true with
            | false => rfl
            | true => exact absurd (hI.wait 3 (by omega) h) (by rw [hL]; decide)
          exact Xo.inv_step hI hsz (by omega) rfl rfl rfl (Xo.run_move _ rfl) (Xo.Ext.refl _) hI.below (Xo.Good.of rfl rfl ((hI.inp 3 (by omega) hno).trans h6)) (fun m hm e => by omega)
        | 19, _, ho, hL =>
          cases ho
          intro hE
          have e8 : a1.eval (.tmp 8) = _ := (hI.rest 8 (fun j hj => by unfold Xo.dst; split <;> omega)).trans h8
          exact Xo.inv_step hI hsz (by omega) rfl rfl rfl (Xo.run_addr _ _ rfl _ 0 (by omega) e8 rfl) (Xo.Ext.refl _) hI.below (Xo.Good.of rfl rfl rfl) (fun m hm e => by omega)
        | 20, _, ho, hL =>
          cases ho
          intro hE
          have e42 : a1.eval (.tmp 42) = _ := (hI.of hsz 19 (by omega) (edge hE 19 rfl)).1 _ rfl
          exact Xo.inv_step hI hsz (by omega) rfl rfl rfl (Xo.run_load _ rfl _ _ e42 hI.cells.1) (Xo.Ext.refl _) hI.below (Xo.Good.of rfl rfl rfl) (fun m hm e => by omega)
        | 21, _, ho, hL =>
          cases ho
          intro hE
          have e8 : a1.eval (.tmp 8) = _ := (hI.rest 8 (fun j hj => by unfold Xo.dst; split <;> omega)).trans h8
          exact Xo.inv_step hI hsz (by omega) rfl rfl rfl (Xo.run_addr _ _ rfl _ 1 (by omega) e8 rfl) (Xo.Ext.refl _) hI.below (Xo.Good.of rfl rfl rfl) (fun m hm e => by omega)
        | 22, _, ho, hL =>
          cases ho
          intro hE
          have e44 : a1.eval (.tmp 44) = _ := (hI.of hsz 21 (by omega) (edge hE 21 rfl)).1 _ rfl
          exact Xo.inv_step hI hsz (by omega) rfl rfl rfl (Xo.run_load _ rfl _ _ e44 hI.cells.2.1) (Xo.Ext.refl _) hI.below (Xo.Good.of rfl rfl rfl) (fun m hm e => by omega)
        | 23, _, ho, hL =>
          cases ho
          intro hE
          have e43 : a1.eval (.tmp 43) = _ := (hI.of hsz 20 (by omega) (edge hE 20 rfl)).1 _ rfl
          have e45 : a1.eval (.tmp 45) = _ := (hI.of hsz 22 (by omega) (edge hE 22 rfl)).1 _ rfl
          exact Xo.inv_step hI hsz (by omega) rfl rfl rfl (Xo.run_xor _ _ _ rfl x y hxl hyl e43 e45) (Xo.Ext.refl _) hI.below (Xo.Good.of rfl rfl rfl) (fun m hm e => by omega)
        | 24, _, ho, hL =>
          cases ho
          intro hE
          have e8 : a1.eval (.tmp 8) = _ := (hI.rest 8 (fun j hj => by unfold Xo.dst; split <;> omega)).trans h8
          exact Xo.inv_step hI hsz (by omega) rfl rfl rfl (Xo.run_addr _ _ rfl _ 2 (by omega) e8 rfl) (Xo.Ext.refl _) hI.below (Xo.Good.of rfl rfl rfl) (fun m hm e => by omega)
        | 25, _, ho, hL =>
          cases ho
          intro hE
          have e47 : a1.eval (.tmp 47) = _ := (hI.of hsz 24 (by omega) (edge hE 24 rfl)).1 _ rfl
          exact Xo.inv_step hI hsz (by omega) rfl rfl rfl (Xo.run_load _ rfl _ _ e47 hI.cells.2.2) (Xo.Ext.refl _) hI.below (Xo.Good.of rfl rfl rfl) (fun m hm e => by omega)
        | 26, _, ho, hL =>
          cases ho
          intro hE
          have e46 : a1.eval (.tmp 46) = _ := (hI.of hsz 23 (by omega) (edge hE 23 rfl)).1 _ rfl
          have e48 : a1.eval (.tmp 48) = _ := (hI.of hsz 25 (by omega) (edge hE 25 rfl)).1 _ rfl
          exact Xo.inv_step hI hsz (by omega) rfl rfl rfl (Xo.run_xor _ _ _ rfl (x ^^^ y) z (Nat.xor_lt_two_pow (n := 8) hxl hyl) hzl e46 e48) (Xo.Ext.refl _) hI.below (Xo.Good.of rfl rfl rfl) (fun m hm e => by omega)
        | 27, _, ho, hL =>
          cases ho
          intro hE
          have e49 : a1.eval (.tmp 49) = _ := (hI.of hsz 26 (by omega) (edge hE 26 rfl)).1 _ rfl
          exact Xo.inv_step hI hsz (by omega) rfl rfl rfl (Xo.run_build _ rfl _ e49) (Xo.Ext.alloc _ _) (hI.below.alloc hI.below.size _) (Xo.Good.ofSlice rfl rfl rfl (Xo.newCell _ _ _)) (fun m hm e => by omega)
        | 28, _, ho, hL =>
          cases ho
          intro hE
          obtain ⟨g, eg, cg⟩ := (hI.of hsz 27 (by omega) (edge hE 27 rfl)).2 _ rfl
          have eg' : a1.eval (.tmp 50) = _ := eg
          exact Xo.inv_step hI hsz (by omega) rfl rfl rfl (Xo.run_conv _ rfl g _ eg' cg) (Xo.Ext.refl _) hI.below (Xo.Good.of rfl rfl rfl) (fun m hm e => by omega)
        | 29, _, ho, hL =>
          cases ho
          intro hE
          have e41 : a1.eval (.tmp 41) = _ := (hI.of hsz 18 (by omega) (edge hE 18 rfl)).1 _ rfl
          have e51 : a1.eval (.tmp 51) = _ := (hI.of hsz 28 (by omega) (edge hE 28 rfl)).1 _ rfl
          exact Xo.inv_step hI hsz (by omega) rfl rfl rfl (Xo.run_add _ _ _ rfl _ _ hnd e41 e51) (Xo.Ext.refl _) hI.below (Xo.Good.of rfl rfl rfl) (fun m hm e => by omega)
        | 30, _, ho, hL =>
          cases ho
          intro hE
          have e28 : a1.eval (.tmp 28) = _ := (hI.of hsz 5 (by omega) (edge hE 5 rfl)).1 _ rfl
          have hw : L.getD 0 true = true := by rw [getD_any L 0 (by omega) true false]; exact edge hE 0 rfl
          exact Xo.inv_step hI hsz (by omega) rfl rfl rfl (Xo.run_assign _ rfl) (Xo.Ext.refl _) hI.below (Xo.Good.of rfl rfl e28) (fun m hm e => (show m = 0 by omega) ▸ hw)
        | 31, _, ho, hL =>
          cases ho
          intro hE
          have e34 : a1.eval (.tmp 34) = _ := (hI.of hsz 11 (by omega) (edge hE 11 rfl)).1 _ rfl
          have hw : L.getD 6 true = true := by rw [getD_any L 6 (by omega) true false]; exact edge hE 6 rfl
          exact Xo.inv_step hI hsz (by omega) rfl rfl rfl (Xo.run_assign _ rfl) (Xo.Ext.refl _) hI.below (Xo.Good.of rfl rfl e34) (fun m hm e => (show m = 1 by omega) ▸ hw)
        | 32, _, ho, hL =>
          cases ho
          intro hE
          have e40 : a1.eval (.tmp 40) = _ := (hI.of hsz 17 (by omega) (edge hE 17 rfl)).1 _ rfl
          have hw : L.getD 12 true = true := by rw [getD_any L 12 (by omega) true false]; exact edge hE 12 rfl
          exact Xo.inv_step hI hsz (by omega) rfl rfl rfl (Xo.run_assign _ rfl) (Xo.Ext.refl _) hI.below (Xo.Good.of rfl rfl e40) (fun m hm e => (show m = 2 by omega) ▸ hw)
        | 33, _, ho, hL =>
          cases ho
          intro hE
          have e52 : a1.eval (.tmp 52) = _ := (hI.of hsz 29 (by omega) (edge hE 29 rfl)).1 _ rfl
          have hw : L.getD 18 true = true := by rw [getD_any L 18 (by omega) true false]; exact edge hE 18 rfl
          exact Xo.inv_step hI hsz (by omega) rfl rfl rfl (Xo.run_assign _ rfl) (Xo.Ext.refl _) hI.below (Xo.Good.of rfl rfl e52) (fun m hm e => (show m = 3 by omega) ▸ hw)
        | i + 34, h, _, _ => exact absurd h (by omega)
      · intro L a1 w1 hsz hI hall
        have hsz : L.size = 34 := hsz
        have hall : ∀ i, i < 34 → L.getD i true = true := hall
        obtain ⟨f, hf⟩ : ∃ f : Nat → Value, f = fun i => a1.tmps.getD i undef := ⟨_, rfl⟩
        have hT : a1 = ⟨#[f 0, f 1, f 2, f 3, f 4, f 5, f 6, f 7, f 8, f 9, f 10, f 11, f 12, f 13, f 14, f 15, f 16, f 17, f 18, f 19, f 20, f 21, f 22, f 23, f 24, f 25, f 26, f 27, f 28, f 29, f 30, f 31, f 32, f 33, f 34, f 35, f 36, f 37, f 38, f 39, f 40, f 41, f 42, f 43, f 44, f 45, f 46, f 47, f 48, f 49, f 50, f 51, f 52, f 53, f 54, f 55, f 56, f 57, f 58, f 59, f 60, f 61, f 62, f 63, f 64, f 65, f 66, f 67, f 68, f 69, f 70, f 71, f 72, f 73, f 74, f 75, f 76, f 77], []⟩ := by
          have h1 := Reg.arr_eta a1.tmps 78 hI.size
          have h2 : a1.defers = [] := by rw [hI.defers, ha0]
          rw [hf]
          cases a1
          simp only at h1 h2
          rw [h2]
          congr 1
        have Hb1 := Lib.hid hI.below
        have hr : ∀ t, (∀ j, j < 34 → Xo.dst j ≠ t) → f t = a0.tmps.getD t undef := fun t ht => by rw [hf]; exact hI.rest t ht
        have e3 : f 3 = .string (a ++ Xo.one x) := by rw [hf]; exact (hI.good 30 (by omega) (hall 30 (by omega))).1 _ rfl
        have e4 : f 4 = .string (b' ++ Xo.one y) := by rw [hf]; exact (hI.good 31 (by omega) (hall 31 (by omega))).1 _ rfl
        have e5 : f 5 = .string (c ++ Xo.one z) := by rw [hf]; exact (hI.good 32 (by omega) (hall 32 (by omega))).1 _ rfl
        have e6 : f 6 = .string (d ++ Xo.one (x ^^^ y ^^^ z)) := by rw [hf]; exact (hI.good 33 (by omega) (hall 33 (by omega))).1 _ rfl
        have k0 : f 0 = .slice (some ⟨b, off, none⟩) n cap := by rw [hr 0 (fun j hj => by unfold Xo.dst; split <;> omega), ha0]; rfl
        have k1 : f 1 = undef := by rw [hr 1 (fun j hj => by unfold Xo.dst; split <;> omega), ha0]; rfl
        have k2 : f 2 = .bool false := by rw [hr 2 (fun j hj => by unfold Xo.dst; split <;> omega), ha0]; rfl
        have k7 : f 7 = undef := by rw [hr 7 (fun j hj => by unfold Xo.dst; split <;> omega), ha0]; rfl
        have k8 : f 8 = .pointer (some ⟨wr.heap.size, 0, none⟩) := by rw [hr 8 (fun j hj => by unfold Xo.dst; split <;> omega), ha0]; rfl
        have k9 : f 9 = undef := by rw [hr 9 (fun j hj => by unfold Xo.dst; split <;> omega), ha0]; rfl
        have k10 : f 10 = .bool true := by rw [hr 10 (fun j hj => by unfold Xo.dst; split <;> omega), ha0]; rfl
        have k11 : f 11 = .bool false := by rw [hr 11 (fun j hj => by unfold Xo.dst; split <;> omega), ha0]; rfl
        have k12 : f 12 = .slice (some ⟨b, off, none⟩) n cap := by rw [hr 12 (fun j hj => by unfold Xo.dst; split <;> omega), ha0]; rfl
        have k13 : f 13 = .slice (some ⟨b, off, none⟩) n cap := by rw [hr 13 (fun j hj => by unfold Xo.dst; split <;> omega), ha0]; rfl
        have k14 : f 14 = .int .i64 (n : Int) := by rw [hr 14 (fun j hj => by unfold Xo.dst; split <;> omega), ha0]; rfl
        have k15 : f 15 = .int .i64 (n : Int) := by rw [hr 15 (fun j hj => by unfold Xo.dst; split <;> omega), ha0]; rfl
        have k16 : f 16 = .slice (some ⟨b, off, none⟩) n cap := by rw [hr 16 (fun j hj => by unfold Xo.dst; split <;> omega), ha0]; rfl
        have k17 : f 17 = .slice (some ⟨b, off, none⟩) n cap := by rw [hr 17 (fun j hj => by unfold Xo.dst; split <;> omega), ha0]; rfl
        have k18 : f 18 = .int .i64 (n : Int) := by rw [hr 18 (fun j hj => by unfold Xo.dst; split <;> omega), ha0]; rfl
        have k19 : f 19 = .int .i64 (k : Int) := by rw [hr 19 (fun j hj => by unfold Xo.dst; split <;> omega), ha0]; rfl
        have k54 : f 54 = undef := by rw [hr 54 (fun j hj => by unfold Xo.dst; split <;> omega), ha0]; rfl
        have k55 : f 55 = undef := by rw [hr 55 (fun j hj => by unfold Xo.dst; split <;> omega), ha0]; rfl
        have k56 : f 56 = undef := by rw [hr 56 (fun j hj => by unfold Xo.dst; split <;> omega), ha0]; rfl
        have k57 : f 57 = undef := by rw [hr 57 (fun j hj => by unfold Xo.dst; split <;> omega), ha0]; rfl
        have k58 : f 58 = undef := by rw [hr 58 (fun j hj => by unfold Xo.dst; split <;> omega), ha0]; rfl
        have k59 : f 59 = undef := by rw [hr 59 (fun j hj => by unfold Xo.dst; split <;> omega), ha0]; rfl
        have k60 : f 60 = undef := by rw [hr 60 (fun j hj => by unfold Xo.dst; split <;> omega), ha0]; rfl
        have k61 : f 61 = undef := by rw [hr 61 (fun j hj => by unfold Xo.dst; split <;> omega), ha0]; rfl
        have k62 : f 62 = undef := by rw [hr 62 (fun j hj => by unfold Xo.dst; split <;> omega), ha0]; rfl
        have k63 : f 63 = undef := by rw [hr 63 (fun j hj => by unfold Xo.dst; split <;> omega), ha0]; rfl
        have k64 : f 64 = undef := by rw [hr 64 (fun j hj => by unfold Xo.dst; split <;> omega), ha0]; rfl
        have k65 : f 65 = undef := by rw [hr 65 (fun j hj => by unfold Xo.dst; split <;> omega), ha0]; rfl
        have k66 : f 66 = undef := by rw [hr 66 (fun j hj => by unfold Xo.dst; split <;> omega), ha0]; rfl
        have k67 : f 67 = undef := by rw [hr 67 (fun j hj => by unfold Xo.dst; split <;> omega), ha0]; rfl
        have k68 : f 68 = undef := by rw [hr 68 (fun j hj => by unfold Xo.dst; split <;> omega), ha0]; rfl
        have k69 : f 69 = undef := by rw [hr 69 (fun j hj => by unfold Xo.dst; split <;> omega), ha0]; rfl
        have k70 : f 70 = undef := by rw [hr 70 (fun j hj => by unfold Xo.dst; split <;> omega), ha0]; rfl
        have k71 : f 71 = undef := by rw [hr 71 (fun j hj => by unfold Xo.dst; split <;> omega), ha0]; rfl
        have k72 : f 72 = undef := by rw [hr 72 (fun j hj => by unfold Xo.dst; split <;> omega), ha0]; rfl
        have k73 : f 73 = undef := by rw [hr 73 (fun j hj => by unfold Xo.dst; split <;> omega), ha0]; rfl
        have k74 : f 74 = undef := by rw [hr 74 (fun j hj => by unfold Xo.dst; split <;> omega), ha0]; rfl
        have k75 : f 75 = undef := by rw [hr 75 (fun j hj => by unfold Xo.dst; split <;> omega), ha0]; rfl
        have k76 : f 76 = undef := by rw [hr 76 (fun j hj => by unfold Xo.dst; split <;> omega), ha0]; rfl
        have k77 : f 77 = undef := by rw [hr 77 (fun j hj => by unfold Xo.dst; split <;> omega), ha0]; rfl
        rw [hT, e3, e4, e5, e6, k0, k1, k2, k7, k8, k9, k10, k11, k12, k13, k14, k15, k16, k17, k18, k19, k54, k55, k56, k57, k58, k59, k60, k61, k62, k63, k64, k65, k66, k67, k68, k69, k70, k71, k72, k73, k74, k75, k76, k77]
        clear k0 k1 k2 k7 k8 k9 k10 k11 k12 k13 k14 k15 k16 k17 k18 k19 k54 k55 k56 k57 k58 k59 k60 k61 k62 k63 k64 k65 k66 k67 k68 k69 k70 k71 k72 k73 k74 k75 k76 k77 hr hT e3 e4 e5 e6 hI
        have Hrel := Lib.hid (xorRel_step Ha.out Hb.out Hc.out Hd.out hxl hyl hzl Hx.out)
        clear hf hall hsz
        clear hsz h3 h4 h5 h6 h8 hs0 hna hnb hnc hnd ha0 hc0 hc1 hc2 hxl hyl hzl Ha Hb Hc Hd Hx
        generalize Xo.one (x ^^^ y ^^^ z) = o4 at *
        generalize Xo.one x = o1 at *
        generalize Xo.one y = o2 at *
        generalize Xo.one z = o3 at *
        go_wp2
        go_roundw
        case rel => exact ⟨k + 1, by omega, by go_num, Hrel.out, Hb1.out⟩
        case measure => simp [intOf]; omega
    · have hx' := hx
      have HS := Lib.hid (xors_sums ha hb hc' hx)
      have hsa : Hid (a.size ≤ maxLen) := by show _ ≤ _; rw [ha]; unfold maxLen; omega
      have hsb : Hid (b'.size ≤ maxLen) := by show _ ≤ _; rw [hb]; unfold maxLen; omega
      have hsc : Hid (c.size ≤ maxLen) := by show _ ≤ _; rw [hc']; unfold maxLen; omega
      have hsd : Hid (d.size ≤ maxLen) := by show _ ≤ _; rw [hd]; unfold maxLen; omega
      have Hb9 := Lib.hid hbel
      clear ha hb hc' hd hx hx' hbel
      have hz := (zero_of_info infoTab).1
      have HZ := Lib.hid zeros_tab
      generalize zeros256 = Z at *
      go_wp2_with fail
      refine (crc_make _).mono ?_
      rintro e w1 ⟨rfl, hb1⟩
      go_wp2_with (refine wpList_store_row rfl 42 (.tmp 9) (.tmp 54) rfl w1.heap.size tabArr rfl rfl 42 Z (heap_alloc_new w1 _) tabInfo HZ.out tabArr_one ?_)
      have hh := Has.made (Hb9.out.trans (hb1.mono Hb9.out.size)) Z 42
      rw [made_size w1 Z 42]
      generalize (w1.alloc (.cells Z 42)).setRow w1.heap.size tabArr = w2 at *
      generalize w1.heap.size = g at *
      clear hb1 hz HZ Hb9
      refine (sum1 a g w w2 _ hsa.out hh rfl).mono ?_
      clear hh
      rintro e w3 ⟨rfl, hh⟩
      have H3 := Lib.hid hh
      clear hh
      go_wp2_with fail
      refine (sum1 b' g w w3 _ hsb.out H3.out rfl).mono ?_
      clear H3
      rintro e w4 ⟨rfl, hh⟩
      have H4 := Lib.hid hh
      clear hh
      have hs1 := HS.out.1
      have hs2 := HS.out.2
      clear HS
      generalize hSA : ((sumOf a).toNat : Int) = SA at *
      have HSA := Lib.hid hSA
      clear hSA
      generalize ((sumOf b').toNat : Int) = SB at *
      generalize ((sumOf a ^^^ sumOf b').toNat : Int) = SAB at *
      generalize hSC : ((sumOf c).toNat : Int) = SC at *
      have HSC := Lib.hid hSC
      clear hSC
      generalize hSD : ((sumOf d).toNat : Int) = SD at *
      have HSD := Lib.hid hSD
      clear hSD
      go_wp2_with fail
      refine (sum1 c g w w4 _ hsc.out H4.out rfl).mono ?_
      clear H4
      rintro e w5 ⟨rfl, hh⟩
      rw [HSC.out]
      have H5 := Lib.hid hh
      clear hh
      go_wp2_with fail
      refine (sum1 d g w w5 _ hsd.out H5.out rfl).mono ?_
      clear H5
      rintro e w6 ⟨rfl, hh⟩
      rw [HSD.out]
      have H6 := Lib.hid hh
      clear hh
      go_wp2_with fail
      refine (sum1 a g w w6 _ hsa.out H6.out rfl).mono ?_
      clear H6
      rintro e w7 ⟨rfl, hh⟩
      rw [HSA.out]
      have H7 := Lib.hid hh
      clear hh
      go_wp2_with fail
      refine (refSum2 a w7 hsa.out).mono ?_
      rintro e w8 ⟨rfl, rfl⟩
      rw [HSA.out]
      go_wp2_with fail
      go_ret
      exact ⟨rfl, H7.out.below⟩

set_option maxHeartbeats 1000000 in
set_option maxRecDepth 100000 in
theorem xors_many (b off : Nat) (len cap : Nat) (w : World) (hl : len ≤ cap) (hc : cap ≤ maxLen) (hn1 : 60 ≤ len) (hn2 : (60 : Int) < (len : Int))
    (h : ∀ i, i < len → ∃ x y z : Nat, x < 256 ∧ y < 256 ∧ z < 256 ∧ w.cell? ⟨b, off + i * 3, none⟩ = some (.int .u8 (x : Int)) ∧ w.cell? ⟨b, off + i * 3 + 1, none⟩ = some (.int .u8 (y : Int)) ∧ w.cell? ⟨b, off + i * 3 + 2, none⟩ = some (.int .u8 (z : Int))) :
    Calls Try.prog 13 #[.slice (some ⟨b, off, none⟩) len cap] w fun e w' => e = .returned (.bool true) ∧ Below w.heap.size w w' := by
  unfold maxLen at hc
  have H := Lib.hid h
  clear h
  go_enter Try.func13, Try.ntmps13
  go_wp2_with fail
  refine (crc_awake _).mono ?_
  rintro e w0 ⟨rfl, hb0⟩
  go_wp2_with fail
  go_loopw [3, 4, 5, 6, 19] (fun ta tb tc td i wr => ∃ k : Nat, k ≤ 60 ∧ i = .int .i64 k ∧ XorRel k ta tb tc td ∧ Below w.heap.size w wr) (fun _ _ _ _ i _ => 60 - (intOf i).toNat)
  case atStart => exact ⟨0, by omega, rfl, xorRel_start, hb0⟩
  case round =>
    obtain ⟨k, hk, rfl, ⟨a, b', c, d, rfl, rfl, rfl, rfl, ha, hb, hc', hd, hx⟩, hbel⟩ := hrel
    by_cases hlt : k < 60
    · obtain ⟨x, y, z, hxl, hyl, hzl, h0', h1', h2'⟩ := H.out k (by omega)
      have hc0 : wr.cell? ⟨b, off + k * 3, none⟩ = some (.int .u8 (x : Int)) := by rw [hbel.cell (block_lt_of_cell h0')]; exact h0'
      have hc1 : wr.cell? ⟨b, off + k * 3 + 1, none⟩ = some (.int .u8 (y : Int)) := by rw [hbel.cell (block_lt_of_cell h1')]; exact h1'
      have hc2 : wr.cell? ⟨b, off + k * 3 + 2, none⟩ = some (.int .u8 (z : Int)) := by rw [hbel.cell (block_lt_of_cell h2')]; exact h2'
      clear h0' h1' h2'
      have Hx := Lib.hid hx
      have Hbel := Lib.hid hbel
      have Ha := Lib.hid ha
      have Hb := Lib.hid hb
      have Hc := Lib.hid hc'
      have Hd := Lib.hid hd
      clear hx hbel ha hb hc' hd
      go_wp2_with fail
      refine Reg.wp_region_named (fun a0 ha0 => ?_)
      have h3 : a0.tmps.getD 3 undef = .string a := by rw [ha0]; rfl
      have h4 : a0.tmps.getD 4 undef = .string b' := by rw [ha0]; rfl
      have h5 : a0.tmps.getD 5 undef = .string c := by rw [ha0]; rfl
      have h6 : a0.tmps.getD 6 undef = .string d := by rw [ha0]; rfl
      have h8 : a0.tmps.getD 8 undef = .pointer (some ⟨wr.heap.size, 0, none⟩) := by rw [ha0]; rfl
      have hs0 : a0.tmps.size = 78 := by rw [ha0]; rfl
      have hna : ¬ 9223372036854775807 < a.size + (Xo.one x).size := by rw [Ha.out]; unfold Xo.one; rw [strOfNums_size]; simp; omega
      have hnb : ¬ 9223372036854775807 < b'.size + (Xo.one y).size := by rw [Hb.out]; unfold Xo.one; rw [strOfNums_size]; simp; omega
      have hnc : ¬ 9223372036854775807 < c.size + (Xo.one z).size := by rw [Hc.out]; unfold Xo.one; rw [strOfNums_size]; simp; omega
      have hnd : ¬ 9223372036854775807 < d.size + (Xo.one (x ^^^ y ^^^ z)).size := by rw [Hd.out]; unfold Xo.one; rw [strOfNums_size]; simp; omega
      refine Reg.wp_region_inv (Xo.Inv ⟨a, b', c, d, x, y, z, wr.heap.size⟩ w a0) (by kernel_rfl) (Reg.hac_of (by kernel_rfl)) ?_ ?_ ?_
      · have hrep : ∀ j, j < 34 → (Array.replicate 34 false).getD j true = false := fun j hj => by simp [hj]
        refine ⟨rfl, hs0, fun _ _ => rfl, fun j hj hL => ?_, fun _ _ _ => rfl, fun m hm hL => ?_, ⟨?_, ?_, ?_⟩, below_drewN (n := 1) (Hbel.out.alloc Hbel.out.size _)⟩
        · have hL2 : (Array.replicate 34 false).getD j true = true := hL
          rw [hrep j hj] at hL2; cases hL2
        · have hL2 : (Array.replicate 34 false).getD (30 + m) true = true := hL
          rw [hrep (30 + m) (by omega)] at hL2; cases hL2
        · exact cell_of_row _ _ 0 _ _ (0, 0) (heap_alloc_new wr _)
        · exact cell_of_row _ _ 1 _ _ (0, 0) (heap_alloc_new wr _)
        · exact cell_of_row _ _ 2 _ _ (0, 0) (heap_alloc_new wr _)
      · intro i o ho L a1 w1 hsz hI hL hE
        have hi : i < 34 := (Array.getElem?_eq_some_iff.1 ho).1
        have hsz : L.size = 34 := hsz
        revert hE
        match i, hi, ho, hL with
        | 0, _, ho, hL =>
          cases ho
          intro hE
          have hno : L.getD 30 true = false := by
            cases h : L.getD 30 true with
            | false => rfl
            | true => exact absurd (hI.wait 0 (by omega) h) (by rw [hL]; decide)
          exact Xo.inv_step hI hsz (by omega) rfl rfl rfl (Xo.run_move _ rfl) (Xo.Ext.refl _) hI.below (Xo.Good.of rfl rfl ((hI.inp 0 (by omega) hno).trans h3)) (fun m hm e => by omega)
        | 1, _, ho, hL =>
          cases ho
          intro hE
          have e8 : a1.eval (.tmp 8) = _ := (hI.rest 8 (fun j hj => by unfold Xo.dst; split <;> omega)).trans h8
          exact Xo.inv_step hI hsz (by omega) rfl rfl rfl (Xo.run_addr _ _ rfl _ 0 (by omega) e8 rfl) (Xo.Ext.refl _) hI.below (Xo.Good.of rfl rfl rfl) (fun m hm e => by omega)
        | 2, _, ho, hL =>
          cases ho
          intro hE
          have e24 : a1.eval (.tmp 24) = _ := (hI.of hsz 1 (by omega) (edge hE 1 rfl)).1 _ rfl
          exact Xo.inv_step hI hsz (by omega) rfl rfl rfl (Xo.run_load _ rfl _ _ e24 hI.cells.1) (Xo.Ext.refl _) hI.below (Xo.Good.of rfl rfl rfl) (fun m hm e => by omega)
        | 3, _, ho, hL =>
          cases ho
          intro hE
          have e25 : a1.eval (.tmp 25) = _ := (hI.of hsz 2 (by omega) (edge hE 2 rfl)).1 _ rfl
          exact Xo.inv_step hI hsz (by omega) rfl rfl rfl (Xo.run_build _ rfl _ e25) (Xo.Ext.alloc _ _) (hI.below.alloc hI.below.size _) (Xo.Good.ofSlice rfl rfl rfl (Xo.newCell _ _ _)) (fun m hm e => by omega)
        | 4, _, ho, hL =>
          cases ho
          intro hE
          obtain ⟨g, eg, cg⟩ := (hI.of hsz 3 (by omega) (edge hE 3 rfl)).2 _ rfl
          have eg' : a1.eval (.tmp 26) = _ := eg
          exact Xo.inv_step hI hsz (by omega) rfl rfl rfl (Xo.run_conv _ rfl g _ eg' cg) (Xo.Ext.refl _) hI.below (Xo.Good.of rfl rfl rfl) (fun m hm e => by omega)
        | 5, _, ho, hL =>
          cases ho
          intro hE
          have e23 : a1.eval (.tmp 23) = _ := (hI.of hsz 0 (by omega) (edge hE 0 rfl)).1 _ rfl
          have e27 : a1.eval (.tmp 27) = _ := (hI.of hsz 4 (by omega) (edge hE 4 rfl)).1 _ rfl
          exact Xo.inv_step hI hsz (by omega) rfl rfl rfl (Xo.run_add _ _ _ rfl _ _ hna e23 e27) (Xo.Ext.refl _) hI.below (Xo.Good.of rfl rfl rfl) (fun m hm e => by omega)
        | 6, _, ho, hL =>
          cases ho
          intro hE
          have hno : L.getD 31 true = false := by
            cases h : L.getD 31 true with
            | false => rfl
            | true => exact absurd (hI.wait 1 (by omega) h) (by rw [hL]; decide)
          exact Xo.inv_step hI hsz (by omega) rfl rfl rfl (Xo.run_move _ rfl) (Xo.Ext.refl _) hI.below (Xo.Good.of rfl rfl ((hI.inp 1 (by omega) hno).trans h4)) (fun m hm e => by omega)
        | 7, _, ho, hL =>
          cases ho
          intro hE
          have e8 : a1.eval (.tmp 8) = _ := (hI.rest 8 (fun j hj => by unfold Xo.dst; split <;> omega)).trans h8
          exact Xo.inv_step hI hsz (by omega) rfl rfl rfl (Xo.run_addr _ _ rfl _ 1 (by omega) e8 rfl) (Xo.Ext.refl _) hI.below (Xo.Good.of rfl rfl rfl) (fun m hm e => by omega)
        | 8, _, ho, hL =>
          cases ho
          intro hE
          have e30 : a1.eval (.tmp 30) = _ := (hI.of hsz 7 (by omega) (edge hE 7 rfl)).1 _ rfl
          exact Xo.inv_step hI hsz (by omega) rfl rfl rfl (Xo.run_load _ rfl _ _ e30 hI.cells.2.1) (Xo.Ext.refl _) hI.below (Xo.Good.of rfl rfl rfl) (fun m hm e => by omega)
        | 9, _, ho, hL =>
          cases ho
          intro hE
          have e31 : a1.eval (.tmp 31) = _ := (hI.of hsz 8 (by omega) (edge hE 8 rfl)).1 _ rfl
          exact Xo.inv_step hI hsz (by omega) rfl rfl rfl (Xo.run_build _ rfl _ e31) (Xo.Ext.alloc _ _) (hI.below.alloc hI.below.size _) (Xo.Good.ofSlice rfl rfl rfl (Xo.newCell _ _ _)) (fun m hm e => by omega)
        | 10, _, ho, hL =>
          cases ho
          intro hE
          obtain ⟨g, eg, cg⟩ := (hI.of hsz 9 (by omega) (edge hE 9 rfl)).2 _ rfl
          have eg' : a1.eval (.tmp 32) = _ := eg
          exact Xo.inv_step hI hsz (by omega) rfl rfl rfl (Xo.run_conv _ rfl g _ eg' cg) (Xo.Ext.refl _) hI.below (Xo.Good.of rfl rfl rfl) (fun m hm e => by omega)
        | 11, _, ho, hL =>
          cases ho
          intro hE
          have e29 : a1.eval (.tmp 29) = _ := (hI.of hsz 6 (by omega) (edge hE 6 rfl)).1 _ rfl
          have e33 : a1.eval (.tmp 33) = _ := (hI.of hsz 10 (by omega) (edge hE 10 rfl)).1 _ rfl
          exact Xo.inv_step hI hsz (by omega) rfl rfl rfl (Xo.run_add _ _ _ rfl _ _ hnb e29 e33) (Xo.Ext.refl _) hI.below (Xo.Good.of rfl rfl rfl) (fun m hm e => by omega)
        | 12, _, ho, hL =>
          cases ho
          intro hE
          have hno : L.getD 32 true = false := by
            cases h : L.getD 32 true with
            | false => rfl
            | true => exact absurd (hI.wait 2 (by omega) h) (by rw [hL]; decide)
          exact Xo.inv_step hI hsz (by omega) rfl rfl rfl (Xo.run_move _ rfl) (Xo.Ext.refl _) hI.below (Xo.Good.of rfl rfl ((hI.inp 2 (by omega) hno).trans h5)) (fun m hm e => by omega)
        | 13, _, ho, hL =>
          cases ho
          intro hE
          have e8 : a1.eval (.tmp 8) = _ := (hI.rest 8 (fun j hj => by unfold Xo.dst; split <;> omega)).trans h8
          exact Xo.inv_step hI hsz (by omega) rfl rfl rfl (Xo.run_addr _ _ rfl _ 2 (by omega) e8 rfl) (Xo.Ext.refl _) hI.below (Xo.Good.of rfl rfl rfl) (fun m hm e => by omega)
        | 14, _, ho, hL =>
          cases ho
          intro hE
          have e36 : a1.eval (.tmp 36) = _ := (hI.of hsz 13 (by omega) (edge hE 13 rfl)).1 _ rfl
          exact Xo.inv_step hI hsz (by omega) rfl rfl rfl (Xo.run_load _ rfl _ _ e36 hI.cells.2.2) (Xo.Ext.refl _) hI.below (Xo.Good.of rfl rfl rfl) (fun m hm e => by omega)
        | 15, _, ho, hL =>
          cases ho
          intro hE
          have e37 : a1.eval (.tmp 37) = _ := (hI.of hsz 14 (by omega) (edge hE 14 rfl)).1 _ rfl
          exact Xo.inv_step hI hsz (by omega) rfl rfl rfl (Xo.run_build _ rfl _ e37) (Xo.Ext.alloc _ _) (hI.below.alloc hI.below.size _) (Xo.Good.ofSlice rfl rfl rfl (Xo.newCell _ _ _)) (fun m hm e => by omega)
        | 16, _, ho, hL =>
          cases ho
          intro hE
          obtain ⟨g, eg, cg⟩ := (hI.of hsz 15 (by omega) (edge hE 15 rfl)).2 _ rfl
          have eg' : a1.eval (.tmp 38) = _ := eg
          exact Xo.inv_step hI hsz (by omega) rfl rfl rfl (Xo.run_conv _ rfl g _ eg' cg) (Xo.Ext.refl _) hI.below (Xo.Good.of rfl rfl rfl) (fun m hm e => by omega)
        | 17, _, ho, hL =>
          cases ho
          intro hE
          have e35 : a1.eval (.tmp 35) = _ := (hI.of hsz 12 (by omega) (edge hE 12 rfl)).1 _ rfl
          have e39 : a1.eval (.tmp 39) = _ := (hI.of hsz 16 (by omega) (edge hE 16 rfl)).1 _ rfl
          exact Xo.inv_step hI hsz (by omega) rfl rfl rfl (Xo.run_add _ _ _ rfl _ _ hnc e35 e39) (Xo.Ext.refl _) hI.below (Xo.Good.of rfl rfl rfl) (fun m hm e => by omega)
        | 18, _, ho, hL =>
          cases ho
          intro hE
          have hno : L.getD 33 true = false := by
            cases h : L.getD 33 true with
            | false => rfl
            | true => exact absurd (hI.wait 3 (by omega) h) (by rw [hL]; decide)
          exact Xo.inv_step hI hsz (by omega) rfl rfl rfl (Xo.run_move _ rfl) (Xo.Ext.refl _) hI.below (Xo.Good.of rfl rfl ((hI.inp 3 (by omega) hno).trans h6)) (fun m hm e => by omega)
        | 19, _, ho, hL =>
          cases ho
          intro hE
          have e8 : a1.eval (.tmp 8) = _ := (hI.rest 8 (fun j hj => by unfold Xo.dst; split <;> omega)).trans h8
          exact Xo.inv_step hI hsz (by omega) rfl rfl rfl (Xo.run_addr _ _ rfl _ 0 (by omega) e8 rfl) (Xo.Ext.refl _) hI.below (Xo.Good.of rfl rfl rfl) (fun m hm e => by omega)
        | 20, _, ho, hL =>
          cases ho
          intro hE
          have e42 : a1.eval (.tmp 42) = _ := (hI.of hsz 19 (by omega) (edge hE 19 rfl)).1 _ rfl
          exact Xo.inv_step hI hsz (by omega) rfl rfl rfl (Xo.run_load _ rfl _ _ e42 hI.cells.1) (Xo.Ext.refl _) hI.below (Xo.Good.of rfl rfl rfl) (fun m hm e => by omega)
        | 21, _, ho, hL =>
          cases ho
          intro hE
          have e8 : a1.eval (.tmp 8) = _ := (hI.rest 8 (fun j hj => by unfold Xo.dst; split <;> omega)).trans h8
          exact Xo.inv_step hI hsz (by omega) rfl rfl rfl (Xo.run_addr _ _ rfl _ 1 (by omega) e8 rfl) (Xo.Ext.refl _) hI.below (Xo.Good.of rfl rfl rfl) (fun m hm e => by omega)
        | 22, _, ho, hL =>
          cases ho
          intro hE
          have e44 : a1.eval (.tmp 44) = _ := (hI.of hsz 21 (by omega) (edge hE 21 rfl)).1 _ rfl
          exact Xo.inv_step hI hsz (by omega) rfl rfl rfl (Xo.run_load _ rfl _ _ e44 hI.cells.2.1) (Xo.Ext.refl _) hI.below (Xo.Good.of rfl rfl rfl) (fun m hm e => by omega)
        | 23, _, ho, hL =>
          cases ho
          intro hE
          have e43 : a1.eval (.tmp 43) = _ := (hI.of hsz 20 (by omega) (edge hE 20 rfl)).1 _ rfl
          have e45 : a1.eval (.tmp 45) = _ := (hI.of hsz 22 (by omega) (edge hE 22 rfl)).1 _ rfl
          exact Xo.inv_step hI hsz (by omega) rfl rfl rfl (Xo.run_xor _ _ _ rfl x y hxl hyl e43 e45) (Xo.Ext.refl _) hI.below (Xo.Good.of rfl rfl rfl) (fun m hm e => by omega)
        | 24, _, ho, hL =>
          cases ho
          intro hE
          have e8 : a1.eval (.tmp 8) = _ := (hI.rest 8 (fun j hj => by unfold Xo.dst; split <;> omega)).trans h8
          exact Xo.inv_step hI hsz (by omega) rfl rfl rfl (Xo.run_addr _ _ rfl _ 2 (by omega) e8 rfl) (Xo.Ext.refl _) hI.below (Xo.Good.of rfl rfl rfl) (fun m hm e => by omega)
        | 25, _, ho, hL =>
          cases ho
          intro hE
          have e47 : a1.eval (.tmp 47) = _ := (hI.of hsz 24 (by omega) (edge hE 24 rfl)).1 _ rfl
          exact Xo.inv_step hI hsz (by omega) rfl rfl rfl (Xo.run_load _ rfl _ _ e47 hI.cells.2.2) (Xo.Ext.refl _) hI.below (Xo.Good.of rfl rfl rfl) (fun m hm e => by omega)
        | 26, _, ho, hL =>
          cases ho
          intro hE
          have e46 : a1.eval (.tmp 46) = _ := (hI.of hsz 23 (by omega) (edge hE 23 rfl)).1 _ rfl
          have e48 : a1.eval (.tmp 48) = _ := (hI.of hsz 25 (by omega) (edge hE 25 rfl)).1 _ rfl
          exact Xo.inv_step hI hsz (by omega) rfl rfl rfl (Xo.run_xor _ _ _ rfl (x ^^^ y) z (Nat.xor_lt_two_pow (n := 8) hxl hyl) hzl e46 e48) (Xo.Ext.refl _) hI.below (Xo.Good.of rfl rfl rfl) (fun m hm e => by omega)
        | 27, _, ho, hL =>
          cases ho
          intro hE
          have e49 : a1.eval (.tmp 49) = _ := (hI.of hsz 26 (by omega) (edge hE 26 rfl)).1 _ rfl
          exact Xo.inv_step hI hsz (by omega) rfl rfl rfl (Xo.run_build _ rfl _ e49) (Xo.Ext.alloc _ _) (hI.below.alloc hI.below.size _) (Xo.Good.ofSlice rfl rfl rfl (Xo.newCell _ _ _)) (fun m hm e => by omega)
        | 28, _, ho, hL =>
          cases ho
          intro hE
          obtain ⟨g, eg, cg⟩ := (hI.of hsz 27 (by omega) (edge hE 27 rfl)).2 _ rfl
          have eg' : a1.eval (.tmp 50) = _ := eg
          exact Xo.inv_step hI hsz (by omega) rfl rfl rfl (Xo.run_conv _ rfl g _ eg' cg) (Xo.Ext.refl _) hI.below (Xo.Good.of rfl rfl rfl) (fun m hm e => by omega)
        | 29, _, ho, hL =>
          cases ho
          intro hE
          have e41 : a1.eval (.tmp 41) = _ := (hI.of hsz 18 (by omega) (edge hE 18 rfl)).1 _ rfl
          have e51 : a1.eval (.tmp 51) = _ := (hI.of hsz 28 (by omega) (edge hE 28 rfl)).1 _ rfl
          exact Xo.inv_step hI hsz (by omega) rfl rfl rfl (Xo.run_add _ _ _ rfl _ _ hnd e41 e51) (Xo.Ext.refl _) hI.below (Xo.Good.of rfl rfl rfl) (fun m hm e => by omega)
        | 30, _, ho, hL =>
          cases ho
          intro hE
          have e28 : a1.eval (.tmp 28) = _ := (hI.of hsz 5 (by omega) (edge hE 5 rfl)).1 _ rfl
          have hw : L.getD 0 true = true := by rw [getD_any L 0 (by omega) true false]; exact edge hE 0 rfl
          exact Xo.inv_step hI hsz (by omega) rfl rfl rfl (Xo.run_assign _ rfl) (Xo.Ext.refl _) hI.below (Xo.Good.of rfl rfl e28) (fun m hm e => (show m = 0 by omega) ▸ hw)
        | 31, _, ho, hL =>
          cases ho
          intro hE
          have e34 : a1.eval (.tmp 34) = _ := (hI.of hsz 11 (by omega) (edge hE 11 rfl)).1 _ rfl
          have hw : L.getD 6 true = true := by rw [getD_any L 6 (by omega) true false]; exact edge hE 6 rfl
          exact Xo.inv_step hI hsz (by omega) rfl rfl rfl (Xo.run_assign _ rfl) (Xo.Ext.refl _) hI.below (Xo.Good.of rfl rfl e34) (fun m hm e => (show m = 1 by omega) ▸ hw)
        | 32, _, ho, hL =>
          cases ho
          intro hE
          have e40 : a1.eval (.tmp 40) = _ := (hI.of hsz 17 (by omega) (edge hE 17 rfl)).1 _ rfl
          have hw : L.getD 12 true = true := by rw [getD_any L 12 (by omega) true false]; exact edge hE 12 rfl
          exact Xo.inv_step hI hsz (by omega) rfl rfl rfl (Xo.run_assign _ rfl) (Xo.Ext.refl _) hI.below (Xo.Good.of rfl rfl e40) (fun m hm e => (show m = 2 by omega) ▸ hw)
        | 33, _, ho, hL =>
          cases ho
          intro hE
          have e52 : a1.eval (.tmp 52) = _ := (hI.of hsz 29 (by omega) (edge hE 29 rfl)).1 _ rfl
          have hw : L.getD 18 true = true := by rw [getD_any L 18 (by omega) true false]; exact edge hE 18 rfl
          exact Xo.inv_step hI hsz (by omega) rfl rfl rfl (Xo.run_assign _ rfl) (Xo.Ext.refl _) hI.below (Xo.Good.of rfl rfl e52) (fun m hm e => (show m = 3 by omega) ▸ hw)
        | i + 34, h, _, _ => exact absurd h (by omega)
      · intro L a1 w1 hsz hI hall
        have hsz : L.size = 34 := hsz
        have hall : ∀ i, i < 34 → L.getD i true = true := hall
        obtain ⟨f, hf⟩ : ∃ f : Nat → Value, f = fun i => a1.tmps.getD i undef := ⟨_, rfl⟩
        have hT : a1 = ⟨#[f 0, f 1, f 2, f 3, f 4, f 5, f 6, f 7, f 8, f 9, f 10, f 11, f 12, f 13, f 14, f 15, f 16, f 17, f 18, f 19, f 20, f 21, f 22, f 23, f 24, f 25, f 26, f 27, f 28, f 29, f 30, f 31, f 32, f 33, f 34, f 35, f 36, f 37, f 38, f 39, f 40, f 41, f 42, f 43, f 44, f 45, f 46, f 47, f 48, f 49, f 50, f 51, f 52, f 53, f 54, f 55, f 56, f 57, f 58, f 59, f 60, f 61, f 62, f 63, f 64, f 65, f 66, f 67, f 68, f 69, f 70, f 71, f 72, f 73, f 74, f 75, f 76, f 77], []⟩ := by
          have h1 := Reg.arr_eta a1.tmps 78 hI.size
          have h2 : a1.defers = [] := by rw [hI.defers, ha0]
          rw [hf]
          cases a1
          simp only at h1 h2
          rw [h2]
          congr 1
        have Hb1 := Lib.hid hI.below
        have hr : ∀ t, (∀ j, j < 34 → Xo.dst j ≠ t) → f t = a0.tmps.getD t undef := fun t ht => by rw [hf]; exact hI.rest t ht
        have e3 : f 3 = .string (a ++ Xo.one x) := by rw [hf]; exact (hI.good 30 (by omega) (hall 30 (by omega))).1 _ rfl
        have e4 : f 4 = .string (b' ++ Xo.one y) := by rw [hf]; exact (hI.good 31 (by omega) (hall 31 (by omega))).1 _ rfl
        have e5 : f 5 = .string (c ++ Xo.one z) := by rw [hf]; exact (hI.good 32 (by omega) (hall 32 (by omega))).1 _ rfl
        have e6 : f 6 = .string (d ++ Xo.one (x ^^^ y ^^^ z)) := by rw [hf]; exact (hI.good 33 (by omega) (hall 33 (by omega))).1 _ rfl
        have k0 : f 0 = .slice (some ⟨b, off, none⟩) 60 cap := by rw [hr 0 (fun j hj => by unfold Xo.dst; split <;> omega), ha0]; rfl
        have k1 : f 1 = undef := by rw [hr 1 (fun j hj => by unfold Xo.dst; split <;> omega), ha0]; rfl
        have k2 : f 2 = .bool false := by rw [hr 2 (fun j hj => by unfold Xo.dst; split <;> omega), ha0]; rfl
        have k7 : f 7 = undef := by rw [hr 7 (fun j hj => by unfold Xo.dst; split <;> omega), ha0]; rfl
        have k8 : f 8 = .pointer (some ⟨wr.heap.size, 0, none⟩) := by rw [hr 8 (fun j hj => by unfold Xo.dst; split <;> omega), ha0]; rfl
        have k9 : f 9 = undef := by rw [hr 9 (fun j hj => by unfold Xo.dst; split <;> omega), ha0]; rfl
        have k10 : f 10 = .bool true := by rw [hr 10 (fun j hj => by unfold Xo.dst; split <;> omega), ha0]; rfl
        have k11 : f 11 = .bool false := by rw [hr 11 (fun j hj => by unfold Xo.dst; split <;> omega), ha0]; rfl
        have k12 : f 12 = .slice (some ⟨b, off, none⟩) len cap := by rw [hr 12 (fun j hj => by unfold Xo.dst; split <;> omega), ha0]; rfl
        have k13 : f 13 = .slice (some ⟨b, off, none⟩) len cap := by rw [hr 13 (fun j hj => by unfold Xo.dst; split <;> omega), ha0]; rfl
        have k14 : f 14 = .int .i64 (len : Int) := by rw [hr 14 (fun j hj => by unfold Xo.dst; split <;> omega), ha0]; rfl
        have k15 : f 15 = .int .i64 60 := by rw [hr 15 (fun j hj => by unfold Xo.dst; split <;> omega), ha0]; rfl
        have k16 : f 16 = .slice (some ⟨b, off, none⟩) 60 cap := by rw [hr 16 (fun j hj => by unfold Xo.dst; split <;> omega), ha0]; rfl
        have k17 : f 17 = .slice (some ⟨b, off, none⟩) 60 cap := by rw [hr 17 (fun j hj => by unfold Xo.dst; split <;> omega), ha0]; rfl
        have k18 : f 18 = .int .i64 60 := by rw [hr 18 (fun j hj => by unfold Xo.dst; split <;> omega), ha0]; rfl
        have k19 : f 19 = .int .i64 (k : Int) := by rw [hr 19 (fun j hj => by unfold Xo.dst; split <;> omega), ha0]; rfl
        have k54 : f 54 = undef := by rw [hr 54 (fun j hj => by unfold Xo.dst; split <;> omega), ha0]; rfl
        have k55 : f 55 = undef := by rw [hr 55 (fun j hj => by unfold Xo.dst; split <;> omega), ha0]; rfl
        have k56 : f 56 = undef := by rw [hr 56 (fun j hj => by unfold Xo.dst; split <;> omega), ha0]; rfl
        have k57 : f 57 = undef := by rw [hr 57 (fun j hj => by unfold Xo.dst; split <;> omega), ha0]; rfl
        have k58 : f 58 = undef := by rw [hr 58 (fun j hj => by unfold Xo.dst; split <;> omega), ha0]; rfl
        have k59 : f 59 = undef := by rw [hr 59 (fun j hj => by unfold Xo.dst; split <;> omega), ha0]; rfl
        have k60 : f 60 = undef := by rw [hr 60 (fun j hj => by unfold Xo.dst; split <;> omega), ha0]; rfl
        have k61 : f 61 = undef := by rw [hr 61 (fun j hj => by unfold Xo.dst; split <;> omega), ha0]; rfl
        have k62 : f 62 = undef := by rw [hr 62 (fun j hj => by unfold Xo.dst; split <;> omega), ha0]; rfl
        have k63 : f 63 = undef := by rw [hr 63 (fun j hj => by unfold Xo.dst; split <;> omega), ha0]; rfl
        have k64 : f 64 = undef := by rw [hr 64 (fun j hj => by unfold Xo.dst; split <;> omega), ha0]; rfl
        have k65 : f 65 = undef := by rw [hr 65 (fun j hj => by unfold Xo.dst; split <;> omega), ha0]; rfl
        have k66 : f 66 = undef := by rw [hr 66 (fun j hj => by unfold Xo.dst; split <;> omega), ha0]; rfl
        have k67 : f 67 = undef := by rw [hr 67 (fun j hj => by unfold Xo.dst; split <;> omega), ha0]; rfl
        have k68 : f 68 = undef := by rw [hr 68 (fun j hj => by unfold Xo.dst; split <;> omega), ha0]; rfl
        have k69 : f 69 = undef := by rw [hr 69 (fun j hj => by unfold Xo.dst; split <;> omega), ha0]; rfl
        have k70 : f 70 = undef := by rw [hr 70 (fun j hj => by unfold Xo.dst; split <;> omega), ha0]; rfl
        have k71 : f 71 = undef := by rw [hr 71 (fun j hj => by unfold Xo.dst; split <;> omega), ha0]; rfl
        have k72 : f 72 = undef := by rw [hr 72 (fun j hj => by unfold Xo.dst; split <;> omega), ha0]; rfl
        have k73 : f 73 = undef := by rw [hr 73 (fun j hj => by unfold Xo.dst; split <;> omega), ha0]; rfl
        have k74 : f 74 = undef := by rw [hr 74 (fun j hj => by unfold Xo.dst; split <;> omega), ha0]; rfl
        have k75 : f 75 = undef := by rw [hr 75 (fun j hj => by unfold Xo.dst; split <;> omega), ha0]; rfl
        have k76 : f 76 = undef := by rw [hr 76 (fun j hj => by unfold Xo.dst; split <;> omega), ha0]; rfl
        have k77 : f 77 = undef := by rw [hr 77 (fun j hj => by unfold Xo.dst; split <;> omega), ha0]; rfl
        rw [hT, e3, e4, e5, e6, k0, k1, k2, k7, k8, k9, k10, k11, k12, k13, k14, k15, k16, k17, k18, k19, k54, k55, k56, k57, k58, k59, k60, k61, k62, k63, k64, k65, k66, k67, k68, k69, k70, k71, k72, k73, k74, k75, k76, k77]
        clear k0 k1 k2 k7 k8 k9 k10 k11 k12 k13 k14 k15 k16 k17 k18 k19 k54 k55 k56 k57 k58 k59 k60 k61 k62 k63 k64 k65 k66 k67 k68 k69 k70 k71 k72 k73 k74 k75 k76 k77 hr hT e3 e4 e5 e6 hI
        have Hrel := Lib.hid (xorRel_step Ha.out Hb.out Hc.out Hd.out hxl hyl hzl Hx.out)
        clear hf hall hsz
        clear hsz h3 h4 h5 h6 h8 hs0 hna hnb hnc hnd ha0 hc0 hc1 hc2 hxl hyl hzl Ha Hb Hc Hd Hx
        generalize Xo.one (x ^^^ y ^^^ z) = o4 at *
        generalize Xo.one x = o1 at *
        generalize Xo.one y = o2 at *
        generalize Xo.one z = o3 at *
        go_wp2
        go_roundw
        case rel => exact ⟨k + 1, by omega, by go_num, Hrel.out, Hb1.out⟩
        case measure => simp [intOf]; omega
    · have hx' := hx
      have HS := Lib.hid (xors_sums ha hb hc' hx)
      have hsa : Hid (a.size ≤ maxLen) := by show _ ≤ _; rw [ha]; unfold maxLen; omega
      have hsb : Hid (b'.size ≤ maxLen) := by show _ ≤ _; rw [hb]; unfold maxLen; omega
      have hsc : Hid (c.size ≤ maxLen) := by show _ ≤ _; rw [hc']; unfold maxLen; omega
      have hsd : Hid (d.size ≤ maxLen) := by show _ ≤ _; rw [hd]; unfold maxLen; omega
      have Hb9 := Lib.hid hbel
      clear ha hb hc' hd hx hx' hbel
      have hz := (zero_of_info infoTab).1
      have HZ := Lib.hid zeros_tab
      generalize zeros256 = Z at *
      go_wp2_with fail
      refine (crc_make _).mono ?_
      rintro e w1 ⟨rfl, hb1⟩
      go_wp2_with (refine wpList_store_row rfl 42 (.tmp 9) (.tmp 54) rfl w1.heap.size tabArr rfl rfl 42 Z (heap_alloc_new w1 _) tabInfo HZ.out tabArr_one ?_)
      have hh := Has.made (Hb9.out.trans (hb1.mono Hb9.out.size)) Z 42
      rw [made_size w1 Z 42]
      generalize (w1.alloc (.cells Z 42)).setRow w1.heap.size tabArr = w2 at *
      generalize w1.heap.size = g at *
      clear hb1 hz HZ Hb9
      refine (sum1 a g w w2 _ hsa.out hh rfl).mono ?_
      clear hh
      rintro e w3 ⟨rfl, hh⟩
      have H3 := Lib.hid hh
      clear hh
      go_wp2_with fail
      refine (sum1 b' g w w3 _ hsb.out H3.out rfl).mono ?_
      clear H3
      rintro e w4 ⟨rfl, hh⟩
      have H4 := Lib.hid hh
      clear hh
      have hs1 := HS.out.1
      have hs2 := HS.out.2
      clear HS
      generalize hSA : ((sumOf a).toNat : Int) = SA at *
      have HSA := Lib.hid hSA
      clear hSA
      generalize ((sumOf b').toNat : Int) = SB at *
      generalize ((sumOf a ^^^ sumOf b').toNat : Int) = SAB at *
      generalize hSC : ((sumOf c).toNat : Int) = SC at *
      have HSC := Lib.hid hSC
      clear hSC
      generalize hSD : ((sumOf d).toNat : Int) = SD at *
      have HSD := Lib.hid hSD
      clear hSD
      go_wp2_with fail
      refine (sum1 c g w w4 _ hsc.out H4.out rfl).mono ?_
      clear H4
      rintro e w5 ⟨rfl, hh⟩
      rw [HSC.out]
      have H5 := Lib.hid hh
      clear hh
      go_wp2_with fail
      refine (sum1 d g w w5 _ hsd.out H5.out rfl).mono ?_
      clear H5
      rintro e w6 ⟨rfl, hh⟩
      rw [HSD.out]
      have H6 := Lib.hid hh
      clear hh
      go_wp2_with fail
      refine (sum1 a g w w6 _ hsa.out H6.out rfl).mono ?_
      clear H6
      rintro e w7 ⟨rfl, hh⟩
      rw [HSA.out]
      have H7 := Lib.hid hh
      clear hh
      go_wp2_with fail
      refine (refSum2 a w7 hsa.out).mono ?_
      rintro e w8 ⟨rfl, rfl⟩
      rw [HSA.out]
      go_wp2_with fail
      go_ret
      exact ⟨rfl, H7.out.below⟩

set_option maxHeartbeats 1000000 in
set_option maxRecDepth 100000 in
theorem xors_none (A : Option Addr) (n cap : Nat) (w : World) (hl : n ≤ cap) (hc : cap ≤ maxLen) (hn : n = 0) (hn1 : n ≤ 60) (hn2 : (n : Int) ≤ 60) :
    Calls Try.prog 13 #[.slice A n cap] w fun e w' => e = .returned (.bool true) ∧ Below w.heap.size w w' := by
  unfold maxLen at hc
  go_enter Try.func13, Try.ntmps13
  go_wp2_with fail
  refine (crc_awake _).mono ?_
  rintro e w0 ⟨rfl, hb0⟩
  go_wp2_with fail
  go_loopw [3, 4, 5, 6, 19] (fun ta tb tc td i wr => ∃ k : Nat, k ≤ n ∧ i = .int .i64 k ∧ XorRel k ta tb tc td ∧ Below w.heap.size w wr) (fun _ _ _ _ i _ => n - (intOf i).toNat)
  case atStart => exact ⟨0, by omega, rfl, xorRel_start, hb0⟩
  case round =>
    obtain ⟨k, hk, rfl, ⟨a, b', c, d, rfl, rfl, rfl, rfl, ha, hb, hc', hd, hx⟩, hbel⟩ := hrel
    have hlt : ¬ k < n := by omega
    have hx' := hx
    have HS := Lib.hid (xors_sums ha hb hc' hx)
    have hsa : Hid (a.size ≤ maxLen) := by show _ ≤ _; rw [ha]; unfold maxLen; omega
    have hsb : Hid (b'.size ≤ maxLen) := by show _ ≤ _; rw [hb]; unfold maxLen; omega
    have hsc : Hid (c.size ≤ maxLen) := by show _ ≤ _; rw [hc']; unfold maxLen; omega
    have hsd : Hid (d.size ≤ maxLen) := by show _ ≤ _; rw [hd]; unfold maxLen; omega
    have Hb9 := Lib.hid hbel
    clear ha hb hc' hd hx hx' hbel
    have hz := (zero_of_info infoTab).1
    have HZ := Lib.hid zeros_tab
    generalize zeros256 = Z at *
    go_wp2_with fail
    refine (crc_make _).mono ?_
    rintro e w1 ⟨rfl, hb1⟩
    go_wp2_with (refine wpList_store_row rfl 42 (.tmp 9) (.tmp 54) rfl w1.heap.size tabArr rfl rfl 42 Z (heap_alloc_new w1 _) tabInfo HZ.out tabArr_one ?_)
    have hh := Has.made (Hb9.out.trans (hb1.mono Hb9.out.size)) Z 42
    rw [made_size w1 Z 42]
    generalize (w1.alloc (.cells Z 42)).setRow w1.heap.size tabArr = w2 at *
    generalize w1.heap.size = g at *
    clear hb1 hz HZ Hb9
    refine (sum1 a g w w2 _ hsa.out hh rfl).mono ?_
    clear hh
    rintro e w3 ⟨rfl, hh⟩
    have H3 := Lib.hid hh
    clear hh
    go_wp2_with fail
    refine (sum1 b' g w w3 _ hsb.out H3.out rfl).mono ?_
    clear H3
    rintro e w4 ⟨rfl, hh⟩
    have H4 := Lib.hid hh
    clear hh
    have hs1 := HS.out.1
    have hs2 := HS.out.2
    clear HS
    generalize hSA : ((sumOf a).toNat : Int) = SA at *
    have HSA := Lib.hid hSA
    clear hSA
    generalize ((sumOf b').toNat : Int) = SB at *
    generalize ((sumOf a ^^^ sumOf b').toNat : Int) = SAB at *
    generalize hSC : ((sumOf c).toNat : Int) = SC at *
    have HSC := Lib.hid hSC
    clear hSC
    generalize hSD : ((sumOf d).toNat : Int) = SD at *
    have HSD := Lib.hid hSD
    clear hSD
    go_wp2_with fail
    refine (sum1 c g w w4 _ hsc.out H4.out rfl).mono ?_
    clear H4
    rintro e w5 ⟨rfl, hh⟩
    rw [HSC.out]
    have H5 := Lib.hid hh
    clear hh
    go_wp2_with fail
    refine (sum1 d g w w5 _ hsd.out H5.out rfl).mono ?_
    clear H5
    rintro e w6 ⟨rfl, hh⟩
    rw [HSD.out]
    have H6 := Lib.hid hh
    clear hh
    go_wp2_with fail
    refine (sum1 a g w w6 _ hsa.out H6.out rfl).mono ?_
    clear H6
    rintro e w7 ⟨rfl, hh⟩
    rw [HSA.out]
    have H7 := Lib.hid hh
    clear hh
    go_wp2_with fail
    refine (refSum2 a w7 hsa.out).mono ?_
    rintro e w8 ⟨rfl, rfl⟩
    rw [HSA.out]
    go_wp2_with fail
    go_ret
    exact ⟨rfl, H7.out.below⟩

/-- CrcXors at a slice of triples of bytes that came in. -/
theorem walk_CrcXors (A : Option Addr) (len cap : Nat) (w : World) (h : TriRow w A len cap) :
    Calls Try.prog 13 #[.slice A len cap] w fun e w' => e = .returned (.bool true) ∧ Below w.heap.size w w' := by
  obtain ⟨hl, hc, h0 | ⟨b, off, rfl, h⟩⟩ := h
  · exact xors_none A len cap w hl hc h0 (by omega) (by omega)
  · by_cases h60 : len ≤ 60
    · exact xors_few b off len cap w hl hc h60 (by omega) h
    · exact xors_many b off len cap w hl hc (by omega) (by omega) h

end Go.Proofs.Ytamnmablodgdjaa
