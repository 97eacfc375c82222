/- Plain facts on the sums of bytes, no Go in sight: the register's shifts are linear and undo-able; what a table makes is what eight shifts make; bits turned within 32 are told. No conditions but those that each says. -/
namespace Go.Proofs.YtgphgbajgjddfaaDoor.Crc

def poly : BitVec 32 := 79764919#32
def top : BitVec 32 := 2147483648#32
def ones : BitVec 32 := 4294967295#32
def sh1 (x : BitVec 32) : BitVec 32 := (x <<< 1) ^^^ (if x.msb then poly else 0#32)
def shN : Nat → BitVec 32 → BitVec 32
  | 0, x => x
  | n + 1, x => shN n (sh1 x)

theorem shN_last (n : Nat) : ∀ x, shN (n + 1) x = sh1 (shN n x) := by
  induction n with
  | zero => intro x; rfl
  | succ n ih => intro x; exact ih (sh1 x)

theorem shN_add (m n : Nat) : ∀ x, shN (m + n) x = shN n (shN m x) := by
  induction m with
  | zero => intro x; rw [Nat.zero_add]; rfl
  | succ m ih => intro x; rw [Nat.succ_add]; exact ih (sh1 x)

theorem xor_comm4 (a b c d : BitVec 32) : (a ^^^ b) ^^^ (c ^^^ d) = (a ^^^ c) ^^^ (b ^^^ d) := by
  rw [BitVec.xor_assoc, BitVec.xor_assoc, ← BitVec.xor_assoc b c d, BitVec.xor_comm b c, BitVec.xor_assoc c b d]

theorem sh1_xor (x y : BitVec 32) : sh1 (x ^^^ y) = sh1 x ^^^ sh1 y := by
  unfold sh1
  rw [BitVec.shiftLeft_xor_distrib, xor_comm4, BitVec.msb_xor]
  congr 1
  cases x.msb <;> cases y.msb <;> simp

theorem shN_xor (n : Nat) : ∀ x y, shN n (x ^^^ y) = shN n x ^^^ shN n y := by
  induction n with
  | zero => intro x y; rfl
  | succ n ih => intro x y; show shN n (sh1 (x ^^^ y)) = _; rw [sh1_xor, ih]; rfl

theorem sh1_zero : sh1 0#32 = 0#32 := by decide
theorem shN_zero (n : Nat) : shN n 0#32 = 0#32 := by
  induction n with
  | zero => rfl
  | succ n ih => show shN n (sh1 0#32) = _; rw [sh1_zero, ih]

theorem sh1_ker (x : BitVec 32) (h : sh1 x = 0#32) : x = 0#32 := by
  have h0 : (sh1 x).getLsbD 0 = false := by rw [h]; rfl
  have hm : x.msb = false := by
    unfold sh1 at h0
    cases hx : x.msb
    · rfl
    · rw [hx] at h0
      simp [poly] at h0
  unfold sh1 at h
  rw [hm] at h
  simp only [Bool.false_eq_true, if_false, BitVec.xor_zero] at h
  apply BitVec.eq_of_getLsbD_eq
  intro i hi
  rw [BitVec.getLsbD_zero]
  by_cases h31 : i = 31
  · subst h31; rw [BitVec.msb_eq_getLsbD_last] at hm; exact hm
  · have := congrArg (fun z => BitVec.getLsbD z (i + 1)) h
    simp at this
    exact this (by omega)

theorem shN_ker (n : Nat) : ∀ x, shN n x = 0#32 → x = 0#32 := by
  induction n with
  | zero => intro x h; exact h
  | succ n ih => intro x h; exact sh1_ker x (ih (sh1 x) h)

theorem xor_eq_zero {x y : BitVec 32} (h : x ^^^ y = 0#32) : x = y := by
  have h2 := congrArg (fun z => z ^^^ y) h
  simp only [BitVec.xor_assoc, BitVec.xor_self, BitVec.xor_zero, BitVec.zero_xor] at h2
  exact h2

theorem shN_inj (n : Nat) (x y : BitVec 32) (h : shN n x = shN n y) : x = y := by
  apply xor_eq_zero
  apply shN_ker n
  rw [shN_xor, h, BitVec.xor_self]

theorem sh1_low (x : BitVec 32) (h : x.msb = false) : sh1 x = x <<< 1 := by
  unfold sh1; rw [h]; simp

theorem shN_low (n : Nat) : ∀ x : BitVec 32, n ≤ 32 → (∀ i, 32 - n ≤ i → x.getLsbD i = false) → shN n x = x <<< n := by
  induction n with
  | zero => intro x _ _; simp [shN]
  | succ n ih =>
    intro x hn h
    show shN n (sh1 x) = _
    rw [sh1_low x (by rw [BitVec.msb_eq_getLsbD_last]; exact h 31 (by omega)), ih _ (by omega)]
    · rw [← BitVec.shiftLeft_add, Nat.add_comm]
    · intro i hi
      rw [BitVec.getLsbD_shiftLeft]
      by_cases h1 : i < 1
      · simp [h1]
      · simp [h (i - 1) (by omega)]

/-! ### Bytes by the table -/
def byteAt (b : Nat) : BitVec 32 := BitVec.ofNat 32 b <<< 24
def tab (b : Nat) : BitVec 32 := shN 8 (byteAt b)
def on (x : BitVec 32) (b : Nat) : BitVec 32 := shN 8 (x ^^^ byteAt b)

theorem split24 (x : BitVec 32) : x = ((x >>> 24) <<< 24) ^^^ (x &&& 16777215#32) := by
  apply BitVec.eq_of_getLsbD_eq
  intro i hi
  have hm : (16777215#32).getLsbD i = decide (i < 24) := by
    have : ∀ j : Fin 32, (16777215#32).getLsbD j.val = decide (j.val < 24) := by decide
    exact this ⟨i, hi⟩
  simp only [BitVec.getLsbD_xor, BitVec.getLsbD_shiftLeft, BitVec.getLsbD_ushiftRight, BitVec.getLsbD_and, hm]
  by_cases h : i < 24
  · simp [h]
  · simp [h, hi, show 24 + (i - 24) = i by omega]

theorem low24 (x : BitVec 32) : shN 8 (x &&& 16777215#32) = x <<< 8 := by
  have hm : ∀ i, (16777215#32).getLsbD i = decide (i < 24) := by
    intro i
    by_cases hi : i < 32
    · have : ∀ j : Fin 32, (16777215#32).getLsbD j.val = decide (j.val < 24) := by decide
      exact this ⟨i, hi⟩
    · rw [BitVec.getLsbD_of_ge _ _ (by omega)]; simp; omega
  rw [shN_low 8 _ (by omega)]
  · apply BitVec.eq_of_getLsbD_eq
    intro i hi
    simp only [BitVec.getLsbD_shiftLeft, BitVec.getLsbD_and, hm]
    by_cases h : i < 8
    · simp [h]
    · simp [h, hi, show i - 8 < 24 by omega]
  · intro i hi
    simp only [BitVec.getLsbD_and, hm]
    simp [show ¬ i < 24 by omega]

theorem ofNat_xor32 (a b : Nat) (ha : a < 4294967296) (hb : b < 4294967296) : BitVec.ofNat 32 (a ^^^ b) = BitVec.ofNat 32 a ^^^ BitVec.ofNat 32 b := by
  apply BitVec.eq_of_toNat_eq
  have h : a ^^^ b < 2 ^ 32 := Nat.xor_lt_two_pow (by omega) (by omega)
  rw [BitVec.toNat_xor, BitVec.toNat_ofNat, BitVec.toNat_ofNat, BitVec.toNat_ofNat, Nat.mod_eq_of_lt h, Nat.mod_eq_of_lt (by omega : a < 2 ^ 32), Nat.mod_eq_of_lt (by omega : b < 2 ^ 32)]

/-- One step by the table is eight shifts of the register, the byte xored in. -/
theorem step_tab (x : BitVec 32) (b : Nat) (hb : b < 256) : (x <<< 8) ^^^ tab ((x >>> 24).toNat ^^^ b) = on x b := by
  have hx : (x >>> 24).toNat < 4294967296 := (x >>> 24).isLt
  have e : byteAt ((x >>> 24).toNat ^^^ b) = ((x >>> 24) <<< 24) ^^^ byteAt b := by
    unfold byteAt
    rw [ofNat_xor32 _ _ hx (by omega), BitVec.shiftLeft_xor_distrib, BitVec.ofNat_toNat]
    simp
  unfold tab on
  rw [e]
  have e2 : x ^^^ byteAt b = (((x >>> 24) <<< 24) ^^^ byteAt b) ^^^ (x &&& 16777215#32) := by
    conv => lhs; rw [split24 x]
    rw [BitVec.xor_assoc, BitVec.xor_comm (x &&& 16777215#32) (byteAt b), ← BitVec.xor_assoc]
  rw [e2, shN_xor 8 _ (x &&& 16777215#32), low24, BitVec.xor_comm]

/-! ### Bytes, bit by bit -/
def run (x : BitVec 32) (l : List Nat) : BitVec 32 := l.foldl on x
theorem run_nil (x : BitVec 32) : run x [] = x := rfl
theorem run_cons (x : BitVec 32) (b : Nat) (l : List Nat) : run x (b :: l) = run (on x b) l := rfl
theorem run_append (x : BitVec 32) (l m : List Nat) : run x (l ++ m) = run (run x l) m := List.foldl_append
theorem run_snoc (x : BitVec 32) (l : List Nat) (b : Nat) : run x (l ++ [b]) = on (run x l) b := by rw [run_append]; rfl

def bitTop (b : Bool) : BitVec 32 := if b then top else 0#32
def stepb (x : BitVec 32) (b : Bool) : BitVec 32 := sh1 (x ^^^ bitTop b)
def runb (x : BitVec 32) (l : List Bool) : BitVec 32 := l.foldl stepb x
theorem runb_cons (x : BitVec 32) (b : Bool) (l : List Bool) : runb x (b :: l) = runb (stepb x b) l := rfl
theorem runb_append (x : BitVec 32) (l m : List Bool) : runb x (l ++ m) = runb (runb x l) m := List.foldl_append

def pack : List Bool → BitVec 32
  | [] => 0#32
  | b :: l => bitTop b ^^^ (pack l >>> 1)

theorem bitTop_get (b : Bool) (i : Nat) (hi : i < 32) : (bitTop b).getLsbD i = (b && decide (i = 31)) := by
  cases b
  · simp [bitTop]
  · have : ∀ j : Fin 32, top.getLsbD j.val = decide (j.val = 31) := by decide
    simpa [bitTop] using this ⟨i, hi⟩

theorem pack_get (l : List Bool) : ∀ i, i < 32 → (pack l).getLsbD i = l.getD (31 - i) false := by
  induction l with
  | nil => intro i _; simp [pack]
  | cons b l ih =>
    intro i hi
    unfold pack
    rw [BitVec.getLsbD_xor, bitTop_get b i hi, BitVec.getLsbD_ushiftRight]
    by_cases h : i = 31
    · subst h
      rw [BitVec.getLsbD_of_ge _ _ (by omega)]
      simp
    · rw [ih (1 + i) (by omega), show 31 - i = (31 - (1 + i)) + 1 by omega]
      simp [h]

theorem runb_pack (l : List Bool) : ∀ x, l.length ≤ 32 → runb x l = shN l.length (x ^^^ pack l) := by
  induction l with
  | nil => intro x _; simp [runb, pack, shN]
  | cons b l ih =>
    intro x hl
    simp only [List.length_cons] at hl
    rw [runb_cons, ih _ (by omega)]
    show shN l.length (stepb x b ^^^ pack l) = shN l.length (sh1 (x ^^^ pack (b :: l)))
    congr 1
    have hp : pack (b :: l) = bitTop b ^^^ (pack l >>> 1) := rfl
    unfold stepb
    rw [hp, ← BitVec.xor_assoc, sh1_xor _ (pack l >>> 1), sh1_low (pack l >>> 1)]
    · congr 1
      apply BitVec.eq_of_getLsbD_eq
      intro i hi
      rw [BitVec.getLsbD_shiftLeft, BitVec.getLsbD_ushiftRight]
      by_cases h : i < 1
      · have h0 : i = 0 := by omega
        subst h0
        rw [pack_get l 0 (by omega), List.getD_eq_getElem?_getD, List.getElem?_eq_none (by omega)]
        simp
      · simp [h, hi, show 1 + (i - 1) = i by omega]
    · rw [BitVec.msb_eq_getLsbD_last, BitVec.getLsbD_ushiftRight, BitVec.getLsbD_of_ge _ _ (by omega)]

def byteBits (b : Nat) : List Bool := [b.testBit 7, b.testBit 6, b.testBit 5, b.testBit 4, b.testBit 3, b.testBit 2, b.testBit 1, b.testBit 0]
def bits (l : List Nat) : List Bool := l.flatMap byteBits

theorem pack_byte (b : Nat) (hb : b < 256) : pack (byteBits b) = byteAt b := by
  have : ∀ j : Fin 256, pack (byteBits j.val) = byteAt j.val := by decide +kernel
  exact this ⟨b, hb⟩

theorem on_bits (x : BitVec 32) (b : Nat) (hb : b < 256) : on x b = runb x (byteBits b) := by
  rw [runb_pack _ _ (by simp [byteBits]), pack_byte b hb]; rfl

theorem run_bits (l : List Nat) (hl : ∀ b ∈ l, b < 256) : ∀ x, run x l = runb x (bits l) := by
  induction l with
  | nil => intro x; rfl
  | cons b l ih =>
    intro x
    rw [run_cons, ih (fun c hc => hl c (List.mem_cons_of_mem _ hc)), on_bits x b (hl b (List.mem_cons_self))]
    show _ = runb x (byteBits b ++ bits l)
    rw [runb_append]

theorem bits_len (l : List Nat) : (bits l).length = 8 * l.length := by
  induction l with
  | nil => rfl
  | cons b l ih => show (byteBits b ++ bits l).length = _; rw [List.length_append, ih, List.length_cons]; simp [byteBits]; omega

theorem byteBits_inj (a b : Nat) (ha : a < 256) (hb : b < 256) (h : byteBits a = byteBits b) : a = b := by
  apply Nat.eq_of_testBit_eq
  intro i
  by_cases hi : i < 8
  · simp only [byteBits, List.cons.injEq, and_true] at h
    obtain ⟨h7, h6, h5, h4, h3, h2, h1, h0⟩ := h
    have : i = 0 ∨ i = 1 ∨ i = 2 ∨ i = 3 ∨ i = 4 ∨ i = 5 ∨ i = 6 ∨ i = 7 := by omega
    rcases this with rfl | rfl | rfl | rfl | rfl | rfl | rfl | rfl <;> assumption
  · have hp : 2 ^ 8 ≤ 2 ^ i := Nat.pow_le_pow_right (by omega) (by omega)
    rw [Nat.testBit_lt_two_pow (by omega), Nat.testBit_lt_two_pow (by omega)]

theorem bits_inj (l : List Nat) : ∀ m : List Nat, (∀ b ∈ l, b < 256) → (∀ b ∈ m, b < 256) → bits l = bits m → l = m := by
  induction l with
  | nil => intro m _ _ h; have := congrArg List.length h; rw [bits_len, bits_len] at this; cases m with
    | nil => rfl
    | cons b m => simp at this
  | cons a l ih =>
    intro m hl hm h
    cases m with
    | nil => have := congrArg List.length h; rw [bits_len, bits_len] at this; simp at this
    | cons b m =>
      have h' : byteBits a ++ bits l = byteBits b ++ bits m := h
      obtain ⟨h1, h2⟩ := List.append_inj h' (by simp [byteBits])
      rw [byteBits_inj a b (hl a (List.mem_cons_self)) (hm b (List.mem_cons_self)) h1,
        ih m (fun c hc => hl c (List.mem_cons_of_mem _ hc)) (fun c hc => hm c (List.mem_cons_of_mem _ hc)) h2]

/-! ### What is turned -/
theorem bitTop_xor (a b : Bool) : bitTop (a ^^ b) = bitTop a ^^^ bitTop b := by cases a <;> cases b <;> decide

theorem runb_xor (l : List Bool) : ∀ (m : List Bool) (x y : BitVec 32), l.length = m.length → runb (x ^^^ y) (List.zipWith (· ^^ ·) l m) = runb x l ^^^ runb y m := by
  induction l with
  | nil => intro m x y h; cases m with
    | nil => rfl
    | cons b m => simp at h
  | cons a l ih =>
    intro m x y h
    cases m with
    | nil => simp at h
    | cons b m =>
      rw [List.zipWith_cons_cons, runb_cons, runb_cons, runb_cons, ← ih m _ _ (by simpa using h)]
      congr 1
      unfold stepb
      rw [bitTop_xor, xor_comm4, sh1_xor]

theorem runb_zeros (n : Nat) : ∀ x, runb x (List.replicate n false) = shN n x := by
  induction n with
  | zero => intro x; rfl
  | succ n ih => intro x; rw [List.replicate_succ, runb_cons, ih]; show _ = shN n (sh1 x); congr 1; simp [stepb, bitTop]

theorem pack_ker (l : List Bool) (hl : l.length ≤ 32) (h : pack l = 0#32) : l = List.replicate l.length false := by
  apply List.ext_getElem?
  intro i
  by_cases hi : i < l.length
  · have := pack_get l (31 - i) (by omega)
    rw [h, show 31 - (31 - i) = i by omega, List.getD_eq_getElem?_getD, List.getElem?_eq_getElem hi] at this
    rw [List.getElem?_eq_getElem hi, List.getElem?_replicate_of_lt hi]
    simp at this
    rw [this]
  · rw [List.getElem?_eq_none (by omega), List.getElem?_eq_none (by simp; omega)]

/-- BITS TURNED WITHIN 32 ARE TOLD: bits that are all out but for those from 'at' on, fewer than 33, leave the register at nought only if all are out. -/
theorem burst_ker (e : List Bool) (at_ : Nat) (h : ∀ i, e.getD i false = true → at_ ≤ i ∧ i < at_ + 32) (h0 : runb 0#32 e = 0#32) : e = List.replicate e.length false := by
  have hsplit : e = List.replicate (min at_ e.length) false ++ ((e.drop at_).take 32 ++ List.replicate (e.length - (at_ + 32)) false) := by
    apply List.ext_getElem?
    intro i
    by_cases hi : i < e.length
    · have hv : e[i]? = some (e.getD i false) := by rw [List.getD_eq_getElem?_getD, List.getElem?_eq_getElem hi]; rfl
      by_cases h1 : i < at_
      · rw [List.getElem?_append_left (by simp; omega), List.getElem?_replicate_of_lt (by omega), hv]
        cases hb : e.getD i false
        · rfl
        · have := h i hb; omega
      · rw [List.getElem?_append_right (by simp; omega)]
        simp only [List.length_replicate]
        rw [show min at_ e.length = at_ by omega]
        by_cases h2 : i < at_ + 32
        · rw [List.getElem?_append_left (by simp; omega), List.getElem?_take, if_pos (by omega), List.getElem?_drop, show at_ + (i - at_) = i by omega]
        · rw [List.getElem?_append_right (by simp; omega), List.getElem?_replicate_of_lt (by simp; omega), hv]
          cases hb : e.getD i false
          · rfl
          · have := h i hb; omega
    · rw [List.getElem?_eq_none (by omega), List.getElem?_eq_none (by simp; omega)]
  have hm : ((e.drop at_).take 32).length ≤ 32 := by simp; omega
  rw [hsplit, runb_append, runb_zeros, shN_zero, runb_append, runb_zeros] at h0
  have h1 := shN_ker _ _ h0
  rw [runb_pack _ _ hm] at h1
  have h2 := shN_ker _ _ h1
  rw [BitVec.zero_xor] at h2
  have h3 := pack_ker _ hm h2
  rw [h3] at hsplit
  rw [hsplit]
  simp
end Go.Proofs.YtgphgbajgjddfaaDoor.Crc
