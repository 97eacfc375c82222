/- The law SendStreams: texts that came in, what is kept, Idle of none. Conditions: as each says. -/
import Derived.Test.YtogbifggaomfjaaSendLeft
import Derived.Test.YtogbifggaomfjaaSendCreditLaw
import Derived.Test.YtogbifggaomfjaaStrRow
namespace Go.Proofs.Ytogbifggaomfjaa
open Go.RowKit Go.Maps Sp
set_option linter.unusedVariables false
variable {w0 w w' : World} {gs r mb most n : Nat} {S S' : Nat → Prop} {s a ms ps pa polls out : Int} {l l' : List Value} {ks : List Int}

def cutS (s : ByteArray) (n : Nat) : ByteArray := if n < s.size then s.extract 0 n else s
theorem law_cut (s : ByteArray) (n : Nat) (w : World) (hs : s.size ≤ maxLen) (hn : n ≤ 100000) :
    Calls Try.prog 44 #[.string s, .int .i64 (n : Int)] w fun e w' => e = .returned (.string (cutS s n)) ∧ w = w' := by
  unfold maxLen at hs
  by_cases h : n < s.size
  · have e : Hid (cutS s n = s.extract 0 n) := if_pos h
    go_enter Try.func44, Try.ntmps44
    go_wp2
    go_ret
    exact ⟨by rw [e.out]; rfl, rfl⟩
  · have e : Hid (cutS s n = s) := if_neg h
    go_enter Try.func44, Try.ntmps44
    go_wp2
    go_ret
    exact ⟨by rw [e.out]; rfl, rfl⟩

/-- Texts that came in, one by one. -/
def StrIn (w : World) (A : Option Addr) (len : Nat) (f : Nat → ByteArray) : Prop :=
  len ≤ maxLen ∧ (len = 0 ∨ ∃ b off, A = some ⟨b, off, none⟩ ∧ b < w.heap.size ∧ ∀ i, i < len → (f i).size ≤ maxLen ∧ w.cell? ⟨b, off + i, none⟩ = some (.string (f i)))
theorem StrRow.list {w : World} {A : Option Addr} {len : Nat} (h : StrRow w A len) : ∃ f, StrIn w A len f := by
  obtain ⟨h1, h2⟩ := h
  rcases h2 with h0 | ⟨b, off, rfl, hc⟩
  · exact ⟨fun _ => ⟨#[]⟩, h1, .inl h0⟩
  · by_cases h0 : len = 0
    · exact ⟨fun _ => ⟨#[]⟩, h1, .inl h0⟩
    · have hx : ∀ i, ∃ s : ByteArray, i < len → s.size ≤ maxLen ∧ w.cell? ⟨b, off + i, none⟩ = some (.string s) := by
        intro i
        by_cases hi : i < len
        · obtain ⟨s, hs⟩ := hc i hi
          exact ⟨s, fun _ => hs⟩
        · exact ⟨⟨#[]⟩, fun h => absurd h hi⟩
      obtain ⟨f, hf⟩ := Classical.axiomOfChoice hx
      exact ⟨f, h1, .inr ⟨b, off, rfl, block_lt_of_cell (hf 0 (by omega)).2, hf⟩⟩
theorem StrIn.below {w w' : World} {A : Option Addr} {len : Nat} {f : Nat → ByteArray} (h : StrIn w A len f) (hb : Below w.heap.size w w') : StrIn w' A len f := by
  obtain ⟨h1, h2⟩ := h
  refine ⟨h1, h2.imp id fun ⟨b, off, e, hl, hc⟩ => ⟨b, off, e, Nat.lt_of_lt_of_le hl hb.size, fun i hi => ⟨(hc i hi).1, ?_⟩⟩⟩
  rw [hb.cell (p := ⟨b, off + i, none⟩) hl]
  exact (hc i hi).2
theorem StrIn.get {w : World} {A : Option Addr} {len k : Nat} {f : Nat → ByteArray} (h : StrIn w A len f) (hk : k < len) : ∃ b off, A = some ⟨b, off, none⟩ ∧ b < w.heap.size ∧ (f k).size ≤ maxLen ∧ w.cell? ⟨b, off + k, none⟩ = some (.string (f k)) := by
  obtain ⟨_, h2⟩ := h
  rcases h2 with h0 | ⟨b, off, rfl, hl, hc⟩
  · omega
  · exact ⟨b, off, rfl, hl, hc k hk⟩

/-- The messages from the k-th on. -/
def queue (g : Nat → Value) (n k : Nat) : List Value := ((List.range n).drop k).map g
theorem queue_snoc (g : Nat → Value) (n : Nat) : queue g n 0 ++ [g n] = queue g (n + 1) 0 := by simp [queue, List.range_succ]
theorem queue_next (g : Nat → Value) {n k : Nat} (h : k < n) : queue g n k = g k :: queue g n (k + 1) := by
  unfold queue
  rw [List.drop_eq_getElem_cons (by simpa using h), List.map_cons, List.getElem_range]
theorem queue_end (g : Nat → Value) (n : Nat) : queue g n n = [] := by simp [queue]
theorem queue_len (g : Nat → Value) (n : Nat) : (queue g n 0).length = n := by simp [queue]

/-- The numbers kept from the d-th on. -/
def keptFrom (st : Int) (n d : Nat) : List Int := ((List.range n).filter fun j => decide (d ≤ j)).map fun j : Nat => (st + (j : Int)) % 16777216
theorem keptFrom_0 (st : Int) (n : Nat) : keptFrom st n 0 = wentOut st n := by
  unfold keptFrom wentOut
  rw [List.filter_eq_self.2 (by simp)]
theorem filter_len (n d : Nat) : ((List.range n).filter fun j => decide (d ≤ j)).length = n - d := by
  induction n with
  | zero => simp
  | succ n ih =>
    rw [List.range_succ, List.filter_append, List.length_append, ih]
    by_cases h : d ≤ n
    · simp [h]; omega
    · simp [h]; omega
theorem keptFrom_len (st : Int) (n d : Nat) : (keptFrom st n d).length = n - d := by
  unfold keptFrom
  rw [List.length_map, filter_len]
theorem keptFrom_nodup (st : Int) (n d : Nat) (h : n ≤ 100) : (keptFrom st n d).Nodup := by
  unfold keptFrom
  rw [List.Nodup, List.pairwise_map]
  refine List.Pairwise.imp_of_mem ?_ ((List.nodup_range (n := n)).filter _)
  intro i j hi hj hij he
  have hi := List.mem_range.1 (List.mem_filter.1 hi).1
  have hj := List.mem_range.1 (List.mem_filter.1 hj).1
  omega
theorem keptFrom_ack (st : Int) (n d e : Nat) (h1 : d ≤ e) (h2 : e ≤ n) (h3 : n ≤ 100) : ((keptFrom st n d).filter fun k => !btwB ((st + (d : Int)) % 16777216) k ((st + (e : Int)) % 16777216)) = keptFrom st n e := by
  unfold keptFrom
  rw [List.filter_map, List.filter_filter]
  congr 1
  refine List.filter_congr fun j hj => ?_
  have hj := List.mem_range.1 hj
  show ((!btwB _ _ _) && decide (d ≤ j)) = decide (e ≤ j)
  by_cases cd : d ≤ j
  · have q : btwB ((st + (d : Int)) % 16777216) ((st + (j : Int)) % 16777216) ((st + (e : Int)) % 16777216) = decide (j < e) := by
      unfold btwB
      by_cases c : j < e
      · have h : ((st + (j : Int)) % 16777216 - (st + (d : Int)) % 16777216) % 16777216 < ((st + (e : Int)) % 16777216 - (st + (d : Int)) % 16777216) % 16777216 := by omega
        rw [decide_eq_true h, decide_eq_true c]
      · have h : ¬ ((st + (j : Int)) % 16777216 - (st + (d : Int)) % 16777216) % 16777216 < ((st + (e : Int)) % 16777216 - (st + (d : Int)) % 16777216) % 16777216 := by omega
        rw [decide_eq_false h, decide_eq_false c]
    rw [q, decide_eq_true cd, Bool.and_true]
    by_cases c : j < e
    · rw [decide_eq_true c, decide_eq_false (by omega : ¬ e ≤ j)]; rfl
    · rw [decide_eq_false c, decide_eq_true (by omega : e ≤ j)]; rfl
  · rw [decide_eq_false cd, Bool.and_false, decide_eq_false (by omega : ¬ e ≤ j)]

theorem wpList_len_ownG {H : Type} {P : Program} {ops : Array Oper} {rest : List Oper} {o : Oper} {a : Act} {Q : Exit → Act → World → Prop} {w : World} (hgd : Region.wanted o (yielded ops a.tmps) = true) (m : Operand) (t : TypeId) (hop : o.op = Op.call { callee := Callee.builtin Builtin.len, args := #[m], argTypes := #[t] })
    (k e : TypeId) (ht : P.underlying t = some (.map k e)) (R : Value → Option (DataW H × List MemPlace)) (b n : Nat) (D : DataW H) (hm : a.eval m = .map (some b)) (hown : w.ownsMap P k R b n D)
    (hK : wpList P ops Q rest (a.put o.dst (.int .i64 (Maps.size D))) w) :
    wpList P ops Q (o :: rest) a w := by
  unfold wpList
  rw [if_pos hgd]
  refine .inl ?_
  unfold Oper.wp
  simp [execOp, hop, resolve, invoke, builtin, hm, hown.len ht o.type, Result.andThen]
  exact hK

set_option maxHeartbeats 2000000 in
set_option maxRecDepth 100000 in
theorem snd_idleYes (h : SndAt w0 w gs r mb S s a ms ps pa polls out [] most [] n) :
    Calls Try.prog 56 #[.pointer (some ⟨gs, 0, none⟩)] w fun e w' => e = .returned (.bool true) ∧ ∃ q, w' = w.drewN q := by
  have HL := Lib.hid (fun q => (string.len (w.drewN q) S r most [] (h.ring.drewN q)).mono (fun e w' (hh : e = _ ∧ w.drewN q = w') => (⟨hh.1, hh.2.symm⟩ : e = .returned (.int .i64 (([] : List Value).length : Int)) ∧ w' = w.drewN q)))
  obtain ⟨D, hD1, hD2⟩ := h.map
  have HSZ := Lib.hid (hD2.size hD1 List.nodup_nil)
  have HD := Lib.hid hD1
  have c7 := h.cells.c7
  have c8 := h.cells.c8
  clear hD1 hD2 h
  go_enter Try.func56, Try.ntmps56
  go_wp2_with (first | (go_at_call 82; refine (HL.out 0).mono ?_; rintro e w' ⟨rfl, rfl⟩) | (at_len; go_loud (refine wpList_len_ownG (by first | rfl | simp [Region.wanted, yielded]) _ 117 rfl 24 122 Try.underlying117 anyElem mb n D rfl HD.out ?_; rw [HSZ.out])))
  go_ret
  exact ⟨rfl, 0, rfl⟩
end Go.Proofs.Ytogbifggaomfjaa
