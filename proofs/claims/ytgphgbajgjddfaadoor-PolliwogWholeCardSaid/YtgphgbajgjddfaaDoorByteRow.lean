/- Rows of bytes that a conversion may have made (their end is marked): append onto one, of noughts or of a row. Plain laws over any program. -/
import Derived.Laws.AppendOwn
import Derived.Laws.CopyOwn
import Derived.Maps.AppendAt
import Derived.Tactics
import Derived.RegionTactic
import Derived.Lib.ConvBytes
import Derived.Below
namespace Go.Proofs.YtgphgbajgjddfaaDoor
open Go Go.RowKit
set_option linter.unusedVariables false
set_option linter.unusedSimpArgs false
section
variable {P : Program} (w : World)

/-- v is a row of the bytes xs in a block from B on; what the block's mark bars lies beyond it. -/
def BRow (w : World) (B : Nat) (e : TypeId) (v : Value) (xs : List Int) : Prop :=
  ∃ g cap cur lo hi, v = .slice (some ⟨g, 0, none⟩) xs.length cap ∧ B ≤ g ∧ w.heap[g]? = some (.cells cur e (lo, hi)) ∧ (∀ j, j < cur.size → ¬ (lo ≤ j ∧ j < hi)) ∧ xs.length ≤ cap ∧ cap ≤ maxLen ∧ cur.size = cap ∧ cur.toList.take xs.length = xs.map (Value.int .u8)

theorem run_storeCells_fr (g : Nat) (t : TypeId) (lo hi : Nat) : ∀ (vs : List Value) (i : Nat) (cur : Array Value) (w : World), w.heap[g]? = some (.cells cur t (lo, hi)) → (∀ j, j < cur.size → ¬ (lo ≤ j ∧ j < hi)) → ∀ (o : Nat), o + i + vs.length ≤ cur.size → (∀ v ∈ vs, v.oneCell' = true) →
    (storeCells ⟨g, o, none⟩ vs i).run P w = .ok () (w.setRow g (cur.toList.take (o + i) ++ vs ++ cur.toList.drop (o + i + vs.length)).toArray) := by
  intro vs
  induction vs with
  | nil =>
    intro i cur w hg hm o _ _
    simp only [storeCells, List.append_nil, List.length_nil, Nat.add_zero, List.take_append_drop, Array.toArray_toList]
    rw [setRow_self w g cur t (lo, hi) hg]
    rfl
  | cons v rest ih =>
    intro i cur w hg hm o hl h1
    have hi' : o + i < cur.size := by simp at hl; omega
    have hadd : (⟨g, o, none⟩ : Addr).add i = ⟨g, o + i, none⟩ := by rw [Addr.add_lit]
    have hcell : w.cell? ⟨g, o + i, none⟩ = some cur[o + i] := by simp [World.cell?, hg, hi']
    have hfro : w.frozen? ⟨g, o + i, none⟩ = false := by
      have := hm (o + i) hi'
      simp only [World.frozen?, hg]
      rw [Bool.and_eq_false_iff]
      simp only [decide_eq_false_iff_not]
      omega
    have hst : (store ((⟨g, o, none⟩ : Addr).add i) v).run P w = .ok () (w.setRow g (cur.setIfInBounds (o + i) v)) := by
      rw [hadd, run_store P w _ v _ (h1 v List.mem_cons_self), hcell]
      simp [hfro, setCell_eq_setRow w g (o + i) cur t (lo, hi) v hg]
    have hi2 := ih (i + 1) (cur.setIfInBounds (o + i) v) (w.setRow g (cur.setIfInBounds (o + i) v)) (setRow_heap w g cur _ t _ hg) (by intro j hj; exact hm j (by simpa using hj)) o (by simp at hl ⊢; omega) (fun x hx => h1 x (List.mem_cons_of_mem _ hx))
    simp only [storeCells, Sem.run_bind, hst, Result.andThen_ok, hi2, setRow_setRow]
    congr 3
    have e := list_seg_step cur.toList (o + i) v rest (by simp at hl ⊢; omega)
    simpa [Array.toList_setIfInBounds, Nat.add_assoc] using e

theorem run_append_frow (B : Nat) (t u ty e : TypeId) (i : TypeInfo) (ht : P.underlying t = some (.slice e)) (hi : P.info? e = some i) (hz : i.zero = some (.int .u8 0)) (hs : i.size = 1) (hb : i.bytes = 1)
    (v x : Value) (xs news : List Int) (h : BRow w B e v xs) (hB : B ≤ w.heap.size) (hlen : xs.length + news.length ≤ 1000000)
    (hx : (t = u ∧ ∃ a c, x = .slice (some a) news.length c ∧ ∀ j y, news[j]? = some y → w.cell? (a.add j) = some (.int .u8 y)) ∨ (P.underlying u = some (.int .i64) ∧ x = .int .i64 (news.length : Int) ∧ ∀ y ∈ news, y = 0)) :
    ∃ v' w', (Builtin.append_ #[t, u] ty #[v, x]).run P w = .ok v' w' ∧ BRow w' B e v' (xs ++ news) ∧ w.grownBy w' v.ownBlock ∧ (v'.ownBlock = v.ownBlock ∨ v'.ownBlock = some w.heap.size) := by
  obtain ⟨g, cap, cur, lo, hi', rfl, hBg, hg, hm, hnc, hcm, hcs, htake⟩ := h
  have hone : ∀ y ∈ news.map (Value.int .u8), y.oneCell' = true := by intro y hy; obtain ⟨z, _, rfl⟩ := List.mem_map.1 hy; rfl
  have hxs : ∀ j y, (xs.map (Value.int .u8))[j]? = some y → ∀ W : World, W.heap[g]? = w.heap[g]? → W.cell? ((⟨g, 0, none⟩ : Addr).add j) = some y := by
    intro j y hj W hW
    rw [Addr.add_lit, Nat.zero_add]
    rw [← htake, List.getElem?_take] at hj
    split at hj
    · simp only [World.cell?, hW, hg]; simpa using hj
    · cases hj
  have z0 : ∀ m : Nat, (Builtin.zeroCells (#[.int .u8 0] : Array Value) m).toList = List.replicate m (.int .u8 0) := by
    intro m
    apply List.ext_getElem
    · simp [Builtin.zeroCells]
    · intro j h1 h2
      simp only [List.getElem_replicate]
      simp [Builtin.zeroCells, Nat.mod_one]
  have hnz : (∀ y ∈ news, y = 0) → List.replicate news.length (Value.int .u8 0) = news.map (Value.int .u8) := by
    intro h
    apply List.ext_getElem
    · simp
    · intro j h1 h2
      simp only [List.getElem_replicate, List.getElem_map]
      rw [h _ (List.getElem_mem _)]
  by_cases hroom : xs.length + news.length ≤ cap
  · have hfit : 0 + xs.length + (news.map (Value.int .u8)).length ≤ cur.size := by rw [List.length_map]; omega
    have hst := run_storeCells_fr (P := P) g e lo hi' (news.map (Value.int .u8)) 0 cur w hg hm xs.length (by rw [List.length_map]; omega) hone
    simp only [Nat.add_zero] at hst
    refine ⟨.slice (some ⟨g, 0, none⟩) (xs.length + news.length) cap, w.setRow g (cur.toList.take xs.length ++ news.map (Value.int .u8) ++ cur.toList.drop (xs.length + (news.map (Value.int .u8)).length)).toArray, ?_, ?_, ⟨rfl, rfl, rfl, by simp, fun k _ hk => setRow_other w g k _ (fun e => hk (by simp [Value.ownBlock, e]))⟩, .inl rfl⟩
    · rcases hx with ⟨rfl, a, c, rfl, hc⟩ | ⟨hu, rfl, hy⟩
      · have hf := run_firstCells_some (P := P) w 1 news.length a news.length c (news.map (Value.int .u8)) (by rw [List.length_map]; omega) (by
          intro j y hj
          rw [List.getElem?_map] at hj
          cases hn : news[j]? with
          | none => rw [hn] at hj; simp at hj
          | some q => rw [hn] at hj; simp at hj; subst hj; exact hc j q hn)
        simp [Builtin.append_, run_underlying ht, sizeOf, typeInfo, hi, hs, Builtin.lenOf, hroom, hf, Addr.add_lit, hst]
      · have ha : ∀ w, (asInt (.int .i64 (news.length : Int))).run P w = .ok (news.length : Int) w := fun _ => rfl
        have hw : IntKind.i64.wrap (news.length : Int) = news.length := by simp [IntKind.wrap_i64]; omega
        have h1 : ¬ ((news.length : Int) < 0) := by omega
        have h2 : ¬ (281474976710656 < (news.length : Int) * (i.bytes : Int)) := by rw [hb]; omega
        by_cases h0 : news = []
        · subst h0
          simp only [List.length_nil] at *
          have ha0 : ∀ w, (asInt (.int .i64 0)).run P w = .ok (0 : Int) w := fun _ => rfl
          have hw0 : IntKind.i64.wrap 0 = 0 := by decide
          have hst0 : (storeCells ⟨g, xs.length, none⟩ [] 0).run P w = .ok () w := rfl
          have hsr : w.setRow g (cur.toList.take xs.length ++ List.map (Value.int .u8) [] ++ cur.toList.drop (xs.length + (List.map (Value.int .u8) []).length)).toArray = w := by
            rw [show (cur.toList.take xs.length ++ List.map (Value.int .u8) [] ++ cur.toList.drop (xs.length + (List.map (Value.int .u8) []).length)).toArray = cur by simp]
            exact setRow_self w g cur e (lo, hi') hg
          rw [hsr]
          simp [Builtin.append_, run_underlying ht, run_underlying hu, ha0, hw0, sizeOf, typeInfo, zeroValue, hi, hz, hs, hnc, Addr.add_lit, hst0]
        · have hn : ¬ news.length = 0 := fun h => h0 (List.eq_nil_of_length_eq_zero h)
          have hzz : (Builtin.zeroCells (Value.int .u8 0).cells news.length).toList = news.map (Value.int .u8) := (z0 _).trans (hnz hy)
          simp [Builtin.append_, run_underlying ht, run_underlying hu, ha, hw, sizeOf, typeInfo, zeroValue, hi, hz, hs, h1, h2, hn, h0, hroom, Addr.add_lit, hzz, hst]
    · have hgl : cur.size = cap := hcs
      refine ⟨g, cap, _, lo, hi', by rw [List.length_append], hBg, setRow_heap w g cur _ e _ hg, ?_, by rw [List.length_append]; exact hroom, hcm, ?_, ?_⟩
      · intro j hj
        apply hm j
        simp at hj
        omega
      · simp; omega
      · rw [htake, List.map_append]
        rw [show (xs ++ news).length = (xs.map (Value.int .u8) ++ news.map (Value.int .u8)).length by simp]
        exact List.take_left
  · have hn : ¬ (xs.length + news.length ≤ cap) := hroom
    have hpos : 0 < news.length := by omega
    have h63 : ¬ (9223372036854775807 < ((xs.length : Int) + (news.length : Int))) := by omega
    have h63m : ¬ (9223372036854775807 < ((xs.length : Int) + max (news.length : Int) 0)) := by omega
    have hfit : Builtin.nextslicecap (xs.length + news.length) cap * i.bytes ≤ 281474976710656 := growslice_fits (by omega) (by rw [hb]; omega)
    have hge := grownCap_ge w (xs.length + news.length) cap e
    have hcm2 : grownCap w (xs.length + news.length) cap e ≤ maxLen := grownCap_le_maxLen w _ cap e (by unfold maxLen; omega)
    have hrun : (Builtin.append_ #[t, u] ty #[.slice (some ⟨g, 0, none⟩) xs.length cap, x]).run P w = .ok (.slice (some ⟨w.heap.size, 0, none⟩) (xs.length + news.length) (grownCap w (xs.length + news.length) cap e)) (w.drew.alloc (.cells ((xs.map (Value.int .u8)).toArray ++ (news.map (Value.int .u8)).toArray ++ Builtin.zeroCells #[.int .u8 0] (grownCap w (xs.length + news.length) cap e - (xs.length + news.length))) e)) := by
      rcases hx with ⟨rfl, a, c, rfl, hc⟩ | ⟨hu, rfl, hy⟩
      · exact run_append_grow (P := P) w t ty e i (.int .u8 0) ht hi hz ⟨g, 0, none⟩ xs.length cap (xs.map (Value.int .u8)) (by rw [List.length_map, hs, Nat.mul_one]) (fun j y hj => hxs j y hj w rfl) a news.length c (news.map (Value.int .u8)) (by rw [List.length_map, hs, Nat.mul_one]) (by
          intro j y hj
          rw [List.getElem?_map] at hj
          cases hn : news[j]? with
          | none => rw [hn] at hj; simp at hj
          | some q => rw [hn] at hj; simp at hj; subst hj; exact hc j q hn) (by omega) (by omega) hfit
      · have ha : ∀ w, (asInt (.int .i64 (news.length : Int))).run P w = .ok (news.length : Int) w := fun _ => rfl
        have hw : IntKind.i64.wrap (news.length : Int) = news.length := by simp [IntKind.wrap_i64]; omega
        have h1 : ¬ ((news.length : Int) < 0) := by omega
        have h2 : ¬ (281474976710656 < (news.length : Int) * (i.bytes : Int)) := by rw [hb]; omega
        have hn0 : ¬ news.length = 0 := by omega
        have hn1 : ¬ news = [] := fun h => hn0 (by rw [h]; rfl)
        have h48 : ¬ (281474976710656 < Builtin.nextslicecap (xs.length + news.length) cap * i.bytes) := by omega
        have hf := run_firstCells_some (P := P) w.drew 1 xs.length ⟨g, 0, none⟩ xs.length cap (xs.map (Value.int .u8)) (by rw [List.length_map]; omega) (fun j y hj => by rw [World.cell?_drew]; exact hxs j y hj w rfl)
        have hzz : (Builtin.zeroCells (Value.int .u8 0).cells news.length) = (news.map (Value.int .u8)).toArray := by
          apply Array.ext'
          exact (z0 _).trans (hnz hy)
        have hcl : (Value.int .u8 0).cells = #[.int .u8 0] := rfl
        simp [Builtin.append_, run_underlying ht, run_underlying hu, ha, hw, sizeOf, typeInfo, zeroValue, hi, hz, hs, h1, h2, hn0, hn1, hn, h63, h63m, h48, Question.forced, hf, newRow, grownCap, hzz]
        simp [hcl]
        congr 2
        apply Array.ext'
        simp [List.append_assoc]
    refine ⟨_, _, hrun, ⟨w.heap.size, _, _, 0, 0, by rw [List.length_append], hB, heap_alloc_new w.drew _, fun j _ h => by omega, by rw [List.length_append]; exact hge, hcm2, ?_, ?_⟩, ⟨rfl, rfl, rfl, by simp, fun k hk _ => heap_alloc_old w.drew _ k hk⟩, .inr rfl⟩
    · have hzs := size_zeroCells #[.int .u8 0] (grownCap w (xs.length + news.length) cap e - (xs.length + news.length))
      simp only [Array.size_append, List.size_toArray, List.length_map, hzs]
      simp
      omega
    · rw [List.map_append, Array.toList_append, Array.toList_append]
      rw [show (xs ++ news).length = (xs.map (Value.int .u8) ++ news.map (Value.int .u8)).length by simp]
      exact List.take_left

theorem wpList_append_frow {ops : Array Oper} {rest : List Oper} {o : Oper} {a : Act} {Q : Exit → Act → World → Prop} (hgd : o.guard = none) (s x : Operand) (t u : TypeId)
    (ho : o.op = .call { callee := .builtin .append, args := #[s, x], argTypes := #[t, u] })
    (B : Nat) (e : TypeId) (i : TypeInfo) (ht : P.underlying t = some (.slice e)) (hi : P.info? e = some i) (hz : i.zero = some (.int .u8 0)) (hs : i.size = 1) (hb : i.bytes = 1)
    (v y : Value) (xs news : List Int) (hv : a.eval s = v) (hy : a.eval x = y) (h : BRow w B e v xs) (hB : B ≤ w.heap.size) (hlen : xs.length + news.length ≤ 1000000)
    (hx : (t = u ∧ ∃ a c, y = .slice (some a) news.length c ∧ ∀ j q, news[j]? = some q → w.cell? (a.add j) = some (.int .u8 q)) ∨ (P.underlying u = some (.int .i64) ∧ y = .int .i64 (news.length : Int) ∧ ∀ q ∈ news, q = 0))
    (hk : ∀ v' w', BRow w' B e v' (xs ++ news) → w.grownBy w' v.ownBlock → (v'.ownBlock = v.ownBlock ∨ v'.ownBlock = some w.heap.size) → wpList P ops Q rest (a.put o.dst v') w') : wpList P ops Q (o :: rest) a w := by
  refine wpList_plain hgd fun K hK => ?_
  obtain ⟨v', w', hr, h2, h3, h4⟩ := run_append_frow (P := P) w B t u o.type e i ht hi hz hs hb v y xs news h hB hlen hx
  unfold Oper.wp execOp
  simp only [ho, resolve, invoke, builtin, Sem.run_bind, Sem.run_pure, Result.andThen_ok, List.map_toArray, List.map_cons, List.map_nil, hv, hy, hr]
  exact hK _ _ (hk v' w' h2 h3 h4)
theorem BRow.kept {w w' : World} {B : Nat} {e : TypeId} {v : Value} {xs : List Int} (h : BRow w B e v xs) (hk : ∀ k, v.ownBlock = some k → w'.heap[k]? = w.heap[k]?) : BRow w' B e v xs := by
  obtain ⟨g, cap, cur, lo, hi, rfl, hB, hg, rest⟩ := h
  exact ⟨g, cap, cur, lo, hi, rfl, hB, (hk g rfl).trans hg, rest⟩
theorem BRow.lt {w : World} {B : Nat} {e : TypeId} {v : Value} {xs : List Int} (h : BRow w B e v xs) : ∀ k, v.ownBlock = some k → B ≤ k ∧ k < w.heap.size := by
  obtain ⟨g, cap, cur, lo, hi, rfl, hB, hg, rest⟩ := h
  intro k hk
  simp only [Value.ownBlock, Option.some.injEq] at hk
  subst hk
  exact ⟨hB, (Array.getElem?_eq_some_iff.1 hg).1⟩
theorem BRow.next {w w' : World} {B : Nat} {e : TypeId} {v : Value} {xs : List Int} (h : BRow w B e v xs) (hb : Below w.heap.size w w') : BRow w' B e v xs :=
  h.kept fun k hk => hb.block k (h.lt k hk).2
theorem BRow.cells {w : World} {B : Nat} {e : TypeId} {v : Value} {xs : List Int} (h : BRow w B e v xs) : ∃ g cap, v = .slice (some ⟨g, 0, none⟩) xs.length cap ∧ B ≤ g ∧ ∀ j, j < xs.length → w.cell? ⟨g, 0 + j, none⟩ = some (.int .u8 (xs.getD j 0)) := by
  obtain ⟨g, cap, cur, lo, hi, rfl, hB, hg, hm, hnc, hcm, hcs, htake⟩ := h
  refine ⟨g, cap, rfl, hB, fun j hj => ?_⟩
  have e1 : (cur.toList.take xs.length)[j]? = some (.int .u8 (xs.getD j 0)) := by
    rw [htake, List.getElem?_map, List.getElem?_eq_getElem hj, List.getD_eq_getElem?_getD, List.getElem?_eq_getElem hj]
    rfl
  rw [List.getElem?_take_of_lt hj] at e1
  rw [Nat.zero_add]
  simp only [World.cell?, hg]
  simpa using e1
end
end Go.Proofs.YtgphgbajgjddfaaDoor
