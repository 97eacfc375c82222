/- slices.Delete of the head of a row of the walk's own, at gaps. Conditions: at least one element goes. -/
import Derived.Test.YtgfdgcpbmjhmmaaDelRow
import Derived.Test.YtgfdgcpbmjhmmaaRecvData
import Derived.Lib.SlicesDelete
import Derived.Deep.MidRow
namespace Go.Proofs.Ytgfdgcpbmjhmmaa
open Go.RowKit Go.Maps Sp
set_option linter.unusedVariables false
theorem zeroGap (w : World) : (zeroValue 59).run Try.prog w = .ok (.agg #[.int .i64 0, .int .i64 0]) w := by kernel_rfl

set_option maxHeartbeats 4000000 in
set_option maxRecDepth 100000 in
theorem del_gaps {w : World} {base n k : Nat} {v : Value} {xs : List Value} (h : w.ownsRow base 59 2 v n xs) (hk : 0 < k ∧ k ≤ n) (hn : n ≤ 100000) (h1 : ∀ u ∈ xs, u.oneCell' = true) :
    Calls Try.prog 28 #[v, .int .i64 0, .int .i64 (k : Int)] w fun e w' => ∃ v', e = .returned v' ∧ w'.ownsRow base 59 2 v' (n - k) (xs.drop (k * 2)) ∧ w.grownBy w' v.ownBlock ∧ v'.ownBlock = v.ownBlock := by
  obtain ⟨i1, hi1, hg0, hg1, hg2⟩ := rinfo_parts infoGap
  obtain ⟨g, cap, rfl, hcap⟩ : ∃ g cap, v = .slice (some ⟨g, 0, none⟩) n cap ∧ (n ≤ cap ∧ cap ≤ 9223372036854775807) := by
    rcases h.2 with ⟨_, hz⟩ | ⟨g', cap', cur, hv, hb, hg, a1, a2, a3, a4⟩
    · omega
    · exact ⟨g', cap', hv, a1, a2⟩
  have hdr := delRow (w := w.drew) (k := k) (zs := (Builtin.zeroCells #[.int .i64 0, .int .i64 0] k).toList) h.drew hk.2 (by simp [Builtin.zeroCells])
  have HDR := Lib.hid hdr
  obtain ⟨news, hnews⟩ : ∃ news, news = xs.drop (k * 2) := ⟨_, rfl⟩
  have hlx := h.1
  have hcell : ∀ j, j < n * 2 → w.cell? ⟨g, j, none⟩ = xs[j]? := fun j hj => h.cellAt j hj
  have hsome : ∀ j, j < n * 2 → (w.cell? ⟨g, j, none⟩).isSome = true := fun j hj => by rw [hcell j hj, List.getElem?_eq_getElem (by omega)]; rfl
  have hfro : ∀ j, w.frozen? ⟨g, j, none⟩ = false := fun j => h.frozenAt j
  obtain ⟨A, hA, hsrc⟩ : ∃ A : Addr, (if cap = k then some (⟨g, 0, none⟩ : Addr) else some ⟨g, k * 2, none⟩) = some A ∧ Hid (∀ t u, news[t]? = some u → w.drew.cell? (A.add t) = some u) := by
    by_cases e : cap = k
    · refine ⟨⟨g, 0, none⟩, by simp [e], fun t u hu => ?_⟩
      have h0 : news.length = 0 := by rw [hnews, List.length_drop]; omega
      rw [List.length_eq_zero_iff.1 h0] at hu
      simp at hu
    · refine ⟨⟨g, k * 2, none⟩, by simp [e], fun t u hu => ?_⟩
      have ht := (List.getElem?_eq_some_iff.1 hu).1
      rw [hnews, List.length_drop] at ht
      rw [hnews, List.getElem?_drop] at hu
      rw [Addr.add_lit]
      exact (hcell (k * 2 + t) (by omega)).trans hu
  have s1 : Hid (news.length = (n - k) * 2) := by show _ = _; rw [hnews, List.length_drop]; omega
  have s2 : Hid (∀ u ∈ news, u.oneCell' = true) := fun u hu => h1 u (by rw [hnews] at hu; exact List.mem_of_mem_drop hu)
  have s3 : Hid (∀ t, t < news.length → (w.drew.cell? ⟨g, 0 + 0 * 2 + t, none⟩).isSome = true ∧ w.drew.frozen? ⟨g, 0 + 0 * 2 + t, none⟩ = false) := by
    intro t ht
    rw [hnews, List.length_drop] at ht
    rw [show 0 + 0 * 2 + t = t by omega]
    exact ⟨hsome t (by omega), hfro t⟩
  obtain ⟨W1, hW1⟩ : ∃ W1, W1 = w.drew.setCells g (0 + 0 * 2) news := ⟨_, rfl⟩
  have hW : Hid (W1 = w.drew.setCells g (0 + 0 * 2) news) := hW1
  have hcl : ∀ ty, (Builtin.clear_ #[52] ty #[.slice (some ⟨g, (n - k) * 2, none⟩) (n - (n - k)) (cap - (n - k))]).run Try.prog W1 = .ok (.tuple #[]) (W1.setCells g ((n - k) * 2) (Builtin.zeroCells #[.int .i64 0, .int .i64 0] k).toList) :=
    fun ty => by
      rw [show n - (n - k) = k by omega]
      exact run_clear_any W1 _ 59 ty (.agg #[.int .i64 0, .int .i64 0]) Try.underlying52 zeroGap g ((n - k) * 2) k _ hk.1 _ rfl (fun t ht => by rw [hW1]; exact World.isSome_setCells g news _ _ _ (hsome _ (by simp [Builtin.zeroCells] at ht; omega))) (fun t ht => by rw [hW1, World.frozen?_setCells]; exact hfro _) (fun u hu => by
      simp [Builtin.zeroCells] at hu
      obtain ⟨a, ha, rfl⟩ := hu
      rcases Nat.mod_two_eq_zero_or_one a with e | e <;> rw [e] <;> rfl)
  have hkc : k ≤ cap := by omega
  have hkn := hk.2
  have hk0 := hk.1
  clear hW1 hdr hcell hsome hfro hlx h h1 hk
  go_enter Try.func28, Try.ntmps28
  go_wp2_with fail
  go_region_law (refine step_append_room rfl (.tmp 22) (.tmp 25) 52 rfl 59 i1 2 Try.underlying52 hi1 hg1 g 0 0 cap (by simp [Act.eval, Act.put]) A (n - k) (cap - k) news (by simp [Act.eval, Act.put]) s1.out hsrc.out s2.out (by omega) s3.out ?_; rw [← hW.out])
  go_wp2
  go_ret
  refine ⟨.slice (some ⟨g, 0, none⟩) (n - k) cap, rfl, ?_, ?_, rfl⟩
  · have := HDR.out.1
    rw [hW.out, hnews]
    exact this
  · have := HDR.out.2
    rw [← hnews] at this
    rw [hW.out]
    exact ⟨this.os, this.tape, this.output, this.size, this.block⟩
end Go.Proofs.Ytgfdgcpbmjhmmaa
