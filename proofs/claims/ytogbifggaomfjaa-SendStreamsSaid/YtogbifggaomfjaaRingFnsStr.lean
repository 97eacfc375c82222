/- The contracts of package ring's functions, at elements of one kind: what each call answers of a row, and what row stands behind it. Conditions: the row lies as a row does. -/
import Derived.Test.YtogbifggaomfjaaRows
import Derived.Test.YtogbifggaomfjaaRingAt
import Derived.Deep.QuietTactic
import Derived.BigQuiet
import Derived.StillTailTactics
import Derived.Deep.OwnRows
import Derived.IntWalk
import Derived.Deep.RegionHeld3
import Derived.Deep.RegionLaw
namespace Go.Proofs.Ytogbifggaomfjaa.string
open Go.RowKit
set_option linter.unusedVariables false

abbrev T : TypeId := 137
theorem info : (Try.prog.info? 9).map (fun i => (i.zero, i.size, i.bytes)) = some (some (.string ⟨#[]⟩), 1, 16) := by kernel_rfl
theorem infoSize : (Try.prog.info? 9).map (·.size) = some 1 := by kernel_rfl

theorem place (w : World) (r g n first many most k : Nat) (h : RingCells w r (.slice (some ⟨g, 0, none⟩) n n) first many most) (h1 : first < n) (h2 : n ≤ 4096) (h3 : k ≤ 4096) :
    Calls Try.prog 98 #[.pointer (some ⟨r, 0, none⟩), .int .i64 (k : Int)] w fun e w' => e = .returned (.int .i64 (((first + k) % n : Nat) : Int)) ∧ ∃ q, w' = w.drewN q := by
  have c0 := h.c0
  have c1 := h.c1
  clear h
  have e1 : IntKind.i64.wrap ((first : Int) + (k : Int)) = ((first + k : Nat) : Int) := by rw [IntWalk.i64_in _ (by omega)]; omega
  have e2 : (((first + k : Nat) : Int)).tmod (n : Int) = (((first + k) % n : Nat) : Int) := by rw [Int.tmod_eq_emod_of_nonneg (by omega)]; omega
  have e3 : ((n : Int) == 0) = false := by rw [beq_eq_false_iff_ne]; omega
  have e4 : IntKind.i64.wrap (((first + k) % n : Nat) : Int) = (((first + k) % n : Nat) : Int) := IntWalk.i64_in _ (by have := Nat.mod_lt (first + k) (show 0 < n by omega); omega)
  go_enter Try.func98, Try.ntmps98
  go_wp2_with fail
  go_quiet (fail)
  go_wp2
  go_ret
  exact ⟨rfl, nq, rfl⟩

abbrev zero : Value := .string ⟨#[]⟩
set_option maxHeartbeats 1000000 in
set_option maxRecDepth 100000 in
theorem copied (w : World) (r g n first many most size : Nat) (cur : Array Value) (l : List Value) (h : RingCells w r (.slice (some ⟨g, 0, none⟩) n n) first many most)
    (hg : w.heap[g]? = some (.cells cur 9 (0, 0))) (hn : cur.size = n) (h1 : first < n) (h2 : n ≤ 4096) (h3 : size ≤ 8192) (hl : l.length ≤ n) (hls : size = l.length ∨ (l.length = n ∧ n ≤ size))
    (hc : ∀ i, i < l.length → cur[(first + i) % n]? = l[i]?) (hone : ∀ v ∈ l, v.oneCell' = true) :
    Calls Try.prog 106 #[.pointer (some ⟨r, 0, none⟩), .int .i64 (size : Int)] w (Copied 9 w size l) := by
  have hmk := run_make_row' (P := Try.prog) 63 9 zero 16 Try.underlying63 info rfl .i64 .i64 size (by omega) (by omega)
  have hr := h.lt
  have hgl := (Array.getElem?_eq_some_iff.1 hg).1
  have H := Lib.hid h
  have Hg := Lib.hid hg
  have Hc := Lib.hid hc
  have Hone := Lib.hid hone
  have Hls := Lib.hid hls
  clear h hg hc hone hls
  go_enter Try.func106, Try.ntmps106
  go_wp2_with fail
  obtain ⟨w1, hw1⟩ : ∃ w1, w1 = w.alloc (.cells (madeCells #[zero] size) 9) := ⟨_, rfl⟩
  rw [← hw1]
  have hh : w1.heap[w.heap.size]? = some (.cells (madeCells #[zero] size).toList.toArray 9 (0, 0)) := by rw [hw1]; simpa using heap_alloc_new w _
  have hb : Below w.heap.size w w1 := by rw [hw1]; exact (Below.refl _ w).alloc (Nat.le_refl _) _
  have K1 := Lib.hid (H.out.of_blocks (hb.block r hr))
  have G1 := Lib.hid ((hb.block g hgl).trans Hg.out)
  have HH := Lib.hid hh
  have HB := Lib.hid hb
  clear hw1 hh hb hmk
  have c0 := K1.out.c0
  have c1 := K1.out.c1
  obtain ⟨a, ha⟩ : ∃ a, a = Nat.min (n - first) size := ⟨_, rfl⟩
  have hZ : (madeCells #[zero] size).toList.length = size := by simp [size_madeCells]
  generalize (madeCells #[zero] size).toList = Z at *
  have hla : a ≤ l.length := by have := Hls.out; rw [ha]; simp only [Nat.min_def]; split <;> omega
  have hl1 : (l.take a).length = Nat.min (n - first) size := by rw [List.length_take, ← ha]; omega
  have hf1 : 0 + (l.take a).length ≤ Z.length := by rw [hZ, hl1]; have := Nat.min_le_right (n - first) size; simp only [Nat.min_def] at *; split <;> omega
  have HP1 : SrcOk w1 (some ⟨w.heap.size, 0, none⟩) (some ⟨g, first, none⟩) w.heap.size 0 (l.take a) := by
    intro _
    refine ⟨rfl, _, rfl, fun j v hv => ?_⟩
    rw [List.getElem?_take] at hv
    split at hv
    · rename_i hj
      have hlt : j < l.length := by omega
      have hm : (first + j) % n = first + j := Nat.mod_eq_of_lt (by rw [ha] at hj; simp only [Nat.min_def] at hj; split at hj <;> omega)
      rw [Addr.add_lit, cell_blk G1.out, ← hm, Hc.out j hlt]; exact hv
    · cases hv
  have H1 := Lib.hid hl1
  have H2 := Lib.hid hf1
  have Ha := Lib.hid ha
  have Hone1 : Hid (∀ v ∈ l.take a, v.oneCell' = true) := fun v hv => Hone.out v (List.mem_of_mem_take hv)
  clear hl1 hf1 ha
  have i1 : (0 : Int) ≤ (first : Int) := by omega
  have i2 : (first : Int) ≤ (n : Int) := by omega
  have i3 : ¬ n = first := by omega
  go_region_held3 (fun w' => w'.cell? ⟨r, 0, none⟩ = some (.slice (some ⟨g, 0, none⟩) n n) ∧ w'.cell? ⟨r, 1, none⟩ = some (.int .i64 (first : Int))) (first | go_keep | exact ⟨(H.out.of_blocks (hB2.block r hr)).c0, (H.out.of_blocks (hB2.block r hr)).c1⟩)
    ((refine step_copy_splice (by rfl) (.tmp 9) (.tmp 18) 63 63 (by rfl) 9 Try.underlying63 infoSize (some ⟨w.heap.size, 0, none⟩) (some ⟨g, first, none⟩) size size (n - first) (n - first) (by rfl) (by rfl) w.heap.size 0 Z 9 HH.out (l.take a) H1.out HP1 H2.out Hone1.out w.heap.size w HB.out.drew (Nat.le_refl _) ?_; intro w2 HG2 hB2))
  have HB2 := Lib.hid hB2
  have K2 := Lib.hid (H.out.of_blocks (hB2.block r hr))
  have G2 := Lib.hid ((hB2.block g hgl).trans Hg.out)
  clear c0 c1 hB2 HP1
  have c0 := K2.out.c0
  have c1 := K2.out.c1
  have hZ2 : (splice Z 0 (l.take a)).length = size := by rw [length_splice _ _ _ H2.out]; exact hZ
  have hend := splice_two Z (l.take a) (l.drop a) a (by rw [List.length_take]; omega) (by rw [List.length_take, List.length_drop, hZ]; have := Hls.out; omega)
  rw [← List.length_append, List.take_append_drop] at hend
  have Hend := Lib.hid hend
  have hmin : a = (n - first) ∧ n - first ≤ size ∨ a = size ∧ size < n - first := by have := Ha.out; simp only [Nat.min_def] at this; split at this <;> omega
  have Hmin := Lib.hid hmin
  have hle : l.length - a ≤ first := by have := Hls.out; omega
  have HS : SrcOk w2.drew (some ⟨w.heap.size, a, none⟩) (some ⟨g, 0, none⟩) w.heap.size a (l.drop a) := by
    intro hpos
    rw [List.length_drop] at hpos
    refine ⟨rfl, _, rfl, fun j v hv => ?_⟩
    rw [List.getElem?_drop] at hv
    have hj : a + j < l.length := (List.getElem?_eq_some_iff.1 hv).1
    have ha2 : a = n - first := by have := Hls.out; omega
    have hm : (first + (a + j)) % n = j := by rw [show first + (a + j) = j + n by omega, Nat.add_mod_right]; exact Nat.mod_eq_of_lt (by omega)
    have hc2 := Hc.out (a + j) hj
    rw [hm] at hc2
    rw [Addr.add_lit, Nat.zero_add]
    exact ((cell_blk G2.out j).trans hc2).trans hv
  have Hone2 : Hid (∀ v ∈ l.drop a, v.oneCell' = true) := fun v hv => Hone.out v (List.mem_of_mem_drop hv)
  clear hend hmin
  by_cases hsa : size = a
  · have h0 : Hid (l.drop a = []) := List.drop_eq_nil_of_le (by have := Hls.out; have := Hmin.out; omega)
    have Hd := Lib.hid (show (l.drop a).length = Nat.min first 0 by rw [h0.out]; exact (Nat.min_eq_right (Nat.zero_le _)).symm)
    have Hfit := Lib.hid (show a + (l.drop a).length ≤ (splice Z 0 (l.take a)).length by rw [h0.out, hZ2]; simp; omega)
    have HS0 : SrcOk w2.drew (some ⟨w.heap.size, 0, none⟩) (some ⟨g, 0, none⟩) w.heap.size a (l.drop a) := by intro hpos; rw [h0.out] at hpos; simp at hpos
    have HZ2 := Lib.hid hZ2
    clear hZ2
    subst hsa
    generalize splice Z 0 (l.take size) = Z2 at *
    go_wp2_with fail
    go_region_held3 (fun w' => w'.cell? ⟨r, 0, none⟩ = some (.slice (some ⟨g, 0, none⟩) n n) ∧ w'.cell? ⟨r, 1, none⟩ = some (.int .i64 (first : Int))) (first | go_keep | exact ⟨(H.out.of_blocks (hB3.block r hr)).c0, (H.out.of_blocks (hB3.block r hr)).c1⟩)
      ((refine step_copy_splice (by rfl) (.tmp 22) (.tmp 31) 63 63 (by rfl) 9 Try.underlying63 infoSize (some ⟨w.heap.size, 0, none⟩) (some ⟨g, 0, none⟩) 0 0 first n (by rfl) (by rfl) w.heap.size size Z2 9 HG2.out (l.drop size) Hd.out HS0 Hfit.out Hone2.out w.heap.size w HB2.out.drew (Nat.le_refl _) ?_; intro w3 HG3 hB3))
    go_wp2
    go_ret
    exact ⟨_, rfl, HG3.out, by have h := Hend.out.2; rw [hZ] at h; simpa using h, fun i hi => by rw [List.getElem?_toArray, ← List.getElem?_take_of_lt hi, Hend.out.1], hB3⟩
  · have Hd := Lib.hid (show (l.drop a).length = Nat.min first (size - a) by rw [List.length_drop]; exact min_two Hls.out Hmin.out h1 hl hsa)
    have Hfit := Lib.hid (show a + (l.drop a).length ≤ (splice Z 0 (l.take a)).length by rw [List.length_drop, hZ2]; have := Hls.out; omega)
    have HZ2 := Lib.hid hZ2
    have j1 : (0 : Int) ≤ (a : Int) := by omega
    have j2 : (a : Int) ≤ (size : Int) := by have := Hmin.out; omega
    clear hZ2
    generalize splice Z 0 (l.take a) = Z2 at *
    go_wp2_with fail
    go_region_held3 (fun w' => w'.cell? ⟨r, 0, none⟩ = some (.slice (some ⟨g, 0, none⟩) n n) ∧ w'.cell? ⟨r, 1, none⟩ = some (.int .i64 (first : Int))) (first | go_keep | exact ⟨(H.out.of_blocks (hB3.block r hr)).c0, (H.out.of_blocks (hB3.block r hr)).c1⟩)
      ((refine step_copy_splice (by rfl) (.tmp 22) (.tmp 31) 63 63 (by rfl) 9 Try.underlying63 infoSize (some ⟨w.heap.size, a, none⟩) (some ⟨g, 0, none⟩) (size - a) (size - a) first n (by rfl) (by rfl) w.heap.size a Z2 9 HG2.out (l.drop a) Hd.out HS Hfit.out Hone2.out w.heap.size w HB2.out.drew (Nat.le_refl _) ?_; intro w3 HG3 hB3))
    go_wp2
    go_ret
    exact ⟨_, rfl, HG3.out, by have h := Hend.out.2; rw [hZ] at h; simpa using h, fun i hi => by rw [List.getElem?_toArray, ← List.getElem?_take_of_lt hi, Hend.out.1], hB3⟩

set_option maxHeartbeats 1000000 in
set_option maxRecDepth 100000 in
theorem copied_nil (w : World) (r most size : Nat) (h : RingCells w r (.slice none 0 0) 0 0 most) (h3 : size ≤ 8192) :
    Calls Try.prog 106 #[.pointer (some ⟨r, 0, none⟩), .int .i64 (size : Int)] w (Copied 9 w size []) := by
  have hmk := run_make_row' (P := Try.prog) 63 9 zero 16 Try.underlying63 info rfl .i64 .i64 size (by omega) (by omega)
  have hr := h.lt
  have H := Lib.hid h
  clear h
  go_enter Try.func106, Try.ntmps106
  go_wp2_with fail
  obtain ⟨w1, hw1⟩ : ∃ w1, w1 = w.alloc (.cells (madeCells #[zero] size) 9) := ⟨_, rfl⟩
  rw [← hw1]
  have hh : w1.heap[w.heap.size]? = some (.cells (madeCells #[zero] size).toList.toArray 9 (0, 0)) := by rw [hw1]; simpa using heap_alloc_new w _
  have hb : Below w.heap.size w w1 := by rw [hw1]; exact (Below.refl _ w).alloc (Nat.le_refl _) _
  have K1 := Lib.hid (H.out.of_blocks (hb.block r hr))
  have HH := Lib.hid hh
  have HB := Lib.hid hb
  clear hw1 hh hb hmk
  have c0 := K1.out.c0
  have c1 := K1.out.c1
  have hZ : (madeCells #[zero] size).toList.length = size := by simp [size_madeCells]
  generalize (madeCells #[zero] size).toList = Z at *
  have hn0 : ([] : List Value).length = Nat.min 0 size := (Nat.zero_min size).symm
  have Hn0 := Lib.hid hn0
  have HS : ∀ W d s, SrcOk W d s w.heap.size 0 [] := fun W d s hp => by simp at hp
  have HS' := Lib.hid HS
  have Hone0 := Lib.hid (show ∀ v ∈ ([] : List Value), v.oneCell' = true by simp)
  clear hn0 HS
  go_region_held3 (fun w' => w'.cell? ⟨r, 0, none⟩ = some (.slice none 0 0) ∧ w'.cell? ⟨r, 1, none⟩ = some (.int .i64 0)) (first | go_keep | exact ⟨(H.out.of_blocks (hB2.block r hr)).c0, (H.out.of_blocks (hB2.block r hr)).c1⟩)
    ((refine step_copy_splice (by rfl) (.tmp 9) (.tmp 18) 63 63 (by rfl) 9 Try.underlying63 infoSize (some ⟨w.heap.size, 0, none⟩) none size size 0 0 (by rfl) (by rfl) w.heap.size 0 Z 9 HH.out [] Hn0.out (HS'.out _ _ _) (by simp) Hone0.out w.heap.size w HB.out.drew (Nat.le_refl _) ?_; intro w2 HG2 hB2))
  have HB2 := Lib.hid hB2
  have K2 := Lib.hid (H.out.of_blocks (hB2.block r hr))
  clear c0 c1 hB2
  have c0 := K2.out.c0
  have c1 := K2.out.c1
  have hZ2 : (splice Z 0 ([] : List Value)).length = size := by rw [length_splice _ _ _ (by simp)]; exact hZ
  have HZ2 := Lib.hid hZ2
  clear hZ2
  generalize splice Z 0 ([] : List Value) = Z2 at *
  have j2 : (0 : Int) ≤ (size : Int) := by omega
  go_wp2_with fail
  go_region_held3 (fun w' => w'.cell? ⟨r, 0, none⟩ = some (.slice none 0 0) ∧ w'.cell? ⟨r, 1, none⟩ = some (.int .i64 0)) (first | go_keep | exact ⟨(H.out.of_blocks (hB3.block r hr)).c0, (H.out.of_blocks (hB3.block r hr)).c1⟩)
    ((refine step_copy_splice (by rfl) (.tmp 22) (.tmp 31) 63 63 (by rfl) 9 Try.underlying63 infoSize (some ⟨w.heap.size, 0, none⟩) none size size 0 0 (by rfl) (by rfl) w.heap.size 0 Z2 9 HG2.out [] Hn0.out (HS'.out _ _ _) (by simp) Hone0.out w.heap.size w HB2.out.drew (Nat.le_refl _) ?_; intro w3 HG3 hB3))
  go_wp2
  go_ret
  exact ⟨_, rfl, HG3.out, by have h := length_splice Z2 0 ([] : List Value) (by simp); rw [HZ2.out] at h; simpa using h, fun i hi => by simp at hi, hB3⟩

/-- copied, wherever the places lie. -/
theorem copied_in (w : World) (S : Nat → Prop) (r first most size : Nat) (pl : Value) (l : List Value)
    (h : w.heap[r]? = some (.cells #[pl, .int .i64 (first : Int), .int .i64 (l.length : Int), .int .i64 (most : Int)] T (0, 0))) (hp : Places 9 w S r pl first l most) (hm : most ≤ 4096) (h3 : size ≤ 8192)
    (hone : ∀ v ∈ l, v.oneCell' = true) (hls : size = l.length ∨ (plLen pl = l.length ∧ l.length ≤ size)) :
    Calls Try.prog 106 #[.pointer (some ⟨r, 0, none⟩), .int .i64 (size : Int)] w (Copied 9 w size l) := by
  have hc := ringCells h
  rcases hp with ⟨rfl, rfl, rfl⟩ | ⟨g, n, cur, rfl, _, _, hg, hn, h0, h1, h2, hl, hcur⟩
  · exact copied_nil w r most size hc h3
  · exact copied w r g n first l.length most size cur l hc hg hn h2 (by omega) h3 hl (hls.imp id fun h => ⟨(show n = l.length from h.1).symm, by have h1 : n = l.length := h.1; have := h.2; omega⟩) hcur hone

theorem all (w : World) (S : Nat → Prop) (r most : Nat) (l : List Value) (h : RingIn T 9 w S r l most) :
    Calls Try.prog 90 #[.pointer (some ⟨r, 0, none⟩)] w (AllOut 9 w l) := by
  obtain ⟨pl, first, hr, hp⟩ := h.at_
  have hc := ringCells hr
  have hle := h.le
  have hfew := h.few
  have c2 := hc.c2
  have HC := Lib.hid (fun W (e : w = W) => copied_in W S r first most l.length pl l (by rw [← e]; exact hr) (by rw [← e]; exact hp) hfew (by omega) h.one (.inl rfl))
  clear h hr hp hc
  by_cases h0 : l = []
  · subst h0
    simp only [List.length_nil, Int.ofNat_zero] at c2
    go_enter Try.func90, Try.ntmps90
    go_wp2_with fail
    go_ret
    exact ⟨_, rfl, .inl ⟨rfl, rfl⟩, Below.refl _ _⟩
  · have hn : ((l.length : Int) == 0) = false := by
      rw [beq_eq_false_iff_ne]
      have : l.length ≠ 0 := fun e => h0 (List.eq_nil_of_length_eq_zero e)
      omega
    have H0 := Lib.hid h0
    clear h0
    generalize hL : l.length = L at *
    have HL := Lib.hid hL
    clear hL
    go_enter Try.func90, Try.ntmps90
    go_wp2_with fail
    refine (HC.out _ rfl).mono ?_
    rintro e w' hcp
    obtain ⟨arr, rfl, hrest⟩ := hcp
    have HR := Lib.hid hrest
    clear hrest
    go_wp2_with fail
    go_ret
    exact allOut_of H0.out ⟨arr, by rw [HL.out]; rfl, HR.out.1, by rw [HL.out]; exact HR.out.2.1, HR.out.2.2⟩

theorem len (w : World) (S : Nat → Prop) (r most : Nat) (l : List Value) (h : RingIn T 9 w S r l most) :
    Calls Try.prog 82 #[.pointer (some ⟨r, 0, none⟩)] w fun e w' => e = .returned (.int .i64 (l.length : Int)) ∧ w = w' := by
  obtain ⟨pl, first, hr, hp⟩ := h.at_
  have c2 := (ringCells hr).c2
  clear h hr hp
  go_enter Try.func82, Try.ntmps82
  go_wp2
  go_ret
  exact ⟨rfl, rfl⟩

theorem room (w : World) (S : Nat → Prop) (r most : Nat) (l : List Value) (h : RingIn T 9 w S r l most) :
    Calls Try.prog 96 #[.pointer (some ⟨r, 0, none⟩)] w fun e w' => e = .returned (.int .i64 (((most - l.length : Nat)) : Int)) ∧ ∃ q, w' = w.drewN q := by
  obtain ⟨pl, first, hr, hp⟩ := h.at_
  have c2 := (ringCells hr).c2
  have c3 := (ringCells hr).c3
  have hle := h.le
  have hfew := h.few
  clear h hr hp
  have e1 : IntKind.i64.wrap ((most : Int) - (l.length : Int)) = ((most - l.length : Nat) : Int) := by rw [IntWalk.i64_in _ (by omega)]; omega
  go_enter Try.func96, Try.ntmps96
  go_wp2_with fail
  go_quiet (fail)
  go_wp2
  go_ret
  exact ⟨rfl, nq, rfl⟩

theorem atNo (w : World) (S : Nat → Prop) (r most : Nat) (l : List Value) (h : RingIn T 9 w S r l most) (i : Int) (hi : i < 0 ∨ (l.length : Int) ≤ i) (b1 : -9223372036854775808 ≤ i) (b2 : i ≤ 9223372036854775807) :
    Calls Try.prog 118 #[.pointer (some ⟨r, 0, none⟩), .int .i64 i] w fun e w' => e = .returned (.tuple #[zero, .bool false]) ∧ w = w' := by
  obtain ⟨pl, first, hr, hp⟩ := h.at_
  have c2 := (ringCells hr).c2
  clear h hr hp
  by_cases h0 : i < 0
  · clear hi
    go_enter Try.func118, Try.ntmps118
    go_wp2
    go_ret2
    exact ⟨rfl, rfl⟩
  · have h2 : (l.length : Int) ≤ i := hi.resolve_left h0
    clear hi
    go_enter Try.func118, Try.ntmps118
    go_wp2
    go_ret2
    exact ⟨rfl, rfl⟩

theorem atYes (w : World) (S : Nat → Prop) (r most : Nat) (l : List Value) (h : RingIn T 9 w S r l most) (k : Nat) (x : ByteArray) (hk : l[k]? = some (.string x)) :
    Calls Try.prog 118 #[.pointer (some ⟨r, 0, none⟩), .int .i64 (k : Int)] w fun e w' => e = .returned (.tuple #[.string x, .bool true]) ∧ ∃ q, w' = w.drewN q := by
  obtain ⟨pl, first, hr, hp⟩ := h.at_
  have hkl : k < l.length := (List.getElem?_eq_some_iff.1 hk).1
  have hle := h.le
  have hfew := h.few
  rcases hp with ⟨_, _, rfl⟩ | ⟨g, n, cur, rfl, _, _, hg, hn, h0, h1, h2, hl, hcur⟩
  · simp at hkl
  have hc := ringCells hr
  have c0 := hc.c0
  have c2 := hc.c2
  have hmod : (first + k) % n < n := Nat.mod_lt _ h0
  have cg : w.cell? ⟨g, (first + k) % n, none⟩ = some (.string x) := by rw [cell_blk hg, hcur k hkl, hk]
  have HP := Lib.hid (fun W (e : w.heap = W.heap) => place W r g n first l.length most k (hc.of_blocks (by rw [e])) h2 (by omega) (by omega))
  have hh : ∀ q, w.heap = (w.drewN q).heap := fun _ => rfl
  clear h hr hcur hn hk hg hc
  generalize (first + k) % n = j at *
  have i1 : (0 : Int) ≤ (j : Int) := by omega
  have i2 : (j : Int) < (n : Int) := by omega
  have i3 : ¬ (k : Int) < 0 := by omega
  have i4 : ¬ (l.length : Int) ≤ (k : Int) := by omega
  go_enter Try.func118, Try.ntmps118
  go_wp2_with fail
  go_region_held3 (fun w' => w'.cell? ⟨r, 0, none⟩ = some (.slice (some ⟨g, 0, none⟩) n n) ∧ w'.cell? ⟨g, j, none⟩ = some (.string x)) (go_keep)
    ((go_at_call 98; refine (HP.out _ (by rfl)).mono ?_; rintro e w1 ⟨rfl, q, rfl⟩))
  go_wp2
  go_ret2
  exact ⟨rfl, _, rfl⟩


theorem firstNo (w : World) (S : Nat → Prop) (r most : Nat) (h : RingIn T 9 w S r [] most) :
    Calls Try.prog 99 #[.pointer (some ⟨r, 0, none⟩)] w fun e w' => e = .returned (.tuple #[zero, .int .i64 9]) ∧ w = w' := by
  have hA := atNo w S r most [] h 0 (.inr (by simp)) (by omega) (by omega)
  have HA := Lib.hid hA
  clear h hA
  go_enter Try.func99, Try.ntmps99
  go_wp2_with fail
  refine HA.out.mono ?_
  rintro e w1 ⟨rfl, rfl⟩
  go_wp2_with fail
  go_ret2
  exact ⟨rfl, rfl⟩

theorem firstYes (w : World) (S : Nat → Prop) (r most : Nat) (x : ByteArray) (l : List Value) (h : RingIn T 9 w S r (.string x :: l) most) :
    Calls Try.prog 99 #[.pointer (some ⟨r, 0, none⟩)] w fun e w' => e = .returned (.tuple #[.string x, .int .i64 0]) ∧ ∃ q, w' = w.drewN q := by
  have hA := atYes w S r most _ h 0 x rfl
  rw [Int.ofNat_zero] at hA
  have HA := Lib.hid hA
  clear h hA
  go_enter Try.func99, Try.ntmps99
  go_wp2_with fail
  refine HA.out.mono ?_
  rintro e w1 ⟨rfl, q, rfl⟩
  go_wp2_with fail
  go_ret2
  exact ⟨rfl, q, rfl⟩

/-- What stands behind Take. -/
def Took (w : World) (S : Nat → Prop) (r most : Nat) (x : Value) (l : List Value) (e : Ending) (w' : World) : Prop :=
  e = .returned (.tuple #[x, .int .i64 0]) ∧ RingIn T 9 w' S r l most ∧ Kept S w w'

theorem takeNo (w : World) (S : Nat → Prop) (r most : Nat) (h : RingIn T 9 w S r [] most) :
    Calls Try.prog 83 #[.pointer (some ⟨r, 0, none⟩)] w fun e w' => e = .returned (.tuple #[zero, .int .i64 9]) ∧ w = w' := by
  have HA := Lib.hid (firstNo w S r most h)
  clear h
  go_enter Try.func83, Try.ntmps83
  go_wp2_with fail
  refine HA.out.mono ?_
  rintro e w1 ⟨rfl, rfl⟩
  go_wp2_with fail
  go_ret2
  exact ⟨rfl, rfl⟩

set_option maxHeartbeats 1000000 in
set_option maxRecDepth 100000 in
theorem takeYes (w : World) (S : Nat → Prop) (r most : Nat) (x : ByteArray) (l : List Value) (h : RingIn T 9 w S r (.string x :: l) most) :
    Calls Try.prog 83 #[.pointer (some ⟨r, 0, none⟩)] w (Took w S r most (.string x) l) := by
  have HF := Lib.hid (firstYes w S r most x l h)
  obtain ⟨pl, first, hr, hp⟩ := h.at_
  have hlt := h.lt
  have hmine := h.mine
  have hle := h.le
  have hfew := h.few
  have hone := h.one
  clear h
  rcases hp with ⟨_, _, h0⟩ | ⟨g, n, cur, rfl, hSg, hgr, hg, hn, h0, h1, h2, hl, hcur⟩
  · cases h0
  rw [List.length_cons] at hl hle
  have hgl := hlt g hSg
  have hrl := hlt r hmine
  have Hr := Lib.hid hr
  have Hg := Lib.hid hg
  have Hcur := Lib.hid hcur
  have Hone := Lib.hid hone
  have Hlt := Lib.hid hlt
  clear hr hg hcur hone hlt
  have i1 : (0 : Int) ≤ (first : Int) := by omega
  have i2 : (first : Int) < (n : Int) := by omega
  go_enter Try.func83, Try.ntmps83
  go_wp2_with fail
  refine HF.out.mono ?_
  rintro e w1 ⟨rfl, q, rfl⟩
  clear HF
  have hk : Kept S w (w.drewN q) := (Kept.refl S w).drewN q
  have hw : w.heap = (w.drewN q).heap := rfl
  generalize w.drewN q = W at *
  have Hk := Lib.hid hk
  have K1 := Lib.hid (ringCells (w := W) (by rw [← hw]; exact Hr.out))
  have c0 := K1.out.c0
  have c1 := K1.out.c1
  have fg : W.frozen? ⟨g, first, none⟩ = false := frozen_blk (w := W) (by rw [← hw]; exact Hg.out) first
  have cg : ∃ u, W.cell? ⟨g, first, none⟩ = some u := ⟨_, (cell_blk (w := W) (by rw [← hw]; exact Hg.out) first).trans (Array.getElem?_eq_getElem (by omega))⟩
  obtain ⟨u, cg⟩ := cg
  have Hw := Lib.hid hw
  clear hw hk
  go_wp2_with fail
  go_region_held3 (fun w' => w'.cell? ⟨r, 0, none⟩ = some (.slice (some ⟨g, 0, none⟩) n n) ∧ w'.cell? ⟨r, 1, none⟩ = some (.int .i64 (first : Int))) (first | exact ⟨c0, c1⟩ | exact ⟨(K1.out.setOther (p := ⟨g, first, none⟩) (Ne.symm hgr) _).c0, (K1.out.setOther (p := ⟨g, first, none⟩) (Ne.symm hgr) _).c1⟩) (fail)
  clear c0 c1 fg cg
  have hk2 : Kept S w (W.setCell ⟨g, first, none⟩ zero).drew := ((Hk.out.setCell (p := ⟨g, first, none⟩) hSg _).drewN 1)
  have hr2 : (W.setCell ⟨g, first, none⟩ zero).drew.heap[r]? = w.heap[r]? := by rw [Hw.out]; exact Below.heap_setCell W ⟨g, first, none⟩ zero r (Ne.symm hgr)
  have hg2 : (W.setCell ⟨g, first, none⟩ zero).drew.heap[g]? = some (.cells (cur.setIfInBounds first zero) 9 (0, 0)) := heap_set_same (w := W) (by rw [← Hw.out]; exact Hg.out) first zero
  unfold zero at hk2 hr2 hg2
  generalize (W.setCell ⟨g, first, none⟩ (.string ⟨#[]⟩)).drew = W2 at *
  have Hk2 := Lib.hid hk2
  have Hr2 := Lib.hid (hr2.trans Hr.out)
  have Hg2 := Lib.hid hg2
  have K2 := Lib.hid (ringCells Hr2.out)
  have HP := Lib.hid (show Calls Try.prog 98 #[.pointer (some ⟨r, 0, none⟩), .int .i64 1] W2 fun e w' => e = .returned (.int .i64 (((first + 1) % n : Nat) : Int)) ∧ ∃ q, w' = W2.drewN q from place W2 r g n first _ most 1 K2.out h2 (by omega) (by omega))
  clear hk2 hr2 hg2
  obtain ⟨j, hj⟩ : ∃ j, j = (first + 1) % n := ⟨_, rfl⟩
  rw [← hj] at HP
  have Hj := Lib.hid hj
  clear hj
  go_wp2_with fail
  refine HP.out.mono ?_
  rintro e w1 ⟨rfl, q2, rfl⟩
  have hk3 : Kept S w (W2.drewN q2) := Hk2.out.drewN q2
  have hr3 : W2.heap = (W2.drewN q2).heap := rfl
  generalize W2.drewN q2 = W3 at *
  have Hk3 := Lib.hid hk3
  have HR3 := Lib.hid hr3
  have K3 := Lib.hid (ringCells (w := W3) (by rw [← hr3]; exact Hr2.out))
  clear hk3 hr3
  rw [List.length_cons] at K3
  have c1 := K3.out.c1
  have c2 := K3.out.c2
  have f1 := K3.out.f0 1
  have f2 := K3.out.f0 2
  go_wp2_with fail
  go_ret2
  have hra := heap_set_same (w := W3) (by rw [← HR3.out]; exact Hr2.out) 1 (.int .i64 (j : Int))
  have hrb := heap_set_same hra 2 (.int .i64 (l.length : Int))
  have hga := (Below.heap_setCell W3 ⟨r, 1, none⟩ (.int .i64 (j : Int)) g hgr).trans (show W3.heap[g]? = some (.cells (cur.setIfInBounds first (.string ⟨#[]⟩)) 9 (0, 0)) by rw [← HR3.out]; exact Hg2.out)
  have hgb := (Below.heap_setCell (W3.setCell ⟨r, 1, none⟩ (.int .i64 (j : Int))) ⟨r, 2, none⟩ (.int .i64 (l.length : Int)) g hgr).trans hga
  have hkb : Kept S w ((W3.setCell ⟨r, 1, none⟩ (.int .i64 (j : Int))).setCell ⟨r, 2, none⟩ (.int .i64 (l.length : Int))) := (Hk3.out.setCell (p := ⟨r, 1, none⟩) hmine _).setCell (p := ⟨r, 2, none⟩) hmine _
  exact ⟨rfl, took_ring hkb hmine Hlt.out hle hfew Hone.out hSg hgr hn h1 h2 hl Hcur.out (by rw [← Hj.out]; exact hrb) hgb, hkb⟩

/-- What stands behind Clear. -/
def Cleared (w : World) (S : Nat → Prop) (r most : Nat) (l : List Value) (e : Ending) (w' : World) : Prop :=
  ∃ v : Value, e = .returned v ∧ ((l = [] ∧ v = .slice none 0 0) ∨ (l ≠ [] ∧ v = .slice (some ⟨w.heap.size, 0, none⟩) l.length l.length ∧ w'.heap[w.heap.size]? = some (.cells l.toArray 9 (0, 0)))) ∧ RingIn T 9 w' S r [] most ∧ Kept S w w'

end Go.Proofs.Ytogbifggaomfjaa.string
