/- What came, what is missing, what is named: plain facts for PolliwogNames. No text of the program is walked. -/
import Derived.Test.YtgfdgcpbmjhmmaaRecvStat
namespace Go.Proofs.Ytgfdgcpbmjhmmaa
open Go.RowKit Go.Maps Sp
set_option linter.unusedVariables false

theorem keys_filter (bs : List (Int × ByteArray)) (n x : Int) : x ∈ (bs.filter fun p => !decide (p.1 = n)).map (·.1) ↔ x ∈ bs.map (·.1) ∧ x ≠ n := by
  simp only [List.mem_map, List.mem_filter, Bool.not_eq_true', decide_eq_false_iff_not]
  constructor
  · rintro ⟨p, ⟨h1, h2⟩, rfl⟩
    exact ⟨⟨p, h1, rfl⟩, h2⟩
  · rintro ⟨⟨p, h1, rfl⟩, h2⟩
    exact ⟨p, ⟨h1, h2⟩, rfl⟩
theorem DlvTo.keys {bs bs' : List (Int × ByteArray)} {nx nx' : Int} {out : List ByteArray} (h : DlvTo bs nx bs' nx' out) (hb : ∀ x ∈ bs.map (·.1), nx ≤ x) : (∀ x, x ∈ bs'.map (·.1) ↔ x ∈ bs.map (·.1) ∧ nx' ≤ x) ∧ (∀ x, nx ≤ x → x < nx' → x ∈ bs.map (·.1)) ∧ nx ≤ nx' := by
  induction h with
  | refl => exact ⟨fun x => ⟨fun h => ⟨h, hb x h⟩, fun h => h.1⟩, fun x h1 h2 => by omega, Int.le_refl _⟩
  | step h hin ih =>
    obtain ⟨i1, i2, i3⟩ := ih
    rename_i b n o
    refine ⟨fun x => ?_, fun x h1 h2 => ?_, by omega⟩
    · rw [keys_filter, i1]
      constructor
      · rintro ⟨⟨g1, g2⟩, g3⟩; exact ⟨g1, by omega⟩
      · rintro ⟨g1, g2⟩; exact ⟨⟨g1, by omega⟩, by omega⟩
    · by_cases e : x = n
      · subst e; exact ((i1 x).1 hin).1
      · exact i2 x h1 (by omega)

/-- What has come, of the numbers below 64. -/
structure NamesAt (C : List Int) (next behind : Int) (bs : List (Int × ByteArray)) (il : Nat) : Prop where
  keys : ∀ x, x ∈ bs.map (·.1) ↔ x ∈ C ∧ next < x
  all : ∀ x, 0 ≤ x → x < next → x ∈ C
  no : ¬ next ∈ C
  lo : 0 ≤ next ∧ next ≤ 64
  nod : C.Nodup
  bd : ∀ x ∈ C, 0 ≤ x ∧ x ≤ 63
  hi : (∀ x ∈ C, x < behind) ∧ (behind = 0 ∨ behind - 1 ∈ C) ∧ 0 ≤ behind ∧ behind ≤ 64
  len : (il : Int) = next
theorem NamesAt.start : NamesAt [] 0 0 [] 0 := ⟨fun x => by simp, fun x h1 h2 => by omega, by simp, by omega, by simp, by simp, ⟨by simp, .inl rfl, by omega, by omega⟩, rfl⟩
theorem NamesAt.step {C : List Int} {next behind nx' n : Int} {bs bs' : List (Int × ByteArray)} {il : Nat} {out : List ByteArray} {m : ByteArray} (h : NamesAt C next behind bs il) (hn : ¬ n ∈ C) (h0 : 0 ≤ n ∧ n ≤ 63) (hnd : (bs.map (·.1)).Nodup)
    (hd : DlvTo (bs ++ [(n, m)]) next bs' nx' out) (he : ¬ nx' ∈ bs'.map (·.1)) : NamesAt (C ++ [n]) nx' (max behind (n + 1)) bs' (il + out.length) := by
  have hge : next ≤ n := by
    rcases Int.lt_or_le n next with hlt | hge
    · exact absurd (h.all n h0.1 hlt) hn
    · exact hge
  have hk1 : ∀ x, x ∈ (bs ++ [(n, m)]).map (·.1) ↔ (x ∈ C ∧ next < x) ∨ x = n := fun x => by
    rw [List.map_append, List.mem_append, h.keys]
    simp
  have hkb : ∀ x ∈ (bs ++ [(n, m)]).map (·.1), next ≤ x := fun x hx => by
    rcases (hk1 x).1 hx with g | g <;> omega
  obtain ⟨k1, k2, k3⟩ := hd.keys hkb
  have hsz := hd.sizes (by
    rw [List.map_append]
    refine List.nodup_append.2 ⟨hnd, by simp, ?_⟩
    intro a ha b hb e
    simp at hb
    subst hb
    subst e
    exact hn ((h.keys a).1 ha).1)
  have hno1 : ¬ nx' ∈ (bs ++ [(n, m)]).map (·.1) := fun hx => he ((k1 nx').2 ⟨hx, Int.le_refl _⟩)
  have hnC : ¬ nx' ∈ C := fun hx => by
    by_cases e : nx' = next
    · exact h.no (e ▸ hx)
    · exact hno1 ((hk1 nx').2 (.inl ⟨hx, by omega⟩))
  have hnn : nx' ≠ n := fun e => hno1 ((hk1 nx').2 (.inr e))
  refine ⟨fun x => ?_, fun x g1 g2 => ?_, ?_, ⟨by have := h.lo; omega, ?_⟩, ?_, ?_, ⟨?_, ?_, by have := h.hi; omega, by have := h.hi; omega⟩, ?_⟩
  · rw [k1, hk1, List.mem_append]
    simp only [List.mem_singleton]
    constructor
    · rintro ⟨g1, g2⟩
      have hne : x ≠ nx' := fun e => by subst e; rcases g1 with g | g; exact hnC g.1; exact hnn g
      exact ⟨g1.imp (fun g => g.1) id, by omega⟩
    · rintro ⟨g1, g2⟩
      exact ⟨g1.imp (fun g => ⟨g, by omega⟩) id, by omega⟩
  · rw [List.mem_append]
    by_cases g3 : x < next
    · exact .inl (h.all x g1 g3)
    · rcases (hk1 x).1 (k2 x (by omega) g2) with g | g
      · exact .inl g.1
      · exact .inr (by simp [g])
  · rw [List.mem_append]
    rintro (g | g)
    · exact hnC g
    · simp at g; exact hnn g
  · rcases Int.lt_or_le 64 nx' with g | g
    · rcases (hk1 64).1 (k2 64 h.lo.2 g) with g | g
      · have := h.bd 64 g.1; omega
      · omega
    · exact g
  · refine List.nodup_append.2 ⟨h.nod, by simp, ?_⟩
    intro a ha b hb e
    simp at hb
    subst hb
    subst e
    exact hn ha
  · intro x hx
    rcases List.mem_append.1 hx with g | g
    · exact h.bd x g
    · simp at g; omega
  · intro x hx
    rcases List.mem_append.1 hx with g | g
    · have := h.hi.1 x g; omega
    · simp at g; omega
  · rcases Int.lt_or_le behind (n + 1) with g | g
    · right
      rw [show max behind (n + 1) - 1 = n by omega]
      simp
    · rw [show max behind (n + 1) = behind by omega]
      rcases h.hi.2.1 with g2 | g2
      · omega
      · exact .inr (List.mem_append_left _ g2)
  · have := h.len
    omega

/-- Counts by their keys. -/
def cntDat (c : Int) : DataW Unit := .lit (.int .i64 c)
def CntAt (D : DataW Unit) (C : List Int) (f : Int → Int) : Prop := ML.Laid .i64 cntDat D (C.map fun x => (x, f x))
theorem CntAt.keys (C : List Int) (f : Int → Int) : (C.map fun x => (x, f x)).map (·.1) = C := by rw [List.map_map]; exact List.map_id _
theorem CntAt.nil : CntAt (.map []) [] (fun _ => 0) := ML.Laid.nil
theorem CntAt.look {D : DataW Unit} {C : List Int} {f : Int → Int} (h : CntAt D C f) (hf : ∀ x, ¬ x ∈ C → f x = 0) (x : Int) : D.atKey (.int .i64 x) (.lit (.int .i64 0)) = .lit (.int .i64 (f x)) := by
  by_cases hx : x ∈ C
  · exact h.2 (x, f x) (List.mem_map.2 ⟨x, hx, rfl⟩) _
  · have h1 : Maps.has D (.int .i64 x) = false := by
      rw [ML.Laid.has h, CntAt.keys]
      exact decide_eq_false hx
    rw [atKey_of_not_has h1, hf x hx]
def upd (f : Int → Int) (k v : Int) : Int → Int := fun x => if x = k then v else f x
def addK (C : List Int) (k : Int) : List Int := if k ∈ C then C else C ++ [k]
theorem mem_addK (C : List Int) (k x : Int) : x ∈ addK C k ↔ x ∈ C ∨ x = k := by
  unfold addK
  split
  · rename_i h
    exact ⟨.inl, fun g => g.elim id fun e => e ▸ h⟩
  · simp
theorem nodup_addK {C : List Int} (h : C.Nodup) (k : Int) : (addK C k).Nodup := by
  unfold addK
  split
  · exact h
  · rename_i hk
    refine List.nodup_append.2 ⟨h, by simp, ?_⟩
    intro a ha b hb e
    simp at hb
    subst hb
    subst e
    exact hk ha
theorem CntAt.put {D : DataW Unit} {C : List Int} {f : Int → Int} (h : CntAt D C f) (hD : IsMap D) (k v : Int) : CntAt (D.put (.int .i64 k) (.lit (.int .i64 v))) (addK C k) (upd f k v) := by
  unfold addK
  by_cases hk : k ∈ C
  · rw [if_pos hk]
    refine ⟨fun kl => ?_, fun p hp z => ?_⟩
    · rw [show ((C.map fun x => (x, upd f k v x)).map fun p => Lit.int .i64 p.1) = ((C.map fun x => (x, f x)).map fun p => Lit.int .i64 p.1) by rw [List.map_map, List.map_map]; rfl]
      by_cases e : kl = .int .i64 k
      · subst e
        rw [has_put_same hD (by exact trivial)]
        symm
        rw [List.any_eq_true]
        exact ⟨.int .i64 k, List.mem_map.2 ⟨(k, f k), List.mem_map.2 ⟨k, hk, rfl⟩, rfl⟩, by rw [ML.sameInt]; simp⟩
      · rw [has_put_other e]
        exact h.1 kl
    · obtain ⟨x, hx, rfl⟩ := List.mem_map.1 hp
      by_cases e : x = k
      · subst e
        rw [atKey_put_same hD (by exact trivial)]
        simp [upd, cntDat]
      · have hne : Lit.int .i64 x ≠ .int .i64 k := fun e2 => e (by injection e2)
        rw [atKey_put_other hne]
        have := h.2 (x, f x) (List.mem_map.2 ⟨x, hx, rfl⟩) z
        simp only [upd, if_neg e]
        exact this
  · rw [if_neg hk]
    have h1 := ML.Laid.put h hD k v (by rw [CntAt.keys]; exact hk)
    unfold CntAt
    rw [List.map_append]
    have e1 : (C.map fun x => (x, upd f k v x)) = C.map fun x => (x, f x) := List.map_congr_left fun x hx => by
      simp only [upd]
      have hne : x ≠ k := fun e => hk (by rw [← e]; exact hx)
      rw [if_neg hne]
    rw [e1]
    simpa [upd, cntDat] using h1
theorem CntAt.size {w : World} {b n : Nat} {D : DataW Unit} {C : List Int} {f : Int → Int} (h : CntAt D C f) (ho : w.ownsMap Try.prog 3 (plainElem Try.prog 3) b n D) (hC : C.Nodup) : Maps.size D = C.length := by
  have := ML.Laid.size h rcvKey ho (by rw [CntAt.keys]; exact hC)
  simpa using this

theorem named_prs (b : Int) : ∀ (q : List Span) (out : List Int), Canon q → (∀ x ∈ q, 0 ≤ x.1 ∧ x.2 ≤ 8388608) → (∀ x ∈ q, ∀ j : Int, x.1 ≤ j → j < x.2 → ¬ (b + j) % 16777216 ∈ out) → named out (prs b q) = out ++ (Sp.nums q).map fun n => (b + n) % 16777216
  | [], out, _, _, _ => by simp [prs, named, Sp.nums]
  | x :: r, out, hc, hb, hf => by
    obtain ⟨h1, h2, h3⟩ := canon_cons.1 hc
    have hx := hb x List.mem_cons_self
    have hsz : sz ((b + x.1) % 16777216) ((b + x.2) % 16777216) = x.2 - x.1 := by unfold sz; rw [if_pos (by omega)]; omega
    have hpn : pairNums ((b + x.1) % 16777216) ((b + x.2) % 16777216) = (List.range (x.2 - x.1).toNat).map fun i : Nat => ((b + x.1) + (i : Int)) % 16777216 := by
      unfold pairNums
      rw [hsz]
      refine List.map_congr_left fun i _ => ?_
      omega
    have hrg : ((List.range (x.2 - x.1).toNat).map fun i : Nat => ((b + x.1) + (i : Int)) % 16777216) = (Sp.range x.1 x.2).map fun n => (b + n) % 16777216 := by
      unfold Sp.range
      rw [List.map_map]
      refine List.map_congr_left fun i _ => ?_
      show _ = (b + (x.1 + (i : Int))) % 16777216
      rw [Int.add_assoc]
    have hstep : named out (prs b (x :: r)) = named (out ++ (Sp.range x.1 x.2).map fun n => (b + n) % 16777216) (prs b r) := by
      rw [prs_cons]
      show named ((pairNums _ _).foldl ins out) (prs b r) = _
      rw [hpn, foldl_ins_fresh _ out (b + x.1) (by omega) (fun j hj => by
        have := hf x List.mem_cons_self (x.1 + (j : Int)) (by omega) (by omega)
        rwa [← Int.add_assoc] at this), hrg]
    rw [hstep, named_prs b r _ h3 (fun y hy => hb y (List.mem_cons_of_mem _ hy)) (fun y hy j g1 g2 => by
      intro hm
      rcases List.mem_append.1 hm with hm | hm
      · exact hf y (List.mem_cons_of_mem _ hy) j g1 g2 hm
      · obtain ⟨i, hi, e⟩ := List.mem_map.1 hm
        have hi2 := (mem_range _ _ _).1 hi
        have hy1 := h2 y hy
        have hy2 := hb y (List.mem_cons_of_mem _ hy)
        omega)]
    rw [nums_cons, List.map_append, List.append_assoc]
end Go.Proofs.Ytgfdgcpbmjhmmaa
