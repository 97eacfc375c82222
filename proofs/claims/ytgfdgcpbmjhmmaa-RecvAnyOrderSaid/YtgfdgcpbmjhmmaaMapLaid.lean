/- A map of the program's own, keys of an integer kind, laid out as a list of its entries: what is there, with its element. Plain facts. -/
import Derived.Maps.RangeWalk
import Derived.Maps.OwnSet
namespace Go.Proofs.Ytgfdgcpbmjhmmaa.ML
open Go Go.Maps Go.RowKit
set_option linter.unusedVariables false
variable {α : Type} {q : IntKind} {dat : α → DataW Unit}

theorem sameInt (x y : Int) : (Lit.int q x).sameKey (.int q y) = decide (x = y) := by
  by_cases e : x = y
  · subst e
    simp [Lit.sameKey]
  · simp [Lit.sameKey, e]
/-- The map reads as just these entries. -/
def Laid (q : IntKind) (dat : α → DataW Unit) (D : DataW Unit) (bs : List (Int × α)) : Prop :=
  (∀ kl, Maps.has D kl = (bs.map fun p => Lit.int q p.1).any fun y => y.sameKey kl) ∧ ∀ p ∈ bs, ∀ z, D.atKey (.int q p.1) z = dat p.2
theorem Laid.nil : Laid q dat (.map []) [] := ⟨fun _ => rfl, fun p hp => by cases hp⟩
theorem Laid.has {D : DataW Unit} {bs : List (Int × α)} (h : Laid q dat D bs) (x : Int) : Maps.has D (.int q x) = decide (x ∈ bs.map (·.1)) := by
  rw [h.1]
  have key : ∀ l : List (Int × α), ((l.map fun p => Lit.int q p.1).any fun y => y.sameKey (.int q x)) = decide (x ∈ l.map (·.1)) := by
    intro l
    induction l with
    | nil => simp
    | cons a r ih =>
      rw [List.map_cons, List.any_cons, ih, sameInt]
      by_cases e : a.1 = x
      · simp [e]
      · have e2 : ¬ x = a.1 := fun h => e h.symm
        simp [e, e2]
  exact key bs
/-- A new key. -/
theorem Laid.put {D : DataW Unit} {bs : List (Int × α)} (h : Laid q dat D bs) (hD : IsMap D) (k : Int) (a : α) (hk : k ∉ bs.map (·.1)) : Laid q dat (D.put (.int q k) (dat a)) (bs ++ [(k, a)]) := by
  constructor
  · intro kl
    rw [List.map_append, List.any_append]
    by_cases e : kl = .int q k
    · subst e
      rw [has_put_same hD (by exact trivial)]
      have : (Lit.int q k).sameKey (.int q k) = true := by rw [sameInt]; simp
      simp [this]
    · rw [has_put_other e, h.1]
      have : (Lit.int q k).sameKey kl = false := sameKey_ne fun e2 => e e2.symm
      simp [this]
  · intro p hp z
    rw [List.mem_append] at hp
    rcases hp with hp | hp
    · have hne : Lit.int q p.1 ≠ .int q k := fun e => hk (List.mem_map.2 ⟨p, hp, by injection e⟩)
      rw [atKey_put_other hne]
      exact h.2 p hp z
    · rw [List.mem_singleton] at hp
      subst hp
      exact atKey_put_same hD (by exact trivial) _ _
theorem Laid.del {D : DataW Unit} {bs : List (Int × α)} (h : Laid q dat D bs) (k : Int) : Laid q dat (D.del (.int q k)) (bs.filter fun p => !decide (p.1 = k)) := by
  constructor
  · intro kl
    by_cases e : kl = .int q k
    · subst e
      rw [has_del_same]
      symm
      rw [List.any_eq_false]
      intro y hy
      obtain ⟨p, hp, rfl⟩ := List.mem_map.1 hy
      rw [List.mem_filter] at hp
      rw [sameInt]
      simpa using hp.2
    · rw [has_del_other e, h.1]
      have key : ∀ l : List (Int × α), ((l.map fun p => Lit.int q p.1).any fun y => y.sameKey kl) = (((l.filter fun p => !decide (p.1 = k)).map fun p => Lit.int q p.1).any fun y => y.sameKey kl) := by
        intro l
        induction l with
        | nil => rfl
        | cons a r ih =>
          by_cases ea : a.1 = k
          · have : (Lit.int q a.1).sameKey kl = false := sameKey_ne fun e2 => e (by rw [← e2, ea])
            rw [List.filter_cons_of_neg (by simp [ea]), List.map_cons, List.any_cons, this, Bool.false_or, ih]
          · rw [List.filter_cons_of_pos (by simpa using ea), List.map_cons, List.map_cons, List.any_cons, List.any_cons, ih]
      exact key bs
  · intro p hp z
    rw [List.mem_filter] at hp
    have hne : Lit.int q p.1 ≠ .int q k := fun e => by
      have : p.1 = k := by injection e
      simp [this] at hp
    rw [atKey_del_other hne]
    exact h.2 p hp.1 z
theorem Laid.size {P : Program} {kt : TypeId} {R : Value → Option (DataW Unit × List MemPlace)} {D : DataW Unit} {bs : List (Int × α)} {w : World} {b n : Nat} (h : Laid q dat D bs) (K : Keyed P kt) (ho : w.ownsMap P kt R b n D) (hk : (bs.map (·.1)).Nodup) : Maps.size D = bs.length := by
  obtain ⟨es, rfl, hp, hkey⟩ := World.ownsMap.entries ho K
  have h1 : (es.map (·.1)).Nodup := by rw [List.Nodup, List.pairwise_map]; exact hp
  have h2 : (bs.map fun p => Lit.int q p.1).Nodup := by
    rw [List.Nodup, List.pairwise_map]
    rw [List.Nodup, List.pairwise_map] at hk
    exact hk.imp fun {a b} hne e => hne (by injection e)
  have hm : ∀ a, a ∈ es.map (·.1) ↔ a ∈ bs.map fun p => Lit.int q p.1 := by
    intro a
    have ha := h.1 a
    rw [has_eq] at ha
    constructor
    · intro hin
      obtain ⟨p, hp1, rfl⟩ := List.mem_map.1 hin
      have e1 : es.any (fun q => q.1.sameKey p.1) = true := List.any_eq_true.2 ⟨p, hp1, WideAt.sameKey_self (hkey p hp1)⟩
      rw [e1] at ha
      obtain ⟨y, hy, hs⟩ := List.any_eq_true.1 ha.symm
      rw [← WideAt.sameKey_eq hs]
      exact hy
    · intro hin
      obtain ⟨x, hx, rfl⟩ := List.mem_map.1 hin
      have e1 : ((bs.map fun p => Lit.int q p.1).any fun y => y.sameKey (.int q x.1)) = true := List.any_eq_true.2 ⟨_, hin, by rw [sameInt]; simp⟩
      rw [e1] at ha
      obtain ⟨p, hp1, hs⟩ := List.any_eq_true.1 ha
      exact List.mem_map.2 ⟨p, hp1, WideAt.sameKey_eq hs⟩
  have := ((List.perm_ext_iff_of_nodup h1 h2).2 hm).length_eq
  simpa [size_eq] using this

/-- recv's unit: a message alone. -/
def msgDat (m : ByteArray) : DataW Unit := .agg [.lit (.string m.data.toList)]
def msgElem : Value → Option (DataW Unit × List MemPlace)
  | .agg ⟨[.string m]⟩ => some (msgDat m, [])
  | _ => none
theorem msgElem_mk (m : ByteArray) : msgElem (.agg #[.string m]) = some (msgDat m, []) := rfl
theorem msgElem_inv {v : Value} {z : DataW Unit × List MemPlace} (h : msgElem v = some z) : ∃ m : ByteArray, v = .agg #[.string m] ∧ z = (msgDat m, []) := by
  unfold msgElem at h
  split at h
  · exact ⟨_, rfl, (Option.some.inj h).symm⟩
  · cases h
theorem msgDat_inj {a b : ByteArray} (h : msgDat a = msgDat b) : a = b := by
  unfold msgDat at h
  injection h with h
  injection h with h _
  injection h with h
  injection h with h
  cases a with
  | mk x => cases b with
    | mk y =>
      have : x = y := Array.toList_inj.1 h
      rw [this]
end Go.Proofs.Ytgfdgcpbmjhmmaa.ML
