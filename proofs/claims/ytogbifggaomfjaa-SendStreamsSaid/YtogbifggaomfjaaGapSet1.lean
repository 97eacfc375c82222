/- gaps.Set. Conditions: the row lies as a row does, its numbers fit their kind. -/
import Derived.Test.YtogbifggaomfjaaGapEach
import Derived.Test.YtogbifggaomfjaaSpanEnds
import Derived.Deep.RegionLaw
namespace Go.Proofs.Ytogbifggaomfjaa
open Go.RowKit Sp
set_option linter.unusedVariables false

theorem box_other {w : World} {b : Nat} {o : Obj} (h : w.heap[b]? = some o) {a : Addr} (ha : a.block ≠ b) (u : Value) : (w.setCell a u).heap[b]? = some o := by
  show (w.heap.modify a.block _)[b]? = _
  rw [Array.getElem?_modify, if_neg ha, h]

/-- What the closure of Set leaves. -/
def SetPost (w : World) (Bs B gs gb : Nat) (b : Int) (acc : List Span) (e : Ending) (w' : World) : Prop :=
  e = .returned (.tuple #[]) ∧ ∃ u', w'.heap[gs]? = some (.cells #[u'] 28 (0, 0)) ∧ w'.heap[gb]? = some (.cells #[.int .u32 b] 24 (0, 0)) ∧ w'.ownsRow B 32 2 u' acc.length (encs acc) ∧ Below Bs w w'

theorem set_end {w w4 : World} {Bs B gs gb g4 k4 : Nat} {b p q : Int} {acc NA : List Span} {u : Value} (hgs : Bs ≤ gs ∧ gs < B) (hgb : Bs ≤ gb ∧ gb < B) (hne : gs ≠ gb)
    (hh : w.heap[gs]? = some (.cells #[u] 28 (0, 0))) (hb : w.heap[gb]? = some (.cells #[.int .u32 b] 24 (0, 0))) (hn : acc ++ [(p, q)] = NA) (hB : Below B w w4)
    (ho : w4.ownsRow B 32 2 (.slice (some ⟨g4, 0, none⟩) (acc.length + 1) k4) (acc.length + 1) (encs acc ++ [.int .i64 p, .int .i64 q])) (hg : B ≤ g4) :
    SetPost w Bs B gs gb b NA (.returned (.tuple #[])) (w4.setCell ⟨gs, 0, none⟩ (.slice (some ⟨g4, 0, none⟩) (acc.length + 1) k4)) := by
  refine ⟨rfl, _, one_setCell ((hB.block gs hgs.2).trans hh), box_other ((hB.block gb hgb.2).trans hb) hne _, ?_, (hB.mono (by omega)).setCell (p := ⟨gs, 0, none⟩) hgs.1 _⟩
  rw [← hn, encs_append, List.length_append]
  exact ownsRow_setCell_other ho (a := ⟨gs, 0, none⟩) (by simp [Value.ownBlock]; omega) _

set_option maxHeartbeats 20000000 in
set_option maxRecDepth 100000 in
theorem set1 (x y b : Int) (Bs B gs gb : Nat) (w : World) (acc : List Span) (u : Value) (h1 : 0 ≤ b) (h2 : b < 4294967296) (h3 : 0 ≤ x) (h4 : x < 4294967296) (h5 : 0 ≤ y) (h6 : y < 4294967296)
    (hlen : acc.length ≤ 1048576) (hgs : Bs ≤ gs ∧ gs < B) (hgb : Bs ≤ gb ∧ gb < B) (hne : gs ≠ gb) (hB : B ≤ w.heap.size)
    (hh : w.heap[gs]? = some (.cells #[u] 28 (0, 0))) (hb : w.heap[gb]? = some (.cells #[.int .u32 b] 24 (0, 0))) (ho : w.ownsRow B 32 2 u acc.length (encs acc)) :
    Calls Try.prog 65 #[.int .u32 x, .int .u32 y, .pointer (some ⟨gs, 0, none⟩), .pointer (some ⟨gb, 0, none⟩)] w (SetPost w Bs B gs gb b (acc ++ [((x - b) % 16777216, (y - b) % 16777216)])) := by
  have HX := Lib.hid (fun W => seq_to b x W h1 h2 h3 h4)
  have HY := Lib.hid (fun W => seq_to b y W h1 h2 h5 h6)
  have c0 := cell_of_one hh
  have f0 := free_of_one hh
  have cb := cell_of_one hb
  have HH := Lib.hid hh
  have HBX := Lib.hid hb
  have HO := Lib.hid ho
  obtain ⟨i0, hi, hz0, hz1, hz2⟩ := info_parts infoSpan
  have Hi := Lib.hid hi
  have Hz0 := Lib.hid hz0
  have Hz1 := Lib.hid hz1
  have Hz2 := Lib.hid hz2
  have hd : 0 ≤ (x - b) % 16777216 ∧ (x - b) % 16777216 < 16777216 ∧ 0 ≤ (y - b) % 16777216 ∧ (y - b) % 16777216 < 16777216 := by omega
  generalize (x - b) % 16777216 = p at *
  generalize (y - b) % 16777216 = q at *
  generalize hNA : acc ++ [(p, q)] = NA at *
  have HNA := Lib.hid hNA
  clear hNA
  generalize hPO : SetPost w Bs B gs gb b NA = PO at *
  have HPO := Lib.hid hPO
  clear hPO
  clear hh hb ho hi hz0 hz1 hz2
  have n1 : (⟨gs, 0, none⟩ : Addr).block < w.heap.size := Nat.lt_of_lt_of_le hgs.2 hB
  have n2 : (⟨gb, 0, none⟩ : Addr).block < w.heap.size := Nat.lt_of_lt_of_le hgb.2 hB
  have c0'' : (w.alloc (.cells #[.int .i64 p, .int .i64 q] 32)).cell? ⟨gs, 0, none⟩ = some u := cell_of_one ((((Below.refl B w).alloc hB _).block gs hgs.2).trans HH.out)
  have c0' : (w.drew.alloc (.cells #[.int .i64 p, .int .i64 q] 32)).cell? ⟨gs, 0, none⟩ = some u := cell_of_one ((((Below.refl B w).drew.alloc hB _).block gs hgs.2).trans HH.out)
  go_enter Try.func65, Try.ntmps65
  go_region_law (first
    | (go_simp
       first
         | (go_at_call_of 38 (Value.int IntKind.u32 x); refine (HX.out _).mono ?_; rintro e w' ⟨rfl, rfl⟩)
         | (go_at_call_of 38 (Value.int IntKind.u32 y); refine (HY.out _).mono ?_; rintro e w' ⟨rfl, rfl⟩)
       dsimp only)
    | (refine step_append_src _ rfl (.tmp 6) (.tmp 14) 28 rfl B 32 i0 (.agg #[.int .i64 0, .int .i64 0]) 2 16 Try.underlying28 Hi.out Hz0.out Hz1.out Hz2.out rfl (by decide) u acc.length (encs acc) (by rfl) (by repeat (with_reducible first | exact HO.out | refine World.ownsRow.drew ?_ | refine World.ownsRow.alloc ?_ _)) (some ⟨w.heap.size, 0, none⟩) 1 1 [.int .i64 p, .int .i64 q] (by rfl) rfl (fun h => by cases h) (by first | exact two_src (two_new w _ _ _).1 (two_new w _ _ _).2 | exact two_src (two_new w.drew _ _ _).1 (two_new w.drew _ _ _).2) (fun u hu => by simp at hu; rcases hu with rfl | rfl <;> rfl) (by unfold maxLen; omega) (by omega) (by simp; omega) ?_
       intro v' w4 hown4 hg4 _
       obtain ⟨g4, k4, rfl, _, _, _, _⟩ := own_form hown4 (by omega)
       have HO4 := Lib.hid hown4
       have HB4 := Lib.hid ((show Below B w _ by repeat (with_reducible first | exact Below.refl B w | refine Below.drew ?_ | refine Below.alloc ?_ (by first | exact hB | (simp; omega)) _)).grown hg4 (by simp; omega) (fun j hj => (HO.out.lt j hj).1))
       have f4 := free_of_one ((HB4.out.block gs hgs.2).trans HH.out)
       have c4 := cell_of_one ((HB4.out.block gs hgs.2).trans HH.out)
       clear hown4 hg4))
  all_goals go_wp2_with fail
  all_goals go_end0
  all_goals (rw [← HPO.out]; exact set_end hgs hgb hne HH.out HBX.out HNA.out HB4.out HO4.out ‹B ≤ g4›)
end Go.Proofs.Ytogbifggaomfjaa
