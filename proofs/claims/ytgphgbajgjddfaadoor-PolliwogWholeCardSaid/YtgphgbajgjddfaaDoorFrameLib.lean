/- The contracts of what package frame calls of Go's library, and of its Cells. Conditions: the count is small, the texts are not longer than may be. -/
import Derived.Test.YtgphgbajgjddfaaDoorShelfF
import Derived.Test.YtgphgbajgjddfaaDoorCrcAwake
import Derived.IntWalk
namespace Go.Proofs.YtgphgbajgjddfaaDoor
open Go.RowKit Go.Shelf
set_option linter.unusedVariables false
set_option linter.unusedSimpArgs false

def zeros (n : Nat) : ByteArray := ⟨(List.replicate n 0).toArray⟩
theorem repExtra : Builder.Extra Tryd.prog Tryd.layRepeat_ren where
  sizeBuilder := by kernel_rfl
  liesBuilder := by kernel_rfl
  t5 := Tryd.layRepeat.t5
  a5 := Tryd.layRepeat.a5
  z5 := Tryd.layRepeat.z5
  v5 := Tryd.layRepeat.v5
  infoByte := by kernel_rfl
  cellsByte := by kernel_rfl
  sizeByte := by kernel_rfl
  neB5 := by decide
theorem repeat0 (c : Nat) (w : World) (hc : c ≤ 1000) : Calls Tryd.prog 30 #[.string ⟨#[0]⟩, .int .i64 c] w fun e w' => e = .returned (.string (zeros c)) ∧ Below w.heap.size w w' := by
  have h := Any.strings_Repeat Tryd.layRepeat repExtra ⟨#[0]⟩ c w (by omega) (by show 1 * c ≤ _; omega)
  refine (show Calls Tryd.prog 30 _ _ _ from h).mono fun e w' ⟨he, hw⟩ => ⟨?_, hw⟩
  rw [he]
  have e : Lib.repeatL (ByteArray.mk #[0]).data.toList c = List.replicate c 0 := by
    have := Lib.repeatL_replicate 0 1 c
    simpa using this
  rw [e]; rfl
theorem clone (s : ByteArray) (w : World) (hs : s.size ≤ 281474976710656) : Calls Tryd.prog 33 #[.string s] w fun e w' => e = .returned (.string s) ∧ Below w.heap.size w w' := by
  have hcon : Calls Tryd.prog 56 #[.string s] w fun e w' => e = .returned (.string s) ∧ Below w.heap.size w w' := Any.stringslite_Clone Tryd.layClone s w hs
  go_enter Tryd.func33, Tryd.ntmps33
  go_wp2_with (go_at_call 56; refine hcon.mono ?_; rintro e w' ⟨rfl, hb⟩)
  go_ret
  exact ⟨rfl, hb⟩
theorem dropWhile_nil (l : List UInt8) : l.dropWhile (· == 0) = [] ↔ ∀ b, b ∈ l → b = 0 := by
  induction l with
  | nil => simp
  | cons a l ih =>
    rw [List.dropWhile_cons]
    by_cases h : a = 0
    · subst h; simp [ih]
    · have h2 : (a == 0) = false := by simpa using h
      simp only [h2]
      constructor
      · intro hh; cases hh
      · intro hh; exact absurd (hh a List.mem_cons_self) h
theorem trimB_nil (l : List UInt8) : Lib.trimB l 0 = [] ↔ ∀ b, b ∈ l → b = 0 := by
  unfold Lib.trimB Lib.trimLeftB Lib.trimRightB
  rw [dropWhile_nil]
  constructor
  · intro h
    have h2 : l.reverse.dropWhile (· == 0) = [] := by
      cases hd : l.reverse.dropWhile (· == 0) with
      | nil => rfl
      | cons a t =>
        have ha : a = 0 := h a (by rw [hd]; simp)
        have hn := List.head_dropWhile_not (p := (· == (0 : UInt8))) (l := l.reverse) (by rw [hd]; simp)
        simp only [hd, List.head_cons] at hn
        subst ha
        simp at hn
    intro b hb
    exact (dropWhile_nil _).1 h2 b (by simpa using hb)
  · intro h b hb
    have hb2 : b ∈ l.reverse.dropWhile (· == 0) := by simpa using hb
    exact h b (by simpa using (List.dropWhile_sublist _).subset hb2)
/-- What Trim leaves of a text without its noughts: nothing, just where all are noughts. -/
theorem trim0 (s : ByteArray) (w : World) (hs : s.size ≤ 9223372036854775807) : Calls Tryd.prog 32 #[.string s, .string ⟨#[0]⟩] w fun e w' => ∃ t, e = .returned (.string t) ∧ (t = ⟨#[]⟩ ↔ ∀ b, b ∈ s.data.toList → b = 0) ∧ Below w.heap.size w w' := by
  have h := Any.strings_Trim_one Tryd.layTrim s 0 (by decide) w hs
  refine (show Calls Tryd.prog 32 _ _ _ from h).mono fun e w' ⟨he, hw⟩ => ⟨_, he, ?_, ?_⟩
  · rw [show (ByteArray.mk (Lib.trimB s.data.toList 0).toArray = ⟨#[]⟩) ↔ Lib.trimB s.data.toList 0 = [] from ⟨fun h => by have := congrArg (fun b : ByteArray => b.data.toList) h; simpa using this, fun h => by rw [h]⟩]
    exact trimB_nil _
  · rcases hw with rfl | rfl
    · exact Below.refl _ _
    · exact (Below.refl _ _).drew

def cellsOf (n : Int) : Int := max n 0 / 48 + (max n 0 % 48 + 55) / 48
theorem cells (n : Int) (w : World) (h1 : -9223372036854775808 ≤ n) (h2 : n ≤ 9223372036854775807) : Calls Tryd.prog 28 #[.int .i64 n] w fun e w' => e = .returned (.int .i64 (cellsOf n)) ∧ w = w' := by
  go_enter Tryd.func28, Tryd.ntmps28
  go_wp2
  go_ret
  exact ⟨retInt (by unfold cellsOf; omega), rfl⟩
end Go.Proofs.YtgphgbajgjddfaaDoor
