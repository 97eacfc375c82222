/- The walk of EventTexts. Conditions: event's variables and the library's table lie as their initialisers leave them. -/
import Derived.Test.YtnocckgbcjienaaDoorEvAwake
import Derived.Test.YtnocckgbcjienaaDoorEvRefText
namespace Go.Proofs.YtnocckgbcjienaaDoor
open Go.RowKit
set_option linter.unusedVariables false
set_option linter.unusedSimpArgs false

set_option maxHeartbeats 2000000 in
set_option maxRecDepth 100000 in
theorem walk_EventTexts (k n : Int) (d : ByteArray) (se : Bool) (code : Int) (w : World) (hS : VarsIn w) (htab : TabIn w) (hd : d.size ≤ maxLen) (hn0 : -9223372036854775808 ≤ n) (hn1 : n ≤ 9223372036854775807) :
    Calls Tryd.prog 4 #[.agg #[.int .i64 k, .string d, .bool se, .int .u8 code, .int .i64 n]] w fun e w' => e = .returned (.bool true) ∧ Below w.heap.size w w' := by
  have hb0 := (Below.refl _ w).alloc (Nat.le_refl _) (.cells #[.int .i64 k, .string d, .bool se, .int .u8 code, .int .i64 n] 31)
  have HX := Lib.hid (sbox_new w k n d se code)
  have HB0 := Lib.hid hb0
  have HF0 : Hid (∀ j, (w.alloc (.cells #[.int .i64 k, .string d, .bool se, .int .u8 code, .int .i64 n] 31)).frozen? ⟨w.heap.size, j, none⟩ = false) := fun j => by
    unfold World.frozen?
    rw [heap_alloc_new]
    simp
  have HT0 := Lib.hid htab
  have HS0 := Lib.hid hS
  have HS := Lib.hid (hS.next hb0)
  have HT := Lib.hid (htab.next hb0)
  have HC := Lib.hid (fun W => show Calls Tryd.prog 10 #[.string d, .int .i64 60] W fun e w' => e = .returned (.string (cutB d 60)) ∧ w' = W from (crc_cut d 60 W hd (by decide)).mono fun _ _ h => ⟨h.1, h.2.symm⟩)
  have hlt : w.heap.size < (w.alloc (.cells #[.int .i64 k, .string d, .bool se, .int .u8 code, .int .i64 n] 31)).heap.size := by simp
  have hlw := hS.two
  have hsz := cutB_size d 60
  clear hb0 hS htab hd
  generalize cutB d 60 = d' at *
  go_enter Tryd.func4, Tryd.ntmps4
  go_upto_region 1 with fail
  generalize w.alloc (.cells #[.int .i64 k, .string d, .bool se, .int .u8 code, .int .i64 n] 31) = w0 at *
  go_wp2_with fail
  refine (ev_awake _ HS.out HT.out).mono ?_
  rintro e w1 ⟨rfl, hb1⟩
  have HB1 := Lib.hid (HB0.out.trans (hb1.mono HB0.out.size))
  have HS1 := Lib.hid (HS.out.next hb1)
  have HXn := Lib.hid (HX.out.next hb1)
  obtain ⟨x0, x1, x2, x3, x4⟩ := HXn.out
  have f1 : w1.frozen? ⟨w.heap.size, 1, none⟩ = false := by rw [hb1.frozen (p := ⟨w.heap.size, 1, none⟩) hlt]; exact HF0.out 1
  have hlt1 : w.heap.size < w1.heap.size := Nat.lt_of_lt_of_le hlt hb1.size
  clear hb1 HB0 HS HT HX HXn HF0 hlt
  go_wp2_with fail
  refine (HC.out _).mono ?_
  rintro e w2 ⟨rfl, rfl⟩
  go_upto_region 4 with fail
  have hbs : Below w.heap.size w2 (w2.setCell ⟨w.heap.size, 1, none⟩ (.string d')) := Below.setCell (Below.refl w.heap.size w2) (p := ⟨w.heap.size, 1, none⟩) (Nat.le_refl _) _
  have HQ : Hid (SBox (w2.setCell ⟨w.heap.size, 1, none⟩ (.string d')) w.heap.size k n d' se code) := ⟨by rw [World.cell?_setCell_other _ _ _ _ (by simp)]; exact x0, World.cell?_setCell_same _ _ _ x1, by rw [World.cell?_setCell_other _ _ _ _ (by simp)]; exact x2, by rw [World.cell?_setCell_other _ _ _ _ (by simp)]; exact x3, by rw [World.cell?_setCell_other _ _ _ _ (by simp)]; exact x4⟩
  have HB3 := Lib.hid (HB1.out.trans (hbs.mono (Nat.le_refl _)))
  have HS3 : Hid (VarsIn (w2.setCell ⟨w.heap.size, 1, none⟩ (.string d'))) := HS0.out.next HB3.out
  have hl3 : w.heap.size < (w2.setCell ⟨w.heap.size, 1, none⟩ (.string d')).heap.size := by simpa using hlt1
  have HT3 : Hid (TabIn (w2.setCell ⟨w.heap.size, 1, none⟩ (.string d'))) := HT0.out.next HB3.out
  clear hbs x0 x1 x2 x3 x4 f1 HB1 HS1 hlt1
  generalize w2.setCell ⟨w.heap.size, 1, none⟩ (.string d') = w3 at *
  obtain ⟨y0, y1, y2, y3, y4⟩ := HQ.out
  have HTX := Lib.hid (fun W (hW : VarsIn W) (hT : TabIn W) => ev_text k n d' se code W hW (by omega) hn0 hn1 hT)
  have HRF := Lib.hid (fun W => ref_text k n d' se code W (by omega) hn0 hn1)
  generalize textB k n d' se code = C at *
  have HDR := Lib.hid ((Below.refl w3.heap.size w3).drew)
  have z0 := HDR.out
  go_region_held3 (fun w' => w'.cell? ⟨w.heap.size, 0, none⟩ = some (.int .i64 k) ∧ w'.cell? ⟨w.heap.size, 1, none⟩ = some (.string d') ∧ w'.cell? ⟨w.heap.size, 2, none⟩ = some (.bool se) ∧ w'.cell? ⟨w.heap.size, 3, none⟩ = some (.int .u8 code) ∧ w'.cell? ⟨w.heap.size, 4, none⟩ = some (.int .i64 n))
    (first | go_keep)
    (first
      | (go_at_call 13; (with_reducible refine (HTX.out _ (HS3.out.next HDR.out) (HT3.out.next HDR.out)).mono ?_); rintro e wa ⟨rfl, hba⟩
         have HBA := Lib.hid (HDR.out.trans hba)
         have HXA := Lib.hid (HQ.out.next HBA.out)
         have hga := HXA.out.lt
         have a0 := HXA.out.c0
         have a1 := HXA.out.c1
         have a2 := HXA.out.c2
         have a3 := HXA.out.c3
         have a4 := HXA.out.c4
         clear hba)
      | (go_at_call 14; (with_reducible refine (HRF.out _).mono ?_); rintro e wb ⟨rfl, hbb⟩
         have HBB := Lib.hid (HBA.out.trans (hbb.mono HBA.out.size))
         have HXB := Lib.hid (HXA.out.next hbb)
         have b0 := HXB.out.c0
         have b1 := HXB.out.c1
         have b2 := HXB.out.c2
         have b3 := HXB.out.c3
         have b4 := HXB.out.c4
         clear hbb)
      | fail)
  go_wp2_with fail
  go_ret
  exact ⟨by first | rfl | simp, HB3.out.trans (HBB.out.mono HB3.out.size)⟩
end Go.Proofs.YtnocckgbcjienaaDoor
