/- The fixed fact of layer event's statements; the walks of EventRequests. Conditions: event's variables and the library's table lie as their initialisers leave them. -/
import Derived.Test.YtnocckgbcjienaaDoorEvText2
namespace Go.Proofs.YtnocckgbcjienaaDoor
open Go.RowKit
set_option linter.unusedVariables false
set_option linter.unusedSimpArgs false

theorem tab_in {l : List (String × DataW Unit)} {W : World} (h : laidMetH Tryd.prog l W) (hf : l.filter (fun x => x.1 == "internal/strconv.uint64pow10") = [("internal/strconv.uint64pow10", Rows.laid_internal_strconv_uint64pow10)]) : TabIn W := by
  have h2 := h.filter (fun x => x.1 == "internal/strconv.uint64pow10")
  rw [hf, MakeChecks.laidMetH_plain _ _ _ (by kernel_rfl)] at h2
  exact Lib.tabIs_of_head (g := 3) (t := 77) (e := 70) (n := 20) (by kernel_rfl) (by kernel_rfl) Tryd.underlying77 Tryd.underlying70 (by kernel_rfl) (by kernel_rfl) h2
theorem text_fixed : (textB 3 0 ⟨#[97]⟩ true 0).toList == ([114, 101, 108, 101, 97, 115, 101, 32, 115, 101, 108, 102, 32, 54, 49] : List UInt8) := by decide +kernel
theorem req_fixed : reqA 10 ⟨#[]⟩ 1 = 0 := by decide +kernel
set_option maxHeartbeats 2000000 in
set_option maxRecDepth 100000 in
theorem ev_awake (w : World) (hS : VarsIn w) (htab : TabIn w) :
    Calls Tryd.prog 9 #[] w fun e w' => e = .returned (.bool true) ∧ Below w.heap.size w w' := by
  have HTX := Lib.hid (ev_text 3 0 ⟨#[97]⟩ true 0 w hS (by decide) (by decide) (by decide) htab)
  have HCK := Lib.hid (fun W (hW : VarsIn W) => ev_check 10 1 ⟨#[]⟩ W hW)
  have hf := text_fixed
  rw [req_fixed] at HCK
  have HS := Lib.hid hS
  clear hS htab
  generalize textB 3 0 ⟨#[97]⟩ true 0 = X at *
  have b1 := fun W : World => run_build (P := Tryd.prog) W 31 #[(0, .int .i64 3), (2, .bool true), (1, .string ⟨#[97]⟩)] #[.int .i64 3, .string ⟨#[97]⟩, .bool true, .int .u8 0, .int .i64 0] (by kernel_rfl)
  have b2 := fun W : World => run_build (P := Tryd.prog) W 23 #[(0, .int .i64 10), (2, .int .i64 1)] #[.int .i64 10, .string ⟨#[]⟩, .int .i64 1] (by kernel_rfl)
  go_enter Tryd.func9, Tryd.ntmps9
  go_wp2_with fail
  refine HTX.out.mono ?_
  rintro e w1 ⟨rfl, hb1⟩
  have HB1 := Lib.hid hb1
  clear hb1
  go_wp2_with fail
  refine (HCK.out _ (HS.out.next HB1.out)).mono ?_
  rintro e w2 ⟨rfl, hb2⟩
  have HB2 := Lib.hid (HB1.out.trans (hb2.mono HB1.out.size))
  clear hb2
  go_wp2_with fail
  go_ret
  exact ⟨rfl, HB2.out⟩
set_option maxHeartbeats 2000000 in
set_option maxRecDepth 100000 in
theorem walk_EventRequests (k n : Int) (d : ByteArray) (w : World) (hS : VarsIn w) (htab : TabIn w) (hd : d.size ≤ maxLen) :
    Calls Tryd.prog 3 #[.agg #[.int .i64 k, .string d, .int .i64 n]] w fun e w' => e = .returned (.bool true) ∧ Below w.heap.size w w' := by
  have hb0 := (Below.refl _ w).alloc (Nat.le_refl _) (.cells #[.int .i64 k, .string d, .int .i64 n] 23)
  have HX := Lib.hid (req_new w k n d)
  have HB0 := Lib.hid hb0
  have HF0 : Hid (∀ j, (w.alloc (.cells #[.int .i64 k, .string d, .int .i64 n] 23)).frozen? ⟨w.heap.size, j, none⟩ = false) := fun j => by
    unfold World.frozen?
    rw [heap_alloc_new]
    simp
  have HS := Lib.hid (hS.next hb0)
  have HT := Lib.hid (htab.next hb0)
  have HC := Lib.hid (fun W => show Calls Tryd.prog 10 #[.string d, .int .i64 210] W fun e w' => e = .returned (.string (cutB d 210)) ∧ w' = W from (crc_cut d 210 W hd (by decide)).mono fun _ _ h => ⟨h.1, h.2.symm⟩)
  have hlt : w.heap.size < (w.alloc (.cells #[.int .i64 k, .string d, .int .i64 n] 23)).heap.size := by simp
  have hlw := hS.two
  clear hb0 hS htab hd
  generalize cutB d 210 = d' at *
  go_enter Tryd.func3, Tryd.ntmps3
  go_upto_region 1 with fail
  generalize w.alloc (.cells #[.int .i64 k, .string d, .int .i64 n] 23) = w0 at *
  go_wp2_with fail
  refine (ev_awake _ HS.out HT.out).mono ?_
  rintro e w1 ⟨rfl, hb1⟩
  have HB1 := Lib.hid (HB0.out.trans (hb1.mono HB0.out.size))
  have HS1 := Lib.hid (HS.out.next hb1)
  obtain ⟨q0, q1, q2⟩ := HX.out
  have x0 : w1.cell? ⟨w.heap.size, 0, none⟩ = some (.int .i64 k) := by rw [hb1.cell (p := ⟨w.heap.size, 0, none⟩) hlt]; exact q0
  have x1 : w1.cell? ⟨w.heap.size, 1, none⟩ = some (.string d) := by rw [hb1.cell (p := ⟨w.heap.size, 1, none⟩) hlt]; exact q1
  have x2 : w1.cell? ⟨w.heap.size, 2, none⟩ = some (.int .i64 n) := by rw [hb1.cell (p := ⟨w.heap.size, 2, none⟩) hlt]; exact q2
  have f1 : w1.frozen? ⟨w.heap.size, 1, none⟩ = false := by rw [hb1.frozen (p := ⟨w.heap.size, 1, none⟩) hlt]; exact HF0.out 1
  have hlt1 : w.heap.size < w1.heap.size := Nat.lt_of_lt_of_le hlt hb1.size
  clear hb1 HB0 HS HT HX HF0 q0 q1 q2 hlt
  go_wp2_with fail
  refine (HC.out _).mono ?_
  rintro e w2 ⟨rfl, rfl⟩
  go_upto_region 4 with fail
  have hbs : Below w.heap.size w2 (w2.setCell ⟨w.heap.size, 1, none⟩ (.string d')) := Below.setCell (Below.refl w.heap.size w2) (p := ⟨w.heap.size, 1, none⟩) (Nat.le_refl _) _
  have HQ : Hid ((w2.setCell ⟨w.heap.size, 1, none⟩ (.string d')).cell? ⟨w.heap.size, 0, none⟩ = some (.int .i64 k) ∧ (w2.setCell ⟨w.heap.size, 1, none⟩ (.string d')).cell? ⟨w.heap.size, 1, none⟩ = some (.string d') ∧ (w2.setCell ⟨w.heap.size, 1, none⟩ (.string d')).cell? ⟨w.heap.size, 2, none⟩ = some (.int .i64 n)) :=
    ⟨by rw [World.cell?_setCell_other _ _ _ _ (by simp)]; exact x0, World.cell?_setCell_same _ _ _ x1, by rw [World.cell?_setCell_other _ _ _ _ (by simp)]; exact x2⟩
  have HB3 := Lib.hid (HB1.out.trans (hbs.mono (Nat.le_refl _)))
  have HS3 : Hid (VarsIn (w2.setCell ⟨w.heap.size, 1, none⟩ (.string d'))) := ⟨fun r j hr hj => by rw [World.cell?_setCell_other _ _ _ _ (by intro h; have h2 : w.heap.size = 0 := congrArg Addr.block h; omega)]; exact HS1.out.room r j hr hj, fun r hr => by rw [World.cell?_setCell_other _ _ _ _ (by intro h; have h2 : w.heap.size = 1 := congrArg Addr.block h; omega)]; exact HS1.out.word r hr⟩
  have hl3 : w.heap.size < (w2.setCell ⟨w.heap.size, 1, none⟩ (.string d')).heap.size := by simpa using hlt1
  clear hbs x0 x1 x2 f1 HB1 HS1 hlt1
  generalize w2.setCell ⟨w.heap.size, 1, none⟩ (.string d') = w3 at *
  obtain ⟨y0, y1, y2⟩ := HQ.out
  have HCK := Lib.hid (fun W (hW : VarsIn W) => ev_check k n d' W hW)
  have HRF := Lib.hid (fun W => ev_ref_check k n d' W)
  generalize reqA k d' n = C at *
  have hC : (C == C) = true := by simp
  have HDR := Lib.hid ((Below.refl w3.heap.size w3).drew)
  have z0 := HDR.out
  go_region_held3 (fun w' => w'.cell? ⟨w.heap.size, 0, none⟩ = some (.int .i64 k) ∧ w'.cell? ⟨w.heap.size, 1, none⟩ = some (.string d') ∧ w'.cell? ⟨w.heap.size, 2, none⟩ = some (.int .i64 n))
    (first | go_keep)
    (first
      | (go_at_call 11; (with_reducible refine (HCK.out _ (HS3.out.next HDR.out)).mono ?_); rintro e wa ⟨rfl, hba⟩
         have HBA := Lib.hid (HDR.out.trans hba)
         have a0 : wa.cell? ⟨w.heap.size, 0, none⟩ = some (.int .i64 k) := by rw [HBA.out.cell (p := ⟨w.heap.size, 0, none⟩) hl3]; exact HQ.out.1
         have a1 : wa.cell? ⟨w.heap.size, 1, none⟩ = some (.string d') := by rw [HBA.out.cell (p := ⟨w.heap.size, 1, none⟩) hl3]; exact HQ.out.2.1
         have a2 : wa.cell? ⟨w.heap.size, 2, none⟩ = some (.int .i64 n) := by rw [HBA.out.cell (p := ⟨w.heap.size, 2, none⟩) hl3]; exact HQ.out.2.2
         clear hba)
      | (go_at_call 12; (with_reducible refine (HRF.out _).mono ?_); rintro e wb ⟨rfl, rfl⟩)
      | fail)
  go_wp2_with fail
  go_ret
  exact ⟨by first | rfl | simp, HB3.out.trans (HBA.out.mono HB3.out.size)⟩
end Go.Proofs.YtnocckgbcjienaaDoor
