/- The law's own fixed fact of layer 5. No conditions. -/
import Derived.Test.YtimmineopkmdmaaDoorFrameMath
import Derived.Laws.StructEq
namespace Go.Proofs.YtimmineopkmdmaaDoor
open Go.RowKit Go.Shelf
set_option linter.unusedVariables false
set_option linter.unusedSimpArgs false

theorem eqFrame (u : Int) (d : ByteArray) (w : World) : Sem.run Tryd.prog (binOp .eql 31 (.agg #[.int .u8 u, .string d]) (.agg #[.int .u8 u, .string d])) w = .ok (.bool true) w := by
  have hS : Tryd.prog.underlying 31 = some (.struct (Tryd.prog.fieldsOf 31)) := by kernel_rfl
  have hp : Tryd.prog.stoodInHeld 31 = false := by kernel_rfl
  rw [run_eql_struct, show (10000 : Nat) = 9999 + 1 from rfl, run_equalIn_agg w 9999 31 _ _ hS hp]
  simp only [Program.fieldsOf, Tryd.underlying31]
  have u3 := Tryd.underlying5
  have a3 := Tryd.isAgg5
  have z3 := Tryd.sizeOf5
  have u9 := Tryd.underlying9
  have a9 := Tryd.isAgg9
  have z9 := Tryd.sizeOf9
  go_simp

set_option maxHeartbeats 1000000 in
set_option maxRecDepth 100000 in
theorem frame_awake (w : World) : Calls Tryd.prog 13 #[] w fun e w' => e = .returned (.bool true) ∧ Below w.heap.size w w' := by
  have hz := (zero_of_info infoTab).1
  have HZ := Lib.hid zeros_tab
  generalize zeros256 = Z at *
  have hsz : (frameB 7 ⟨#[97, 98]⟩).size = 48 := by rw [frame_size]; rfl
  have HPF := Lib.hid (fun g W (h : Has w W g) => parse_frame 7 ⟨#[97, 98]⟩ g w W (by decide) (by decide) h)
  have HFB := Lib.hid (fun g W (h : Has w W g) => frame_bytes 7 ⟨#[97, 98]⟩ g w W (by decide) (by decide) h)
  have heq := eqFrame 7 ⟨#[97, 98]⟩
  have hgd : ∀ (op : BinOp) (x y : Operand) (a c : Int) (b d : ByteArray) (w : World), Sem.run Tryd.prog (eqGuard op 31 x y (.agg #[.int .u8 a, .string b]) (.agg #[.int .u8 c, .string d])) w = .ok () w := fun op x y a c b d w => run_eqGuard_agg w op _ x y _ _ (by kernel_rfl)
  generalize frameB 7 ⟨#[97, 98]⟩ = FB at *
  go_enter Tryd.func13, Tryd.ntmps13
  go_wp2_with fail
  refine (crc_make _).mono ?_
  rintro e w1 ⟨rfl, hb1⟩
  go_wp2_with (refine wpList_store_row rfl 26 (.tmp 1) (.tmp 6) rfl w1.heap.size tabArr rfl rfl 26 Z (heap_alloc_new w1 _) tabInfo HZ.out tabArr_one ?_)
  have hh := Has.made hb1 Z 26
  generalize (w1.alloc (.cells Z 26)).setRow w1.heap.size tabArr = w2 at *
  generalize w1.heap.size = g at *
  have HH := Lib.hid hh
  clear hb1 hh
  go_wp2_with fail
  refine (HFB.out g w2 HH.out).mono ?_
  rintro e w3 ⟨rfl, hh3⟩
  have H3 := Lib.hid hh3
  clear hh3
  go_wp2_with fail
  refine (HPF.out g w3 H3.out).mono ?_
  rintro e w4 ⟨rfl, hh4⟩
  have HB4 := Lib.hid ((hh4.below).alloc hh4.below.size (.cells #[.int .u8 7, .string ⟨#[97, 98]⟩] 31))
  obtain ⟨c0, c1⟩ := agg_new w4 7 ⟨#[97, 98]⟩ 31
  clear hh4
  go_wp2_with fail
  refine (cells 0 _ (by decide) (by decide)).mono ?_
  rintro e w5 ⟨rfl, rfl⟩
  rw [show cellsOf 0 = 1 by decide]
  go_wp2_with fail
  go_ret
  exact ⟨rfl, HB4.out⟩
end Go.Proofs.YtimmineopkmdmaaDoor
