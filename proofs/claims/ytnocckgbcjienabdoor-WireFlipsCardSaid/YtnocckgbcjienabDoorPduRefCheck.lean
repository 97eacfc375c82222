/- The contract of the document's own Check of a unit. Conditions: its row lies as a row does. -/
import Derived.Test.YtnocckgbcjienabDoorPduRefBox
namespace Go.Proofs.YtnocckgbcjienabDoor
open Go.RowKit
set_option linter.unusedVariables false
set_option linter.unusedSimpArgs false

set_option maxHeartbeats 8000000 in
set_option maxRecDepth 100000 in
theorem ref_check (k sq n ps mr : Int) (p : Option Addr) (len cap : Nat) (xs : List Int) (se : Bool) (d : ByteArray) (w : World) (hlen : len = xs.length) (hr : IRow w (.slice p len cap) xs) :
    Calls Tryd.prog 14 #[.agg #[.int .i64 k, .int .i64 sq, .int .i64 n, .int .i64 ps, .int .i64 mr, .slice p len cap, .bool se, .string d]] w fun e w' => e = .returned (.int .i64 (rCheck k sq n ps mr xs se d)) ∧ Below w.heap.size w w' := by
  have HLE := Lib.hid hlen
  have hl9 : len ≤ 1048576 := by obtain ⟨_, _, _, h, _⟩ := hr; omega
  clear hlen
  have HBX := Lib.hid (rbox_new w k sq n ps mr (.slice p len cap) se d)
  have HB := Lib.hid ((Below.refl _ w).alloc (Nat.le_refl _) (.cells #[.int .i64 k, .int .i64 sq, .int .i64 n, .int .i64 ps, .int .i64 mr, .slice p len cap, .bool se, .string d] 24))
  have HR := Lib.hid (hr.below ((Below.refl _ w).alloc (Nat.le_refl _) (.cells #[.int .i64 k, .int .i64 sq, .int .i64 n, .int .i64 ps, .int .i64 mr, .slice p len cap, .bool se, .string d] 24)))
  clear hr
  by_cases hk : 1 ≤ k ∧ k ≤ 15
  · have HV0 : Hid (rCheck k sq n ps mr xs se d = if v4 k len d = true then 6 else if (v7 k sq n ps mr d || v8 k sq n se || v9 k ps mr || v12 k len || v15 xs) = true then 1 else 0) := by show _ = _; unfold rCheck; rw [if_pos hk, HLE.out]
    have d1 : decide (k < 1) = false := by rw [decide_eq_false_iff_not]; omega
    have d2 : decide (15 < k) = false := by rw [decide_eq_false_iff_not]; omega
    have HMS := Lib.hid (fun W => ref_most k W)
    have HSQ := Lib.hid (fun W => ref_hasSQ k W)
    have HNN := Lib.hid (fun W => ref_hasN k W)
    have HL1 := Lib.hid (fun W => ref_low n W)
    have HL2 := Lib.hid (fun W => ref_low ps W)
    have HL3 := Lib.hid (fun W => ref_low mr W)
    obtain ⟨x0, x1, x2, x3, x4, x5, x6, x7⟩ := HBX.out
    clear hk
    go_enter Tryd.func14, Tryd.ntmps14
    go_upto_region 1 with fail
    generalize w.alloc (.cells #[.int .i64 k, .int .i64 sq, .int .i64 n, .int .i64 ps, .int .i64 mr, .slice p len cap, .bool se, .string d] 24) = W at *
    go_wp2_with fail
    refine (HMS.out _).mono ?_
    rintro e w1 ⟨rfl, hb1⟩
    have HBX1 := Lib.hid (HBX.out.next hb1)
    have HR1 := Lib.hid (HR.out.below hb1)
    have HB1 := Lib.hid (HB.out.trans (hb1.mono HB.out.size))
    clear hb1 x0 x1 x2 x3 x4 x5 x6 x7 d1 d2 HMS
    have HV4 : Hid (v4 k len d = ((decide (0 < mostI k) && decide (mostI k < (d.size : Int))) || decide (128 < (len : Int)))) := rfl
    have HV7 : Hid (v7 k sq n ps mr d = ((mostI k == 0 && !d.toList.isEmpty) || !lowB n || !lowB ps || !lowB mr || decide (sq < 0) || decide (255 < sq))) := rfl
    generalize mostI k = mst at *
    go_upto_region 4 with fail
    go_cut [31] (fun s w' => s = .bool (v4 k len d) ∧ w1 = w')
    case first =>
      obtain ⟨x0, x1, x2, x3, x4, x5, x6, x7⟩ := HBX1.out
      generalize v4 k len d = V at *
      have a1 : decide (0 < mst) = decide (0 < mst) := rfl
      generalize e1 : decide (0 < mst) = A at *
      generalize e2 : decide (mst < (d.size : Int)) = B at *
      generalize e3 : decide (128 < (len : Int)) = C at *
      clear a1
      cases A
      · skip
        cases C
        · skip
          as_aux_lemma =>
            go_wp2_with fail
            go_meet
            exact ⟨by rw [HV4.out]; rfl, rfl⟩
        · skip
          as_aux_lemma =>
            go_wp2_with fail
            go_meet
            exact ⟨by rw [HV4.out]; rfl, rfl⟩
      · skip
        cases B
        · skip
          cases C
          · skip
            as_aux_lemma =>
              go_wp2_with fail
              go_meet
              exact ⟨by rw [HV4.out]; rfl, rfl⟩
          · skip
            as_aux_lemma =>
              go_wp2_with fail
              go_meet
              exact ⟨by rw [HV4.out]; rfl, rfl⟩
        · skip
          as_aux_lemma =>
            go_wp2_with fail
            go_meet
            exact ⟨by rw [HV4.out]; rfl, rfl⟩
    case rest =>
      obtain ⟨rfl, rfl⟩ := hcut
      cases hv : v4 k len d with
      | true =>
        rw [hv] at HV0
        go_wp2_with fail
        go_ret
        exact ⟨by rw [HV0.out]; rfl, HB1.out⟩
      | false =>
        rw [hv] at HV0
        obtain ⟨x0, x1, x2, x3, x4, x5, x6, x7⟩ := HBX1.out
        go_upto_region 6 with fail
        go_cut [66] (fun s w' => s = .bool (v7 k sq n ps mr d) ∧ w1 = w')
        case first =>
          generalize v7 k sq n ps mr d = V at *
          generalize e1 : (mst == 0) = A at *
          have e3 : (d.toList = [] ∧ d.toList.isEmpty = true) ∨ (¬ d.toList = [] ∧ d.toList.isEmpty = false) := by cases d.toList <;> simp
          generalize lowB n = C at *
          generalize lowB ps = D at *
          generalize lowB mr = E at *
          generalize e4 : decide (sq < 0) = F at *
          generalize e5 : decide (255 < sq) = G at *
          cases A
          · skip
            cases C
            · skip
              as_aux_lemma =>
                go_wp2_with (first | (go_at_call 40; (with_reducible refine (HL1.out _).mono ?_); rintro e wl ⟨rfl, rfl⟩) | (go_at_call 40; (with_reducible refine (HL2.out _).mono ?_); rintro e wl ⟨rfl, rfl⟩) | (go_at_call 40; (with_reducible refine (HL3.out _).mono ?_); rintro e wl ⟨rfl, rfl⟩))
                go_meet
                exact ⟨by rw [HV7.out]; rfl, rfl⟩
            · skip
              cases D
              · skip
                as_aux_lemma =>
                  go_wp2_with (first | (go_at_call 40; (with_reducible refine (HL1.out _).mono ?_); rintro e wl ⟨rfl, rfl⟩) | (go_at_call 40; (with_reducible refine (HL2.out _).mono ?_); rintro e wl ⟨rfl, rfl⟩) | (go_at_call 40; (with_reducible refine (HL3.out _).mono ?_); rintro e wl ⟨rfl, rfl⟩))
                  go_meet
                  exact ⟨by rw [HV7.out]; rfl, rfl⟩
              · skip
                cases E
                · skip
                  as_aux_lemma =>
                    go_wp2_with (first | (go_at_call 40; (with_reducible refine (HL1.out _).mono ?_); rintro e wl ⟨rfl, rfl⟩) | (go_at_call 40; (with_reducible refine (HL2.out _).mono ?_); rintro e wl ⟨rfl, rfl⟩) | (go_at_call 40; (with_reducible refine (HL3.out _).mono ?_); rintro e wl ⟨rfl, rfl⟩))
                    go_meet
                    exact ⟨by rw [HV7.out]; rfl, rfl⟩
                · skip
                  cases F
                  · skip
                    cases G
                    · skip
                      as_aux_lemma =>
                        go_wp2_with (first | (go_at_call 40; (with_reducible refine (HL1.out _).mono ?_); rintro e wl ⟨rfl, rfl⟩) | (go_at_call 40; (with_reducible refine (HL2.out _).mono ?_); rintro e wl ⟨rfl, rfl⟩) | (go_at_call 40; (with_reducible refine (HL3.out _).mono ?_); rintro e wl ⟨rfl, rfl⟩))
                        go_meet
                        exact ⟨by rw [HV7.out]; rfl, rfl⟩
                    · skip
                      as_aux_lemma =>
                        go_wp2_with (first | (go_at_call 40; (with_reducible refine (HL1.out _).mono ?_); rintro e wl ⟨rfl, rfl⟩) | (go_at_call 40; (with_reducible refine (HL2.out _).mono ?_); rintro e wl ⟨rfl, rfl⟩) | (go_at_call 40; (with_reducible refine (HL3.out _).mono ?_); rintro e wl ⟨rfl, rfl⟩))
                        go_meet
                        exact ⟨by rw [HV7.out]; rfl, rfl⟩
                  · skip
                    as_aux_lemma =>
                      go_wp2_with (first | (go_at_call 40; (with_reducible refine (HL1.out _).mono ?_); rintro e wl ⟨rfl, rfl⟩) | (go_at_call 40; (with_reducible refine (HL2.out _).mono ?_); rintro e wl ⟨rfl, rfl⟩) | (go_at_call 40; (with_reducible refine (HL3.out _).mono ?_); rintro e wl ⟨rfl, rfl⟩))
                      go_meet
                      exact ⟨by rw [HV7.out]; rfl, rfl⟩
          · skip
            rcases e3 with ⟨e3, e4'⟩ | ⟨e3, e4'⟩
            · rw [e4'] at HV7
              have e5' : (!d.toList.isEmpty) = false := by rw [e4']; rfl
              cases C
              · skip
                as_aux_lemma =>
                  go_wp2_with (first | (go_at_call 40; (with_reducible refine (HL1.out _).mono ?_); rintro e wl ⟨rfl, rfl⟩) | (go_at_call 40; (with_reducible refine (HL2.out _).mono ?_); rintro e wl ⟨rfl, rfl⟩) | (go_at_call 40; (with_reducible refine (HL3.out _).mono ?_); rintro e wl ⟨rfl, rfl⟩))
                  go_meet
                  exact ⟨by rw [HV7.out]; rfl, rfl⟩
              · skip
                cases D
                · skip
                  as_aux_lemma =>
                    go_wp2_with (first | (go_at_call 40; (with_reducible refine (HL1.out _).mono ?_); rintro e wl ⟨rfl, rfl⟩) | (go_at_call 40; (with_reducible refine (HL2.out _).mono ?_); rintro e wl ⟨rfl, rfl⟩) | (go_at_call 40; (with_reducible refine (HL3.out _).mono ?_); rintro e wl ⟨rfl, rfl⟩))
                    go_meet
                    exact ⟨by rw [HV7.out]; rfl, rfl⟩
                · skip
                  cases E
                  · skip
                    as_aux_lemma =>
                      go_wp2_with (first | (go_at_call 40; (with_reducible refine (HL1.out _).mono ?_); rintro e wl ⟨rfl, rfl⟩) | (go_at_call 40; (with_reducible refine (HL2.out _).mono ?_); rintro e wl ⟨rfl, rfl⟩) | (go_at_call 40; (with_reducible refine (HL3.out _).mono ?_); rintro e wl ⟨rfl, rfl⟩))
                      go_meet
                      exact ⟨by rw [HV7.out]; rfl, rfl⟩
                  · skip
                    cases F
                    · skip
                      cases G
                      · skip
                        as_aux_lemma =>
                          go_wp2_with (first | (go_at_call 40; (with_reducible refine (HL1.out _).mono ?_); rintro e wl ⟨rfl, rfl⟩) | (go_at_call 40; (with_reducible refine (HL2.out _).mono ?_); rintro e wl ⟨rfl, rfl⟩) | (go_at_call 40; (with_reducible refine (HL3.out _).mono ?_); rintro e wl ⟨rfl, rfl⟩))
                          go_meet
                          exact ⟨by rw [HV7.out]; rfl, rfl⟩
                      · skip
                        as_aux_lemma =>
                          go_wp2_with (first | (go_at_call 40; (with_reducible refine (HL1.out _).mono ?_); rintro e wl ⟨rfl, rfl⟩) | (go_at_call 40; (with_reducible refine (HL2.out _).mono ?_); rintro e wl ⟨rfl, rfl⟩) | (go_at_call 40; (with_reducible refine (HL3.out _).mono ?_); rintro e wl ⟨rfl, rfl⟩))
                          go_meet
                          exact ⟨by rw [HV7.out]; rfl, rfl⟩
                    · skip
                      as_aux_lemma =>
                        go_wp2_with (first | (go_at_call 40; (with_reducible refine (HL1.out _).mono ?_); rintro e wl ⟨rfl, rfl⟩) | (go_at_call 40; (with_reducible refine (HL2.out _).mono ?_); rintro e wl ⟨rfl, rfl⟩) | (go_at_call 40; (with_reducible refine (HL3.out _).mono ?_); rintro e wl ⟨rfl, rfl⟩))
                        go_meet
                        exact ⟨by rw [HV7.out]; rfl, rfl⟩
            · rw [e4'] at HV7
              have e5' : (!d.toList.isEmpty) = true := by rw [e4']; rfl
              as_aux_lemma =>
                go_wp2_with (first | (go_at_call 40; (with_reducible refine (HL1.out _).mono ?_); rintro e wl ⟨rfl, rfl⟩) | (go_at_call 40; (with_reducible refine (HL2.out _).mono ?_); rintro e wl ⟨rfl, rfl⟩) | (go_at_call 40; (with_reducible refine (HL3.out _).mono ?_); rintro e wl ⟨rfl, rfl⟩))
                go_meet
                exact ⟨by rw [HV7.out]; rfl, rfl⟩
        case rest =>
          clear x0 x1 x2 x3 x4 x5 x6 x7
          obtain ⟨rfl, rfl⟩ := hcut
          cases hv : v7 k sq n ps mr d with
          | true =>
            rw [hv] at HV0
            go_wp2_with fail
            go_ret
            exact ⟨by rw [HV0.out]; rfl, HB1.out⟩
          | false =>
            rw [hv] at HV0
            have HV8 : Hid (v8 k sq n se = ((!hasSQi k && sq != 0) || (!hasNi k && n != 0) || (k != 3 && se))) := rfl
            obtain ⟨x0, x1, x2, x3, x4, x5, x6, x7⟩ := HBX1.out
            go_upto_region 8 with fail
            clear x0 x1 x2 x3 x4 x5 x6 x7
            go_cut [95] (fun s w' => s = .bool (v8 k sq n se) ∧ ∃ wz, wz = w' ∧ Hid (Below w1.heap.size w1 w'))
            case first =>
              generalize v8 k sq n se = V at *
              generalize hasSQi k = A at *
              generalize e1 : (sq != 0) = B at *
              generalize hasNi k = C at *
              generalize e2 : (n != 0) = D at *
              generalize e3 : (k != 3) = E at *
              obtain ⟨x0, x1, x2, x3, x4, x5, x6, x7⟩ := HBX1.out
              cases A
              · cases B
                · skip
                  cases C
                  · cases D
                    · skip
                      cases E
                      · skip
                        as_aux_lemma =>
                          go_wp2_with fail
                          refine (HSQ.out _).mono ?_
                          rintro e wa ⟨rfl, hba⟩
                          have HBXa := Lib.hid (HBX1.out.next hba)
                          have HBa := Lib.hid hba
                          clear hba x0 x1 x2 x3 x4 x5 x6 x7
                          obtain ⟨x0, x1, x2, x3, x4, x5, x6, x7⟩ := HBXa.out
                          go_wp2_with fail
                          refine (HNN.out _).mono ?_
                          rintro e wb ⟨rfl, hbb⟩
                          have HBXb := Lib.hid (HBXa.out.next hbb)
                          have HBb := Lib.hid (HBa.out.trans (hbb.mono HBa.out.size))
                          clear hbb x0 x1 x2 x3 x4 x5 x6 x7
                          obtain ⟨x0, x1, x2, x3, x4, x5, x6, x7⟩ := HBXb.out
                          go_wp2_with fail
                          go_meet
                          exact ⟨by rw [HV8.out]; rfl, _, rfl, HBb⟩
                      · skip
                        cases se
                        · skip
                          as_aux_lemma =>
                            go_wp2_with fail
                            refine (HSQ.out _).mono ?_
                            rintro e wa ⟨rfl, hba⟩
                            have HBXa := Lib.hid (HBX1.out.next hba)
                            have HBa := Lib.hid hba
                            clear hba x0 x1 x2 x3 x4 x5 x6 x7
                            obtain ⟨x0, x1, x2, x3, x4, x5, x6, x7⟩ := HBXa.out
                            go_wp2_with fail
                            refine (HNN.out _).mono ?_
                            rintro e wb ⟨rfl, hbb⟩
                            have HBXb := Lib.hid (HBXa.out.next hbb)
                            have HBb := Lib.hid (HBa.out.trans (hbb.mono HBa.out.size))
                            clear hbb x0 x1 x2 x3 x4 x5 x6 x7
                            obtain ⟨x0, x1, x2, x3, x4, x5, x6, x7⟩ := HBXb.out
                            go_wp2_with fail
                            go_meet
                            exact ⟨by rw [HV8.out]; rfl, _, rfl, HBb⟩
                        · skip
                          as_aux_lemma =>
                            go_wp2_with fail
                            refine (HSQ.out _).mono ?_
                            rintro e wa ⟨rfl, hba⟩
                            have HBXa := Lib.hid (HBX1.out.next hba)
                            have HBa := Lib.hid hba
                            clear hba x0 x1 x2 x3 x4 x5 x6 x7
                            obtain ⟨x0, x1, x2, x3, x4, x5, x6, x7⟩ := HBXa.out
                            go_wp2_with fail
                            refine (HNN.out _).mono ?_
                            rintro e wb ⟨rfl, hbb⟩
                            have HBXb := Lib.hid (HBXa.out.next hbb)
                            have HBb := Lib.hid (HBa.out.trans (hbb.mono HBa.out.size))
                            clear hbb x0 x1 x2 x3 x4 x5 x6 x7
                            obtain ⟨x0, x1, x2, x3, x4, x5, x6, x7⟩ := HBXb.out
                            go_wp2_with fail
                            go_meet
                            exact ⟨by rw [HV8.out]; rfl, _, rfl, HBb⟩
                    · skip
                      as_aux_lemma =>
                        go_wp2_with fail
                        refine (HSQ.out _).mono ?_
                        rintro e wa ⟨rfl, hba⟩
                        have HBXa := Lib.hid (HBX1.out.next hba)
                        have HBa := Lib.hid hba
                        clear hba x0 x1 x2 x3 x4 x5 x6 x7
                        obtain ⟨x0, x1, x2, x3, x4, x5, x6, x7⟩ := HBXa.out
                        go_wp2_with fail
                        refine (HNN.out _).mono ?_
                        rintro e wb ⟨rfl, hbb⟩
                        have HBXb := Lib.hid (HBXa.out.next hbb)
                        have HBb := Lib.hid (HBa.out.trans (hbb.mono HBa.out.size))
                        clear hbb x0 x1 x2 x3 x4 x5 x6 x7
                        obtain ⟨x0, x1, x2, x3, x4, x5, x6, x7⟩ := HBXb.out
                        go_wp2_with fail
                        go_meet
                        exact ⟨by rw [HV8.out]; rfl, _, rfl, HBb⟩
                  · skip
                    cases E
                    · skip
                      as_aux_lemma =>
                        go_wp2_with fail
                        refine (HSQ.out _).mono ?_
                        rintro e wa ⟨rfl, hba⟩
                        have HBXa := Lib.hid (HBX1.out.next hba)
                        have HBa := Lib.hid hba
                        clear hba x0 x1 x2 x3 x4 x5 x6 x7
                        obtain ⟨x0, x1, x2, x3, x4, x5, x6, x7⟩ := HBXa.out
                        go_wp2_with fail
                        refine (HNN.out _).mono ?_
                        rintro e wb ⟨rfl, hbb⟩
                        have HBXb := Lib.hid (HBXa.out.next hbb)
                        have HBb := Lib.hid (HBa.out.trans (hbb.mono HBa.out.size))
                        clear hbb x0 x1 x2 x3 x4 x5 x6 x7
                        obtain ⟨x0, x1, x2, x3, x4, x5, x6, x7⟩ := HBXb.out
                        go_wp2_with fail
                        go_meet
                        exact ⟨by rw [HV8.out]; rfl, _, rfl, HBb⟩
                    · skip
                      cases se
                      · skip
                        as_aux_lemma =>
                          go_wp2_with fail
                          refine (HSQ.out _).mono ?_
                          rintro e wa ⟨rfl, hba⟩
                          have HBXa := Lib.hid (HBX1.out.next hba)
                          have HBa := Lib.hid hba
                          clear hba x0 x1 x2 x3 x4 x5 x6 x7
                          obtain ⟨x0, x1, x2, x3, x4, x5, x6, x7⟩ := HBXa.out
                          go_wp2_with fail
                          refine (HNN.out _).mono ?_
                          rintro e wb ⟨rfl, hbb⟩
                          have HBXb := Lib.hid (HBXa.out.next hbb)
                          have HBb := Lib.hid (HBa.out.trans (hbb.mono HBa.out.size))
                          clear hbb x0 x1 x2 x3 x4 x5 x6 x7
                          obtain ⟨x0, x1, x2, x3, x4, x5, x6, x7⟩ := HBXb.out
                          go_wp2_with fail
                          go_meet
                          exact ⟨by rw [HV8.out]; rfl, _, rfl, HBb⟩
                      · skip
                        as_aux_lemma =>
                          go_wp2_with fail
                          refine (HSQ.out _).mono ?_
                          rintro e wa ⟨rfl, hba⟩
                          have HBXa := Lib.hid (HBX1.out.next hba)
                          have HBa := Lib.hid hba
                          clear hba x0 x1 x2 x3 x4 x5 x6 x7
                          obtain ⟨x0, x1, x2, x3, x4, x5, x6, x7⟩ := HBXa.out
                          go_wp2_with fail
                          refine (HNN.out _).mono ?_
                          rintro e wb ⟨rfl, hbb⟩
                          have HBXb := Lib.hid (HBXa.out.next hbb)
                          have HBb := Lib.hid (HBa.out.trans (hbb.mono HBa.out.size))
                          clear hbb x0 x1 x2 x3 x4 x5 x6 x7
                          obtain ⟨x0, x1, x2, x3, x4, x5, x6, x7⟩ := HBXb.out
                          go_wp2_with fail
                          go_meet
                          exact ⟨by rw [HV8.out]; rfl, _, rfl, HBb⟩
                · skip
                  as_aux_lemma =>
                    go_wp2_with fail
                    refine (HSQ.out _).mono ?_
                    rintro e wa ⟨rfl, hba⟩
                    have HBXa := Lib.hid (HBX1.out.next hba)
                    have HBa := Lib.hid hba
                    clear hba x0 x1 x2 x3 x4 x5 x6 x7
                    obtain ⟨x0, x1, x2, x3, x4, x5, x6, x7⟩ := HBXa.out
                    go_wp2_with fail
                    go_meet
                    exact ⟨by rw [HV8.out]; rfl, _, rfl, HBa⟩
              · skip
                cases C
                · cases D
                  · skip
                    cases E
                    · skip
                      as_aux_lemma =>
                        go_wp2_with fail
                        refine (HSQ.out _).mono ?_
                        rintro e wa ⟨rfl, hba⟩
                        have HBXa := Lib.hid (HBX1.out.next hba)
                        have HBa := Lib.hid hba
                        clear hba x0 x1 x2 x3 x4 x5 x6 x7
                        obtain ⟨x0, x1, x2, x3, x4, x5, x6, x7⟩ := HBXa.out
                        go_wp2_with fail
                        refine (HNN.out _).mono ?_
                        rintro e wb ⟨rfl, hbb⟩
                        have HBXb := Lib.hid (HBXa.out.next hbb)
                        have HBb := Lib.hid (HBa.out.trans (hbb.mono HBa.out.size))
                        clear hbb x0 x1 x2 x3 x4 x5 x6 x7
                        obtain ⟨x0, x1, x2, x3, x4, x5, x6, x7⟩ := HBXb.out
                        go_wp2_with fail
                        go_meet
                        exact ⟨by rw [HV8.out]; rfl, _, rfl, HBb⟩
                    · skip
                      cases se
                      · skip
                        as_aux_lemma =>
                          go_wp2_with fail
                          refine (HSQ.out _).mono ?_
                          rintro e wa ⟨rfl, hba⟩
                          have HBXa := Lib.hid (HBX1.out.next hba)
                          have HBa := Lib.hid hba
                          clear hba x0 x1 x2 x3 x4 x5 x6 x7
                          obtain ⟨x0, x1, x2, x3, x4, x5, x6, x7⟩ := HBXa.out
                          go_wp2_with fail
                          refine (HNN.out _).mono ?_
                          rintro e wb ⟨rfl, hbb⟩
                          have HBXb := Lib.hid (HBXa.out.next hbb)
                          have HBb := Lib.hid (HBa.out.trans (hbb.mono HBa.out.size))
                          clear hbb x0 x1 x2 x3 x4 x5 x6 x7
                          obtain ⟨x0, x1, x2, x3, x4, x5, x6, x7⟩ := HBXb.out
                          go_wp2_with fail
                          go_meet
                          exact ⟨by rw [HV8.out]; rfl, _, rfl, HBb⟩
                      · skip
                        as_aux_lemma =>
                          go_wp2_with fail
                          refine (HSQ.out _).mono ?_
                          rintro e wa ⟨rfl, hba⟩
                          have HBXa := Lib.hid (HBX1.out.next hba)
                          have HBa := Lib.hid hba
                          clear hba x0 x1 x2 x3 x4 x5 x6 x7
                          obtain ⟨x0, x1, x2, x3, x4, x5, x6, x7⟩ := HBXa.out
                          go_wp2_with fail
                          refine (HNN.out _).mono ?_
                          rintro e wb ⟨rfl, hbb⟩
                          have HBXb := Lib.hid (HBXa.out.next hbb)
                          have HBb := Lib.hid (HBa.out.trans (hbb.mono HBa.out.size))
                          clear hbb x0 x1 x2 x3 x4 x5 x6 x7
                          obtain ⟨x0, x1, x2, x3, x4, x5, x6, x7⟩ := HBXb.out
                          go_wp2_with fail
                          go_meet
                          exact ⟨by rw [HV8.out]; rfl, _, rfl, HBb⟩
                  · skip
                    as_aux_lemma =>
                      go_wp2_with fail
                      refine (HSQ.out _).mono ?_
                      rintro e wa ⟨rfl, hba⟩
                      have HBXa := Lib.hid (HBX1.out.next hba)
                      have HBa := Lib.hid hba
                      clear hba x0 x1 x2 x3 x4 x5 x6 x7
                      obtain ⟨x0, x1, x2, x3, x4, x5, x6, x7⟩ := HBXa.out
                      go_wp2_with fail
                      refine (HNN.out _).mono ?_
                      rintro e wb ⟨rfl, hbb⟩
                      have HBXb := Lib.hid (HBXa.out.next hbb)
                      have HBb := Lib.hid (HBa.out.trans (hbb.mono HBa.out.size))
                      clear hbb x0 x1 x2 x3 x4 x5 x6 x7
                      obtain ⟨x0, x1, x2, x3, x4, x5, x6, x7⟩ := HBXb.out
                      go_wp2_with fail
                      go_meet
                      exact ⟨by rw [HV8.out]; rfl, _, rfl, HBb⟩
                · skip
                  cases E
                  · skip
                    as_aux_lemma =>
                      go_wp2_with fail
                      refine (HSQ.out _).mono ?_
                      rintro e wa ⟨rfl, hba⟩
                      have HBXa := Lib.hid (HBX1.out.next hba)
                      have HBa := Lib.hid hba
                      clear hba x0 x1 x2 x3 x4 x5 x6 x7
                      obtain ⟨x0, x1, x2, x3, x4, x5, x6, x7⟩ := HBXa.out
                      go_wp2_with fail
                      refine (HNN.out _).mono ?_
                      rintro e wb ⟨rfl, hbb⟩
                      have HBXb := Lib.hid (HBXa.out.next hbb)
                      have HBb := Lib.hid (HBa.out.trans (hbb.mono HBa.out.size))
                      clear hbb x0 x1 x2 x3 x4 x5 x6 x7
                      obtain ⟨x0, x1, x2, x3, x4, x5, x6, x7⟩ := HBXb.out
                      go_wp2_with fail
                      go_meet
                      exact ⟨by rw [HV8.out]; rfl, _, rfl, HBb⟩
                  · skip
                    cases se
                    · skip
                      as_aux_lemma =>
                        go_wp2_with fail
                        refine (HSQ.out _).mono ?_
                        rintro e wa ⟨rfl, hba⟩
                        have HBXa := Lib.hid (HBX1.out.next hba)
                        have HBa := Lib.hid hba
                        clear hba x0 x1 x2 x3 x4 x5 x6 x7
                        obtain ⟨x0, x1, x2, x3, x4, x5, x6, x7⟩ := HBXa.out
                        go_wp2_with fail
                        refine (HNN.out _).mono ?_
                        rintro e wb ⟨rfl, hbb⟩
                        have HBXb := Lib.hid (HBXa.out.next hbb)
                        have HBb := Lib.hid (HBa.out.trans (hbb.mono HBa.out.size))
                        clear hbb x0 x1 x2 x3 x4 x5 x6 x7
                        obtain ⟨x0, x1, x2, x3, x4, x5, x6, x7⟩ := HBXb.out
                        go_wp2_with fail
                        go_meet
                        exact ⟨by rw [HV8.out]; rfl, _, rfl, HBb⟩
                    · skip
                      as_aux_lemma =>
                        go_wp2_with fail
                        refine (HSQ.out _).mono ?_
                        rintro e wa ⟨rfl, hba⟩
                        have HBXa := Lib.hid (HBX1.out.next hba)
                        have HBa := Lib.hid hba
                        clear hba x0 x1 x2 x3 x4 x5 x6 x7
                        obtain ⟨x0, x1, x2, x3, x4, x5, x6, x7⟩ := HBXa.out
                        go_wp2_with fail
                        refine (HNN.out _).mono ?_
                        rintro e wb ⟨rfl, hbb⟩
                        have HBXb := Lib.hid (HBXa.out.next hbb)
                        have HBb := Lib.hid (HBa.out.trans (hbb.mono HBa.out.size))
                        clear hbb x0 x1 x2 x3 x4 x5 x6 x7
                        obtain ⟨x0, x1, x2, x3, x4, x5, x6, x7⟩ := HBXb.out
                        go_wp2_with fail
                        go_meet
                        exact ⟨by rw [HV8.out]; rfl, _, rfl, HBb⟩
            case rest =>
              obtain ⟨rfl, w2, rfl, HB12⟩ := hcut
              have HBX2 := Lib.hid (HBX1.out.next HB12.out)
              have HR2 := Lib.hid (HR1.out.below HB12.out)
              have HB2 := Lib.hid (HB1.out.trans (HB12.out.mono HB1.out.size))
              clear HB12
              cases hv : v8 k sq n se with
              | true =>
                rw [hv] at HV0
                go_wp2_with fail
                go_ret
                exact ⟨by rw [HV0.out]; rfl, HB2.out⟩
              | false =>
                rw [hv] at HV0
                have HV9 : Hid (v9 k ps mr = ((!memB k [10, 11] && ps != 0) || (!memB k [11, 12] && mr != 0))) := rfl
                have HIN1 : Hid (Calls Tryd.prog 43 #[.int .i64 k, .slice (some ⟨w2.heap.size, 0, none⟩) 2 2] (w2.alloc (.cells #[.int .i64 10, .int .i64 11] 3)) fun e w' => e = .returned (.bool (memB k [10, 11])) ∧ w2.alloc (.cells #[.int .i64 10, .int .i64 11] 3) = w') := ref_in k _ _ _ (iRow_new w2 [10, 11] 3 (by decide))
                have HIN2 : Hid (Calls Tryd.prog 43 #[.int .i64 k, .slice (some ⟨w2.heap.size + 1, 0, none⟩) 2 2] ((w2.alloc (.cells #[.int .i64 10, .int .i64 11] 3)).alloc (.cells #[.int .i64 11, .int .i64 12] 3)) fun e w' => e = .returned (.bool (memB k [11, 12])) ∧ (w2.alloc (.cells #[.int .i64 10, .int .i64 11] 3)).alloc (.cells #[.int .i64 11, .int .i64 12] 3) = w') := by
                  have h := ref_in k _ _ _ (iRow_new (w2.alloc (.cells #[.int .i64 10, .int .i64 11] 3)) [11, 12] 3 (by decide))
                  rw [World.size_alloc] at h
                  exact h
                have HBA : Hid (Below w2.heap.size w2 (w2.alloc (.cells #[.int .i64 10, .int .i64 11] 3))) := (Below.refl _ w2).alloc (Nat.le_refl _) _
                have HBB : Hid (Below w2.heap.size w2 ((w2.alloc (.cells #[.int .i64 10, .int .i64 11] 3)).alloc (.cells #[.int .i64 11, .int .i64 12] 3))) := HBA.out.alloc HBA.out.size _
                have HXA := Lib.hid (HBX2.out.next HBA.out)
                have HXB := Lib.hid (HBX2.out.next HBB.out)
                obtain ⟨x0, x1, x2, x3, x4, x5, x6, x7⟩ := HBX2.out
                go_upto_region 10 with fail
                go_cut [117] (fun s w' => s = .bool (v9 k ps mr) ∧ ∃ wz, wz = w' ∧ Hid (Below w2.heap.size w2 w'))
                case first =>
                  obtain ⟨y0, y1, y2, y3, y4, y5, y6, y7⟩ := HXA.out
                  obtain ⟨z0, z1, z2, z3, z4, z5, z6, z7⟩ := HXB.out
                  generalize v9 k ps mr = V at *
                  generalize memB k [10, 11] = A at *
                  generalize memB k [11, 12] = C at *
                  generalize e1 : (ps != 0) = B at *
                  generalize e2 : (mr != 0) = D at *
                  cases A
                  · cases B
                    · skip
                      cases C
                      · cases D
                        · skip
                          as_aux_lemma =>
                            go_wp2_with fail
                            refine HIN1.out.mono ?_
                            rintro e wa ⟨rfl, rfl⟩
                            go_wp2_with fail
                            refine HIN2.out.mono ?_
                            rintro e wb ⟨rfl, rfl⟩
                            go_wp2_with fail
                            go_meet
                            exact ⟨by rw [HV9.out]; rfl, _, rfl, HBB⟩
                        · skip
                          as_aux_lemma =>
                            go_wp2_with fail
                            refine HIN1.out.mono ?_
                            rintro e wa ⟨rfl, rfl⟩
                            go_wp2_with fail
                            refine HIN2.out.mono ?_
                            rintro e wb ⟨rfl, rfl⟩
                            go_wp2_with fail
                            go_meet
                            exact ⟨by rw [HV9.out]; rfl, _, rfl, HBB⟩
                      · skip
                        as_aux_lemma =>
                          go_wp2_with fail
                          refine HIN1.out.mono ?_
                          rintro e wa ⟨rfl, rfl⟩
                          go_wp2_with fail
                          refine HIN2.out.mono ?_
                          rintro e wb ⟨rfl, rfl⟩
                          go_wp2_with fail
                          go_meet
                          exact ⟨by rw [HV9.out]; rfl, _, rfl, HBB⟩
                    · skip
                      as_aux_lemma =>
                        go_wp2_with fail
                        refine HIN1.out.mono ?_
                        rintro e wa ⟨rfl, rfl⟩
                        go_wp2_with fail
                        go_meet
                        exact ⟨by rw [HV9.out]; rfl, _, rfl, HBA⟩
                  · skip
                    cases C
                    · cases D
                      · skip
                        as_aux_lemma =>
                          go_wp2_with fail
                          refine HIN1.out.mono ?_
                          rintro e wa ⟨rfl, rfl⟩
                          go_wp2_with fail
                          refine HIN2.out.mono ?_
                          rintro e wb ⟨rfl, rfl⟩
                          go_wp2_with fail
                          go_meet
                          exact ⟨by rw [HV9.out]; rfl, _, rfl, HBB⟩
                      · skip
                        as_aux_lemma =>
                          go_wp2_with fail
                          refine HIN1.out.mono ?_
                          rintro e wa ⟨rfl, rfl⟩
                          go_wp2_with fail
                          refine HIN2.out.mono ?_
                          rintro e wb ⟨rfl, rfl⟩
                          go_wp2_with fail
                          go_meet
                          exact ⟨by rw [HV9.out]; rfl, _, rfl, HBB⟩
                    · skip
                      as_aux_lemma =>
                        go_wp2_with fail
                        refine HIN1.out.mono ?_
                        rintro e wa ⟨rfl, rfl⟩
                        go_wp2_with fail
                        refine HIN2.out.mono ?_
                        rintro e wb ⟨rfl, rfl⟩
                        go_wp2_with fail
                        go_meet
                        exact ⟨by rw [HV9.out]; rfl, _, rfl, HBB⟩
                case rest =>
                  clear x0 x1 x2 x3 x4 x5 x6 x7 HIN1 HIN2 HBA HBB HXA HXB
                  obtain ⟨rfl, w3, rfl, HB23⟩ := hcut
                  have HBX3 := Lib.hid (HBX2.out.next HB23.out)
                  have HR3 := Lib.hid (HR2.out.below HB23.out)
                  have HB3 := Lib.hid (HB2.out.trans (HB23.out.mono HB2.out.size))
                  clear HB23
                  cases hv : v9 k ps mr with
                  | true =>
                    rw [hv] at HV0
                    go_wp2_with fail
                    go_ret
                    exact ⟨by rw [HV0.out]; rfl, HB3.out⟩
                  | false =>
                    rw [hv] at HV0
                    have HV12 : Hid (v12 k len = ((k == 11 && (len : Int) % 2 != 0) || (k == 12 && (len : Int) != 2) || (k != 11 && k != 12 && decide (0 < len)))) := rfl
                    obtain ⟨x0, x1, x2, x3, x4, x5, x6, x7⟩ := HBX3.out
                    go_upto_region 12 with fail
                    go_cut [154] (fun s w' => s = .bool (v12 k len) ∧ w3 = w')
                    case first =>
                      generalize v12 k len = V at *
                      by_cases k11 : k = 11
                      · subst k11
                        have e0 : decide (0 < (len : Int)) = decide (0 < len) := by simp
                        generalize e1 : ((len : Int) % 2 != 0) = A at *
                        cases A
                        all_goals go_wp2_with fail
                        all_goals go_meet
                        all_goals exact ⟨by rw [HV12.out]; rfl, rfl⟩
                      · have f1 : (k == 11) = false := by rw [beq_eq_false_iff_ne]; exact k11
                        have f2 : (k != 11) = true := by rw [bne_iff_ne]; exact k11
                        rw [f1, f2] at HV12
                        by_cases k12 : k = 12
                        · subst k12
                          generalize e1 : ((len : Int) != 2) = A at *
                          cases A
                          all_goals go_wp2_with fail
                          all_goals go_meet
                          all_goals exact ⟨by rw [HV12.out]; rfl, rfl⟩
                        · have f3 : (k == 12) = false := by rw [beq_eq_false_iff_ne]; exact k12
                          have f4 : (k != 12) = true := by rw [bne_iff_ne]; exact k12
                          rw [f3, f4] at HV12
                          clear k11 k12
                          by_cases h0 : 0 < len
                          · have e1 : decide (0 < len) = true := decide_eq_true h0
                            rw [e1] at HV12
                            as_aux_lemma =>
                              go_wp2_with fail
                              go_meet
                              exact ⟨by rw [HV12.out]; rfl, rfl⟩
                          · have e1 : decide (0 < len) = false := decide_eq_false h0
                            rw [e1] at HV12
                            as_aux_lemma =>
                              go_wp2_with fail
                              go_meet
                              exact ⟨by rw [HV12.out]; rfl, rfl⟩
                    case rest =>
                      clear x0 x1 x2 x3 x4 x5 x6 x7
                      obtain ⟨rfl, rfl⟩ := hcut
                      cases hv : v12 k len with
                      | true =>
                        rw [hv] at HV0
                        go_wp2_with fail
                        go_ret
                        exact ⟨by rw [HV0.out]; rfl, HB3.out⟩
                      | false =>
                        rw [hv] at HV0
                        obtain ⟨x0, x1, x2, x3, x4, x5, x6, x7⟩ := HBX3.out
                        have HLW := Lib.hid (fun x W => ref_low x W)
                        go_wp2_with fail
                        clear x0 x1 x2 x3 x4 x5 x6 x7
                        obtain rfl := HLE.out
                        obtain ⟨A, c, ee, _, hc⟩ := HR3.out
                        injection ee with ee1 ee2 ee3
                        subst ee1 ee3
                        have HC := Lib.hid hc
                        clear hc
                        go_loop [158] (fun i => ∃ j : Nat, j ≤ xs.length ∧ i = .int .i64 j ∧ Hid (v15 (xs.take j) = false)) (fun i => xs.length - (intOf i).toNat)
                        case atStart => exact ⟨0, by omega, rfl, rfl⟩
                        case round =>
                          obtain ⟨j, hj, rfl, HN⟩ := hrel
                          by_cases hlt : j < xs.length
                          · have hx := List.getElem?_eq_getElem hlt
                            have hne : xs ≠ [] := by rintro rfl; simp at hlt
                            obtain ⟨b, off, rfl, hb, hcell⟩ := HC.out.resolve_left hne
                            have hcx := hcell j _ hx
                            have hj0 : (0 : Int) ≤ (j : Int) := by omega
                            have hj1 : (j : Int) < (xs.length : Int) := by omega
                            have HTK : Hid (v15 (xs.take (j + 1)) = (v15 (xs.take j) || !lowB xs[j])) := by show _ = _; unfold v15; rw [List.take_succ_eq_append_getElem hlt, List.any_append]; simp
                            have HAN : Hid (lowB xs[j] = false → v15 xs = true) := fun h => by unfold v15; rw [List.any_eq_true]; exact ⟨_, List.getElem_mem hlt, by rw [h]; rfl⟩
                            have HLX := Lib.hid (HLW.out xs[j])
                            clear hcell hx hne
                            generalize xs[j] = x at *
                            generalize lowB x = Lx at *
                            cases Lx
                            · have hv := HAN.out rfl
                              rw [hv] at HV0
                              clear hv
                              go_wp2_with fail
                              refine (HLX.out _).mono ?_
                              rintro e w9 ⟨rfl, rfl⟩
                              go_wp2_with fail
                              go_ret
                              exact ⟨by rw [HV0.out]; rfl, HB3.out⟩
                            · go_wp2_with fail
                              refine (HLX.out _).mono ?_
                              rintro e w9 ⟨rfl, rfl⟩
                              go_wp2_with fail
                              go_round
                              case rel => exact ⟨j + 1, by omega, by go_num, by show _ = _; rw [HTK.out, HN.out]; rfl⟩
                              case measure => simp [intOf]; omega
                          · have hjl : j = xs.length := by omega
                            subst hjl
                            have hv := HN.out
                            rw [List.take_of_length_le (Nat.le_refl _)] at hv
                            rw [hv] at HV0
                            clear hv
                            go_wp2_with fail
                            go_ret
                            exact ⟨by rw [HV0.out]; rfl, HB3.out⟩
  · have HV0 : Hid (rCheck k sq n ps mr xs se d = 10) := by show _ = _; unfold rCheck; rw [if_neg hk]
    have dd : (decide (k < 1) = true) ∨ (decide (k < 1) = false ∧ decide (15 < k) = true) := by
      by_cases h : k < 1
      · left; exact decide_eq_true h
      · right; exact ⟨decide_eq_false h, decide_eq_true (by omega)⟩
    obtain ⟨x0, x1, x2, x3, x4, x5, x6, x7⟩ := HBX.out
    clear hk
    rcases dd with d1 | ⟨d1, d2⟩
    all_goals
      go_enter Tryd.func14, Tryd.ntmps14
      go_upto_region 1 with fail
      generalize w.alloc (.cells #[.int .i64 k, .int .i64 sq, .int .i64 n, .int .i64 ps, .int .i64 mr, .slice p len cap, .bool se, .string d] 24) = W at *
      go_wp2_with fail
      go_ret
      exact ⟨by rw [HV0.out]; rfl, HB.out⟩
end Go.Proofs.YtnocckgbcjienabDoor
