/- Package recv's status and Stat. Conditions: the receiver is the law's own, its places are near one another. -/
import Derived.Test.YtgfdgcpbmjhmmaaRecvMiss
import Derived.Test.YtgfdgcpbmjhmmaaGapListN
namespace Go.Proofs.Ytgfdgcpbmjhmmaa
open Go.RowKit Go.Maps Sp
set_option linter.unusedVariables false
variable {w0 w w' : World} {gr mb nb : Nat} {st window next behind most : Int} {bs : List (Int × ByteArray)} {inV unV : Value} {ib : List ByteArray} {un : List Span}

/-- What status answers. -/
def StatusOut (w : World) (st next most : Int) (s : List Span) (e : Ending) (w' : World) : Prop :=
  ∃ u q, e = .returned (.tuple #[u, .int .u32 ((st + next) % 16777216), .int .u32 ((st + most) % 16777216)]) ∧ Canon q ∧ (∀ n, Mem q n ↔ Mem s n ∧ (0 ≤ n ∧ n < 8388609)) ∧ NumRow w' u (prs ((st + next) % 16777216) q) ∧ Below w.heap.size w w' ∧ ∀ j, u.ownBlock = some j → w.heap.size ≤ j

set_option maxHeartbeats 4000000 in
set_option maxRecDepth 100000 in
theorem rcv_status (h : RcvAt w0 w gr mb st window next behind most bs nb inV ib unV un) (hs : 0 ≤ st ∧ st < 4294967296) (hn : 0 ≤ next ∧ next ≤ 1000000) (hm : 0 ≤ most ∧ most ≤ 2000000) (s : List Span) (v : Value) (hset : SetAt w v s) (hf : s.length ≤ 1000) :
    Calls Try.prog 26 #[.pointer (some ⟨gr, 0, none⟩), v] w (StatusOut w st next most s) := by
  obtain ⟨A, cap, rfl⟩ := hset.form
  have H := Lib.hid h
  have HST := Lib.hid hset
  have HN1 := Lib.hid (rcv_number h.cells hs next (by omega))
  have HN2 := Lib.hid (fun W (hW : Below w.heap.size w W) => rcv_number (h.below hW).cells hs most (by omega))
  have HLI := Lib.hid (fun W (hW : Below w.heap.size w W) => g_listN ((st + next) % 16777216) s (.slice A s.length cap) W ((hset.below hW).wide) (by omega) (by omega) hf)
  have c2 := h.cells.c2
  have c4 := h.cells.c4
  have hlt := h.lt
  clear h hset
  have HPO : Hid (StatusOut w st next most s = fun e w' => ∃ u q, e = .returned (.tuple #[u, .int .u32 ((st + next) % 16777216), .int .u32 ((st + most) % 16777216)]) ∧ Canon q ∧ (∀ n, Mem q n ↔ Mem s n ∧ (0 ≤ n ∧ n < 8388609)) ∧ NumRow w' u (prs ((st + next) % 16777216) q) ∧ Below w.heap.size w w' ∧ ∀ j, u.ownBlock = some j → w.heap.size ≤ j) := rfl
  rw [HPO.out]
  clear HPO
  generalize (st + next) % 16777216 = B at *
  generalize (st + most) % 16777216 = M at *
  go_enter Try.func26, Try.ntmps26
  go_wp2_with fail
  refine HN1.out.mono ?_
  rintro e w1 ⟨rfl, rfl⟩
  go_upto_region 2 with fail
  have hdr := (Below.refl w1.heap.size w1).drew
  have HDR := Lib.hid hdr
  go_region_held3 (fun w' => w'.cell? ⟨gr, 4, none⟩ = some (.int .i64 most))
    (first | go_keep)
    (first
      | (go_at_call 32; (with_reducible refine (HLI.out _ HDR.out).mono ?_); rintro e wa ⟨u, q, rfl, hcn, hmq, hnr, hba, hnw⟩
         have HBA := Lib.hid (HDR.out.trans hba)
         obtain ⟨Au, cu, eu, _⟩ := id hnr
         subst eu
         have HNR := Lib.hid hnr
         have HNW := Lib.hid hnw
         have HMQ := Lib.hid hmq
         have HCN := Lib.hid hcn
         have a4 : wa.cell? ⟨gr, 4, none⟩ = some (.int .i64 most) := by rw [HBA.out.cell (p := ⟨gr, 4, none⟩) hlt]; exact c4
         clear hba hnr hmq hcn hnw)
      | (go_at_call 23; (with_reducible refine (HN2.out _ HBA.out).mono ?_); rintro e wb ⟨rfl, rfl⟩)
      | fail)
  all_goals go_wp2_with fail
  go_ret3
  exact ⟨_, q, rfl, HCN.out, HMQ.out, HNR.out, HBA.out, HNW.out⟩

theorem rcanon_len : ∀ (s : List Span) (lo hi : Int), Canon s → (∀ x ∈ s, lo ≤ x.1 ∧ x.2 ≤ hi) → s.length ≤ (hi - lo).toNat
  | [], _, _, _, _ => by simp
  | x :: r, lo, hi, hc, hb => by
    obtain ⟨h1, h2, h3⟩ := canon_cons.1 hc
    have hx := hb x List.mem_cons_self
    have := rcanon_len r x.2 hi h3 fun y hy => ⟨by have := h2 y hy; omega, (hb y (List.mem_cons_of_mem _ hy)).2⟩
    rw [List.length_cons]
    omega
theorem rmem_ends {s : List Span} (hc : Canon s) {x : Span} (hx : x ∈ s) : Mem s x.1 ∧ Mem s (x.2 - 1) := by
  have := hc.1 x hx
  exact ⟨⟨x, hx, by omega, by omega⟩, ⟨x, hx, by omega, by omega⟩⟩

/-- What Stat answers. -/
def StatOut (w0 w : World) (gr mb : Nat) (st window next behind most : Int) (bs : List (Int × ByteArray)) (nb : Nat) (inV : Value) (ib : List ByteArray) (unV : Value) (un : List Span) (e : Ending) (w' : World) : Prop :=
  ∃ u q, e = .returned (.tuple #[u, .int .u32 ((st + next) % 16777216), .int .u32 ((st + max most (next + window - (ib.length : Int))) % 16777216)]) ∧ Canon q ∧ (∀ n, Mem q n ↔ (0 ≤ n ∧ n < behind - next) ∧ ¬ n + next ∈ bs.map (·.1)) ∧ NumRow w' u (prs ((st + next) % 16777216) q) ∧ RcvAt w0 w' gr mb st window next behind (max most (next + window - (ib.length : Int))) bs nb inV ib unV un ∧ RCh w w' (Mine gr mb inV unV) (Mine gr mb inV unV)

set_option maxHeartbeats 8000000 in
set_option maxRecDepth 100000 in
theorem rcv_stat (h : RcvAt w0 w gr mb st window next behind most bs nb inV ib unV un) (hs : 0 ≤ st ∧ st < 4294967296) (hn : 0 ≤ next ∧ next ≤ 1000000) (hm : 0 ≤ most ∧ most ≤ 1000000) (hw : 1 ≤ window ∧ window ≤ 64) (hi : ib.length ≤ 1000) (hl : bs.length ≤ 1000) (hk : NearKeys next bs) (hb : 0 ≤ behind - next ∧ behind - next ≤ 1000) :
    Calls Try.prog 17 #[.pointer (some ⟨gr, 0, none⟩)] w (StatOut w0 w gr mb st window next behind most bs nb inV ib unV un) := by
  obtain ⟨Ai, ci, rfl⟩ := ownForm h.inb
  have HRN := Lib.hid (rcv_renew h.cells (by omega) (by omega) (by omega))
  have H := Lib.hid h
  obtain ⟨M, hM⟩ : ∃ M, M = max most (next + window - (ib.length : Int)) := ⟨_, rfl⟩
  have hMb : 0 ≤ M ∧ M ≤ 2000000 := by omega
  have HPO : Hid (StatOut w0 w gr mb st window next behind most bs nb (.slice Ai ib.length ci) ib unV un = fun e w' => ∃ u q, e = .returned (.tuple #[u, .int .u32 ((st + next) % 16777216), .int .u32 ((st + M) % 16777216)]) ∧ Canon q ∧ (∀ n, Mem q n ↔ (0 ≤ n ∧ n < behind - next) ∧ ¬ n + next ∈ bs.map (·.1)) ∧ NumRow w' u (prs ((st + next) % 16777216) q) ∧ RcvAt w0 w' gr mb st window next behind M bs nb (.slice Ai ib.length ci) ib unV un ∧ RCh w w' (Mine gr mb (.slice Ai ib.length ci) unV) (Mine gr mb (.slice Ai ib.length ci) unV)) := by rw [hM]; rfl
  rw [HPO.out]
  rw [← hM] at HRN
  clear HPO hM h
  go_enter Try.func17, Try.ntmps17
  go_wp2_with fail
  refine HRN.out.mono ?_
  rintro e w1 ⟨rfl, rfl⟩
  have H1 := Lib.hid (H.out.drew.store 4 (.int .i64 M) (most' := M) rfl)
  have HC1 : Hid (RCh w (w.drew.setCell ⟨gr, 4, none⟩ (.int .i64 M)) (Mine gr mb (.slice Ai ib.length ci) unV) (Mine gr mb (.slice Ai ib.length ci) unV)) := ((RCh.refl _ _).below (Below.drew (Below.refl _ _))).set ⟨gr, 4, none⟩ _ (.inl (.inl rfl))
  clear H HRN
  generalize w.drew.setCell ⟨gr, 4, none⟩ (.int .i64 M) = w1 at *
  have HMI := Lib.hid (rcv_missing H1.out.drew hn hl hk next behind (by omega) (by omega))
  have HSS := Lib.hid (fun s v W (hW : Below w1.heap.size w1 W) (hset : SetAt W v s) (hf : s.length ≤ 1000) => rcv_status (H1.out.below hW) hs hn hMb s v hset hf)
  have c2 := H1.out.cells.c2
  have c3 := H1.out.cells.c3
  have hlt := H1.out.lt
  have HDR := Lib.hid ((Below.refl w1.heap.size w1).drew)
  have hdr := HDR.out
  go_upto_region 2 with fail
  go_region_held3 (fun w' => w'.cell? ⟨gr, 2, none⟩ = some (.int .i64 next) ∧ w'.cell? ⟨gr, 3, none⟩ = some (.int .i64 behind))
    (first | go_keep)
    (first
      | (go_at_call 27; (with_reducible refine (HMI.out).mono ?_); rintro e wa ⟨u, o, rfl, hset, hmo, hba, _⟩
         have HBA := Lib.hid (HDR.out.trans hba)
         obtain ⟨Au, cu, eu⟩ := hset.form
         subst eu
         have HSE := Lib.hid hset
         have HMO := Lib.hid hmo
         have hfew : o.length ≤ 1000 := by
           have := rcanon_len o 0 1000 hset.canon fun x hx => by
             obtain ⟨m1, m2⟩ := rmem_ends hset.canon hx
             have h1 := ((hmo _).1 m1).1
             have h2 := ((hmo _).1 m2).1
             omega
           omega
         have a2 : wa.cell? ⟨gr, 2, none⟩ = some (.int .i64 next) := by rw [HBA.out.cell (p := ⟨gr, 2, none⟩) hlt]; exact c2
         have a3 : wa.cell? ⟨gr, 3, none⟩ = some (.int .i64 behind) := by rw [HBA.out.cell (p := ⟨gr, 3, none⟩) hlt]; exact c3
         clear hba hset hmo)
      | (go_at_call 26; (with_reducible refine (HSS.out _ _ _ HBA.out HSE.out hfew).mono ?_); rintro e wb ⟨v2, q, rfl, hcn, hmq, hnr, hbb, _⟩
         have HBZ := Lib.hid (HBA.out.trans (hbb.mono HBA.out.size))
         have HCN := Lib.hid hcn
         have HMQ := Lib.hid hmq
         have HNR := Lib.hid hnr
         have b2 : wb.cell? ⟨gr, 2, none⟩ = some (.int .i64 next) := by rw [HBZ.out.cell (p := ⟨gr, 2, none⟩) hlt]; exact c2
         have b3 : wb.cell? ⟨gr, 3, none⟩ = some (.int .i64 behind) := by rw [HBZ.out.cell (p := ⟨gr, 3, none⟩) hlt]; exact c3
         clear hcn hmq hnr hbb)
      | fail)
  all_goals go_wp2_with fail
  all_goals go_ret3
  all_goals
    refine ⟨v2, q, rfl, HCN.out, fun n => ?_, HNR.out, H1.out.below HBZ.out, HC1.out.below HBZ.out⟩
    rw [HMQ.out n, HMO.out n]
    constructor
    · rintro ⟨⟨⟨g1, g2⟩, g3⟩, g4⟩
      exact ⟨⟨by omega, g2⟩, g3⟩
    · rintro ⟨⟨g1, g2⟩, g3⟩
      exact ⟨⟨⟨by omega, g2⟩, g3⟩, by omega, by omega⟩
end Go.Proofs.Ytgfdgcpbmjhmmaa
