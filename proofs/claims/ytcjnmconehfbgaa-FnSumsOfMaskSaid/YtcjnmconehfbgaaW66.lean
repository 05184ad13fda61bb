/-
  Walks: the program's summands: summandsOf, twoSummands.
-/
import Derived.Test.YtcjnmconehfbgaaW65
import Derived.Deep.RegionWith
import Derived.RegionTactic
namespace Go.Proofs.Ytcjnmconehfbgaa
open Go.RowKit NP
set_option maxRecDepth 8000
set_option linter.unusedVariables false
set_option maxHeartbeats 1000000 in
theorem summandsOf_any (a : Option Addr) (c B : Nat) (L : List Int) (w : World) (h : Rd w B a (ints L)) (hB : B ≤ w.heap.size) (hl : L.length ≤ 4611686018427387904) :
    Calls Try.prog 71 #[.slice a L.length c] w fun e w' => e = .returned (.tuple #[.agg #[.int .i64 (smS L : Int), .int .i64 (smM L : Int)], .bool (vsm L)]) ∧ Below w.heap.size w w' := by
  go_enter Try.func71, Try.ntmps71
  go_wp2
  go_loopw [6, 9] (fun x i wr => ∃ k : Nat, k ≤ L.length ∧ i = .int .i64 k ∧ Hid (vsm (L.take k) = true) ∧ Below w.heap.size w wr ∧
    Blk wr w.heap.size 76 #[.int .i64 0, .int .i64 0] ∧ Blk wr (w.heap.size + 1) 76 #[.int .i64 (sgN (L.take k) : Int), .int .i64 (mkN (L.take k) : Int)]) (fun _ i _ => L.length - (intOf i).toNat)
  case atStart =>
    refine ⟨0, Nat.zero_le _, rfl, Lib.hid rfl, ((Below.refl _ _).alloc (Nat.le_refl _) _).alloc (by simp) _, (Blk.new w _ _).alloc _, ?_⟩
    have e := Blk.new (w.alloc (.cells #[.int .i64 0, .int .i64 0] 76)) 76 #[.int .i64 0, .int .i64 0]
    rw [World.size_alloc] at e
    exact e
  case round =>
    obtain ⟨k, hk, rfl, HV, hbel, hb2, hb4⟩ := hrel
    have hc0 := hb4.cell 0
    have hc1 := hb4.cell 1
    simp at hc0 hc1
    by_cases hlt : k < L.length
    · have hR := (h.more hB).below hbel
      obtain ⟨b, o, rfl, hbB, hc⟩ := hR.at_ hlt
      have hsz := hbel.size
      have HN := Lib.hid (vsm_stop hlt)
      by_cases hok : 1 ≤ L[k] ∧ L[k] ≤ 16 - sumL (L.take k)
      · have hv' := vsm_next hlt HV.out hok.1 hok.2
        obtain ⟨h1, h2⟩ := hok
        have hvb := vsm_bd HV.out
        obtain ⟨x, hx⟩ := Int.eq_ofNat_of_zero_le (show 0 ≤ L[k] by omega)
        have HG := Lib.hid (sgN_next hlt (.inr hv') hx)
        have HM := Lib.hid (mkN_step hlt hv')
        have hmk := mkN_lt (vsm_iff.1 HV.out).1
        have hsg : sgN (L.take k) + x ≤ 16 := by unfold sgN; omega
        have hsS : (sgN (L.take k) : Int) = sumL (L.take k) := by unfold sgN; omega
        have HV' := Lib.hid hv'
        rw [hx] at hc h1 h2
        rw [← hsS] at h2
        have hx1 : 1 ≤ x := by omega
        obtain ⟨S, hS⟩ : ∃ S, S = sgN (L.take k) := ⟨_, rfl⟩
        obtain ⟨M, hM⟩ : ∃ M, M = mkN (L.take k) := ⟨_, rfl⟩
        rw [← hS, ← hM] at hb4
        rw [← hS] at hc0 h2 hsg
        rw [← hM] at hc1
        rw [← hS, ← hM] at hmk
        rw [← hS] at HG
        rw [← hS, ← hM] at HM
        clear HN hv' hx hsS hS hM hvb
        have d2 : decide (16 - (S : Int) < (x : Int)) = false := by simp; omega
        have d1 : decide ((x : Int) < 1) = false := by simp; omega
        have HMK := Lib.hid hmk
        clear hmk
        go_wp2_with fail
        refine (link_one S M x _ HMK.out hx1 hsg).mono ?_
        rintro e w1 ⟨rfl, hb1⟩
        have hb4' := hb4.below hb1 hb4.lt
        have hb2' := hb2.below hb1 hb2.lt
        go_wp2_with (refine wpList_store_row rfl 76 (.tmp 4) (.tmp 26) rfl (w.heap.size + 1) rfl _ rfl 76 _ hb4' T_sms rfl (two_one _ _) ?_)
        go_roundw
        case rel =>
          refine ⟨k + 1, by omega, by go_num, HV', below_setRow' (hbel.trans (hb1.mono hsz)) (by omega) _, hb2'.rowOff (by omega), ?_⟩
          have e := hb4'.row (vs := #[.int .i64 ((S + x : Nat) : Int), .int .i64 ((M + (if S = 0 then 0 else 2 ^ (S - 1)) : Nat) : Int)])
          rw [HG.out, HM.out]
          exact e
        case measure => simp [intOf] <;> omega
      · have hvf := Lib.hid (HN.out hok)
        have hvb := vsm_bd HV.out
        have hsS : (sgN (L.take k) : Int) = sumL (L.take k) := by unfold sgN; omega
        have HRS := Lib.hid (smS_no hvf.out)
        have HRM := Lib.hid (smM_no hvf.out)
        by_cases h1 : 1 ≤ L[k]
        · have h2 : 16 - sumL (L.take k) < L[k] := by omega
          rw [← hsS] at h2
          have hS16 : sgN (L.take k) ≤ 16 := by omega
          clear HN hok hvb hsS
          have d1 : decide (L[k] < 1) = false := by simp; omega
          have d2 : decide (16 - (sgN (L.take k) : Int) < L[k]) = true := by simp; omega
          go_wp2_with (refine wpList_store_row rfl 76 (.tmp 2) (.tmp 22) rfl w.heap.size rfl #[.int .i64 0, .int .i64 0] rfl 76 _ hb2 T_sms rfl (two_one _ _) ?_)
          refine bodyPost_ret (results_cell_tmp rfl _ _ w.heap.size 76 #[.int .i64 0, .int .i64 0] (0, 0) _ rfl hb2.row Try.underlying76 rfl T_sms) rfl ?_
          rw [hvf.out, HRS.out, HRM.out]
          exact ⟨rfl, below_setRow' hbel (Nat.le_refl _) _⟩
        · have h1' : L[k] < 1 := by omega
          clear HN hok hvb hsS h1
          go_wp2_with (refine wpList_store_row rfl 76 (.tmp 2) (.tmp 22) rfl w.heap.size rfl #[.int .i64 0, .int .i64 0] rfl 76 _ hb2 T_sms rfl (two_one _ _) ?_)
          refine bodyPost_ret (results_cell_tmp rfl _ _ w.heap.size 76 #[.int .i64 0, .int .i64 0] (0, 0) _ rfl hb2.row Try.underlying76 rfl T_sms) rfl ?_
          rw [hvf.out, HRS.out, HRM.out]
          exact ⟨rfl, below_setRow' hbel (Nat.le_refl _) _⟩
    · obtain rfl : k = L.length := by omega
      have ht : L.take L.length = L := List.take_of_length_le (Nat.le_refl _)
      have HT := Lib.hid ht
      clear ht
      have hv := HV.out
      rw [HT.out] at hv
      have HRS := Lib.hid (smS_yes hv)
      have HRM := Lib.hid (smM_yes hv)
      have HVV := Lib.hid hv
      clear hv
      go_wp2_with (refine wpList_store_row rfl 76 (.tmp 2) (.tmp 28) rfl w.heap.size rfl _ rfl 76 _ hb2 T_sms rfl (two_one _ _) ?_)
      refine bodyPost_ret (results_cell_tmp rfl _ _ w.heap.size 76 #[.int .i64 (sgN L : Int), .int .i64 (mkN L : Int)] (0, 0) _ rfl hb2.row Try.underlying76 rfl T_sms) rfl ?_
      rw [HVV.out, HRS.out, HRM.out]
      exact ⟨rfl, below_setRow' hbel (Nat.le_refl _) _⟩
theorem results_2blk_tmp {P : Program} {fn : Func} {p1 p2 q : Tmp} {ty : TypeId} (h : fn.results = #[.cell p1 ty, .cell p2 ty, .tmp q]) (tmps : Array Value) (w : World) (g1 g2 : Nat) (t : TypeId) (c1 c2 : Array Value) (d : TypeDesc)
    (hp1 : tmps.getD p1 undef = .pointer (some ⟨g1, 0, none⟩)) (hp2 : tmps.getD p2 undef = .pointer (some ⟨g2, 0, none⟩)) (h1 : Blk w g1 t c1) (h2 : Blk w g2 t c2)
    (hu : P.underlying ty = some d) (hd : (match d with | .struct _ | .array _ _ => true | _ => false) = true) (hi1 : (P.info? ty).map (·.size) = some c1.size) (hi2 : (P.info? ty).map (·.size) = some c2.size) :
    (results fn tmps).run P w = .ok (.tuple #[.agg c1, .agg c2, tmps.getD q undef]) w := by
  have hp1' : tmps[p1]?.getD undef = .pointer (some ⟨g1, 0, none⟩) := by simpa using hp1
  have hp2' : tmps[p2]?.getD undef = .pointer (some ⟨g2, 0, none⟩) := by simpa using hp2
  simp [results, h, hp1', hp2', asAddr, run_loadVar_row w g1 t ty c1 (0, 0) d h1 hu hd hi1, run_loadVar_row w g2 t ty c2 (0, 0) d h2 hu hd hi2]
end Go.Proofs.Ytcjnmconehfbgaa
