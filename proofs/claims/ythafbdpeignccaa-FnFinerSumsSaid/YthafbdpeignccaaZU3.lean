/-
  Walks: the program's summands: summandsOf, twoSummands. Walks: the program's functions of summands. Walks: tallies of the program, the parts of summands.
-/
import Derived.Test.YthafbdpeignccaaZR1
import Derived.Test.YthafbdpeignccaaZR2
import Derived.Test.YthafbdpeignccaaZR3
import Derived.Test.YthafbdpeignccaaZR4
import Derived.Test.YthafbdpeignccaaZR5
import Derived.Test.YthafbdpeignccaaZR6
import Derived.Test.YthafbdpeignccaaZR7
import Derived.Test.YthafbdpeignccaaZR8
import Derived.Test.YthafbdpeignccaaZR9
import Derived.Test.YthafbdpeignccaaZR10
import Derived.Test.YthafbdpeignccaaZU1
import Derived.Test.YthafbdpeignccaaZU2
import Derived.Deep.RegionWith
import Derived.RegionTactic
import Derived.StillTailTactics
namespace Go.Proofs.Ythafbdpeignccaa
open Go.RowKit NP
set_option maxRecDepth 8000
set_option linter.unusedVariables false
set_option maxHeartbeats 1000000 in
theorem summandsOf_any (a : Option Addr) (c B : Nat) (L : List Int) (w : World) (h : Rd w B a (ints L)) (hB : B ≤ w.heap.size) (hl : L.length ≤ 4611686018427387904) :
    Calls Try.prog 90 #[.slice a L.length c] w fun e w' => e = .returned (.tuple #[.agg #[.int .i64 (smS L : Int), .int .i64 (smM L : Int)], .bool (vsm L)]) ∧ Below w.heap.size w w' := by
  go_enter Try.func90, Try.ntmps90
  go_wp2
  go_loopw [6, 9] (fun x i wr => ∃ k : Nat, k ≤ L.length ∧ i = .int .i64 k ∧ Hid (vsm (L.take k) = true) ∧ Below w.heap.size w wr ∧
    Blk wr w.heap.size 73 #[.int .i64 0, .int .i64 0] ∧ Blk wr (w.heap.size + 1) 73 #[.int .i64 (sgN (L.take k) : Int), .int .i64 (mkN (L.take k) : Int)]) (fun _ i _ => L.length - (intOf i).toNat)
  case atStart =>
    refine ⟨0, Nat.zero_le _, rfl, Lib.hid rfl, ((Below.refl _ _).alloc (Nat.le_refl _) _).alloc (by simp) _, (Blk.new w _ _).alloc _, ?_⟩
    have e := Blk.new (w.alloc (.cells #[.int .i64 0, .int .i64 0] 73)) 73 #[.int .i64 0, .int .i64 0]
    rw [World.size_alloc] at e
    exact e
  case round =>
    obtain ⟨k, hk, rfl, HV, hbel, hb2, hb4⟩ := hrel
    have hc0 := hb4.cell 0
    have hc1 := hb4.cell 1
    simp at hc0 hc1
    by_cases hlt : k < L.length
    · have hR := (h.more hB).below hbel
      obtain ⟨b, o, rfl, hbB, hc⟩ := hR.at_ hlt
      have hsz := hbel.size
      have HN := Lib.hid (vsm_stop hlt)
      by_cases hok : 1 ≤ L[k] ∧ L[k] ≤ 16 - sumL (L.take k)
      · have hv' := vsm_next hlt HV.out hok.1 hok.2
        obtain ⟨h1, h2⟩ := hok
        have hvb := vsm_bd HV.out
        obtain ⟨x, hx⟩ := Int.eq_ofNat_of_zero_le (show 0 ≤ L[k] by omega)
        have HG := Lib.hid (sgN_next hlt (.inr hv') hx)
        have HM := Lib.hid (mkN_step hlt hv')
        have hmk := mkN_lt (vsm_iff.1 HV.out).1
        have hsg : sgN (L.take k) + x ≤ 16 := by unfold sgN; omega
        have hsS : (sgN (L.take k) : Int) = sumL (L.take k) := by unfold sgN; omega
        have HV' := Lib.hid hv'
        rw [hx] at hc h1 h2
        rw [← hsS] at h2
        have hx1 : 1 ≤ x := by omega
        obtain ⟨S, hS⟩ : ∃ S, S = sgN (L.take k) := ⟨_, rfl⟩
        obtain ⟨M, hM⟩ : ∃ M, M = mkN (L.take k) := ⟨_, rfl⟩
        rw [← hS, ← hM] at hb4
        rw [← hS] at hc0 h2 hsg
        rw [← hM] at hc1
        rw [← hS, ← hM] at hmk
        rw [← hS] at HG
        rw [← hS, ← hM] at HM
        clear HN hv' hx hsS hS hM hvb
        have d2 : decide (16 - (S : Int) < (x : Int)) = false := by simp; omega
        have d1 : decide ((x : Int) < 1) = false := by simp; omega
        have HMK := Lib.hid hmk
        clear hmk
        go_wp2_with fail
        refine (link_one S M x _ HMK.out hx1 hsg).mono ?_
        rintro e w1 ⟨rfl, hb1⟩
        have hb4' := hb4.below hb1 hb4.lt
        have hb2' := hb2.below hb1 hb2.lt
        go_wp2_with (refine wpList_store_row rfl 73 (.tmp 4) (.tmp 26) rfl (w.heap.size + 1) rfl _ rfl 73 _ hb4' T_sms rfl (two_one _ _) ?_)
        go_roundw
        case rel =>
          refine ⟨k + 1, by omega, by go_num, HV', below_setRow' (hbel.trans (hb1.mono hsz)) (by omega) _, hb2'.rowOff (by omega), ?_⟩
          have e := hb4'.row (vs := #[.int .i64 ((S + x : Nat) : Int), .int .i64 ((M + (if S = 0 then 0 else 2 ^ (S - 1)) : Nat) : Int)])
          rw [HG.out, HM.out]
          exact e
        case measure => simp [intOf] <;> omega
      · have hvf := Lib.hid (HN.out hok)
        have hvb := vsm_bd HV.out
        have hsS : (sgN (L.take k) : Int) = sumL (L.take k) := by unfold sgN; omega
        have HRS := Lib.hid (smS_no hvf.out)
        have HRM := Lib.hid (smM_no hvf.out)
        by_cases h1 : 1 ≤ L[k]
        · have h2 : 16 - sumL (L.take k) < L[k] := by omega
          rw [← hsS] at h2
          have hS16 : sgN (L.take k) ≤ 16 := by omega
          clear HN hok hvb hsS
          have d1 : decide (L[k] < 1) = false := by simp; omega
          have d2 : decide (16 - (sgN (L.take k) : Int) < L[k]) = true := by simp; omega
          go_wp2_with (refine wpList_store_row rfl 73 (.tmp 2) (.tmp 22) rfl w.heap.size rfl #[.int .i64 0, .int .i64 0] rfl 73 _ hb2 T_sms rfl (two_one _ _) ?_)
          refine bodyPost_ret (results_cell_tmp rfl _ _ w.heap.size 73 #[.int .i64 0, .int .i64 0] (0, 0) _ rfl hb2.row Try.underlying73 rfl T_sms) rfl ?_
          rw [hvf.out, HRS.out, HRM.out]
          exact ⟨rfl, below_setRow' hbel (Nat.le_refl _) _⟩
        · have h1' : L[k] < 1 := by omega
          clear HN hok hvb hsS h1
          go_wp2_with (refine wpList_store_row rfl 73 (.tmp 2) (.tmp 22) rfl w.heap.size rfl #[.int .i64 0, .int .i64 0] rfl 73 _ hb2 T_sms rfl (two_one _ _) ?_)
          refine bodyPost_ret (results_cell_tmp rfl _ _ w.heap.size 73 #[.int .i64 0, .int .i64 0] (0, 0) _ rfl hb2.row Try.underlying73 rfl T_sms) rfl ?_
          rw [hvf.out, HRS.out, HRM.out]
          exact ⟨rfl, below_setRow' hbel (Nat.le_refl _) _⟩
    · obtain rfl : k = L.length := by omega
      have ht : L.take L.length = L := List.take_of_length_le (Nat.le_refl _)
      have HT := Lib.hid ht
      clear ht
      have hv := HV.out
      rw [HT.out] at hv
      have HRS := Lib.hid (smS_yes hv)
      have HRM := Lib.hid (smM_yes hv)
      have HVV := Lib.hid hv
      clear hv
      go_wp2_with (refine wpList_store_row rfl 73 (.tmp 2) (.tmp 28) rfl w.heap.size rfl _ rfl 73 _ hb2 T_sms rfl (two_one _ _) ?_)
      refine bodyPost_ret (results_cell_tmp rfl _ _ w.heap.size 73 #[.int .i64 (sgN L : Int), .int .i64 (mkN L : Int)] (0, 0) _ rfl hb2.row Try.underlying73 rfl T_sms) rfl ?_
      rw [HVV.out, HRS.out, HRM.out]
      exact ⟨rfl, below_setRow' hbel (Nat.le_refl _) _⟩
theorem results_2blk_tmp {P : Program} {fn : Func} {p1 p2 q : Tmp} {ty : TypeId} (h : fn.results = #[.cell p1 ty, .cell p2 ty, .tmp q]) (tmps : Array Value) (w : World) (g1 g2 : Nat) (t : TypeId) (c1 c2 : Array Value) (d : TypeDesc)
    (hp1 : tmps.getD p1 undef = .pointer (some ⟨g1, 0, none⟩)) (hp2 : tmps.getD p2 undef = .pointer (some ⟨g2, 0, none⟩)) (h1 : Blk w g1 t c1) (h2 : Blk w g2 t c2)
    (hu : P.underlying ty = some d) (hd : (match d with | .struct _ | .array _ _ => true | _ => false) = true) (hi1 : (P.info? ty).map (·.size) = some c1.size) (hi2 : (P.info? ty).map (·.size) = some c2.size) :
    (results fn tmps).run P w = .ok (.tuple #[.agg c1, .agg c2, tmps.getD q undef]) w := by
  have hp1' : tmps[p1]?.getD undef = .pointer (some ⟨g1, 0, none⟩) := by simpa using hp1
  have hp2' : tmps[p2]?.getD undef = .pointer (some ⟨g2, 0, none⟩) := by simpa using hp2
  simp [results, h, hp1', hp2', asAddr, run_loadVar_row w g1 t ty c1 (0, 0) d h1 hu hd hi1, run_loadVar_row w g2 t ty c2 (0, 0) d h2 hu hd hi2]
set_option maxHeartbeats 1000000 in
theorem twoSummands_any (a b : Option Addr) (ca cb Ba Bb : Nat) (L M : List Int) (w : World) (h : Rd w Ba a (ints L)) (hm : Rd w Bb b (ints M)) (hB : Ba ≤ w.heap.size) (hB2 : Bb ≤ w.heap.size) (hl : L.length ≤ 4611686018427387904) (hl2 : M.length ≤ 4611686018427387904) :
    Calls Try.prog 87 #[.slice a L.length ca, .slice b M.length cb] w fun e w' => e = .returned (.tuple #[.agg #[.int .i64 (smS L : Int), .int .i64 (smM L : Int)], .agg #[.int .i64 (smS M : Int), .int .i64 (smM M : Int)], .bool (vsm L && vsm M)]) ∧ Below w.heap.size w w' := by
  obtain ⟨s1, hs1⟩ : ∃ s1, s1 = smS L := ⟨_, rfl⟩
  obtain ⟨m1, hm1⟩ : ∃ m1, m1 = smM L := ⟨_, rfl⟩
  obtain ⟨s2, hs2⟩ : ∃ s2, s2 = smS M := ⟨_, rfl⟩
  obtain ⟨m2, hm2⟩ : ∃ m2, m2 = smM M := ⟨_, rfl⟩
  have H1 := fun (w : World) h hB => summandsOf_any a ca Ba L w h hB hl
  have H2 := fun (w : World) h hB => summandsOf_any b cb Bb M w h hB hl2
  rw [← hs1, ← hm1, ← hs2, ← hm2]
  simp only [← hs1, ← hm1] at H1
  simp only [← hs2, ← hm2] at H2
  have HH1 := Lib.hid H1
  have HH2 := Lib.hid H2
  clear H1 H2 hs1 hm1 hs2 hm2
  have hb0 := ((Below.refl w.heap.size w).alloc (Nat.le_refl _) (.cells #[.int .i64 0, .int .i64 0] 73)).alloc (by simp) (.cells #[.int .i64 0, .int .i64 0] 73)
  have hA0 := (Blk.new w 73 #[Value.int .i64 0, Value.int .i64 0]).alloc (.cells #[.int .i64 0, .int .i64 0] 73)
  have hB0 := Blk.new (w.alloc (.cells #[.int .i64 0, .int .i64 0] 73)) 73 #[Value.int .i64 0, Value.int .i64 0]
  rw [World.size_alloc] at hB0
  go_enter Try.func87, Try.ntmps87
  go_wp2_with fail
  refine (HH1.out _ (h.below (hb0.mono hB)) (by simp; omega)).mono ?_
  rintro e w1 ⟨rfl, hb1⟩
  rw [World.size_alloc, World.size_alloc] at hb1
  have hz1 := hb1.size
  rw [World.size_alloc, World.size_alloc] at hz1
  replace hb0 := hb0.trans (hb1.mono (by omega))
  replace hA0 := hA0.below hb1 (by omega)
  replace hB0 := hB0.below hb1 (by omega)
  have hC0 := Blk.new w1 73 #[Value.int .i64 s1, Value.int .i64 m1]
  replace hb0 := hb0.alloc (by omega) (.cells #[.int .i64 s1, .int .i64 m1] 73)
  replace hA0 := hA0.alloc (.cells #[.int .i64 s1, .int .i64 m1] 73)
  replace hB0 := hB0.alloc (.cells #[.int .i64 s1, .int .i64 m1] 73)
  clear hb1
  go_wp2_with fail
  refine (HH2.out _ (hm.below (hb0.mono hB2)) (by simp; omega)).mono ?_
  rintro e w2 ⟨rfl, hb2⟩
  have hz2 := hb2.size
  rw [World.size_alloc] at hb2 hz2
  replace hb0 := hb0.trans (hb2.mono (by omega))
  replace hA0 := hA0.below hb2 (by omega)
  replace hB0 := hB0.below hb2 (by omega)
  replace hC0 := hC0.below hb2 (by omega)
  have hD0 := Blk.new w2 73 #[Value.int .i64 s2, Value.int .i64 m2]
  replace hb0 := hb0.alloc (by omega) (.cells #[.int .i64 s2, .int .i64 m2] 73)
  replace hA0 := hA0.alloc (.cells #[.int .i64 s2, .int .i64 m2] 73)
  replace hB0 := hB0.alloc (.cells #[.int .i64 s2, .int .i64 m2] 73)
  replace hC0 := hC0.alloc (.cells #[.int .i64 s2, .int .i64 m2] 73)
  clear hb2
  have hgg : w.heap.size + 1 < w1.heap.size := by omega
  cases hv : vsm L <;>
  · have HV := Lib.hid hv
    clear hv
    go_wp2_with fail
    obtain ⟨w3, hw3⟩ : ∃ w3, w3 = w2.alloc (.cells #[.int .i64 s2, .int .i64 m2] 73) := ⟨_, rfl⟩
    rw [← hw3] at hb0 hA0 hB0 hC0 hD0 ⊢
    clear hw3
    have a0 := hA0.cell 0
    have a1 := hA0.cell 1
    have b0 := hB0.cell 0
    have b1 := hB0.cell 1
    have c0 := hC0.cell 0
    have c1 := hC0.cell 1
    have d0 := hD0.cell 0
    have d1 := hD0.cell 1
    simp at a0 a1 b0 b1 c0 c1 d0 d1
    have fa0 := hA0.free 0
    have fa1 := hA0.free 1
    have fb0 := hB0.free 0
    have fb1 := hB0.free 1
    go_region
    all_goals
      have rA := (((hA0.set 0 (.int .i64 s1)).set 1 (.int .i64 m1)).off (p := ⟨w.heap.size + 1, 0, none⟩) (by simp) (.int .i64 s2)).off (p := ⟨w.heap.size + 1, 1, none⟩) (by simp) (.int .i64 m2)
      have rB := (((hB0.off (p := ⟨w.heap.size, 0, none⟩) (by simp) (.int .i64 s1)).off (p := ⟨w.heap.size, 1, none⟩) (by simp) (.int .i64 m1)).set 0 (.int .i64 s2)).set 1 (.int .i64 m2)
      replace rA := rA.drew
      replace rB := rB.drew
      go_wp2_with fail
      refine bodyPost_ret (results_2blk_tmp rfl _ _ w.heap.size (w.heap.size + 1) 73 #[.int .i64 s1, .int .i64 m1] #[.int .i64 s2, .int .i64 m2] _ rfl rfl rA rB Try.underlying73 rfl T_sms T_sms) rfl ?_
      exact ⟨by (first | rfl | (have := HV.out; simp [this]) | skip), ((((hb0.setCell (by simp) _).setCell (by simp) _).setCell (by simp) _).setCell (by simp) _).trans ((Dr.refl _).drewN 1 |>.below _)⟩
end Go.Proofs.Ythafbdpeignccaa
namespace Go.Proofs.Ythafbdpeignccaa
open Go.RowKit NP
set_option maxRecDepth 8000
set_option linter.unusedVariables false
theorem iValidSums_any (a : Option Addr) (c B : Nat) (L : List Int) (w : World) (h : Rd w B a (ints L)) (hB : B ≤ w.heap.size) (hl : L.length ≤ 4611686018427387904) :
    Calls Try.prog 45 #[.slice a L.length c] w fun e w' => e = .returned (.bool (vsm L)) ∧ Below w.heap.size w w' := by
  go_enter Try.func45, Try.ntmps45
  go_wp2_with (go_at_call 90; refine (summandsOf_any _ _ B L _ h hB hl).mono ?_; rintro e w1 ⟨rfl, hb1⟩)
  go_ret
  exact ⟨rfl, hb1.alloc hb1.size _⟩
theorem iOppositeSums_any (a : Option Addr) (c B : Nat) (L : List Int) (w : World) (h : Rd w B a (ints L)) (hB : B ≤ w.heap.size) (hl : L.length ≤ 4611686018427387904) :
    Calls Try.prog 46 #[.slice a L.length c] w fun e w' => ∃ a' c', e = .returned (.slice a' (oppF L).length c') ∧ Own w' w.heap.size w'.heap.size 3 (.slice a' (oppF L).length c') (ints (oppF L)) ∧ Below w.heap.size w w' := by
  cases hv : vsm L with
  | true =>
    have hg : sgN L ≤ 16 := by have := vsm_bd hv; unfold sgN; omega
    have HO : Hid (oppF L = smk (sgN L) (2 ^ (sgN L - 1) - 1 - mkN L)) := Lib.hid (by rw [oppF_yes hv]; rfl)
    have HM := Lib.hid (smM_yes hv)
    have HS := Lib.hid (smS_yes hv)
    have HL := Lib.hid (mkN_lt (vsm_iff.1 hv).1)
    have HV := Lib.hid hv
    clear hv
    go_enter Try.func46, Try.ntmps46
    go_wp2_with (first | (go_at_call 90; refine (summandsOf_any _ _ B L _ h hB hl).mono ?_; rintro e w1 ⟨rfl, hb1⟩; rw [HV.out, HS.out, HM.out]) | (go_at_call 91; refine (opposite_any (sgN L) (mkN L) _ HL.out hg).mono ?_; rintro e w2 ⟨rfl, hb2⟩) | (go_at_call 92; refine (smlist_any (sgN L) (2 ^ (sgN L - 1) - 1 - mkN L) _ hg).mono ?_; rintro e w3 ⟨a', c', rfl, ho, hb3⟩))
    go_ret
    have h1 := hb1.alloc hb1.size (.cells #[.int .i64 (sgN L : Int), .int .i64 (mkN L : Int)] 73)
    have h2 := h1.trans (hb2.mono h1.size)
    rw [HO.out]
    exact ⟨a', c', rfl, ho.lower h2.size, h2.trans (hb3.mono h2.size)⟩
  | false =>
    have HO := Lib.hid (oppF_no hv)
    have HV := Lib.hid hv
    clear hv
    go_enter Try.func46, Try.ntmps46
    go_wp2_with (go_at_call 90; refine (summandsOf_any _ _ B L _ h hB hl).mono ?_; rintro e w1 ⟨rfl, hb1⟩; rw [HV.out])
    go_ret
    rw [HO.out]
    have h1 := hb1.alloc hb1.size (.cells #[.int .i64 (smS L : Int), .int .i64 (smM L : Int)] 73)
    exact ⟨none, 0, rfl, Own.nil _ _ _ |>.lower h1.size, h1⟩
theorem iFinerSums_any (a b : Option Addr) (ca cb Ba Bb : Nat) (L M : List Int) (w : World) (h : Rd w Ba a (ints L)) (hm : Rd w Bb b (ints M)) (hB : Ba ≤ w.heap.size) (hB2 : Bb ≤ w.heap.size) (hl : L.length ≤ 4611686018427387904) (hl2 : M.length ≤ 4611686018427387904) :
    Calls Try.prog 43 #[.slice a L.length ca, .slice b M.length cb] w fun e w' => e = .returned (.bool (finF L M)) ∧ Below w.heap.size w w' := by
  have HT := Lib.hid (twoSummands_any a b ca cb Ba Bb L M w h hm hB hB2 hl hl2)
  cases hv : (vsm L && vsm M) with
  | true =>
    have hv1 : vsm L = true := by simp at hv; exact hv.1
    have hv2 : vsm M = true := by simp at hv; exact hv.2
    have HF := Lib.hid (finF_yes hv1 hv2)
    have HS1 := Lib.hid (smS_yes hv1)
    have HS2 := Lib.hid (smS_yes hv2)
    have HM1 := Lib.hid (smM_yes hv1)
    have HM2 := Lib.hid (smM_yes hv2)
    have hm1 := mkN_16 hv1
    have hm2 := mkN_16 hv2
    have HK := Lib.hid (fun w => isFiner_any (sgN L) (mkN L) (sgN M) (mkN M) w (by omega) (by omega))
    have HV := Lib.hid hv
    clear hv hv1 hv2 hm1 hm2
    go_enter Try.func43, Try.ntmps43
    go_wp2_with (first | (go_at_call 87; refine (HT.out).mono ?_; rintro e w1 ⟨rfl, hc1⟩; rw [HV.out, HS1.out, HS2.out, HM1.out, HM2.out]) | (go_at_call 88; refine (HK.out _).mono ?_; rintro e w2 ⟨rfl, hc2⟩; rw [← HF.out]))
    go_ret
    have e1 := (hc1.alloc hc1.size (.cells #[.int .i64 (sgN L : Int), .int .i64 (mkN L : Int)] 73)).alloc (by have := hc1.size; simp; omega) (.cells #[.int .i64 (sgN M : Int), .int .i64 (mkN M : Int)] 73)
    exact ⟨rfl, e1.trans (hc2.mono e1.size)⟩
  | false =>
    have HF := Lib.hid (finF_no hv)
    have HV := Lib.hid hv
    clear hv
    go_enter Try.func43, Try.ntmps43
    go_wp2_with (first | (go_at_call 87; refine (HT.out).mono ?_; rintro e w1 ⟨rfl, hc1⟩; rw [HV.out]))
    go_ret
    have e1 := (hc1.alloc hc1.size (.cells #[.int .i64 (smS L : Int), .int .i64 (smM L : Int)] 73)).alloc (by have := hc1.size; simp; omega) (.cells #[.int .i64 (smS M : Int), .int .i64 (smM M : Int)] 73)
    exact ⟨ret_bool HF.out.symm, e1⟩
end Go.Proofs.Ythafbdpeignccaa
namespace Go.Proofs.Ythafbdpeignccaa
open Go.RowKit NP
set_option maxRecDepth 8000
set_option linter.unusedVariables false
theorem iPartsOfSums_any (a : Option Addr) (c B : Nat) (L : List Int) (w : World) (h : Rd w B a (ints L)) (hB : B ≤ w.heap.size) (hl : L.length ≤ 4611686018427387904) :
    Calls Try.prog 47 #[.slice a L.length c] w fun e w' => ∃ a' c', e = .returned (.slice a' (posF L).length c') ∧ Own w' w.heap.size w'.heap.size 3 (.slice a' (posF L).length c') (ints (posF L)) ∧ Below w.heap.size w w' := by
  cases hv : vsm L with
  | true =>
    have HF := Lib.hid (posF_yes hv)
    have HV := Lib.hid hv
    have HM := Lib.hid (mrg_ok hv)
    clear hv
    go_enter Try.func47, Try.ntmps47
    go_wp2_with (first
      | (go_at_call 45; refine (iValidSums_any _ _ B L _ h hB hl).mono ?_; rintro e w1 ⟨rfl, hb1⟩; rw [HV.out])
      | (go_at_call 93; refine (tallyOf_any _ _ B L _ (h.below (hb1.mono hB)) (Nat.le_trans hB hb1.size) HV.out).mono ?_; rintro e w2 ⟨rfl, hb2⟩)
      | (go_at_call 94; refine (tdiag_any L HV.out _).mono ?_; rintro e w3 ⟨rfl, hb3⟩)
      | (go_at_call 76; refine (list_any (mrg L) HM.out _).mono ?_; rintro e w4 ⟨a', rfl, ho, hb4⟩))
    go_ret
    have h2 := hb1.trans (hb2.mono hb1.size)
    have h3 := h2.trans (hb3.mono h2.size)
    rw [HF.out]
    exact ⟨a', _, rfl, ho.lower h3.size, h3.trans (hb4.mono h3.size)⟩
  | false =>
    have HF := Lib.hid (posF_no hv)
    have HV := Lib.hid hv
    clear hv
    go_enter Try.func47, Try.ntmps47
    go_wp2_with (go_at_call 45; refine (iValidSums_any _ _ B L _ h hB hl).mono ?_; rintro e w1 ⟨rfl, hb1⟩; rw [HV.out])
    go_ret
    rw [HF.out]
    exact ⟨none, 0, rfl, (Own.nil _ _ _).lower hb1.size, hb1⟩
end Go.Proofs.Ythafbdpeignccaa
