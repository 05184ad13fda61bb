/-
  'laws.FnBoxParts' returns true for every code, and the code reads as it did. No condition.
-/
import Derived.Test.YtcjnmconehfbgaaRows
import Derived.Test.YtcjnmconehfbgaaZBXP1
import Derived.Test.YtcjnmconehfbgaaZBXP2
import Derived.Test.YtcjnmconehfbgaaZBXP3
import Derived.Test.YtcjnmconehfbgaaZBXP4
import Derived.Test.YtcjnmconehfbgaaZBXP5
import Derived.Test.YtcjnmconehfbgaaZBXP6
import Derived.Test.YtcjnmconehfbgaaZBXP7
import Derived.Test.YtcjnmconehfbgaaZBXP8
import Derived.WalkKit
import Derived.ProofKit
import Derived.OpenShut
import Derived.ShutString
import Derived.ChangeOld
import Derived.Below
namespace Go.Proofs.Ytcjnmconehfbgaa.fnBoxParts
open Go.ChangeShapes Go.WideShapes Go.ChangeAt Go.RowKit NP
open Go.ChangeMaps (open_string shut_string)
set_option linter.unusedVariables false

set_option linter.unusedSimpArgs false
set_option maxRecDepth 100000 in
set_option maxHeartbeats 4000000 in
theorem walk (a : Option Addr) (c : Nat) (bs : List Int) (w0 : World) (h : Rd w0 w0.heap.size a (bs.map (Value.int .u8))) (hb : ∀ n ∈ bs, (Lit.int .u8 n).wf = true) (m : bs.length ≤ maxLen) (hc : bs.length ≤ c) :
    Calls Try.prog 10 #[.slice a bs.length c] w0 fun e w' => e = .returned (.bool true) ∧ Below w0.heap.size w0 w' := by
  unfold maxLen at m
  by_cases hl : bs.length ≤ 1048576
  · go_enter Try.func10, Try.ntmps10
    go_wp2_with fail
    refine (DrawBoxParts_any a c _ bs _ h (Nat.le_refl _) hb hl hc).mono ?_
    rintro e w1 ⟨nn, mm, rfl, hn, hm, hA⟩
    clear h hb hl hc m
    obtain ⟨FF, hFF⟩ : ∃ FF, bpF nn mm = FF := ⟨_, rfl⟩
    have hFl : FF.length ≤ 1000 := hFF ▸ bpF_few nn mm
    have hil : ∀ X ∈ FF, X.length ≤ 4611686018427387904 := hFF ▸ bpF_short nn mm
    have HFF := Lib.hid hFF
    clear hFF
    have HIL := Lib.hid hil
    clear hil
    go_wp2_with fail
    refine (iBoxParts_any nn mm _).mono ?_
    rintro e w2 ⟨ag, cg, ug, rfl, g0, hb⟩
    replace hA := hA.trans (hb.mono hA.size)
    have hz2 := hb.size
    clear hb
    rw [HFF.out] at g0 ⊢
    go_wp2_with fail
    refine (sBoxParts_any nn mm _).mono ?_
    rintro e w3 ⟨ar, cr, ur, rfl, s0, hb⟩
    replace g0 := g0.below (hb.mono g0.le)
    replace hA := hA.trans (hb.mono hA.size)
    have hz3 := hb.size
    clear hb
    rw [HFF.out] at s0 ⊢
    go_wp2_with fail
    refine (equalLists_same _ _ _ _ _ _ FF _ g0.rd s0.rd (by omega) HIL.out).mono ?_
    rintro e w4 ⟨rfl, hd⟩
    have hb : Below w3.heap.size w3 w4 := hd.below _
    clear hd
    replace g0 := g0.below (hb.mono g0.le)
    replace s0 := s0.below (hb.mono s0.le)
    replace hA := hA.trans (hb.mono hA.size)
    have hz4 := hb.size
    clear hb
    by_cases h0 : FF.length = 0
    · have e0 : ((FF.length : Int) == 0) = true := by simp [h0]
      clear h0
      go_wp2_with fail
      refine (sBoxParts_any nn mm _).mono ?_
      rintro e w5 ⟨ar2, cr2, ur2, rfl, s1, hb⟩
      replace g0 := g0.below (hb.mono g0.le)
      replace s0 := s0.below (hb.mono s0.le)
      replace hA := hA.trans (hb.mono hA.size)
      have hz5 := hb.size
      clear hb
      rw [HFF.out] at s1 ⊢
      go_wp2_with fail
      refine (equalLists_same _ _ _ _ _ _ FF _ g0.rd s1.rd (by omega) HIL.out).mono ?_
      rintro e w6 ⟨rfl, hd⟩
      have hb : Below w5.heap.size w5 w6 := hd.below _
      clear hd
      replace g0 := g0.below (hb.mono g0.le)
      replace s0 := s0.below (hb.mono s0.le)
      replace s1 := s1.below (hb.mono s1.le)
      replace hA := hA.trans (hb.mono hA.size)
      have hz6 := hb.size
      clear hb
      go_wp2_with fail
      go_ret
      exact ⟨rfl, hA⟩
    · have e0 : ((FF.length : Int) == 0) = false := by simp; intro e; exact h0 (by rw [e]; rfl)
      have hok : limB nn mm = true := by
        cases hk : limB nn mm with
        | true => rfl
        | false => exact absurd (by rw [← HFF.out, bpF_no hk]; rfl) h0
      obtain ⟨a1, b1, rfl, rfl, ha, hb⟩ := limB_nat hok
      have hFB : BPL a1 b1 (a1 * b1 + 1) = FF := by rw [← HFF.out, bpF_yes hok]
      obtain ⟨t1, t2, t3⟩ := bp_row2 ha hb
      have t4 := (bp_row ha hb).2.2.2.2
      rw [hFB] at t1 t2 t4
      have HBR : Hid (brF (a1 : Int) (b1 : Int) = gbox a1 b1) := Lib.hid (brF_yes hok)
      have hRN := gbox_len a1 b1
      obtain ⟨N, hN⟩ : ∃ N, a1 * b1 + 1 = N := ⟨_, rfl⟩
      have hN17 : N ≤ 17 := by
        have := Nat.mul_le_mul ha hb
        omega
      obtain ⟨R, hR⟩ : ∃ R, gbox a1 b1 = R := ⟨_, rfl⟩
      rw [hN] at t1 hRN
      rw [hR] at t1 HBR hRN
      have HT1 := Lib.hid t1
      have HT2 : Hid (∀ L ∈ FF, inbF L a1 b1 = true ∧ ∃ s : Nat, sumL L = (s : Int) ∧ s < N) := Lib.hid (fun L hL => ⟨(t2 L hL).1, (sumL L).toNat, by have := (t2 L hL).2; omega, by have := (t2 L hL).2; omega⟩)
      have HT3 : Hid (∀ k (h : k + 1 < FF.length), sumL (FF[k]) ≤ sumL (FF[k + 1])) := Lib.hid (by subst hFB; exact t3)
      have HT4 : Hid (∀ L ∈ FF, sumFits L ∧ L.length ≤ 16) := Lib.hid (fun L hL => ⟨valid_fits (t4 L hL).1, (t4 L hL).2⟩)
      have HRN := Lib.hid hRN
      clear h0 hok hn hm hFB t1 t2 t3 t4 hRN hN hR HFF
      go_wp2_with fail
      refine (iBoxRow_any (a1 : Int) (b1 : Int) _).mono ?_
      rintro e w5 ⟨ak, ck, rfl, r0, hb⟩
      replace g0 := g0.below (hb.mono g0.le)
      replace s0 := s0.below (hb.mono s0.le)
      replace hA := hA.trans (hb.mono hA.size)
      have hz5 := hb.size
      clear hb
      rw [HBR.out] at r0 ⊢
      rw [HRN.out] at r0 ⊢
      have hmk := fun w => run_make_ints (P := Try.prog) 22 3 _ Try.underlying22 rfl rfl rfl rfl N (by omega) w
      obtain ⟨Z, hZ⟩ : ∃ Z, List.replicate N (0 : Int) = Z := ⟨_, rfl⟩
      rw [hZ] at hmk
      have hM0 : metF N [] = Z := hZ
      obtain ⟨wm, hwm⟩ : ∃ wm, wm = w5.alloc (.cells (arr Z) 3) := ⟨_, rfl⟩
      have hbm : Below w5.heap.size w5 wm := hwm ▸ (Below.refl _ _).alloc (Nat.le_refl _) _
      have hBM : Blk wm w5.heap.size 3 (arr Z) := by rw [hwm]; exact Blk.new w5 _ _
      have hzm : w5.heap.size < wm.heap.size := by rw [hwm, World.size_alloc]; omega
      have HWM := Lib.hid hwm
      clear hwm s0 hZ
      go_wp2_with fail
      rw [← HWM.out]
      clear hmk
      go_loopw [8] (fun ii wr => ∃ k : Nat, ii = .int .i64 (k : Int) ∧ k ≤ FF.length ∧ Blk wr w5.heap.size 3 (arr (metF N (FF.take k))) ∧ Below w5.heap.size w5 wr ∧ w5.heap.size < wr.heap.size) (fun ii _ => FF.length - (intOf ii).toNat)
      case atStart => exact ⟨0, rfl, Nat.zero_le _, by rw [List.take_zero, hM0]; exact hBM, hbm, hzm⟩
      case round =>
        obtain ⟨k, rfl, hk, hblk, hbr, hzr⟩ := hrel
        by_cases hlt : k < FF.length
        · have hlt' : (k : Int) < (FF.length : Int) := by omega
          have gr := g0.below (hbr.mono g0.le)
          obtain ⟨gA, aL, cL, rfl, hgl, hgh, hcell, hoL, -⟩ := gr.at_ hlt
          obtain ⟨hin, sn, hsn, hsl⟩ := HT2.out _ (List.getElem_mem hlt)
          obtain ⟨hfit, hl16⟩ := HT4.out _ (List.getElem_mem hlt)
          have HPV : Hid (∀ j (h : j < FF.length), j + 1 = k → ∃ t : Nat, sumL FF[j] = (t : Int) ∧ t ≤ sn ∧ sumFits FF[j] ∧ FF[j].length ≤ 16) := Lib.hid (fun j hj hjk => by
            obtain ⟨-, t, ht, -⟩ := HT2.out _ (List.getElem_mem hj)
            subst hjk
            have := HT3.out j hlt
            exact ⟨t, ht, by omega, HT4.out _ (List.getElem_mem hj)⟩)
          have HSN : Hid (metF N (FF.take (k + 1)) = bmp (metF N (FF.take k)) sn) := Lib.hid (by rw [List.take_succ_eq_append_getElem hlt, metF_snoc, hsn, Int.toNat_natCast])
          have hlm := metF_len N (FF.take k)
          have hbm2 := metF_bd N (FF.take k)
          have htk : (FF.take k).length ≤ 1000 := by rw [List.length_take]; omega
          obtain ⟨row, hrow⟩ : ∃ row, metF N (FF.take k) = row := ⟨_, rfl⟩
          rw [hrow] at hlm hbm2 HSN hblk
          unfold bmp at HSN
          have hvr : row.getD sn 0 = row[sn] := by simp [List.getD_eq_getElem?_getD, hlm, hsl]
          have hvb := hbm2 _ (List.getElem_mem (show sn < row.length by omega))
          have HC := Lib.hid (arr_get row sn (by omega))
          rw [hvr] at HSN
          obtain ⟨v, hvv⟩ : ∃ v, row[sn] = v := ⟨_, rfl⟩
          rw [hvv] at HSN hvb HC
          have hv0 : 0 ≤ v := hvb.1
          have hv1 : v ≤ 1000 := by omega
          obtain ⟨M, hM⟩ : ∃ M, M = FF[k] := ⟨_, rfl⟩
          rw [← hM] at hcell hoL hin hsn hfit hl16
          have HOL := Lib.hid hoL
          have HIN := Lib.hid hin
          have HSM := Lib.hid hsn
          have HFI := Lib.hid hfit
          have HBK := Lib.hid hblk
          have d1 : decide ((N : Int) ≤ (sn : Int)) = false := decide_eq_false (by omega)
          have hgA : gA < wr.heap.size := by have := gr.le; omega
          have HGR := Lib.hid gr
          clear hvr hvb hvv hrow hbm2 hlm htk hM hoL hin hsn hfit hblk gr
          by_cases hk0 : k = 0
          · subst hk0
            skip
            skip
            go_wp2_with fail
            refine (total_any _ _ _ M _ HOL.out.rd HFI.out (by omega)).mono ?_
            rintro e w' ⟨rfl, rfl⟩
            rw [HSM.out]
            go_wp2_with fail
            refine (iInBox_any _ _ _ M (a1 : Int) (b1 : Int) _ HOL.out.rd HOL.out.le (by omega)).mono ?_
            rintro e w7 ⟨rfl, hb7⟩
            rw [HIN.out]
            have hbk7 := HBK.out.below hb7 hzr
            have c7 := hbk7.cell sn
            rw [HC.out] at c7
            have f7 := hbk7.free sn
            have hz7 := hb7.size
            go_wp2_with fail
            go_roundw
            case rel =>
              refine ⟨0 + 1, by go_num, by omega, ?_, (hbr.trans (hb7.mono hbr.size)).setCell (p := ⟨w5.heap.size, sn, none⟩) (Nat.le_refl _) _, by simp [World.setCell]; omega⟩
              rw [HSN.out, ← arr_set]
              exact hbk7.set _ _
            case measure => simp [intOf] <;> omega
          · obtain ⟨j, hjk⟩ : ∃ j, j + 1 = k := ⟨k - 1, by omega⟩
            have dk : decide ((0 : Int) < (k : Int)) = true := decide_eq_true (by omega)
            obtain ⟨t, htt, hts, htf, htl⟩ := HPV.out j (by omega) hjk
            obtain ⟨gA2, aL2, cL2, e2, -, -, hcell2, hoL2, -⟩ := HGR.out.at_ (show j < FF.length by omega)
            injection e2 with e2; injection e2 with e2 _; subst e2
            obtain ⟨M2, hM2⟩ : ∃ M2, M2 = FF[j] := ⟨_, rfl⟩
            rw [← hM2] at hcell2 hoL2 htt htf htl
            have HOL2 := Lib.hid hoL2
            have HTT := Lib.hid htt
            have HTF := Lib.hid htf
            have hkj : (k : Int) - 1 = (j : Int) := by omega
            have hwj : IntKind.i64.wrap (j : Int) = (j : Int) := IntWalk.i64_in _ (by omega)
            have hjl : (j : Int) < (FF.length : Int) := by omega
            have hjl' : j < FF.length := by omega
            have d2 : decide ((sn : Int) < (t : Int)) = false := decide_eq_false (by omega)
            have d3 : decide (sn < t) = false := decide_eq_false (by omega)
            have HTS := Lib.hid hts
            clear hM2 hoL2 htt htf hts
            clear hk0
            have HHK := Lib.hid hjk
            clear hjk
            go_wp2_with fail
            refine (total_any _ _ _ M _ HOL.out.rd HFI.out (by omega)).mono ?_
            rintro e w' ⟨rfl, rfl⟩
            rw [HSM.out]
            go_wp2_with fail
            refine (iInBox_any _ _ _ M (a1 : Int) (b1 : Int) _ HOL.out.rd HOL.out.le (by omega)).mono ?_
            rintro e w7 ⟨rfl, hb7⟩
            rw [HIN.out]
            have hbk7 := HBK.out.below hb7 hzr
            have c7 := hbk7.cell sn
            rw [HC.out] at c7
            have f7 := hbk7.free sn
            have hz7 := hb7.size
            have hcell7 := (hb7.cell (p := ⟨gA, j, none⟩) (World.block_lt_of_cell? _ _ hcell2)).trans hcell2
            have HO7 := Lib.hid (HOL2.out.below (hb7.mono HOL2.out.le))
            go_wp2_with fail
            refine (total_any _ _ _ M2 _ HO7.out.rd HTF.out (by omega)).mono ?_
            rintro e w' ⟨rfl, rfl⟩
            rw [HTT.out]
            go_wp2_with fail
            go_roundw
            case rel =>
              refine ⟨k + 1, by go_num, by omega, ?_, (hbr.trans (hb7.mono hbr.size)).setCell (p := ⟨w5.heap.size, sn, none⟩) (Nat.le_refl _) _, by simp [World.setCell]; omega⟩
              rw [HSN.out, ← arr_set]
              exact hbk7.set _ _
            case measure => simp [intOf] <;> omega
        · obtain rfl : k = FF.length := by omega
          have g1 := g0.below (hbr.mono g0.le)
          have r1 := r0.below (hbr.mono r0.le)
          have hAw := hA.trans (hbr.mono hA.size)
          have hEND : Blk wr w5.heap.size 3 (arr R) := by
            have e1 : metF N (FF.take FF.length) = R := by rw [List.take_length, HT1.out]
            rw [← e1]; exact hblk
          have hme := hEND.own (lo := 0) (Nat.zero_le _) (by rw [List.length_map, HRN.out]; unfold maxLen; omega)
          rw [List.length_map, HRN.out] at hme
          have r2 := r1.rd
          clear hblk hbr g1 r1
          go_wp2_with fail
          have HE := equalInts_same _ ak N ck _ _ R wr hme.rd r2 (by rw [HRN.out]; omega)
          rw [HRN.out] at HE
          refine HE.mono ?_
          rintro e w9 ⟨rfl, hd9⟩
          have hA9 := hAw.trans (hd9.below _)
          go_wp2_with fail
          go_ret
          exact ⟨rfl, hA9⟩
  · have hl' : 1048576 < bs.length := by omega
    go_enter Try.func10, Try.ntmps10
    go_wp2_with fail
    go_ret
    exact ⟨rfl, Below.refl _ _⟩

theorem own : ownKnob Try.prog.godebug = none := by kernel_rfl
theorem laidOut : laidOutB Try.prog = true := by kernel_rfl

set_option maxRecDepth 100000 in
theorem lifted (os : Os) (started : os.Started) (H : Type) (enc : TypeId × Value → H) :
    ReturnsInHanded {} Try.checked os 10 .any (Rows.fnBoxPartsSpec.pre6 enc Try.prog Try.f10 Rows.fnBoxPartsRow.domain false) (Rows.fnBoxPartsSpec.post enc Try.prog Try.f10 false true false false) := by
  refine returnsInHanded_of_change (C := Try.checked) own started (by kernel_rfl) Try.func10
    (ChangeSpec.witness6 (enc := enc) (C := Try.checked) false ⟨#[], #[.slice none 0 0], []⟩ 8 (by kernel_rfl) (by kernel_rfl) (by kernel_rfl) (by kernel_rfl)) ?_
  intro W base args ds gs before hval0 hW hcnd _
  have hval : ∀ (j : Nat) t v, Try.f10.params[j]? = some t → args[j]? = some v → Value.okWide Try.prog W .any base t v := hval0
  have hW' := hW
  obtain ⟨p, q, hA0, hV, rfl, hfz, hnd⟩ := hW
  have hA : DataW.TrodAll enc Try.prog W 0 (fun _ => true) true Try.f10.params.toList args.toList ds p := hA0
  rw [Try.params10] at hA hval
  obtain ⟨v0, vs0, d0, ds0, p0, q0, hargs, rfl, rfl, h0, r0⟩ := trodAll_cons hA
  obtain ⟨rfl, rfl, rfl⟩ := trodAll_nil r0
  obtain rfl : args = #[v0] := by cases args; simp_all
  obtain ⟨rfl, rfl⟩ := trodVars_none hV
  obtain ⟨a0, len0, cap0, rfl⟩ := okWide_slice Try.underlying27 (hval 0 27 v0 rfl rfl)
  have k0 := h0
  have lt0 : ∀ x ∈ p0, x.block < W.heap.size := by obtain ⟨m, hm⟩ := k0; exact DataW.trod_lt m _ _ _ hm
  obtain ⟨z0, w0⟩ : ∃ zs, IsRow .u8 W a0 len0 cap0 zs := by
    obtain ⟨fuel, hf⟩ := h0
    rcases open_ints Try.underlying27 Try.underlying5 (by kernel_rfl) hf with ⟨hcs, _⟩ | ⟨x, l, c, zs, hcs, _, hl, hm, hz, _, hcell, hwz⟩
    · simp [Value.cells] at hcs
      obtain ⟨rfl, rfl, rfl⟩ := hcs
      exact ⟨[], .inl ⟨rfl, rfl, rfl, rfl⟩⟩
    · simp [Value.cells] at hcs
      obtain ⟨rfl, rfl, rfl⟩ := hcs
      exact ⟨zs, .inr ⟨_, rfl, hl, hm, by simpa using hz, hcell, hwz⟩⟩
  have lc0 := w0.lc
  obtain ⟨L0, rfl, R0, wf0, m0⟩ := w0.rd
  clear hA0 hval0
  refine (walk a0 cap0 L0 W R0 wf0 m0 (by simpa using lc0)).mono fun e W' ⟨he, bel⟩ => ?_
  subst he
  exact ⟨_, rfl, _, _, _, [], _, [], hW', trodAll_mk1 (shut_bool Try.underlying4 _), (trodAll_cons_mk (Below.trod laidOut (by kernel_rfl) (of_decide_eq_true (by kernel_rfl)) k0 bel lt0) trodAll_mk0), rfl, bel.frame _, fun h => by cases h⟩

theorem over : Rows.fnBoxPartsRow.holds Try.pinned (OpenSpec.ofChange Rows.fnBoxPartsSpec) :=
  OpenClaim.holds_of_wide 10 Try.f10 rfl rfl rfl rfl rfl rfl rfl ⟨rfl, rfl, rfl, rfl, rfl⟩ rfl rfl rfl rfl rfl (by kernel_rfl) Try.func10 (by kernel_rfl)
    (of_decide_eq_true (by kernel_rfl)) (by unfold Func.isWrapper; first | (rw [if_pos (by decide +kernel)]; kernel_rfl) | (rw [if_neg (by decide +kernel)]; exact ⟨rfl, rfl⟩))
    (fun os started H enc _ => lifted os started H enc)

/-- the given statement -/
theorem proved : Rows.FnBoxPartsSaid := over
end Go.Proofs.Ytcjnmconehfbgaa.fnBoxParts
