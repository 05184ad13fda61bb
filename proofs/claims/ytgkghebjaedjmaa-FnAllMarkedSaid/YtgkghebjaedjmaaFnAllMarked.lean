/-
  'laws.FnAllMarked' returns true for every code, and the code reads as it did. No condition.
-/
import Derived.Test.YtgkghebjaedjmaaRows
import Derived.Test.YtgkghebjaedjmaaZA1
import Derived.Test.YtgkghebjaedjmaaZA2
import Derived.Test.YtgkghebjaedjmaaZA3
import Derived.Test.YtgkghebjaedjmaaZA4
import Derived.Test.YtgkghebjaedjmaaZA5
import Derived.Test.YtgkghebjaedjmaaZA6
import Derived.Test.YtgkghebjaedjmaaZA7
import Derived.Test.YtgkghebjaedjmaaZA8
import Derived.Test.YtgkghebjaedjmaaZA9
import Derived.Test.YtgkghebjaedjmaaZA10
import Derived.Test.YtgkghebjaedjmaaZB1
import Derived.Test.YtgkghebjaedjmaaZB2
import Derived.WalkKit
import Derived.ProofKit
import Derived.OpenShut
import Derived.ShutString
import Derived.ChangeOld
import Derived.Below
namespace Go.Proofs.Ytgkghebjaedjmaa.fnAllMarked
open Go.ChangeShapes Go.WideShapes Go.ChangeAt Go.RowKit NP
open Go.ChangeMaps (open_string shut_string)
set_option linter.unusedVariables false

set_option maxHeartbeats 1600000 in
theorem walk (a : Option Addr) (c : Nat) (bs : List Int) (w0 : World) (h : Rd w0 w0.heap.size a (bs.map (Value.int .u8))) (hb : ∀ n ∈ bs, (Lit.int .u8 n).wf = true) (m : bs.length ≤ maxLen) (hc : bs.length ≤ c) :
    Calls Try.prog 4 #[.slice a bs.length c] w0 fun e w' => e = .returned (.bool true) ∧ Below w0.heap.size w0 w' := by
  unfold maxLen at m
  by_cases hl : bs.length ≤ 1048576
  · go_enter Try.func4, Try.ntmps4
    go_wp2_with fail
    refine (DrawAllMarked_any a c _ bs _ h (Nat.le_refl _) hb hl hc).mono ?_
    rintro e w1 ⟨n, rfl, hn, hA⟩
    clear h hb hl hc m
    have hln := amkF_len n
    have hil := amkF_il n
    by_cases hr : n < 0
    · have g1 : decide (n < 0) = true := decide_eq_true hr
      clear hr
      go_wp2_with fail
      refine (iAllMarked_any n _).mono ?_
      rintro e w2 ⟨a_g, c_g, ug, ig, rfl, ot, hb⟩
      replace hA := hA.trans (hb.mono hA.size)
      have hz2 := hb.size
      clear hb
      go_wp2_with fail
      refine (sAllMarked_any n _).mono ?_
      rintro e w3 ⟨a_r, c_r, ur, ir, rfl, sp, hb⟩
      replace ot := ot.below em_keep (hb.mono ot.le)
      replace hA := hA.trans (hb.mono hA.size)
      have hz3 := hb.size
      clear hb
      go_wp2_with fail
      refine (equalAllMarked_same _ _ _ _ _ _ _ _ _ _ _ _ (amkF n) _ ot sp hln hil).mono ?_
      rintro e w4 ⟨rfl, hb⟩
      replace ot := ot.below em_keep (hb.mono ot.le)
      replace sp := sp.below em_keep (hb.mono sp.le)
      replace hA := hA.trans (hb.mono hA.size)
      have hz4 := hb.size
      clear hb
      go_wp2_with fail
      refine (sAllMarked_any n _).mono ?_
      rintro e w5 ⟨a_s, c_s, vs, is, rfl, sq, hb⟩
      replace ot := ot.below em_keep (hb.mono ot.le)
      replace hA := hA.trans (hb.mono hA.size)
      have hz5 := hb.size
      clear hb
      go_wp2_with fail
      refine (equalAllMarked_same _ _ _ _ _ _ _ _ _ _ _ _ (amkF n) _ ot sq hln hil).mono ?_
      rintro e w6 ⟨rfl, hb⟩
      replace hA := hA.trans (hb.mono hA.size)
      clear hb
      go_wp2_with fail
      go_ret
      exact ⟨rfl, hA⟩
    · have g1 : decide (n < 0) = false := decide_eq_false hr
      by_cases hr2 : 8 < n
      · have g2 : decide (8 < n) = true := decide_eq_true hr2
        clear hr2 hr
        go_wp2_with fail
        refine (iAllMarked_any n _).mono ?_
        rintro e w2 ⟨a_g, c_g, ug, ig, rfl, ot, hb⟩
        replace hA := hA.trans (hb.mono hA.size)
        have hz2 := hb.size
        clear hb
        go_wp2_with fail
        refine (sAllMarked_any n _).mono ?_
        rintro e w3 ⟨a_r, c_r, ur, ir, rfl, sp, hb⟩
        replace ot := ot.below em_keep (hb.mono ot.le)
        replace hA := hA.trans (hb.mono hA.size)
        have hz3 := hb.size
        clear hb
        go_wp2_with fail
        refine (equalAllMarked_same _ _ _ _ _ _ _ _ _ _ _ _ (amkF n) _ ot sp hln hil).mono ?_
        rintro e w4 ⟨rfl, hb⟩
        replace ot := ot.below em_keep (hb.mono ot.le)
        replace sp := sp.below em_keep (hb.mono sp.le)
        replace hA := hA.trans (hb.mono hA.size)
        have hz4 := hb.size
        clear hb
        go_wp2_with fail
        refine (sAllMarked_any n _).mono ?_
        rintro e w5 ⟨a_s, c_s, vs, is, rfl, sq, hb⟩
        replace ot := ot.below em_keep (hb.mono ot.le)
        replace hA := hA.trans (hb.mono hA.size)
        have hz5 := hb.size
        clear hb
        go_wp2_with fail
        refine (equalAllMarked_same _ _ _ _ _ _ _ _ _ _ _ _ (amkF n) _ ot sq hln hil).mono ?_
        rintro e w6 ⟨rfl, hb⟩
        replace hA := hA.trans (hb.mono hA.size)
        clear hb
        go_wp2_with fail
        go_ret
        exact ⟨rfl, hA⟩
      · have g2 : decide (8 < n) = false := decide_eq_false hr2
        obtain ⟨m, rfl⟩ := Int.eq_ofNat_of_zero_le (show 0 ≤ n by omega)
        have g2' : decide (8 < m) = false := decide_eq_false (by omega)
        have hm12 : m ≤ 8 := by omega
        obtain ⟨t1, t2, t3⟩ := amOk_at hm12
        have HLN := Lib.hid t1
        have HT2 := Lib.hid t2
        have HT3 := Lib.hid t3
        clear t1 t2 t3
        have HAF := Lib.hid (amkF_yes hm12)
        clear hr2 hr
        go_wp2_with fail
        refine (iAllMarked_any (m : Int) _).mono ?_
        rintro e w2 ⟨a_g, c_g, ug, ig, rfl, ot, hb⟩
        replace hA := hA.trans (hb.mono hA.size)
        have hz2 := hb.size
        clear hb
        go_wp2_with fail
        refine (sAllMarked_any (m : Int) _).mono ?_
        rintro e w3 ⟨a_r, c_r, ur, ir, rfl, sp, hb⟩
        replace ot := ot.below em_keep (hb.mono ot.le)
        replace hA := hA.trans (hb.mono hA.size)
        have hz3 := hb.size
        clear hb
        go_wp2_with fail
        refine (equalAllMarked_same _ _ _ _ _ _ _ _ _ _ _ _ (amkF (m : Int)) _ ot sp hln hil).mono ?_
        rintro e w4 ⟨rfl, hb⟩
        replace ot := ot.below em_keep (hb.mono ot.le)
        replace sp := sp.below em_keep (hb.mono sp.le)
        replace hA := hA.trans (hb.mono hA.size)
        have hz4 := hb.size
        clear hb
        rw [HAF.out] at ot sp hln hil ⊢
        have hmx : Try.prog.follows .mixedOrders = true := by kernel_rfl
        have hmm : ((m : Int) != (m : Int)) = false := by simp
        go_wp2_with fail
        go_loopw [5] (fun vi wr => ∃ k : Nat, k ≤ (amQ m).length ∧ vi = .int .i64 k ∧ Below w4.heap.size w4 wr) (fun vi _ => (amQ m).length - (intOf vi).toNat)
        case atStart => exact ⟨0, Nat.zero_le _, rfl, Below.refl _ _⟩
        case round =>
          obtain ⟨k, hk, rfl, hbr⟩ := hrel
          by_cases hlt : k < (amQ m).length
          · have llr := ot.below em_keep (hbr.mono ot.le)
            have hzr := hbr.size
            have hlt' : (k : Int) < ((amQ m).length : Int) := by omega
            obtain ⟨g, c1, u, i, e1, -, -, -, -, -, hE, -, -, hh1, -, hc1, -⟩ := llr.at_ hlt
            injection e1 with e1 e2 e3
            subst e1
            clear e2 e3
            have hx := hil _ (List.getElem_mem hlt)
            obtain ⟨hvm, hsm⟩ := HT2.out _ (List.getElem_mem hlt)
            have HXX := Lib.hid (rfl : (amQ m)[k] = (amQ m)[k])
            have HT3k : Hid (∀ j (hj : k = j + 1), (amQ m)[j]'(by omega) ≠ (amQ m)[k]) := Lib.hid (fun j hj => by subst hj; exact HT3.out j hlt)
            clear HXX
            generalize (amQ m)[k] = x at hE hx hvm hsm HT3k
            obtain ⟨L, bs⟩ := x
            obtain ⟨a1, a2, k1, k2, md, rfl, p1, p2, o1, o2⟩ := hE
            simp only at hx hvm hsm o1 o2 hc1
            have hlg : g < wr.heap.size := World.block_lt_of_cell? _ _ (hc1 0 _ rfl)
            have HR1 : Hid (∀ w', Below wr.heap.size wr w' → w'.rangeAt g (k * 2) [.slice a1 L.length k1, .slice a2 bs.length k2]) := Lib.hid (fun w' hb q v hv => (hb.cell (p := ⟨g, k * 2 + q, none⟩) hlg).trans (hc1 q v hv))
            have HC1 : Hid (∀ w', Below wr.heap.size wr w' → w'.cell? ⟨g, k * 2, none⟩ = some (.slice a1 L.length k1)) := Lib.hid (fun w' hb => (hb.cell (p := ⟨g, k * 2, none⟩) hlg).trans (hc1 0 _ rfl))
            have O1 := Lib.hid o1
            have O2 := Lib.hid o2
            have HVM := Lib.hid hvm
            have HSM := Lib.hid hsm
            have HL1 : Hid (bs.length = L.length) := Lib.hid (vmk_iff.1 hvm).2.1
            have hxL := hx.1
            have hxb := hx.2
            clear o1 o2 hvm hsm hx hc1
            by_cases hk0 : k = 0
            · have dk : decide ((0 : Int) < (k : Int)) = false := decide_eq_false (by omega)
              have dk' : decide (0 < k) = false := decide_eq_false (by omega)
              clear hk0
              go_wp2_with fail
              refine wp_region_vals [0, 1, 2, 3, 4, 5, 6, 7, 8, 9, 10, 11, 12, 13, 14, 15, 16, 17, 18, 19, 20, 21, 22, 23, 24, 25, 26, 27, 28, 29, 30, 31] [.slice (some ⟨g, 0, none⟩) (amQ m).length c_g, .int .i64 k, .pointer (some ⟨g, k * 2, none⟩), .agg #[.slice a1 L.length k1, .slice a2 bs.length k2], .bool true, .bool false, .bool false, .slice (some ⟨g, 0, none⟩) (amQ m).length c_g, .int .i64 k, .pointer (some ⟨g, k * 2, none⟩), .pointer (some ⟨g, k * 2, none⟩), .slice a1 L.length k1, .int .i64 m, .int .i64 m, .bool false, .bool false, .bool false, .int .i64 k, .bool false, .bool false, undef, undef, undef, undef, undef, undef, undef, undef, undef, undef, .bool false, .bool false] (fun w' => Below wr.heap.size wr w') _ hmx (fun _ h => h.below _) rfl rfl (by kernel_rfl) (by kernel_rfl) rfl ?steps ?rest
              case steps =>
                simp only [putsOfG, Act.put, List.getElem?_toArray, List.getElem?_cons_succ, List.getElem?_cons_zero, Option.bind_some, Nat.reduceAdd, List.setIfInBounds_toArray, List.set_cons_zero, List.set_cons_succ]
                refine StepsG.cons rfl rfl (fun wq hS => ?_) ?_
                · go_simp
                refine StepsG.cons rfl rfl (fun wq hS => ?_) ?_
                · go_simp
                refine StepsG.cons rfl rfl (fun wq hS => ?_) ?_
                · go_simp
                refine StepsG.cons rfl rfl (fun wq hS => ?_) ?_
                · show Oper.wp _ _ _ _ _ _
                  unfold Oper.wp
                  rw [exec_loadQ 33 (.tmp 38) rfl ⟨g, k * 2, none⟩ rfl (run_loadVar_mid wq g (k * 2) 33 _ _ (HR1.out wq hS) Try.underlying33 rfl T_mkS)]
                  exact ⟨rfl, hS⟩
                refine StepsG.cons rfl rfl (fun wq hS => ?_) ?_
                · go_simp
                  go_at_call 16
                  refine (iValidMarked_any a1 a2 k1 k2 i.2 md L bs wq (O2.out.below (hS.mono O2.out.le)).rd (O1.out.below (hS.mono O1.out.le)).rd (Nat.le_trans O2.out.le hS.size) (Nat.le_trans O1.out.le hS.size) (by omega) (by omega)).mono ?_
                  rintro e w' ⟨rfl, hbq⟩
                  rw [HVM.out]
                  exact ⟨rfl, hS.trans (hbq.mono hS.size)⟩
                refine StepsG.cons rfl rfl (fun wq hS => ?_) ?_
                · go_simp
                refine StepsG.cons rfl rfl (fun wq hS => ?_) ?_
                · go_simp
                refine StepsG.cons rfl rfl (fun wq hS => ?_) ?_
                · go_simp
                refine StepsG.cons rfl rfl (fun wq hS => ?_) ?_
                · go_simp
                refine StepsG.cons rfl rfl (fun wq hS => ?_) ?_
                · go_simp
                refine StepsG.cons rfl rfl (fun wq hS => ?_) ?_
                · go_simp
                refine StepsG.cons rfl rfl (fun wq hS => ?_) ?_
                · have s1 := HC1.out wq hS
                  go_simp
                refine StepsG.cons rfl rfl (fun wq hS => ?_) ?_
                · go_simp
                  go_at_call 17
                  refine (total_any a1 k1 i.2 L wq (O2.out.below (hS.mono O2.out.le)).rd (valid_fits (vmk_iff.1 HVM.out).1) (by omega)).mono ?_
                  rintro e w' ⟨rfl, rfl⟩
                  rw [HSM.out]
                  exact ⟨rfl, hS⟩
                refine StepsG.cons rfl rfl (fun wq hS => ?_) ?_
                · go_simp
                refine StepsG.cons rfl rfl (fun wq hS => ?_) ?_
                · go_simp
                refine StepsG.cons rfl rfl (fun wq hS => ?_) ?_
                · go_simp
                refine StepsG.cons rfl rfl (fun wq hS => ?_) ?_
                · go_simp
                refine StepsG.cons rfl rfl (fun wq hS => ?_) ?_
                · go_simp
                refine StepsG.cons rfl rfl (fun wq hS => ?_) ?_
                · go_simp
                refine StepsG.cons rfl rfl (fun wq hS => ?_) ?_
                · go_simp
                refine StepsG.skip rfl rfl rfl ?_
                refine StepsG.skip rfl rfl rfl ?_
                refine StepsG.skip rfl rfl rfl ?_
                refine StepsG.skip rfl rfl rfl ?_
                refine StepsG.skip rfl rfl rfl ?_
                refine StepsG.skip rfl rfl rfl ?_
                refine StepsG.skip rfl rfl rfl ?_
                refine StepsG.skip rfl rfl rfl ?_
                refine StepsG.skip rfl rfl rfl ?_
                refine StepsG.skip rfl rfl rfl ?_
                refine StepsG.cons rfl rfl (fun wq hS => ?_) ?_
                · go_simp
                refine StepsG.cons rfl rfl (fun wq hS => ?_) ?_
                · go_simp
                exact StepsG.nil
              case rest =>
                intro wq hS
                simp only [putsOfG, Act.put, List.getElem?_toArray, List.getElem?_cons_succ, List.getElem?_cons_zero, Option.bind_some, Nat.reduceAdd, List.setIfInBounds_toArray, List.set_cons_zero, List.set_cons_succ]
                go_wp2_with fail
                go_roundw
                case rel => exact ⟨k + 1, by omega, by go_num, hbr.trans (hS.mono hbr.size)⟩
                case measure => simp [intOf] <;> omega
            · obtain ⟨j, hj⟩ : ∃ j, k = j + 1 := ⟨k - 1, by omega⟩
              have dk : decide ((0 : Int) < (k : Int)) = true := decide_eq_true (by omega)
              have dk' : decide (0 < k) = true := decide_eq_true (by omega)
              have hw1 : IntKind.i64.wrap ((k : Int) - 1) = (j : Int) := by rw [show (k : Int) - 1 = (j : Int) by omega]; exact IntWalk.i64_in _ (by omega)
              have hltj : j < (amQ m).length := by omega
              have hltj' : (j : Int) < ((amQ m).length : Int) := by omega
              obtain ⟨g', c1', u', i', e1', -, -, -, -, -, hE', -, -, hh1', -, hc1', -⟩ := llr.at_ hltj
              injection e1' with e1 e2 e3
              injection e1 with e1
              injection e1 with e1
              subst e1
              clear e2 e3
              have hx := hil _ (List.getElem_mem hltj)
              obtain ⟨hvm, hsm⟩ := HT2.out _ (List.getElem_mem hltj)
              have hne := HT3k.out j hj
              clear hsm
              generalize (amQ m)[j] = x at hE' hx hvm hne
              obtain ⟨M, cs⟩ := x
              obtain ⟨b1, b2, l1, l2, md', rfl, p1', p2', o1, o2⟩ := hE'
              simp only at hx hvm o1 o2 hc1'
              have HR2 : Hid (∀ w', Below wr.heap.size wr w' → w'.rangeAt g (j * 2) [.slice b1 M.length l1, .slice b2 cs.length l2]) := Lib.hid (fun w' hb q v hv => (hb.cell (p := ⟨g, j * 2 + q, none⟩) hlg).trans (hc1' q v hv))
              have P1 := Lib.hid o1
              have P2 := Lib.hid o2
              have HNE := Lib.hid hne
              have HL2 : Hid (cs.length = M.length) := Lib.hid (vmk_iff.1 hvm).2.1
              have hxM := hx.1
              have hxc := hx.2
              clear o1 o2 hvm hx hc1' hne hj hk0
              go_wp2_with fail
              refine wp_region_vals [0, 1, 2, 3, 4, 5, 6, 7, 8, 9, 10, 11, 12, 13, 14, 15, 16, 17, 18, 19, 20, 21, 22, 23, 24, 25, 26, 27, 28, 29, 30, 31] [.slice (some ⟨g, 0, none⟩) (amQ m).length c_g, .int .i64 k, .pointer (some ⟨g, k * 2, none⟩), .agg #[.slice a1 L.length k1, .slice a2 bs.length k2], .bool true, .bool false, .bool false, .slice (some ⟨g, 0, none⟩) (amQ m).length c_g, .int .i64 k, .pointer (some ⟨g, k * 2, none⟩), .pointer (some ⟨g, k * 2, none⟩), .slice a1 L.length k1, .int .i64 m, .int .i64 m, .bool false, .bool false, .bool false, .int .i64 k, .bool true, .bool true, .slice (some ⟨g, 0, none⟩) (amQ m).length c_g, .int .i64 k, .int .i64 j, .pointer (some ⟨g, j * 2, none⟩), .agg #[.slice b1 M.length l1, .slice b2 cs.length l2], .slice (some ⟨g, 0, none⟩) (amQ m).length c_g, .int .i64 k, .pointer (some ⟨g, k * 2, none⟩), .agg #[.slice a1 L.length k1, .slice a2 bs.length k2], .bool false, .bool false, .bool false] (fun w' => Below wr.heap.size wr w') _ hmx (fun _ h => h.below _) rfl rfl (by kernel_rfl) (by kernel_rfl) rfl ?steps ?rest
              case steps =>
                simp only [putsOfG, Act.put, List.getElem?_toArray, List.getElem?_cons_succ, List.getElem?_cons_zero, Option.bind_some, Nat.reduceAdd, List.setIfInBounds_toArray, List.set_cons_zero, List.set_cons_succ]
                refine StepsG.cons rfl rfl (fun wq hS => ?_) ?_
                · go_simp
                refine StepsG.cons rfl rfl (fun wq hS => ?_) ?_
                · go_simp
                refine StepsG.cons rfl rfl (fun wq hS => ?_) ?_
                · go_simp
                refine StepsG.cons rfl rfl (fun wq hS => ?_) ?_
                · show Oper.wp _ _ _ _ _ _
                  unfold Oper.wp
                  rw [exec_loadQ 33 (.tmp 38) rfl ⟨g, k * 2, none⟩ rfl (run_loadVar_mid wq g (k * 2) 33 _ _ (HR1.out wq hS) Try.underlying33 rfl T_mkS)]
                  exact ⟨rfl, hS⟩
                refine StepsG.cons rfl rfl (fun wq hS => ?_) ?_
                · go_simp
                  go_at_call 16
                  refine (iValidMarked_any a1 a2 k1 k2 i.2 md L bs wq (O2.out.below (hS.mono O2.out.le)).rd (O1.out.below (hS.mono O1.out.le)).rd (Nat.le_trans O2.out.le hS.size) (Nat.le_trans O1.out.le hS.size) (by omega) (by omega)).mono ?_
                  rintro e w' ⟨rfl, hbq⟩
                  rw [HVM.out]
                  exact ⟨rfl, hS.trans (hbq.mono hS.size)⟩
                refine StepsG.cons rfl rfl (fun wq hS => ?_) ?_
                · go_simp
                refine StepsG.cons rfl rfl (fun wq hS => ?_) ?_
                · go_simp
                refine StepsG.cons rfl rfl (fun wq hS => ?_) ?_
                · go_simp
                refine StepsG.cons rfl rfl (fun wq hS => ?_) ?_
                · go_simp
                refine StepsG.cons rfl rfl (fun wq hS => ?_) ?_
                · go_simp
                refine StepsG.cons rfl rfl (fun wq hS => ?_) ?_
                · go_simp
                refine StepsG.cons rfl rfl (fun wq hS => ?_) ?_
                · have s1 := HC1.out wq hS
                  go_simp
                refine StepsG.cons rfl rfl (fun wq hS => ?_) ?_
                · go_simp
                  go_at_call 17
                  refine (total_any a1 k1 i.2 L wq (O2.out.below (hS.mono O2.out.le)).rd (valid_fits (vmk_iff.1 HVM.out).1) (by omega)).mono ?_
                  rintro e w' ⟨rfl, rfl⟩
                  rw [HSM.out]
                  exact ⟨rfl, hS⟩
                refine StepsG.cons rfl rfl (fun wq hS => ?_) ?_
                · go_simp
                refine StepsG.cons rfl rfl (fun wq hS => ?_) ?_
                · go_simp
                refine StepsG.cons rfl rfl (fun wq hS => ?_) ?_
                · go_simp
                refine StepsG.cons rfl rfl (fun wq hS => ?_) ?_
                · go_simp
                refine StepsG.cons rfl rfl (fun wq hS => ?_) ?_
                · go_simp
                refine StepsG.cons rfl rfl (fun wq hS => ?_) ?_
                · go_simp
                refine StepsG.cons rfl rfl (fun wq hS => ?_) ?_
                · go_simp
                refine StepsG.cons rfl rfl (fun wq hS => ?_) ?_
                · go_simp
                refine StepsG.cons rfl rfl (fun wq hS => ?_) ?_
                · go_simp
                refine StepsG.cons rfl rfl (fun wq hS => ?_) ?_
                · go_simp
                refine StepsG.cons rfl rfl (fun wq hS => ?_) ?_
                · go_simp
                refine StepsG.cons rfl rfl (fun wq hS => ?_) ?_
                · show Oper.wp _ _ _ _ _ _
                  unfold Oper.wp
                  rw [exec_loadQ 33 (.tmp 59) rfl ⟨g, j * 2, none⟩ rfl (run_loadVar_mid wq g (j * 2) 33 _ _ (HR2.out wq hS) Try.underlying33 rfl T_mkS)]
                  exact ⟨rfl, hS⟩
                refine StepsG.cons rfl rfl (fun wq hS => ?_) ?_
                · go_simp
                refine StepsG.cons rfl rfl (fun wq hS => ?_) ?_
                · go_simp
                refine StepsG.cons rfl rfl (fun wq hS => ?_) ?_
                · go_simp
                refine StepsG.cons rfl rfl (fun wq hS => ?_) ?_
                · show Oper.wp _ _ _ _ _ _
                  unfold Oper.wp
                  rw [exec_loadQ 33 (.tmp 63) rfl ⟨g, k * 2, none⟩ rfl (run_loadVar_mid wq g (k * 2) 33 _ _ (HR1.out wq hS) Try.underlying33 rfl T_mkS)]
                  exact ⟨rfl, hS⟩
                refine StepsG.cons rfl rfl (fun wq hS => ?_) ?_
                · go_simp
                  go_at_call 18
                  refine (equalMarked_ne b1 b2 a1 a2 l1 l2 k1 k2 i'.2 md' i.2 md M L cs bs wq (P2.out.below (hS.mono P2.out.le)).rd (P1.out.below (hS.mono P1.out.le)).rd (O2.out.below (hS.mono O2.out.le)).rd (O1.out.below (hS.mono O1.out.le)).rd (Nat.le_trans P2.out.le hS.size) (Nat.le_trans P1.out.le hS.size) (Nat.le_trans O2.out.le hS.size) (Nat.le_trans O1.out.le hS.size) (by omega) (by omega) (by omega) HNE.out ⟨HL2.out, HL1.out⟩).mono ?_
                  rintro e w' ⟨rfl, hbq⟩
                  exact ⟨rfl, hS.trans (hbq.mono hS.size)⟩
                refine StepsG.cons rfl rfl (fun wq hS => ?_) ?_
                · go_simp
                refine StepsG.cons rfl rfl (fun wq hS => ?_) ?_
                · go_simp
                exact StepsG.nil
              case rest =>
                intro wq hS
                simp only [putsOfG, Act.put, List.getElem?_toArray, List.getElem?_cons_succ, List.getElem?_cons_zero, Option.bind_some, Nat.reduceAdd, List.setIfInBounds_toArray, List.set_cons_zero, List.set_cons_succ]
                go_wp2_with fail
                go_roundw
                case rel => exact ⟨k + 1, by omega, by go_num, hbr.trans (hS.mono hbr.size)⟩
                case measure => simp [intOf] <;> omega
          · obtain rfl : k = (amQ m).length := by omega
            replace hA := hA.trans (hbr.mono hA.size)
            clear hbr sp ot
            have hfin : (((amQ m).length : Int) == mkF (m : Int)) = true := beq_iff_eq.2 HLN.out
            have HCM := Lib.hid (fun w => iCountMarked_any (m : Int) w)
            generalize mkF (m : Int) = z at hfin HCM
            go_wp2_with (go_at_call 19; refine (HCM.out _).mono ?_; rintro e w6 ⟨rfl, hb6⟩)
            replace hA := hA.trans (hb6.mono hA.size)
            go_ret
            exact ⟨rfl, hA⟩
  · have hl' : 1048576 < bs.length := by omega
    go_enter Try.func4, Try.ntmps4
    go_wp2_with fail
    go_ret
    exact ⟨rfl, Below.refl _ _⟩

theorem own : ownKnob Try.prog.godebug = none := by kernel_rfl
theorem laidOut : laidOutB Try.prog = true := by kernel_rfl

set_option maxRecDepth 100000 in
theorem lifted (os : Os) (started : os.Started) (H : Type) (enc : TypeId × Value → H) :
    ReturnsInHanded {} Try.checked os 4 .any (Rows.fnAllMarkedSpec.pre6 enc Try.prog Try.f4 Rows.fnAllMarkedRow.domain false) (Rows.fnAllMarkedSpec.post enc Try.prog Try.f4 false true false false) := by
  refine returnsInHanded_of_change (C := Try.checked) own started (by kernel_rfl) Try.func4
    (ChangeSpec.witness6 (enc := enc) (C := Try.checked) false ⟨#[], #[.slice none 0 0], []⟩ 8 (by kernel_rfl) (by kernel_rfl) (by kernel_rfl) (by kernel_rfl)) ?_
  intro W base args ds gs before hval0 hW hcnd _
  have hval : ∀ (j : Nat) t v, Try.f4.params[j]? = some t → args[j]? = some v → Value.okWide Try.prog W .any base t v := hval0
  have hW' := hW
  obtain ⟨p, q, hA0, hV, rfl, hfz, hnd⟩ := hW
  have hA : DataW.TrodAll enc Try.prog W 0 (fun _ => true) true Try.f4.params.toList args.toList ds p := hA0
  rw [Try.params4] at hA hval
  obtain ⟨v0, vs0, d0, ds0, p0, q0, hargs, rfl, rfl, h0, r0⟩ := trodAll_cons hA
  obtain ⟨rfl, rfl, rfl⟩ := trodAll_nil r0
  obtain rfl : args = #[v0] := by cases args; simp_all
  obtain ⟨rfl, rfl⟩ := trodVars_none hV
  obtain ⟨a0, len0, cap0, rfl⟩ := okWide_slice Try.underlying27 (hval 0 27 v0 rfl rfl)
  have k0 := h0
  have lt0 : ∀ x ∈ p0, x.block < W.heap.size := by obtain ⟨m, hm⟩ := k0; exact DataW.trod_lt m _ _ _ hm
  obtain ⟨z0, w0⟩ : ∃ zs, IsRow .u8 W a0 len0 cap0 zs := by
    obtain ⟨fuel, hf⟩ := h0
    rcases open_ints Try.underlying27 Try.underlying5 (by kernel_rfl) hf with ⟨hcs, _⟩ | ⟨x, l, c, zs, hcs, _, hl, hm, hz, _, hcell, hwz⟩
    · simp [Value.cells] at hcs
      obtain ⟨rfl, rfl, rfl⟩ := hcs
      exact ⟨[], .inl ⟨rfl, rfl, rfl, rfl⟩⟩
    · simp [Value.cells] at hcs
      obtain ⟨rfl, rfl, rfl⟩ := hcs
      exact ⟨zs, .inr ⟨_, rfl, hl, hm, by simpa using hz, hcell, hwz⟩⟩
  have lc0 := w0.lc
  obtain ⟨L0, rfl, R0, wf0, m0⟩ := w0.rd
  clear hA0 hval0
  refine (walk a0 cap0 L0 W R0 wf0 m0 (by simpa using lc0)).mono fun e W' ⟨he, bel⟩ => ?_
  subst he
  exact ⟨_, rfl, _, _, _, [], _, [], hW', trodAll_mk1 (shut_bool Try.underlying4 _), (trodAll_cons_mk (Below.trod laidOut (by kernel_rfl) (of_decide_eq_true (by kernel_rfl)) k0 bel lt0) trodAll_mk0), rfl, bel.frame _, fun h => by cases h⟩

theorem over : Rows.fnAllMarkedRow.holds Try.pinned (OpenSpec.ofChange Rows.fnAllMarkedSpec) :=
  OpenClaim.holds_of_wide 4 Try.f4 rfl rfl rfl rfl rfl rfl rfl ⟨rfl, rfl, rfl, rfl, rfl⟩ rfl rfl rfl rfl rfl (by kernel_rfl) Try.func4 (by kernel_rfl)
    (of_decide_eq_true (by kernel_rfl)) (by unfold Func.isWrapper; first | (rw [if_pos (by decide +kernel)]; kernel_rfl) | (rw [if_neg (by decide +kernel)]; exact ⟨rfl, rfl⟩))
    (fun os started H enc _ => lifted os started H enc)

/-- the given statement -/
theorem proved : Rows.FnAllMarkedSaid := over
end Go.Proofs.Ytgkghebjaedjmaa.fnAllMarked
