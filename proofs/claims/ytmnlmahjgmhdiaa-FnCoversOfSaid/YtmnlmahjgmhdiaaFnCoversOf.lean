/-
  'laws.FnCoversOf' returns true for every code, and the code reads as it did. No condition.
-/
import Derived.Test.YtmnlmahjgmhdiaaRows
import Derived.Test.YtmnlmahjgmhdiaaRows
import Derived.Test.YtmnlmahjgmhdiaaZcov1
import Derived.Test.YtmnlmahjgmhdiaaZcov2
import Derived.Test.YtmnlmahjgmhdiaaZcov3
import Derived.Test.YtmnlmahjgmhdiaaZcov4
import Derived.Test.YtmnlmahjgmhdiaaZcov5
import Derived.Test.YtmnlmahjgmhdiaaZcov6
import Derived.Test.YtmnlmahjgmhdiaaZcov7
import Derived.Test.YtmnlmahjgmhdiaaZcov8
import Derived.Test.YtmnlmahjgmhdiaaZcov9
import Derived.Test.YtmnlmahjgmhdiaaZcov10
import Derived.Test.YtmnlmahjgmhdiaaZcov11
import Derived.WalkKit
import Derived.ProofKit
import Derived.OpenShut
import Derived.ShutString
import Derived.ChangeOld
import Derived.Below
namespace Go.Proofs.Ytmnlmahjgmhdiaa.fnCoversOf
open Go.ChangeShapes Go.WideShapes Go.ChangeAt Go.RowKit NP
open Go.ChangeMaps (open_string shut_string)
set_option linter.unusedVariables false

theorem bCell {w wq : World} {p : Addr} {v : Value} (h : Below w.heap.size w wq) (hc : w.cell? p = some v) : wq.cell? p = some v := (h.cell (World.block_lt_of_cell? w p hc)).trans hc
def tcP (n : Nat) (P : List Int) : Bool :=
  ((cvF P).all fun Q => dom P Q && !decide (P = Q)) && ((List.range (cvF P).length).all fun k => (List.range (cvF P).length).all fun i => decide (i = k) || !dom ((cvF P).getD i []) ((cvF P).getD k [])) && ((allQ n n n).all fun E => decide (E = P) || !dom P E || (cvF P).any fun Q => dom Q E)
set_option maxRecDepth 100000 in
theorem tc_tab : ((List.range 9).all fun n => (allQ n n n).all (tcP n)) = true := by decide +kernel
theorem tc_all {n : Nat} (hn : n ≤ 8) : ∀ P ∈ allQ n n n, tcP n P = true := by
  have h := List.all_eq_true.1 tc_tab n (List.mem_range.2 (by omega))
  exact List.all_eq_true.1 h

set_option linter.unusedSimpArgs false
set_option maxRecDepth 100000 in
set_option maxHeartbeats 4000000 in
theorem walk (a : Option Addr) (c : Nat) (bs : List Int) (w0 : World) (h : Rd w0 w0.heap.size a (bs.map (Value.int .u8))) (hb : ∀ n ∈ bs, (Lit.int .u8 n).wf = true) (m : bs.length ≤ maxLen) (hc : bs.length ≤ c) :
    Calls Try.prog 8 #[.slice a bs.length c] w0 fun e w' => e = .returned (.bool true) ∧ Below w0.heap.size w0 w' := by
  unfold maxLen at m
  by_cases hl : bs.length ≤ 1048576
  · go_enter Try.func8, Try.ntmps8
    go_wp2_with fail
    refine (DrawCoversOf_any a c _ bs _ h (Nat.le_refl _) hb hl hc).mono ?_
    rintro e w1 ⟨a1, c1, M, rfl, p0, hs, hA⟩
    clear h hb hl hc m
    have hM40 := hs.1
    obtain ⟨FF, hFF⟩ : ∃ FF, cvF M = FF := ⟨_, rfl⟩
    have hFl : FF.length ≤ 1000 := hFF ▸ (cvF_rows M).1
    have hil : ∀ X ∈ FF, X.length ≤ 4611686018427387904 := hFF ▸ fun X hX => Nat.le_trans ((cvF_rows M).2 X hX) (by omega)
    have HFF := Lib.hid hFF
    clear hFF
    have HIL := Lib.hid hil
    clear hil hs
    go_wp2_with fail
    refine (iCoversOf_any _ _ _ M _ p0.rd p0.le (by omega)).mono ?_
    rintro e w2 ⟨ag, cg, ug, rfl, g0, hb⟩
    replace p0 := p0.below (hb.mono p0.le)
    replace hA := hA.trans (hb.mono hA.size)
    have hz2 := hb.size
    clear hb
    rw [HFF.out] at g0 ⊢
    go_wp2_with fail
    refine (sCoversOf_any _ _ _ M _ p0.rd p0.le (by omega)).mono ?_
    rintro e w3 ⟨ar, cr, rfl, r0, hb⟩
    replace p0 := p0.below (hb.mono p0.le)
    replace g0 := g0.below (hb.mono g0.le)
    replace hA := hA.trans (hb.mono hA.size)
    have hz3 := hb.size
    clear hb
    rw [HFF.out] at r0 ⊢
    replace r0 := RdH.mk r0 (Nat.le_refl _)
    go_wp2_with fail
    refine (equalLists_same _ _ _ _ _ _ FF _ g0.rd r0.rd (by omega) HIL.out).mono ?_
    rintro e w4 ⟨rfl, hd⟩
    have hb : Below w3.heap.size w3 w4 := hd.below _
    clear hd
    replace p0 := p0.below (hb.mono p0.le)
    replace g0 := g0.below (hb.mono g0.le)
    replace r0 := r0.below (hb.mono r0.le)
    replace hA := hA.trans (hb.mono hA.size)
    have hz4 := hb.size
    clear hb
    go_wp2_with fail
    refine (iValidParts_any _ _ _ M _ p0.rd p0.le (by omega)).mono ?_
    rintro e w5 ⟨rfl, hb⟩
    replace p0 := p0.below (hb.mono p0.le)
    replace g0 := g0.below (hb.mono g0.le)
    replace r0 := r0.below (hb.mono r0.le)
    replace hA := hA.trans (hb.mono hA.size)
    have hz5 := hb.size
    clear hb
    cases hv : valid M with
    | false =>
      clear hv
      go_wp2_with fail
      refine (sCoversOf_any _ _ _ M _ p0.rd p0.le (by omega)).mono ?_
      rintro e w6 ⟨ar2, cr2, rfl, r1, hb⟩
      replace p0 := p0.below (hb.mono p0.le)
      replace g0 := g0.below (hb.mono g0.le)
      replace r0 := r0.below (hb.mono r0.le)
      replace hA := hA.trans (hb.mono hA.size)
      have hz6 := hb.size
      clear hb
      rw [HFF.out] at r1 ⊢
      replace r1 := RdH.mk r1 (Nat.le_refl _)
      go_wp2_with fail
      refine (equalLists_same _ _ _ _ _ _ FF _ g0.rd r1.rd (by omega) HIL.out).mono ?_
      rintro e w7 ⟨rfl, hd⟩
      have hb : Below w6.heap.size w6 w7 := hd.below _
      clear hd
      replace p0 := p0.below (hb.mono p0.le)
      replace g0 := g0.below (hb.mono g0.le)
      replace r0 := r0.below (hb.mono r0.le)
      replace r1 := r1.below (hb.mono r1.le)
      replace hA := hA.trans (hb.mono hA.size)
      have hz7 := hb.size
      clear hb
      go_wp2_with fail
      go_ret
      exact ⟨rfl, hA⟩
    | true =>
      have HV := Lib.hid hv
      have HFT := Lib.hid (valid_fits hv)
      clear hv
      go_wp2_with fail
      refine (total_any _ _ _ M _ p0.rd HFT.out (by omega)).mono ?_
      rintro e w' ⟨rfl, rfl⟩
      by_cases h8 : 8 < sumL M
      · skip
        go_wp2_with fail
        refine (sCoversOf_any _ _ _ M _ p0.rd p0.le (by omega)).mono ?_
        rintro e w6 ⟨ar2, cr2, rfl, r1, hb⟩
        replace p0 := p0.below (hb.mono p0.le)
        replace g0 := g0.below (hb.mono g0.le)
        replace r0 := r0.below (hb.mono r0.le)
        replace hA := hA.trans (hb.mono hA.size)
        have hz6 := hb.size
        clear hb
        rw [HFF.out] at r1 ⊢
        replace r1 := RdH.mk r1 (Nat.le_refl _)
        go_wp2_with fail
        refine (equalLists_same _ _ _ _ _ _ FF _ g0.rd r1.rd (by omega) HIL.out).mono ?_
        rintro e w7 ⟨rfl, hd⟩
        have hb : Below w6.heap.size w6 w7 := hd.below _
        clear hd
        replace p0 := p0.below (hb.mono p0.le)
        replace g0 := g0.below (hb.mono g0.le)
        replace r0 := r0.below (hb.mono r0.le)
        replace r1 := r1.below (hb.mono r1.le)
        replace hA := hA.trans (hb.mono hA.size)
        have hz7 := hb.size
        clear hb
        go_wp2_with fail
        go_ret
        exact ⟨rfl, hA⟩
      · skip
        obtain ⟨n, hn⟩ : ∃ n : Nat, sumL M = (n : Int) := ⟨(sumL M).toNat, (Int.toNat_of_nonneg (valid_bd HV.out).1).symm⟩
        have hn8 : n ≤ 8 := by omega
        have HN := Lib.hid hn
        have ht : tcP n M = true := tc_all hn8 M (mem_allQn HV.out hn)
        unfold tcP at ht
        rw [HFF.out, Bool.and_eq_true, Bool.and_eq_true] at ht
        have HT1 : Hid (∀ k (h : k < FF.length), dom M FF[k] = true ∧ decide (M = FF[k]) = false) := Lib.hid (fun k h => by
          have := List.all_eq_true.1 ht.1.1 FF[k] (List.getElem_mem h)
          rw [Bool.and_eq_true, Bool.not_eq_true'] at this
          exact this)
        have HT2 : Hid (∀ k i (hk : k < FF.length) (hi : i < FF.length), ¬ i = k → dom FF[i] FF[k] = false) := Lib.hid (fun k i hk hi hne => by
          have h1 := List.all_eq_true.1 ht.1.2 k (List.mem_range.2 hk)
          have h2 := List.all_eq_true.1 h1 i (List.mem_range.2 hi)
          simp only [List.getD_eq_getElem?_getD, List.getElem?_eq_getElem hk, List.getElem?_eq_getElem hi, Option.getD_some, Bool.or_eq_true, decide_eq_true_eq, Bool.not_eq_true'] at h2
          exact h2.resolve_left hne)
        obtain ⟨AA, hAA⟩ : ∃ AA, allQ n n n = AA := ⟨_, rfl⟩
        have HT3 : Hid (∀ k (h : k < AA.length), (decide (AA[k] = M) || !(dom M AA[k]) || FF.any (fun Q => dom Q AA[k])) = true) := Lib.hid (fun k h => by
          subst hAA
          exact List.all_eq_true.1 ht.2 _ (List.getElem_mem h))
        have hAl : AA.length ≤ 1000 := by rw [← hAA]; exact allQ_len (by omega)
        have HA1 : Hid (∀ X ∈ AA, X.length ≤ 16) := Lib.hid (fun X hX => by
          subst hAA
          exact (valid_bd (allQ_ok (by omega) X hX).1).2.2.2)
        have HF1 : Hid (∀ X ∈ FF, X.length ≤ 16) := Lib.hid (fun X hX => by
          have := HFF.out
          subst this
          exact (cvF_rows M).2 X hX)
        have HAP : Hid (apF (n : Int) = AA) := Lib.hid (by rw [apF_yes (by omega), hAA])
        have hl9 : M.length ≤ 16 := (valid_bd HV.out).2.2.2
        clear ht hAA
        go_wp2_with fail
        refine (total_any _ _ _ M _ p0.rd HFT.out (by omega)).mono ?_
        rintro e w' ⟨rfl, rfl⟩
        rw [HN.out]
        go_wp2_with fail
        refine (iAllParts_any (n : Int) _).mono ?_
        rintro e w6 ⟨aa, ca, ua, rfl, b0, hb⟩
        replace p0 := p0.below (hb.mono p0.le)
        replace g0 := g0.below (hb.mono g0.le)
        replace r0 := r0.below (hb.mono r0.le)
        replace hA := hA.trans (hb.mono hA.size)
        have hz6 := hb.size
        clear hb
        rw [HAP.out] at b0 ⊢
        go_wp2_with fail
        have hmx : Try.prog.follows .mixedOrders = true := by kernel_rfl
        clear r0 hn h8
        go_loopw [6] (fun ii wr => ∃ k : Nat, k ≤ FF.length ∧ ii = .int .i64 (k : Int) ∧ Below w6.heap.size w6 wr) (fun ii _ => FF.length - (intOf ii).toNat)
        case atStart => exact ⟨0, Nat.zero_le _, rfl, Below.refl _ _⟩
        case round =>
          obtain ⟨k, hk, rfl, hbr⟩ := hrel
          by_cases hlt : k < FF.length
          · have hlt' : (k : Int) < (FF.length : Int) := by omega
            have pr := p0.below (hbr.mono p0.le)
            have gr := g0.below (hbr.mono g0.le)
            obtain ⟨gA, ak, ck, rfl, hg1, hg2, hck, hok, -⟩ := gr.at_ hlt
            obtain ⟨hd1, hd2⟩ := HT1.out k hlt
            have HD1 := Lib.hid hd1
            have HD2 := Lib.hid hd2
            have hl16 := HF1.out _ (List.getElem_mem hlt)
            have HGR := Lib.hid gr
            have HPR := Lib.hid pr
            have HOK := Lib.hid hok
            obtain ⟨wo, rfl⟩ : ∃ wx : World, wx = wr := ⟨_, rfl⟩
            have hzo := hbr.size
            clear hd1 hd2 gr pr hok
            go_wp2_with fail
            refine (iDominates_any _ _ _ _ _ _ M FF[k] _ HPR.out.rd HOK.out.rd HPR.out.le HOK.out.le (by omega) (by omega)).mono ?_
            rintro e w5 ⟨rfl, hb5⟩
            rw [HD1.out]
            have hck5 := bCell hb5 hck
            have HOK5 := Lib.hid (HOK.out.below (hb5.mono HOK.out.le))
            have HPR5 := Lib.hid (HPR.out.below (hb5.mono HPR.out.le))
            go_wp2_with fail
            refine (equalInts_any _ _ _ _ _ _ M FF[k] _ HPR5.out.rd HOK5.out.rd (by omega) (by omega)).mono ?_
            rintro e w6 ⟨rfl, nn, rfl⟩
            rw [HD2.out]
            have hb6 : Below wo.heap.size wo (w5.drewN nn) := hb5.trans (((Dr.n w5 nn).below _).mono hb5.size)
            have HB6 := Lib.hid hb6
            clear hb5 hck5 hb6
            go_wp2_with fail
            go_loopw [7] (fun ii wr => ∃ i : Nat, i ≤ FF.length ∧ ii = .int .i64 (i : Int) ∧ Below wo.heap.size wo wr) (fun ii _ => FF.length - (intOf ii).toNat)
            case atStart => exact ⟨0, Nat.zero_le _, rfl, HB6.out⟩
            case round =>
              obtain ⟨i, hi, rfl, hbi⟩ := hrel
              by_cases hli : i < FF.length
              · have hli' : (i : Int) < (FF.length : Int) := by omega
                have hck0 := bCell hbi hck
                have g2 := HGR.out.below (hbi.mono HGR.out.le)
                obtain ⟨gA2, ai, ci, e2, hh1, hh2, hci, hoi, -⟩ := g2.at_ hli
                injection e2 with e2; injection e2 with e2 _; subst e2
                have HOI := Lib.hid hoi
                have HOK2 := Lib.hid (HOK.out.below (hbi.mono HOK.out.le))
                have hl16i := HF1.out _ (List.getElem_mem hli)
                clear g2 hoi
                go_wp2_with fail
                by_cases hik : i = k
                · have hne : ((i : Int) != (k : Int)) = false := by simp [hik]
                  refine wp_region_vals [0, 1, 2, 3, 4, 5, 6, 7, 8, 9, 10, 11, 12, 13] [.int .i64 (i : Int), .int .i64 (k : Int), .bool false, .bool false, undef, undef, undef, undef, undef, undef, undef, undef, undef, .bool false] (fun w' => Below wr.heap.size wr w') _ hmx (fun y hy => hy.below _) rfl rfl (by kernel_rfl) (by kernel_rfl) rfl ?steps ?rest
                  case steps =>
                    simp only [putsOfG, Act.put, List.getElem?_toArray, List.getElem?_cons_succ, List.getElem?_cons_zero, Option.bind_some, Nat.reduceAdd, List.setIfInBounds_toArray, List.set_cons_zero, List.set_cons_succ]
                    refine StepsG.cons rfl rfl (fun wq hS => ?_) ?_
                    · go_simp
                    refine StepsG.cons rfl rfl (fun wq hS => ?_) ?_
                    · go_simp
                    refine StepsG.cons rfl rfl (fun wq hS => ?_) ?_
                    · go_simp
                    refine StepsG.cons rfl rfl (fun wq hS => ?_) ?_
                    · go_simp
                    refine StepsG.skip rfl rfl rfl ?_
                    refine StepsG.skip rfl rfl rfl ?_
                    refine StepsG.skip rfl rfl rfl ?_
                    refine StepsG.skip rfl rfl rfl ?_
                    refine StepsG.skip rfl rfl rfl ?_
                    refine StepsG.skip rfl rfl rfl ?_
                    refine StepsG.skip rfl rfl rfl ?_
                    refine StepsG.skip rfl rfl rfl ?_
                    refine StepsG.skip rfl rfl rfl ?_
                    refine StepsG.cons rfl rfl (fun wq hS => ?_) ?_
                    · go_simp
                    exact StepsG.nil
                  case rest =>
                    intro wq hS
                    simp only [putsOfG, Act.put, List.getElem?_toArray, List.getElem?_cons_succ, List.getElem?_cons_zero, Option.bind_some, Nat.reduceAdd, List.setIfInBounds_toArray, List.set_cons_zero, List.set_cons_succ]
                    go_wp2_with fail
                    go_roundw
                    case rel => exact ⟨i + 1, by omega, by go_num, hbi.trans (hS.mono hbi.size)⟩
                    case measure => simp [intOf] <;> omega
                · have hne : ((i : Int) != (k : Int)) = true := by simp; omega
                  have HDK := Lib.hid (HT2.out k i hlt hli hik)
                  refine wp_region_vals [0, 1, 2, 3, 4, 5, 6, 7, 8, 9, 10, 11, 12, 13] [.int .i64 (i : Int), .int .i64 (k : Int), .bool true, .bool true, .slice (some ⟨gA, 0, none⟩) FF.length cg, .int .i64 (i : Int), .pointer (some ⟨gA, i, none⟩), .slice ai FF[i].length ci, .slice (some ⟨gA, 0, none⟩) FF.length cg, .int .i64 (k : Int), .pointer (some ⟨gA, k, none⟩), .slice ak FF[k].length ck, .bool false, .bool false] (fun w' => Below wr.heap.size wr w') _ hmx (fun y hy => hy.below _) rfl rfl (by kernel_rfl) (by kernel_rfl) rfl ?steps ?rest
                  case steps =>
                    simp only [putsOfG, Act.put, List.getElem?_toArray, List.getElem?_cons_succ, List.getElem?_cons_zero, Option.bind_some, Nat.reduceAdd, List.setIfInBounds_toArray, List.set_cons_zero, List.set_cons_succ]
                    refine StepsG.cons rfl rfl (fun wq hS => ?_) ?_
                    · have s1 := bCell hS hck0
                      have s2 := bCell hS hci
                      go_simp
                    refine StepsG.cons rfl rfl (fun wq hS => ?_) ?_
                    · have s1 := bCell hS hck0
                      have s2 := bCell hS hci
                      go_simp
                    refine StepsG.cons rfl rfl (fun wq hS => ?_) ?_
                    · have s1 := bCell hS hck0
                      have s2 := bCell hS hci
                      go_simp
                    refine StepsG.cons rfl rfl (fun wq hS => ?_) ?_
                    · have s1 := bCell hS hck0
                      have s2 := bCell hS hci
                      go_simp
                    refine StepsG.cons rfl rfl (fun wq hS => ?_) ?_
                    · have s1 := bCell hS hck0
                      have s2 := bCell hS hci
                      go_simp
                    refine StepsG.cons rfl rfl (fun wq hS => ?_) ?_
                    · have s1 := bCell hS hck0
                      have s2 := bCell hS hci
                      go_simp
                    refine StepsG.cons rfl rfl (fun wq hS => ?_) ?_
                    · have s1 := bCell hS hck0
                      have s2 := bCell hS hci
                      go_simp
                    refine StepsG.cons rfl rfl (fun wq hS => ?_) ?_
                    · have s1 := bCell hS hck0
                      have s2 := bCell hS hci
                      go_simp
                    refine StepsG.cons rfl rfl (fun wq hS => ?_) ?_
                    · have s1 := bCell hS hck0
                      have s2 := bCell hS hci
                      go_simp
                    refine StepsG.cons rfl rfl (fun wq hS => ?_) ?_
                    · have s1 := bCell hS hck0
                      have s2 := bCell hS hci
                      go_simp
                    refine StepsG.cons rfl rfl (fun wq hS => ?_) ?_
                    · have s1 := bCell hS hck0
                      have s2 := bCell hS hci
                      go_simp
                    refine StepsG.cons rfl rfl (fun wq hS => ?_) ?_
                    · have s1 := bCell hS hck0
                      have s2 := bCell hS hci
                      go_simp
                    refine StepsG.cons rfl rfl (fun wq hS => ?_) ?_
                    · go_simp
                      go_at_call 34
                      refine (iDominates_any _ _ _ _ _ _ FF[i] FF[k] wq (HOI.out.below (hS.mono HOI.out.le)).rd (HOK2.out.below (hS.mono HOK2.out.le)).rd (HOI.out.below (hS.mono HOI.out.le)).le (HOK2.out.below (hS.mono HOK2.out.le)).le (by omega) (by omega)).mono ?_
                      rintro e w7 ⟨rfl, hb7⟩
                      rw [HDK.out]
                      exact ⟨rfl, hS.trans (hb7.mono hS.size)⟩
                    refine StepsG.cons rfl rfl (fun wq hS => ?_) ?_
                    · have s1 := bCell hS hck0
                      have s2 := bCell hS hci
                      go_simp
                    exact StepsG.nil
                  case rest =>
                    intro wq hS
                    simp only [putsOfG, Act.put, List.getElem?_toArray, List.getElem?_cons_succ, List.getElem?_cons_zero, Option.bind_some, Nat.reduceAdd, List.setIfInBounds_toArray, List.set_cons_zero, List.set_cons_succ]
                    go_wp2_with fail
                    go_roundw
                    case rel => exact ⟨i + 1, by omega, by go_num, hbi.trans (hS.mono hbi.size)⟩
                    case measure => simp [intOf] <;> omega
              · go_wp2_with fail
                go_roundw
                case rel => exact ⟨k + 1, by omega, by go_num, hbr.trans (hbi.mono hzo)⟩
                case measure => simp [intOf] <;> omega
          · have hbr1 := Lib.hid hbr
            obtain ⟨w2, rfl⟩ : ∃ wx : World, wx = wr := ⟨_, rfl⟩
            go_wp2_with fail
            go_loopw [8] (fun ii wr => ∃ k : Nat, k ≤ AA.length ∧ ii = .int .i64 (k : Int) ∧ Below w6.heap.size w6 wr) (fun ii _ => AA.length - (intOf ii).toNat)
            case atStart => exact ⟨0, Nat.zero_le _, rfl, hbr1.out⟩
            case round =>
              clear hbr hlt hk
              obtain ⟨k, hk, rfl, hbr⟩ := hrel
              by_cases hlt : k < AA.length
              · have hlt' : (k : Int) < (AA.length : Int) := by omega
                have pr := p0.below (hbr.mono p0.le)
                have gr := g0.below (hbr.mono g0.le)
                have br := b0.below (hbr.mono b0.le)
                obtain ⟨gA, ak, ck, rfl, hg1, hg2, hck, hok, -⟩ := br.at_ hlt
                have HD3 := Lib.hid (HT3.out k hlt)
                have hl16 := HA1.out _ (List.getElem_mem hlt)
                have HGR := Lib.hid gr
                have HPR := Lib.hid pr
                have HOK := Lib.hid hok
                obtain ⟨wo, rfl⟩ : ∃ wx : World, wx = wr := ⟨_, rfl⟩
                have hzo := hbr.size
                clear gr pr hok br
                go_wp2_with fail
                refine (equalInts_any _ _ _ _ _ _ AA[k] M _ HOK.out.rd HPR.out.rd (by omega) (by omega)).mono ?_
                rintro e w5 ⟨rfl, nn, rfl⟩
                have hb5 : Below wo.heap.size wo (wo.drewN nn) := (Dr.n wo nn).below _
                obtain ⟨w5, hw5⟩ : ∃ w5, w5 = wo.drewN nn := ⟨_, rfl⟩
                rw [← hw5] at hb5 ⊢
                clear hw5
                have hck5 := bCell hb5 hck
                have HOK5 := Lib.hid (HOK.out.below (hb5.mono HOK.out.le))
                have HPR5 := Lib.hid (HPR.out.below (hb5.mono HPR.out.le))
                have key : ∀ (v : Bool) (w6 : World), v = (decide (AA[k] = M) || !(dom M AA[k])) → Below wo.heap.size wo w6 → True := fun _ _ _ _ => trivial
                obtain ⟨m0, hm0⟩ : ∃ m0, (decide (AA[k] = M) || !(dom M AA[k])) = m0 := ⟨_, rfl⟩
                rw [hm0] at HD3
                have HM0 := Lib.hid hm0
                clear hm0 key
                cases hE : decide (AA[k] = M) with
                | true =>
                  have HME : Hid (true = m0) := Lib.hid (by rw [← HM0.out, hE]; rfl)
                  have HBY := Lib.hid hb5
                  clear hE
                  go_wp2_with fail
                  go_loopw [9, 10] (fun v ii wr => ∃ i : Nat, i ≤ FF.length ∧ ii = .int .i64 (i : Int) ∧ v = .bool (m0 || (FF.take i).any (fun Q => dom Q AA[k])) ∧ Below wo.heap.size wo wr) (fun _ ii _ => FF.length - (intOf ii).toNat)
                  case atStart => exact ⟨0, Nat.zero_le _, rfl, by rw [HME.out, List.take_zero, List.any_nil, Bool.or_false], HBY.out⟩
                  case round =>
                    obtain ⟨i, hi, rfl, rfl, hbi⟩ := hrel
                    by_cases hli : i < FF.length
                    · have hli' : (i : Int) < (FF.length : Int) := by omega
                      have hck0 := bCell hbi hck
                      have g2 := HGR.out.below (hbi.mono HGR.out.le)
                      obtain ⟨gB, ai, ci, rfl, hh1, hh2, hci, hoi, -⟩ := g2.at_ hli
                      have HOI := Lib.hid hoi
                      have HOK2 := Lib.hid (HOK.out.below (hbi.mono HOK.out.le))
                      have hl16i := HF1.out _ (List.getElem_mem hli)
                      have HNX : Hid ((m0 || (FF.take (i + 1)).any (fun Q => dom Q AA[k])) = ((m0 || (FF.take i).any (fun Q => dom Q AA[k])) || dom FF[i] AA[k])) := Lib.hid (by rw [List.take_succ_eq_append_getElem hli, List.any_append]; simp [Bool.or_assoc])
                      obtain ⟨b1, hb1⟩ : ∃ b1, (m0 || (FF.take i).any (fun Q => dom Q AA[k])) = b1 := ⟨_, rfl⟩
                      rw [hb1] at HNX ⊢
                      clear g2 hoi hb1
                      go_wp2_with fail
                      cases b1 with
                      | true =>
                        refine wp_region_seq [0, 1, 2, 3, 4, 5, 6, 7, 8, 9, 10, 11] [.bool true, .bool true, undef, undef, undef, undef, undef, undef, undef, undef, undef, .bool true] (fun w' => Below wr.heap.size wr w') _ hmx (fun y hy => hy.below _) rfl (by kernel_rfl) (by kernel_rfl) rfl [12] rfl (by kernel_rfl) rfl ?steps ?rest
                        case steps =>
                          simp only [putsOfG, Act.put, List.getElem?_toArray, List.getElem?_cons_succ, List.getElem?_cons_zero, Option.bind_some, Nat.reduceAdd, List.setIfInBounds_toArray, List.set_cons_zero, List.set_cons_succ]
                          refine StepsG.cons rfl rfl (fun wq hS => ?_) ?_
                          · go_simp
                          refine StepsG.cons rfl rfl (fun wq hS => ?_) ?_
                          · go_simp
                          refine StepsG.skip rfl rfl rfl ?_
                          refine StepsG.skip rfl rfl rfl ?_
                          refine StepsG.skip rfl rfl rfl ?_
                          refine StepsG.skip rfl rfl rfl ?_
                          refine StepsG.skip rfl rfl rfl ?_
                          refine StepsG.skip rfl rfl rfl ?_
                          refine StepsG.skip rfl rfl rfl ?_
                          refine StepsG.skip rfl rfl rfl ?_
                          refine StepsG.skip rfl rfl rfl ?_
                          refine StepsG.cons rfl rfl (fun wq hS => ?_) ?_
                          · go_simp
                          exact StepsG.nil
                        case rest =>
                          intro wq hS
                          simp only [putsOfG, Act.put, List.getElem?_toArray, List.getElem?_cons_succ, List.getElem?_cons_zero, Option.bind_some, Nat.reduceAdd, List.setIfInBounds_toArray, List.set_cons_zero, List.set_cons_succ]
                          go_wp2_with fail
                          refine ‹∀ (a : Act) (w : World), _ → _› _ _ ?_
                          go_wp2_with fail
                          go_roundw
                          case rel => exact ⟨i + 1, by omega, by go_num, by rw [HNX.out]; simp, hbi.trans (hS.mono hbi.size)⟩
                          case measure => simp [intOf] <;> omega
                      | false =>
                        obtain ⟨b2, hb2⟩ : ∃ b2, dom FF[i] AA[k] = b2 := ⟨_, rfl⟩
                        have HD2 := Lib.hid hb2
                        rw [hb2] at HNX
                        clear hb2
                        refine wp_region_seq [0, 1, 2, 3, 4, 5, 6, 7, 8, 9, 10, 11] [.bool false, .bool false, .slice (some ⟨gB, 0, none⟩) FF.length cg, .int .i64 (i : Int), .pointer (some ⟨gB, i, none⟩), .slice ai FF[i].length ci, .slice (some ⟨gA, 0, none⟩) AA.length ca, .int .i64 (k : Int), .pointer (some ⟨gA, k, none⟩), .slice ak AA[k].length ck, .bool b2, .bool b2] (fun w' => Below wr.heap.size wr w') _ hmx (fun y hy => hy.below _) rfl (by kernel_rfl) (by kernel_rfl) rfl [12] rfl (by kernel_rfl) rfl ?steps ?rest
                        case steps =>
                          simp only [putsOfG, Act.put, List.getElem?_toArray, List.getElem?_cons_succ, List.getElem?_cons_zero, Option.bind_some, Nat.reduceAdd, List.setIfInBounds_toArray, List.set_cons_zero, List.set_cons_succ]
                          refine StepsG.cons rfl rfl (fun wq hS => ?_) ?_
                          · have s1 := bCell hS hck0
                            have s2 := bCell hS hci
                            go_simp
                          refine StepsG.cons rfl rfl (fun wq hS => ?_) ?_
                          · have s1 := bCell hS hck0
                            have s2 := bCell hS hci
                            go_simp
                          refine StepsG.cons rfl rfl (fun wq hS => ?_) ?_
                          · have s1 := bCell hS hck0
                            have s2 := bCell hS hci
                            go_simp
                          refine StepsG.cons rfl rfl (fun wq hS => ?_) ?_
                          · have s1 := bCell hS hck0
                            have s2 := bCell hS hci
                            go_simp
                          refine StepsG.cons rfl rfl (fun wq hS => ?_) ?_
                          · have s1 := bCell hS hck0
                            have s2 := bCell hS hci
                            go_simp
                          refine StepsG.cons rfl rfl (fun wq hS => ?_) ?_
                          · have s1 := bCell hS hck0
                            have s2 := bCell hS hci
                            go_simp
                          refine StepsG.cons rfl rfl (fun wq hS => ?_) ?_
                          · have s1 := bCell hS hck0
                            have s2 := bCell hS hci
                            go_simp
                          refine StepsG.cons rfl rfl (fun wq hS => ?_) ?_
                          · have s1 := bCell hS hck0
                            have s2 := bCell hS hci
                            go_simp
                          refine StepsG.cons rfl rfl (fun wq hS => ?_) ?_
                          · have s1 := bCell hS hck0
                            have s2 := bCell hS hci
                            go_simp
                          refine StepsG.cons rfl rfl (fun wq hS => ?_) ?_
                          · have s1 := bCell hS hck0
                            have s2 := bCell hS hci
                            go_simp
                          refine StepsG.cons rfl rfl (fun wq hS => ?_) ?_
                          · go_simp
                            go_at_call 34
                            refine (iDominates_any _ _ _ _ _ _ FF[i] AA[k] wq (HOI.out.below (hS.mono HOI.out.le)).rd (HOK2.out.below (hS.mono HOK2.out.le)).rd (HOI.out.below (hS.mono HOI.out.le)).le (HOK2.out.below (hS.mono HOK2.out.le)).le (by omega) (by omega)).mono ?_
                            rintro e w7 ⟨rfl, hb7⟩
                            rw [HD2.out]
                            exact ⟨rfl, hS.trans (hb7.mono hS.size)⟩
                          refine StepsG.cons rfl rfl (fun wq hS => ?_) ?_
                          · have s1 := bCell hS hck0
                            have s2 := bCell hS hci
                            go_simp
                          exact StepsG.nil
                        case rest =>
                          intro wq hS
                          simp only [putsOfG, Act.put, List.getElem?_toArray, List.getElem?_cons_succ, List.getElem?_cons_zero, Option.bind_some, Nat.reduceAdd, List.setIfInBounds_toArray, List.set_cons_zero, List.set_cons_succ]
                          go_wp2_with fail
                          refine ‹∀ (a : Act) (w : World), _ → _› _ _ ?_
                          go_wp2_with fail
                          go_roundw
                          case rel => exact ⟨i + 1, by omega, by go_num, by rw [HNX.out]; rw [Bool.false_or], hbi.trans (hS.mono hbi.size)⟩
                          case measure => simp [intOf] <;> omega
                    · have hall : (m0 || (FF.take i).any (fun Q => dom Q AA[k])) = true := by rw [List.take_of_length_le (by omega)]; exact HD3.out
                      rw [hall]
                      go_wp2_with fail
                      go_roundw
                      case rel => exact ⟨k + 1, by omega, by go_num, hbr.trans (hbi.mono hzo)⟩
                      case measure => simp [intOf] <;> omega
                | false =>
                  obtain ⟨d0, hd0⟩ : ∃ d0, dom M AA[k] = d0 := ⟨_, rfl⟩
                  have HME : Hid ((!d0) = m0) := Lib.hid (by rw [← HM0.out, hE, hd0]; simp)
                  have HD0 := Lib.hid hd0
                  clear hE hd0
                  go_wp2_with fail
                  refine (iDominates_any _ _ _ _ _ _ M AA[k] _ HPR5.out.rd HOK5.out.rd HPR5.out.le HOK5.out.le (by omega) (by omega)).mono ?_
                  rintro e w6 ⟨rfl, hb6⟩
                  rw [HD0.out]
                  have HBY := Lib.hid (hb5.trans (hb6.mono hb5.size))
                  clear hb6 hb5 hck5
                  go_wp2_with fail
                  go_loopw [9, 10] (fun v ii wr => ∃ i : Nat, i ≤ FF.length ∧ ii = .int .i64 (i : Int) ∧ v = .bool (m0 || (FF.take i).any (fun Q => dom Q AA[k])) ∧ Below wo.heap.size wo wr) (fun _ ii _ => FF.length - (intOf ii).toNat)
                  case atStart => exact ⟨0, Nat.zero_le _, rfl, by rw [HME.out, List.take_zero, List.any_nil, Bool.or_false], HBY.out⟩
                  case round =>
                    obtain ⟨i, hi, rfl, rfl, hbi⟩ := hrel
                    by_cases hli : i < FF.length
                    · have hli' : (i : Int) < (FF.length : Int) := by omega
                      have hck0 := bCell hbi hck
                      have g2 := HGR.out.below (hbi.mono HGR.out.le)
                      obtain ⟨gB, ai, ci, rfl, hh1, hh2, hci, hoi, -⟩ := g2.at_ hli
                      have HOI := Lib.hid hoi
                      have HOK2 := Lib.hid (HOK.out.below (hbi.mono HOK.out.le))
                      have hl16i := HF1.out _ (List.getElem_mem hli)
                      have HNX : Hid ((m0 || (FF.take (i + 1)).any (fun Q => dom Q AA[k])) = ((m0 || (FF.take i).any (fun Q => dom Q AA[k])) || dom FF[i] AA[k])) := Lib.hid (by rw [List.take_succ_eq_append_getElem hli, List.any_append]; simp [Bool.or_assoc])
                      obtain ⟨b1, hb1⟩ : ∃ b1, (m0 || (FF.take i).any (fun Q => dom Q AA[k])) = b1 := ⟨_, rfl⟩
                      rw [hb1] at HNX ⊢
                      clear g2 hoi hb1
                      go_wp2_with fail
                      cases b1 with
                      | true =>
                        refine wp_region_seq [0, 1, 2, 3, 4, 5, 6, 7, 8, 9, 10, 11] [.bool true, .bool true, undef, undef, undef, undef, undef, undef, undef, undef, undef, .bool true] (fun w' => Below wr.heap.size wr w') _ hmx (fun y hy => hy.below _) rfl (by kernel_rfl) (by kernel_rfl) rfl [12] rfl (by kernel_rfl) rfl ?steps ?rest
                        case steps =>
                          simp only [putsOfG, Act.put, List.getElem?_toArray, List.getElem?_cons_succ, List.getElem?_cons_zero, Option.bind_some, Nat.reduceAdd, List.setIfInBounds_toArray, List.set_cons_zero, List.set_cons_succ]
                          refine StepsG.cons rfl rfl (fun wq hS => ?_) ?_
                          · go_simp
                          refine StepsG.cons rfl rfl (fun wq hS => ?_) ?_
                          · go_simp
                          refine StepsG.skip rfl rfl rfl ?_
                          refine StepsG.skip rfl rfl rfl ?_
                          refine StepsG.skip rfl rfl rfl ?_
                          refine StepsG.skip rfl rfl rfl ?_
                          refine StepsG.skip rfl rfl rfl ?_
                          refine StepsG.skip rfl rfl rfl ?_
                          refine StepsG.skip rfl rfl rfl ?_
                          refine StepsG.skip rfl rfl rfl ?_
                          refine StepsG.skip rfl rfl rfl ?_
                          refine StepsG.cons rfl rfl (fun wq hS => ?_) ?_
                          · go_simp
                          exact StepsG.nil
                        case rest =>
                          intro wq hS
                          simp only [putsOfG, Act.put, List.getElem?_toArray, List.getElem?_cons_succ, List.getElem?_cons_zero, Option.bind_some, Nat.reduceAdd, List.setIfInBounds_toArray, List.set_cons_zero, List.set_cons_succ]
                          go_wp2_with fail
                          refine ‹∀ (a : Act) (w : World), _ → _› _ _ ?_
                          go_wp2_with fail
                          go_roundw
                          case rel => exact ⟨i + 1, by omega, by go_num, by rw [HNX.out]; simp, hbi.trans (hS.mono hbi.size)⟩
                          case measure => simp [intOf] <;> omega
                      | false =>
                        obtain ⟨b2, hb2⟩ : ∃ b2, dom FF[i] AA[k] = b2 := ⟨_, rfl⟩
                        have HD2 := Lib.hid hb2
                        rw [hb2] at HNX
                        clear hb2
                        refine wp_region_seq [0, 1, 2, 3, 4, 5, 6, 7, 8, 9, 10, 11] [.bool false, .bool false, .slice (some ⟨gB, 0, none⟩) FF.length cg, .int .i64 (i : Int), .pointer (some ⟨gB, i, none⟩), .slice ai FF[i].length ci, .slice (some ⟨gA, 0, none⟩) AA.length ca, .int .i64 (k : Int), .pointer (some ⟨gA, k, none⟩), .slice ak AA[k].length ck, .bool b2, .bool b2] (fun w' => Below wr.heap.size wr w') _ hmx (fun y hy => hy.below _) rfl (by kernel_rfl) (by kernel_rfl) rfl [12] rfl (by kernel_rfl) rfl ?steps ?rest
                        case steps =>
                          simp only [putsOfG, Act.put, List.getElem?_toArray, List.getElem?_cons_succ, List.getElem?_cons_zero, Option.bind_some, Nat.reduceAdd, List.setIfInBounds_toArray, List.set_cons_zero, List.set_cons_succ]
                          refine StepsG.cons rfl rfl (fun wq hS => ?_) ?_
                          · have s1 := bCell hS hck0
                            have s2 := bCell hS hci
                            go_simp
                          refine StepsG.cons rfl rfl (fun wq hS => ?_) ?_
                          · have s1 := bCell hS hck0
                            have s2 := bCell hS hci
                            go_simp
                          refine StepsG.cons rfl rfl (fun wq hS => ?_) ?_
                          · have s1 := bCell hS hck0
                            have s2 := bCell hS hci
                            go_simp
                          refine StepsG.cons rfl rfl (fun wq hS => ?_) ?_
                          · have s1 := bCell hS hck0
                            have s2 := bCell hS hci
                            go_simp
                          refine StepsG.cons rfl rfl (fun wq hS => ?_) ?_
                          · have s1 := bCell hS hck0
                            have s2 := bCell hS hci
                            go_simp
                          refine StepsG.cons rfl rfl (fun wq hS => ?_) ?_
                          · have s1 := bCell hS hck0
                            have s2 := bCell hS hci
                            go_simp
                          refine StepsG.cons rfl rfl (fun wq hS => ?_) ?_
                          · have s1 := bCell hS hck0
                            have s2 := bCell hS hci
                            go_simp
                          refine StepsG.cons rfl rfl (fun wq hS => ?_) ?_
                          · have s1 := bCell hS hck0
                            have s2 := bCell hS hci
                            go_simp
                          refine StepsG.cons rfl rfl (fun wq hS => ?_) ?_
                          · have s1 := bCell hS hck0
                            have s2 := bCell hS hci
                            go_simp
                          refine StepsG.cons rfl rfl (fun wq hS => ?_) ?_
                          · have s1 := bCell hS hck0
                            have s2 := bCell hS hci
                            go_simp
                          refine StepsG.cons rfl rfl (fun wq hS => ?_) ?_
                          · go_simp
                            go_at_call 34
                            refine (iDominates_any _ _ _ _ _ _ FF[i] AA[k] wq (HOI.out.below (hS.mono HOI.out.le)).rd (HOK2.out.below (hS.mono HOK2.out.le)).rd (HOI.out.below (hS.mono HOI.out.le)).le (HOK2.out.below (hS.mono HOK2.out.le)).le (by omega) (by omega)).mono ?_
                            rintro e w7 ⟨rfl, hb7⟩
                            rw [HD2.out]
                            exact ⟨rfl, hS.trans (hb7.mono hS.size)⟩
                          refine StepsG.cons rfl rfl (fun wq hS => ?_) ?_
                          · have s1 := bCell hS hck0
                            have s2 := bCell hS hci
                            go_simp
                          exact StepsG.nil
                        case rest =>
                          intro wq hS
                          simp only [putsOfG, Act.put, List.getElem?_toArray, List.getElem?_cons_succ, List.getElem?_cons_zero, Option.bind_some, Nat.reduceAdd, List.setIfInBounds_toArray, List.set_cons_zero, List.set_cons_succ]
                          go_wp2_with fail
                          refine ‹∀ (a : Act) (w : World), _ → _› _ _ ?_
                          go_wp2_with fail
                          go_roundw
                          case rel => exact ⟨i + 1, by omega, by go_num, by rw [HNX.out]; rw [Bool.false_or], hbi.trans (hS.mono hbi.size)⟩
                          case measure => simp [intOf] <;> omega
                    · have hall : (m0 || (FF.take i).any (fun Q => dom Q AA[k])) = true := by rw [List.take_of_length_le (by omega)]; exact HD3.out
                      rw [hall]
                      go_wp2_with fail
                      go_roundw
                      case rel => exact ⟨k + 1, by omega, by go_num, hbr.trans (hbi.mono hzo)⟩
                      case measure => simp [intOf] <;> omega
              · go_wp2_with fail
                go_ret
                exact ⟨rfl, hA.trans (hbr.mono hA.size)⟩
  · have hl' : 1048576 < bs.length := by omega
    go_enter Try.func8, Try.ntmps8
    go_wp2_with fail
    go_ret
    exact ⟨rfl, Below.refl _ _⟩

theorem own : ownKnob Try.prog.godebug = none := by kernel_rfl
theorem laidOut : laidOutB Try.prog = true := by kernel_rfl

set_option maxRecDepth 100000 in
theorem lifted (os : Os) (started : os.Started) (H : Type) (enc : TypeId × Value → H) :
    ReturnsInHanded {} Try.checked os 8 .any (Rows.fnCoversOfSpec.pre6 enc Try.prog Try.f8 Rows.fnCoversOfRow.domain false) (Rows.fnCoversOfSpec.post enc Try.prog Try.f8 false true false false) := by
  refine returnsInHanded_of_change (C := Try.checked) own started (by kernel_rfl) Try.func8
    (ChangeSpec.witness6 (enc := enc) (C := Try.checked) false ⟨#[], #[.slice none 0 0], []⟩ 8 (by kernel_rfl) (by kernel_rfl) (by kernel_rfl) (by kernel_rfl)) ?_
  intro W base args ds gs before hval0 hW hcnd _
  have hval : ∀ (j : Nat) t v, Try.f8.params[j]? = some t → args[j]? = some v → Value.okWide Try.prog W .any base t v := hval0
  have hW' := hW
  obtain ⟨p, q, hA0, hV, rfl, hfz, hnd⟩ := hW
  have hA : DataW.TrodAll enc Try.prog W 0 (fun _ => true) true Try.f8.params.toList args.toList ds p := hA0
  rw [Try.params8] at hA hval
  obtain ⟨v0, vs0, d0, ds0, p0, q0, hargs, rfl, rfl, h0, r0⟩ := trodAll_cons hA
  obtain ⟨rfl, rfl, rfl⟩ := trodAll_nil r0
  obtain rfl : args = #[v0] := by cases args; simp_all
  obtain ⟨rfl, rfl⟩ := trodVars_none hV
  obtain ⟨a0, len0, cap0, rfl⟩ := okWide_slice Try.underlying31 (hval 0 31 v0 rfl rfl)
  have k0 := h0
  have lt0 : ∀ x ∈ p0, x.block < W.heap.size := by obtain ⟨m, hm⟩ := k0; exact DataW.trod_lt m _ _ _ hm
  obtain ⟨z0, w0⟩ : ∃ zs, IsRow .u8 W a0 len0 cap0 zs := by
    obtain ⟨fuel, hf⟩ := h0
    rcases open_ints Try.underlying31 Try.underlying5 (by kernel_rfl) hf with ⟨hcs, _⟩ | ⟨x, l, c, zs, hcs, _, hl, hm, hz, _, hcell, hwz⟩
    · simp [Value.cells] at hcs
      obtain ⟨rfl, rfl, rfl⟩ := hcs
      exact ⟨[], .inl ⟨rfl, rfl, rfl, rfl⟩⟩
    · simp [Value.cells] at hcs
      obtain ⟨rfl, rfl, rfl⟩ := hcs
      exact ⟨zs, .inr ⟨_, rfl, hl, hm, by simpa using hz, hcell, hwz⟩⟩
  have lc0 := w0.lc
  obtain ⟨L0, rfl, R0, wf0, m0⟩ := w0.rd
  clear hA0 hval0
  refine (walk a0 cap0 L0 W R0 wf0 m0 (by simpa using lc0)).mono fun e W' ⟨he, bel⟩ => ?_
  subst he
  exact ⟨_, rfl, _, _, _, [], _, [], hW', trodAll_mk1 (shut_bool Try.underlying4 _), (trodAll_cons_mk (Below.trod laidOut (by kernel_rfl) (of_decide_eq_true (by kernel_rfl)) k0 bel lt0) trodAll_mk0), rfl, bel.frame _, fun h => by cases h⟩

theorem over : Rows.fnCoversOfRow.holds Try.pinned (OpenSpec.ofChange Rows.fnCoversOfSpec) :=
  OpenClaim.holds_of_wide 8 Try.f8 rfl rfl rfl rfl rfl rfl rfl ⟨rfl, rfl, rfl, rfl, rfl⟩ rfl rfl rfl rfl rfl (by kernel_rfl) Try.func8 (by kernel_rfl)
    (of_decide_eq_true (by kernel_rfl)) (by unfold Func.isWrapper; first | (rw [if_pos (by decide +kernel)]; kernel_rfl) | (rw [if_neg (by decide +kernel)]; exact ⟨rfl, rfl⟩))
    (fun os started H enc _ => lifted os started H enc)

/-- the given statement -/
theorem proved : Rows.FnCoversOfSaid := over
end Go.Proofs.Ytmnlmahjgmhdiaa.fnCoversOf
