/-
  'laws.FnAllPiles' returns true for every code, and the code reads as it did. No condition.
-/
import Derived.Test.YtgkghebjaedjmaaRows
import Derived.Test.YtgkghebjaedjmaaZC1
import Derived.Test.YtgkghebjaedjmaaZC2
import Derived.Test.YtgkghebjaedjmaaZC3
import Derived.Test.YtgkghebjaedjmaaZC4
import Derived.Test.YtgkghebjaedjmaaZC5
import Derived.Test.YtgkghebjaedjmaaZC6
import Derived.Test.YtgkghebjaedjmaaZC7
import Derived.Test.YtgkghebjaedjmaaZC8
import Derived.Test.YtgkghebjaedjmaaZC9
import Derived.Test.YtgkghebjaedjmaaZD1
import Derived.Test.YtgkghebjaedjmaaZD2
import Derived.Test.YtgkghebjaedjmaaZD3
import Derived.WalkKit
import Derived.ProofKit
import Derived.OpenShut
import Derived.ShutString
import Derived.ChangeOld
import Derived.Below
namespace Go.Proofs.Ytgkghebjaedjmaa.fnAllPiles
open Go.ChangeShapes Go.WideShapes Go.ChangeAt Go.RowKit NP
open Go.ChangeMaps (open_string shut_string)
set_option linter.unusedVariables false

set_option maxHeartbeats 1600000 in
theorem walk (a : Option Addr) (c : Nat) (bs : List Int) (w0 : World) (h : Rd w0 w0.heap.size a (bs.map (Value.int .u8))) (hb : ∀ n ∈ bs, (Lit.int .u8 n).wf = true) (m : bs.length ≤ maxLen) (hc : bs.length ≤ c) :
    Calls Try.prog 6 #[.slice a bs.length c] w0 fun e w' => e = .returned (.bool true) ∧ Below w0.heap.size w0 w' := by
  unfold maxLen at m
  by_cases hl : bs.length ≤ 1048576
  · go_enter Try.func6, Try.ntmps6
    go_wp2_with fail
    refine (DrawAllPiles_any a c _ bs _ h (Nat.le_refl _) hb hl hc).mono ?_
    rintro e w1 ⟨n, rfl, hn, hA⟩
    clear h hb hl hc m
    have hln := pilF_ln n
    have hil := pilF_il n
    by_cases hr : n < 0
    · have g1 : decide (n < 0) = true := decide_eq_true hr
      clear hr
      go_wp2_with fail
      refine (iAllPiles_any n _).mono ?_
      rintro e w2 ⟨a_g, c_g, ug, ig, rfl, ot, hb⟩
      replace hA := hA.trans (hb.mono hA.size)
      have hz2 := hb.size
      clear hb
      go_wp2_with fail
      refine (sAllPiles_any n _).mono ?_
      rintro e w3 ⟨a_r, c_r, ur, ir, rfl, sp, hb⟩
      replace ot := ot.below ep_keep (hb.mono ot.le)
      replace hA := hA.trans (hb.mono hA.size)
      have hz3 := hb.size
      clear hb
      go_wp2_with fail
      refine (equalPiles_same _ _ _ _ _ _ _ _ _ _ _ _ (pilF n) _ ot sp hln hil).mono ?_
      rintro e w4 ⟨rfl, hd⟩
      have hb : Below w3.heap.size w3 w4 := Dr.below hd _
      clear hd
      replace ot := ot.below ep_keep (hb.mono ot.le)
      replace sp := sp.below ep_keep (hb.mono sp.le)
      replace hA := hA.trans (hb.mono hA.size)
      have hz4 := hb.size
      clear hb
      go_wp2_with fail
      refine (sAllPiles_any n _).mono ?_
      rintro e w5 ⟨a_s, c_s, vs, is, rfl, sq, hb⟩
      replace ot := ot.below ep_keep (hb.mono ot.le)
      replace hA := hA.trans (hb.mono hA.size)
      have hz5 := hb.size
      clear hb
      go_wp2_with fail
      refine (equalPiles_same _ _ _ _ _ _ _ _ _ _ _ _ (pilF n) _ ot sq hln hil).mono ?_
      rintro e w6 ⟨rfl, hd⟩
      have hb : Below w5.heap.size w5 w6 := Dr.below hd _
      clear hd
      replace hA := hA.trans (hb.mono hA.size)
      clear hb
      go_wp2_with fail
      go_ret
      exact ⟨rfl, hA⟩
    · have g1 : decide (n < 0) = false := decide_eq_false hr
      by_cases hr2 : 6 < n
      · have g2 : decide (6 < n) = true := decide_eq_true hr2
        clear hr2 hr
        go_wp2_with fail
        refine (iAllPiles_any n _).mono ?_
        rintro e w2 ⟨a_g, c_g, ug, ig, rfl, ot, hb⟩
        replace hA := hA.trans (hb.mono hA.size)
        have hz2 := hb.size
        clear hb
        go_wp2_with fail
        refine (sAllPiles_any n _).mono ?_
        rintro e w3 ⟨a_r, c_r, ur, ir, rfl, sp, hb⟩
        replace ot := ot.below ep_keep (hb.mono ot.le)
        replace hA := hA.trans (hb.mono hA.size)
        have hz3 := hb.size
        clear hb
        go_wp2_with fail
        refine (equalPiles_same _ _ _ _ _ _ _ _ _ _ _ _ (pilF n) _ ot sp hln hil).mono ?_
        rintro e w4 ⟨rfl, hd⟩
        have hb : Below w3.heap.size w3 w4 := Dr.below hd _
        clear hd
        replace ot := ot.below ep_keep (hb.mono ot.le)
        replace sp := sp.below ep_keep (hb.mono sp.le)
        replace hA := hA.trans (hb.mono hA.size)
        have hz4 := hb.size
        clear hb
        go_wp2_with fail
        refine (sAllPiles_any n _).mono ?_
        rintro e w5 ⟨a_s, c_s, vs, is, rfl, sq, hb⟩
        replace ot := ot.below ep_keep (hb.mono ot.le)
        replace hA := hA.trans (hb.mono hA.size)
        have hz5 := hb.size
        clear hb
        go_wp2_with fail
        refine (equalPiles_same _ _ _ _ _ _ _ _ _ _ _ _ (pilF n) _ ot sq hln hil).mono ?_
        rintro e w6 ⟨rfl, hd⟩
        have hb : Below w5.heap.size w5 w6 := Dr.below hd _
        clear hd
        replace hA := hA.trans (hb.mono hA.size)
        clear hb
        go_wp2_with fail
        go_ret
        exact ⟨rfl, hA⟩
      · have g2 : decide (6 < n) = false := decide_eq_false hr2
        obtain ⟨m, rfl⟩ := Int.eq_ofNat_of_zero_le (show 0 ≤ n by omega)
        have g2' : decide (6 < m) = false := decide_eq_false (by omega)
        have hm12 : m ≤ 6 := by omega
        obtain ⟨t1, t2, t3⟩ := pilOk_at hm12
        have HLN := Lib.hid t1
        have HT2 := Lib.hid t2
        have HT3 := Lib.hid t3
        clear t1 t2 t3
        have HAF := Lib.hid (pilF_yes hm12)
        clear hr2 hr
        go_wp2_with fail
        refine (iAllPiles_any (m : Int) _).mono ?_
        rintro e w2 ⟨a_g, c_g, ug, ig, rfl, ot, hb⟩
        replace hA := hA.trans (hb.mono hA.size)
        have hz2 := hb.size
        clear hb
        go_wp2_with fail
        refine (sAllPiles_any (m : Int) _).mono ?_
        rintro e w3 ⟨a_r, c_r, ur, ir, rfl, sp, hb⟩
        replace ot := ot.below ep_keep (hb.mono ot.le)
        replace hA := hA.trans (hb.mono hA.size)
        have hz3 := hb.size
        clear hb
        go_wp2_with fail
        refine (equalPiles_same _ _ _ _ _ _ _ _ _ _ _ _ (pilF (m : Int)) _ ot sp hln hil).mono ?_
        rintro e w4 ⟨rfl, hd⟩
        have hb : Below w3.heap.size w3 w4 := Dr.below hd _
        clear hd
        replace ot := ot.below ep_keep (hb.mono ot.le)
        replace sp := sp.below ep_keep (hb.mono sp.le)
        replace hA := hA.trans (hb.mono hA.size)
        have hz4 := hb.size
        clear hb
        rw [HAF.out] at ot sp hln hil ⊢
        have hmx : Try.prog.follows .mixedOrders = true := by kernel_rfl
        have hmm : ((m : Int) != (m : Int)) = false := by simp
        go_wp2_with fail
        go_loopw [5] (fun vi wr => ∃ k : Nat, k ≤ (pq m [] m).length ∧ vi = .int .i64 k ∧ Below w4.heap.size w4 wr) (fun vi _ => (pq m [] m).length - (intOf vi).toNat)
        case atStart => exact ⟨0, Nat.zero_le _, rfl, Below.refl _ _⟩
        case round =>
          obtain ⟨k, hk, rfl, hbr⟩ := hrel
          by_cases hlt : k < (pq m [] m).length
          · have llr := ot.below ep_keep (hbr.mono ot.le)
            have hzr := hbr.size
            have hlt' : (k : Int) < ((pq m [] m).length : Int) := by omega
            obtain ⟨g, c1, a1, k1, vs1, i, e1, -, -, -, -, -, -, hh1, -, hL1, hc1⟩ := llr.pileAt hlt
            injection e1 with e1 e2 e3
            subst e1
            clear e2 e3
            have hx := hil _ (List.getElem_mem hlt)
            have hsm := HT2.out _ (List.getElem_mem hlt)
            have HXX := Lib.hid (rfl : (pq m [] m)[k] = (pq m [] m)[k])
            have HT3k : Hid (∀ j (hj : k = j + 1), (pq m [] m)[j]'(by omega) ≠ (pq m [] m)[k]) := Lib.hid (fun j hj => by subst hj; exact HT3.out j hlt)
            clear HXX
            generalize (pq m [] m)[k] = LL at hL1 hx hsm HT3k hc1
            have hlg : g < wr.heap.size := World.block_lt_of_cell? _ _ hc1
            have HC1 : Hid (∀ w', Below wr.heap.size wr w' → w'.cell? ⟨g, k, none⟩ = some (.slice a1 LL.length k1)) := Lib.hid (fun w' hb => (hb.cell (p := ⟨g, k, none⟩) hlg).trans hc1)
            have O1 := Lib.hid hL1
            have HSM := Lib.hid hsm
            have HX := Lib.hid hx.2
            have hxL := hx.1
            clear hL1 hsm hx hc1
            by_cases hk0 : k = 0
            · have dk : decide ((0 : Int) < (k : Int)) = false := decide_eq_false (by omega)
              have dk' : decide (0 < k) = false := decide_eq_false (by omega)
              clear hk0
              go_wp2_with fail
              refine wp_region_vals [0, 1, 2, 3, 4, 5, 6, 7, 8, 9, 10, 11, 12, 13, 14, 15, 16, 17, 18, 19, 20, 21, 22] [.slice (some ⟨g, 0, none⟩) (pq m [] m).length c_g, .int .i64 k, .pointer (some ⟨g, k, none⟩), .slice a1 LL.length k1, .int .i64 m, .int .i64 m, .bool false, .bool false, .int .i64 k, .bool false, .bool false, undef, undef, undef, undef, undef, undef, undef, undef, undef, undef, .bool false, .bool false] (fun w' => Below wr.heap.size wr w') _ hmx (fun _ h => h.below _) rfl rfl (by kernel_rfl) (by kernel_rfl) rfl ?steps ?rest
              case steps =>
                simp only [putsOfG, Act.put, List.getElem?_toArray, List.getElem?_cons_succ, List.getElem?_cons_zero, Option.bind_some, Nat.reduceAdd, List.setIfInBounds_toArray, List.set_cons_zero, List.set_cons_succ]
                refine StepsG.cons rfl rfl (fun wq hS => ?_) ?_
                · go_simp
                refine StepsG.cons rfl rfl (fun wq hS => ?_) ?_
                · go_simp
                refine StepsG.cons rfl rfl (fun wq hS => ?_) ?_
                · go_simp
                refine StepsG.cons rfl rfl (fun wq hS => ?_) ?_
                · have s1 := HC1.out wq hS
                  go_simp
                refine StepsG.cons rfl rfl (fun wq hS => ?_) ?_
                · go_simp
                  go_at_call 27
                  refine (iPileSum_any a1 k1 i.2 LL wq (O1.out.below (hS.mono O1.out.le)).rd (Nat.le_trans O1.out.le hS.size) (by omega) (fun L hL => by have := HX.out L hL; omega)).mono ?_
                  rintro e w' ⟨rfl, hbq⟩
                  rw [HSM.out]
                  exact ⟨rfl, hS.trans (hbq.mono hS.size)⟩
                refine StepsG.cons rfl rfl (fun wq hS => ?_) ?_
                · go_simp
                refine StepsG.cons rfl rfl (fun wq hS => ?_) ?_
                · go_simp
                refine StepsG.cons rfl rfl (fun wq hS => ?_) ?_
                · go_simp
                refine StepsG.cons rfl rfl (fun wq hS => ?_) ?_
                · go_simp
                refine StepsG.cons rfl rfl (fun wq hS => ?_) ?_
                · go_simp
                refine StepsG.cons rfl rfl (fun wq hS => ?_) ?_
                · go_simp
                refine StepsG.skip rfl rfl rfl ?_
                refine StepsG.skip rfl rfl rfl ?_
                refine StepsG.skip rfl rfl rfl ?_
                refine StepsG.skip rfl rfl rfl ?_
                refine StepsG.skip rfl rfl rfl ?_
                refine StepsG.skip rfl rfl rfl ?_
                refine StepsG.skip rfl rfl rfl ?_
                refine StepsG.skip rfl rfl rfl ?_
                refine StepsG.skip rfl rfl rfl ?_
                refine StepsG.skip rfl rfl rfl ?_
                refine StepsG.cons rfl rfl (fun wq hS => ?_) ?_
                · go_simp
                refine StepsG.cons rfl rfl (fun wq hS => ?_) ?_
                · go_simp
                exact StepsG.nil
              case rest =>
                intro wq hS
                simp only [putsOfG, Act.put, List.getElem?_toArray, List.getElem?_cons_succ, List.getElem?_cons_zero, Option.bind_some, Nat.reduceAdd, List.setIfInBounds_toArray, List.set_cons_zero, List.set_cons_succ]
                go_wp2_with fail
                go_roundw
                case rel => exact ⟨k + 1, by omega, by go_num, hbr.trans (hS.mono hbr.size)⟩
                case measure => simp [intOf] <;> omega
            · obtain ⟨j, hj⟩ : ∃ j, k = j + 1 := ⟨k - 1, by omega⟩
              have dk : decide ((0 : Int) < (k : Int)) = true := decide_eq_true (by omega)
              have dk' : decide (0 < k) = true := decide_eq_true (by omega)
              have hw1 : IntKind.i64.wrap ((k : Int) - 1) = (j : Int) := by rw [show (k : Int) - 1 = (j : Int) by omega]; exact IntWalk.i64_in _ (by omega)
              have hltj : j < (pq m [] m).length := by omega
              have hltj' : (j : Int) < ((pq m [] m).length : Int) := by omega
              obtain ⟨g', c1', b1, l1, vs2, i', e1', -, -, -, -, -, -, hh2, -, hL2, hc2⟩ := llr.pileAt hltj
              injection e1' with e1 e2 e3
              injection e1 with e1
              injection e1 with e1
              subst e1
              clear e2 e3
              have hx := hil _ (List.getElem_mem hltj)
              have hne := HT3k.out j hj
              generalize (pq m [] m)[j] = MM at hL2 hx hc2 hne
              have HC2 : Hid (∀ w', Below wr.heap.size wr w' → w'.cell? ⟨g, j, none⟩ = some (.slice b1 MM.length l1)) := Lib.hid (fun w' hb => (hb.cell (p := ⟨g, j, none⟩) hlg).trans hc2)
              have O2 := Lib.hid hL2
              have HNE : Hid (decide (MM = LL) = false) := Lib.hid (decide_eq_false hne)
              have HY := Lib.hid hx.2
              have hxM := hx.1
              clear hL2 hx hc2 hne hj hk0
              go_wp2_with fail
              refine wp_region_vals [0, 1, 2, 3, 4, 5, 6, 7, 8, 9, 10, 11, 12, 13, 14, 15, 16, 17, 18, 19, 20, 21, 22] [.slice (some ⟨g, 0, none⟩) (pq m [] m).length c_g, .int .i64 k, .pointer (some ⟨g, k, none⟩), .slice a1 LL.length k1, .int .i64 m, .int .i64 m, .bool false, .bool false, .int .i64 k, .bool true, .bool true, .slice (some ⟨g, 0, none⟩) (pq m [] m).length c_g, .int .i64 k, .int .i64 j, .pointer (some ⟨g, j, none⟩), .slice b1 MM.length l1, .slice (some ⟨g, 0, none⟩) (pq m [] m).length c_g, .int .i64 k, .pointer (some ⟨g, k, none⟩), .slice a1 LL.length k1, .bool false, .bool false, .bool false] (fun w' => Below wr.heap.size wr w') _ hmx (fun _ h => h.below _) rfl rfl (by kernel_rfl) (by kernel_rfl) rfl ?steps ?rest
              case steps =>
                simp only [putsOfG, Act.put, List.getElem?_toArray, List.getElem?_cons_succ, List.getElem?_cons_zero, Option.bind_some, Nat.reduceAdd, List.setIfInBounds_toArray, List.set_cons_zero, List.set_cons_succ]
                refine StepsG.cons rfl rfl (fun wq hS => ?_) ?_
                · go_simp
                refine StepsG.cons rfl rfl (fun wq hS => ?_) ?_
                · go_simp
                refine StepsG.cons rfl rfl (fun wq hS => ?_) ?_
                · go_simp
                refine StepsG.cons rfl rfl (fun wq hS => ?_) ?_
                · have s1 := HC1.out wq hS
                  go_simp
                refine StepsG.cons rfl rfl (fun wq hS => ?_) ?_
                · go_simp
                  go_at_call 27
                  refine (iPileSum_any a1 k1 i.2 LL wq (O1.out.below (hS.mono O1.out.le)).rd (Nat.le_trans O1.out.le hS.size) (by omega) (fun L hL => by have := HX.out L hL; omega)).mono ?_
                  rintro e w' ⟨rfl, hbq⟩
                  rw [HSM.out]
                  exact ⟨rfl, hS.trans (hbq.mono hS.size)⟩
                refine StepsG.cons rfl rfl (fun wq hS => ?_) ?_
                · go_simp
                refine StepsG.cons rfl rfl (fun wq hS => ?_) ?_
                · go_simp
                refine StepsG.cons rfl rfl (fun wq hS => ?_) ?_
                · go_simp
                refine StepsG.cons rfl rfl (fun wq hS => ?_) ?_
                · go_simp
                refine StepsG.cons rfl rfl (fun wq hS => ?_) ?_
                · go_simp
                refine StepsG.cons rfl rfl (fun wq hS => ?_) ?_
                · go_simp
                refine StepsG.cons rfl rfl (fun wq hS => ?_) ?_
                · go_simp
                refine StepsG.cons rfl rfl (fun wq hS => ?_) ?_
                · go_simp
                refine StepsG.cons rfl rfl (fun wq hS => ?_) ?_
                · go_simp
                refine StepsG.cons rfl rfl (fun wq hS => ?_) ?_
                · go_simp
                refine StepsG.cons rfl rfl (fun wq hS => ?_) ?_
                · have s1 := HC2.out wq hS
                  go_simp
                refine StepsG.cons rfl rfl (fun wq hS => ?_) ?_
                · go_simp
                refine StepsG.cons rfl rfl (fun wq hS => ?_) ?_
                · go_simp
                refine StepsG.cons rfl rfl (fun wq hS => ?_) ?_
                · go_simp
                refine StepsG.cons rfl rfl (fun wq hS => ?_) ?_
                · have s1 := HC1.out wq hS
                  go_simp
                refine StepsG.cons rfl rfl (fun wq hS => ?_) ?_
                · go_simp
                  go_at_call 28
                  refine (equalLists_any b1 a1 l1 k1 i'.2 i.2 MM LL wq (O2.out.below (hS.mono O2.out.le)).rd (O1.out.below (hS.mono O1.out.le)).rd (by omega) (by omega) (fun L hL => by have := HY.out L hL; omega) (fun L hL => by have := HX.out L hL; omega)).mono ?_
                  rintro e w' ⟨rfl, hd⟩
                  rw [HNE.out]
                  exact ⟨rfl, hS.trans (hd.below _)⟩
                refine StepsG.cons rfl rfl (fun wq hS => ?_) ?_
                · go_simp
                refine StepsG.cons rfl rfl (fun wq hS => ?_) ?_
                · go_simp
                exact StepsG.nil
              case rest =>
                intro wq hS
                simp only [putsOfG, Act.put, List.getElem?_toArray, List.getElem?_cons_succ, List.getElem?_cons_zero, Option.bind_some, Nat.reduceAdd, List.setIfInBounds_toArray, List.set_cons_zero, List.set_cons_succ]
                go_wp2_with fail
                go_roundw
                case rel => exact ⟨k + 1, by omega, by go_num, hbr.trans (hS.mono hbr.size)⟩
                case measure => simp [intOf] <;> omega
          · obtain rfl : k = (pq m [] m).length := by omega
            replace hA := hA.trans (hbr.mono hA.size)
            clear hbr sp ot
            have hfin : (((pq m [] m).length : Int) == plF (m : Int)) = true := beq_iff_eq.2 HLN.out
            have HCM := Lib.hid (fun w => iCountPiles_any (m : Int) w)
            generalize plF (m : Int) = z at hfin HCM
            go_wp2_with (go_at_call 29; refine (HCM.out _).mono ?_; rintro e w6 ⟨rfl, hb6⟩)
            replace hA := hA.trans (hb6.mono hA.size)
            go_ret
            exact ⟨rfl, hA⟩
  · have hl' : 1048576 < bs.length := by omega
    go_enter Try.func6, Try.ntmps6
    go_wp2_with fail
    go_ret
    exact ⟨rfl, Below.refl _ _⟩

theorem own : ownKnob Try.prog.godebug = none := by kernel_rfl
theorem laidOut : laidOutB Try.prog = true := by kernel_rfl

set_option maxRecDepth 100000 in
theorem lifted (os : Os) (started : os.Started) (H : Type) (enc : TypeId × Value → H) :
    ReturnsInHanded {} Try.checked os 6 .any (Rows.fnAllPilesSpec.pre6 enc Try.prog Try.f6 Rows.fnAllPilesRow.domain false) (Rows.fnAllPilesSpec.post enc Try.prog Try.f6 false true false false) := by
  refine returnsInHanded_of_change (C := Try.checked) own started (by kernel_rfl) Try.func6
    (ChangeSpec.witness6 (enc := enc) (C := Try.checked) false ⟨#[], #[.slice none 0 0], []⟩ 8 (by kernel_rfl) (by kernel_rfl) (by kernel_rfl) (by kernel_rfl)) ?_
  intro W base args ds gs before hval0 hW hcnd _
  have hval : ∀ (j : Nat) t v, Try.f6.params[j]? = some t → args[j]? = some v → Value.okWide Try.prog W .any base t v := hval0
  have hW' := hW
  obtain ⟨p, q, hA0, hV, rfl, hfz, hnd⟩ := hW
  have hA : DataW.TrodAll enc Try.prog W 0 (fun _ => true) true Try.f6.params.toList args.toList ds p := hA0
  rw [Try.params6] at hA hval
  obtain ⟨v0, vs0, d0, ds0, p0, q0, hargs, rfl, rfl, h0, r0⟩ := trodAll_cons hA
  obtain ⟨rfl, rfl, rfl⟩ := trodAll_nil r0
  obtain rfl : args = #[v0] := by cases args; simp_all
  obtain ⟨rfl, rfl⟩ := trodVars_none hV
  obtain ⟨a0, len0, cap0, rfl⟩ := okWide_slice Try.underlying27 (hval 0 27 v0 rfl rfl)
  have k0 := h0
  have lt0 : ∀ x ∈ p0, x.block < W.heap.size := by obtain ⟨m, hm⟩ := k0; exact DataW.trod_lt m _ _ _ hm
  obtain ⟨z0, w0⟩ : ∃ zs, IsRow .u8 W a0 len0 cap0 zs := by
    obtain ⟨fuel, hf⟩ := h0
    rcases open_ints Try.underlying27 Try.underlying5 (by kernel_rfl) hf with ⟨hcs, _⟩ | ⟨x, l, c, zs, hcs, _, hl, hm, hz, _, hcell, hwz⟩
    · simp [Value.cells] at hcs
      obtain ⟨rfl, rfl, rfl⟩ := hcs
      exact ⟨[], .inl ⟨rfl, rfl, rfl, rfl⟩⟩
    · simp [Value.cells] at hcs
      obtain ⟨rfl, rfl, rfl⟩ := hcs
      exact ⟨zs, .inr ⟨_, rfl, hl, hm, by simpa using hz, hcell, hwz⟩⟩
  have lc0 := w0.lc
  obtain ⟨L0, rfl, R0, wf0, m0⟩ := w0.rd
  clear hA0 hval0
  refine (walk a0 cap0 L0 W R0 wf0 m0 (by simpa using lc0)).mono fun e W' ⟨he, bel⟩ => ?_
  subst he
  exact ⟨_, rfl, _, _, _, [], _, [], hW', trodAll_mk1 (shut_bool Try.underlying4 _), (trodAll_cons_mk (Below.trod laidOut (by kernel_rfl) (of_decide_eq_true (by kernel_rfl)) k0 bel lt0) trodAll_mk0), rfl, bel.frame _, fun h => by cases h⟩

theorem over : Rows.fnAllPilesRow.holds Try.pinned (OpenSpec.ofChange Rows.fnAllPilesSpec) :=
  OpenClaim.holds_of_wide 6 Try.f6 rfl rfl rfl rfl rfl rfl rfl ⟨rfl, rfl, rfl, rfl, rfl⟩ rfl rfl rfl rfl rfl (by kernel_rfl) Try.func6 (by kernel_rfl)
    (of_decide_eq_true (by kernel_rfl)) (by unfold Func.isWrapper; first | (rw [if_pos (by decide +kernel)]; kernel_rfl) | (rw [if_neg (by decide +kernel)]; exact ⟨rfl, rfl⟩))
    (fun os started H enc _ => lifted os started H enc)

/-- the given statement -/
theorem proved : Rows.FnAllPilesSaid := over
end Go.Proofs.Ytgkghebjaedjmaa.fnAllPiles
