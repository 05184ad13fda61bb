/-
  'laws.FnCrankSpread' returns true for every code, and the code reads as it did. No condition.
-/
import Derived.Test.YtcjnmconehfbgaaRows
import Derived.Test.YtcjnmconehfbgaaZSPR1
import Derived.Test.YtcjnmconehfbgaaZSPR2
import Derived.Test.YtcjnmconehfbgaaZSPR3
import Derived.Test.YtcjnmconehfbgaaZSPR4
import Derived.Test.YtcjnmconehfbgaaZSPR5
import Derived.Test.YtcjnmconehfbgaaZSPR6
import Derived.Test.YtcjnmconehfbgaaZSPR7
import Derived.WalkKit
import Derived.ProofKit
import Derived.OpenShut
import Derived.ShutString
import Derived.ChangeOld
import Derived.Below
namespace Go.Proofs.Ytcjnmconehfbgaa.fnCrankSpread
open Go.ChangeShapes Go.WideShapes Go.ChangeAt Go.RowKit NP
open Go.ChangeMaps (open_string shut_string)
set_option linter.unusedVariables false

set_option linter.unusedSimpArgs false
set_option maxRecDepth 100000 in
set_option maxHeartbeats 4000000 in
theorem walk (a : Option Addr) (c : Nat) (bs : List Int) (w0 : World) (h : Rd w0 w0.heap.size a (bs.map (Value.int .u8))) (hb : ∀ n ∈ bs, (Lit.int .u8 n).wf = true) (m : bs.length ≤ maxLen) (hc : bs.length ≤ c) :
    Calls Try.prog 6 #[.slice a bs.length c] w0 fun e w' => e = .returned (.bool true) ∧ Below w0.heap.size w0 w' := by
  unfold maxLen at m
  by_cases hl : bs.length ≤ 1048576
  · go_enter Try.func6, Try.ntmps6
    go_wp2_with fail
    refine (DrawCrankSpread_any a c _ bs _ h (Nat.le_refl _) hb hl hc).mono ?_
    rintro e w1 ⟨nn, mm, rfl, hn, hm, hA⟩
    clear h hb hl hc m
    obtain ⟨R, hR⟩ : ∃ R, sprF true nn mm = R := ⟨_, rfl⟩
    have hRl : R.length ≤ 16 := hR ▸ sprF_len true nn mm
    have HR := Lib.hid hR
    clear hR
    go_wp2_with fail
    refine (iCrankSpread_any nn mm _).mono ?_
    rintro e w2 ⟨ag, cg, rfl, g0, hb⟩
    replace hA := hA.trans (hb.mono hA.size)
    have hz2 := hb.size
    clear hb
    rw [HR.out] at g0 ⊢
    go_wp2_with fail
    refine (sCrankSpread_any nn mm _).mono ?_
    rintro e w3 ⟨ar, cr, rfl, s0, hb⟩
    replace g0 := g0.below (hb.mono g0.le)
    replace hA := hA.trans (hb.mono hA.size)
    have hz3 := hb.size
    clear hb
    rw [HR.out] at s0 ⊢
    go_wp2_with fail
    refine (equalInts_same _ _ _ _ _ _ _ _ g0.rd s0.rd (by omega)).mono ?_
    rintro e w4 ⟨rfl, hd⟩
    have hb : Below w3.heap.size w3 w4 := hd.below _
    clear hd
    replace g0 := g0.below (hb.mono g0.le)
    replace s0 := s0.below (hb.mono s0.le)
    replace hA := hA.trans (hb.mono hA.size)
    have hz4 := hb.size
    clear hb
    by_cases h0 : R.length = 0
    · have e0 : ((R.length : Int) == 0) = true := by simp [h0]
      clear h0
      go_wp2_with fail
      refine (sCrankSpread_any nn mm _).mono ?_
      rintro e w5 ⟨ar2, cr2, rfl, s1, hb⟩
      replace g0 := g0.below (hb.mono g0.le)
      replace s0 := s0.below (hb.mono s0.le)
      replace hA := hA.trans (hb.mono hA.size)
      have hz5 := hb.size
      clear hb
      rw [HR.out] at s1 ⊢
      go_wp2_with fail
      refine (equalInts_same _ _ _ _ _ _ _ _ g0.rd s1.rd (by omega)).mono ?_
      rintro e w6 ⟨rfl, hd⟩
      have hb : Below w5.heap.size w5 w6 := hd.below _
      clear hd
      replace g0 := g0.below (hb.mono g0.le)
      replace s0 := s0.below (hb.mono s0.le)
      replace s1 := s1.below (hb.mono s1.le)
      replace hA := hA.trans (hb.mono hA.size)
      have hz6 := hb.size
      clear hb
      go_wp2_with fail
      go_ret
      exact ⟨rfl, hA⟩
    · have e0 : ((R.length : Int) == 0) = false := by simp; intro e; exact h0 (by rw [e]; rfl)
      have hok : sprOk nn mm = true := by
        cases hk : sprOk nn mm with
        | true => rfl
        | false => exact absurd (by rw [← HR.out]; simp [sprF, hk]) h0
      have hok' := hok
      unfold sprOk at hok'
      simp only [decide_eq_true_eq] at hok'
      obtain ⟨k, rfl⟩ := Int.eq_ofNat_of_zero_le hok'.1
      obtain ⟨q, rfl⟩ := Int.eq_ofNat_of_zero_le (show 0 ≤ mm by omega)
      have hk12 : k ≤ 12 := by omega
      have hq1 : 1 ≤ q := by omega
      have hq16 : q ≤ 16 := by omega
      have HT : Hid (sprT true k q R = true) := Lib.hid (HR.out ▸ sprT_ok true k q hk12 hq1 hq16)
      have hRq : R.length = q := by rw [← HR.out, sprF, if_pos hok, sprd_len]; rfl
      have HBD : Hid (∀ x ∈ R, 0 ≤ x ∧ x ≤ 1000) := Lib.hid (by
        rw [← HR.out, sprF, if_pos hok]
        intro x hx
        have h1 := sprd_bd _ _ x hx
        have h2 := allQ_le12 (n := ((k : Int)).toNat) (by omega)
        rw [List.length_map] at h1
        omega)
      clear h0 hok hok' hn hm
      have HS : Hid (1 < k → ∀ r (h1 : 1 ≤ r) (h2 : r < R.length) (h3 : R.length - r < R.length), R[r] = R[R.length - r]) := Lib.hid (spr_symC k q R HT.out hRq)
      have hsum : sumL R = cpF (k : Int) := spr_sum true k q R HT.out
      have HE : Hid (evenT true k q = true → ∀ j (h : j < R.length), R[j] = R.getD 0 0) := Lib.hid (spr_even true k q R HT.out)
      obtain ⟨b0, rfl, -⟩ := g0.read (k := 0) (by simp; omega)
      have HRQ := Lib.hid hRq
      clear hRq
      go_wp2_with fail
      have hmx : Try.prog.follows .mixedOrders = true := by kernel_rfl
      go_loopw [6] (fun i wr => ∃ j : Nat, 1 ≤ j ∧ j ≤ q ∧ i = .int .i64 j ∧ Dr w4 wr) (fun i _ => q - (intOf i).toNat)
      case atStart => exact ⟨1, Nat.le_refl _, hq1, rfl, Dr.refl _⟩
      case round =>
        obtain ⟨j, hj1, hj, rfl, hd⟩ := hrel
        by_cases hlt : j < q
        · have hlt' : (j : Int) < (q : Int) := by omega
          obtain ⟨d, hqd⟩ : ∃ d : Nat, q - j = d := ⟨_, rfl⟩
          have hdi : (q : Int) - (j : Int) = (d : Int) := by omega
          have hwd : IntKind.i64.wrap (d : Int) = (d : Int) := IntWalk.i64_in _ (by omega)
          have hdl : d < R.length := by rw [HRQ.out]; omega
          have hjl : j < R.length := by rw [HRQ.out]; omega
          obtain ⟨b1, e1, c1⟩ := g0.read (k := j) (by simpa using hjl)
          injection e1 with e1; injection e1 with e1 _; subst e1
          obtain ⟨b2, e2, c2⟩ := g0.read (k := d) (by simpa using hdl)
          injection e2 with e2; injection e2 with e2 _; subst e2
          by_cases hk1 : 1 < k
          · skip
            have hs : R[j] = R[d] := by
              have := HS.out hk1 j hj1 hjl (by omega)
              rw [this]
              congr 1
              rw [HRQ.out]; exact hqd
            obtain ⟨x, hx⟩ : ∃ x, R[d] = x := ⟨_, rfl⟩
            rw [List.getElem_map, hs, hx] at c1
            rw [List.getElem_map, hx] at c2
            clear hs hx
            have dk : decide (1 < (k : Int)) = true := decide_eq_true (by omega)
            clear hk1
            go_wp2_with fail
            refine wp_region_vals [0, 1, 2, 3, 4, 5, 6, 7, 8, 9, 10, 11, 12, 13, 14] [.int .i64 k, .bool true, .bool true, .slice (some ⟨b0, 0, none⟩) R.length cg, .int .i64 j, .pointer (some ⟨b0, j, none⟩), .int .i64 x, .slice (some ⟨b0, 0, none⟩) R.length cg, .int .i64 q, .int .i64 j, .int .i64 d, .pointer (some ⟨b0, d, none⟩), .int .i64 x, .bool false, .bool false] (fun w' => Dr wr w') _ hmx (fun _ h => h) rfl rfl (by kernel_rfl) (by kernel_rfl) rfl ?steps ?rest
            case steps =>
              simp only [putsOfG, Act.put, List.getElem?_toArray, List.getElem?_cons_succ, List.getElem?_cons_zero, Option.bind_some, Nat.reduceAdd, List.setIfInBounds_toArray, List.set_cons_zero, List.set_cons_succ]
              refine StepsG.cons rfl rfl (fun wq hS => ?_) ?_
              · have s1 := drCell (hd.trans hS) c1
                have s2 := drCell (hd.trans hS) c2
                go_simp
              refine StepsG.cons rfl rfl (fun wq hS => ?_) ?_
              · have s1 := drCell (hd.trans hS) c1
                have s2 := drCell (hd.trans hS) c2
                go_simp
              refine StepsG.cons rfl rfl (fun wq hS => ?_) ?_
              · have s1 := drCell (hd.trans hS) c1
                have s2 := drCell (hd.trans hS) c2
                go_simp
              refine StepsG.cons rfl rfl (fun wq hS => ?_) ?_
              · have s1 := drCell (hd.trans hS) c1
                have s2 := drCell (hd.trans hS) c2
                go_simp
              refine StepsG.cons rfl rfl (fun wq hS => ?_) ?_
              · have s1 := drCell (hd.trans hS) c1
                have s2 := drCell (hd.trans hS) c2
                go_simp
              refine StepsG.cons rfl rfl (fun wq hS => ?_) ?_
              · have s1 := drCell (hd.trans hS) c1
                have s2 := drCell (hd.trans hS) c2
                go_simp
              refine StepsG.cons rfl rfl (fun wq hS => ?_) ?_
              · have s1 := drCell (hd.trans hS) c1
                have s2 := drCell (hd.trans hS) c2
                go_simp
              refine StepsG.cons rfl rfl (fun wq hS => ?_) ?_
              · have s1 := drCell (hd.trans hS) c1
                have s2 := drCell (hd.trans hS) c2
                go_simp
              refine StepsG.cons rfl rfl (fun wq hS => ?_) ?_
              · have s1 := drCell (hd.trans hS) c1
                have s2 := drCell (hd.trans hS) c2
                go_simp
              refine StepsG.cons rfl rfl (fun wq hS => ?_) ?_
              · have s1 := drCell (hd.trans hS) c1
                have s2 := drCell (hd.trans hS) c2
                go_simp
              refine StepsG.cons rfl rfl (fun wq hS => ?_) ?_
              · have s1 := drCell (hd.trans hS) c1
                have s2 := drCell (hd.trans hS) c2
                go_simp
              refine StepsG.cons rfl rfl (fun wq hS => ?_) ?_
              · have s1 := drCell (hd.trans hS) c1
                have s2 := drCell (hd.trans hS) c2
                go_simp
              refine StepsG.cons rfl rfl (fun wq hS => ?_) ?_
              · have s1 := drCell (hd.trans hS) c1
                have s2 := drCell (hd.trans hS) c2
                go_simp
              refine StepsG.cons rfl rfl (fun wq hS => ?_) ?_
              · have s1 := drCell (hd.trans hS) c1
                have s2 := drCell (hd.trans hS) c2
                go_simp
              refine StepsG.cons rfl rfl (fun wq hS => ?_) ?_
              · have s1 := drCell (hd.trans hS) c1
                have s2 := drCell (hd.trans hS) c2
                go_simp
              exact StepsG.nil
            case rest =>
              intro wq hS
              simp only [putsOfG, Act.put, List.getElem?_toArray, List.getElem?_cons_succ, List.getElem?_cons_zero, Option.bind_some, Nat.reduceAdd, List.setIfInBounds_toArray, List.set_cons_zero, List.set_cons_succ]
              go_wp2_with fail
              go_roundw
              case rel => exact ⟨j + 1, by omega, by omega, by go_num, hd.trans hS⟩
              case measure => simp [intOf]; omega
          · have dk : decide (1 < (k : Int)) = false := decide_eq_false (by omega)
            clear hk1
            go_wp2_with fail
            refine wp_region_vals [0, 1, 2, 3, 4, 5, 6, 7, 8, 9, 10, 11, 12, 13, 14] [.int .i64 k, .bool false, .bool false, undef, undef, undef, undef, undef, undef, undef, undef, undef, undef, undef, .bool false] (fun w' => Dr wr w') _ hmx (fun _ h => h) rfl rfl (by kernel_rfl) (by kernel_rfl) rfl ?steps ?rest
            case steps =>
              simp only [putsOfG, Act.put, List.getElem?_toArray, List.getElem?_cons_succ, List.getElem?_cons_zero, Option.bind_some, Nat.reduceAdd, List.setIfInBounds_toArray, List.set_cons_zero, List.set_cons_succ]
              refine StepsG.cons rfl rfl (fun wq hS => ?_) ?_
              · have s1 := drCell (hd.trans hS) c1
                have s2 := drCell (hd.trans hS) c2
                go_simp
              refine StepsG.cons rfl rfl (fun wq hS => ?_) ?_
              · have s1 := drCell (hd.trans hS) c1
                have s2 := drCell (hd.trans hS) c2
                go_simp
              refine StepsG.cons rfl rfl (fun wq hS => ?_) ?_
              · have s1 := drCell (hd.trans hS) c1
                have s2 := drCell (hd.trans hS) c2
                go_simp
              refine StepsG.skip rfl rfl rfl ?_
              refine StepsG.skip rfl rfl rfl ?_
              refine StepsG.skip rfl rfl rfl ?_
              refine StepsG.skip rfl rfl rfl ?_
              refine StepsG.skip rfl rfl rfl ?_
              refine StepsG.skip rfl rfl rfl ?_
              refine StepsG.skip rfl rfl rfl ?_
              refine StepsG.skip rfl rfl rfl ?_
              refine StepsG.skip rfl rfl rfl ?_
              refine StepsG.skip rfl rfl rfl ?_
              refine StepsG.skip rfl rfl rfl ?_
              refine StepsG.cons rfl rfl (fun wq hS => ?_) ?_
              · have s1 := drCell (hd.trans hS) c1
                have s2 := drCell (hd.trans hS) c2
                go_simp
              exact StepsG.nil
            case rest =>
              intro wq hS
              simp only [putsOfG, Act.put, List.getElem?_toArray, List.getElem?_cons_succ, List.getElem?_cons_zero, Option.bind_some, Nat.reduceAdd, List.setIfInBounds_toArray, List.set_cons_zero, List.set_cons_succ]
              go_wp2_with fail
              go_roundw
              case rel => exact ⟨j + 1, by omega, by omega, by go_num, hd.trans hS⟩
              case measure => simp [intOf]; omega
        · obtain rfl : q = j := by omega
          have hb := hd.below w4.heap.size
          have g0 := g0.below (hb.mono g0.le)
          have hA := hA.trans (hb.mono hA.size)
          clear hd hb s0
          obtain ⟨w5, rfl⟩ : ∃ wx : World, wx = wr := ⟨_, rfl⟩
          have HSU := Lib.hid hsum
          clear hsum
          by_cases q5 : q = 5
          · by_cases k5 : k % 5 = 4
            · subst q5
              have b5 : ((k : Int) % 5 == 4) = true := beq_iff_eq.2 (by omega)
              have he : evenT true k 5 = true := by simp [evenT]; omega
              have HEE := Lib.hid (HE.out he)
              clear HE he
              clear k5
              go_wp2_with fail
              refine (total_any _ _ _ R _ g0.rd (fits_1000 HBD.out (by omega)) (by omega)).mono ?_
              rintro e w' ⟨rfl, rfl⟩
              rw [HSU.out]
              go_wp2_with fail
              refine (iCountParts_any (k : Int) _).mono ?_
              rintro e w6 ⟨rfl, hb⟩
              replace g0 := g0.below (hb.mono g0.le)
              replace hA := hA.trans (hb.mono hA.size)
              have hz6 := hb.size
              clear hb
              go_wp2_with fail
              refine (allSame_yes _ _ _ R (R.getD 0 0) _ g0.rd HEE.out (by omega)).mono ?_
              rintro e w7 ⟨rfl, hd⟩
              have hb : Below w6.heap.size w6 w7 := hd.below _
              clear hd
              replace g0 := g0.below (hb.mono g0.le)
              replace hA := hA.trans (hb.mono hA.size)
              have hz7 := hb.size
              clear hb
              go_wp2_with fail
              go_ret
              exact ⟨rfl, hA⟩
            · subst q5
              have b5 : ((k : Int) % 5 == 4) = false := beq_eq_false_iff_ne.2 (by omega)
              have HEE := Lib.hid True.intro
              clear HE
              clear k5
              go_wp2_with fail
              refine (total_any _ _ _ R _ g0.rd (fits_1000 HBD.out (by omega)) (by omega)).mono ?_
              rintro e w' ⟨rfl, rfl⟩
              rw [HSU.out]
              go_wp2_with fail
              refine (iCountParts_any (k : Int) _).mono ?_
              rintro e w6 ⟨rfl, hb⟩
              replace g0 := g0.below (hb.mono g0.le)
              replace hA := hA.trans (hb.mono hA.size)
              have hz6 := hb.size
              clear hb
              go_wp2_with fail
              go_ret
              exact ⟨rfl, hA⟩
          · by_cases q7 : q = 7
            · by_cases k7 : k % 7 = 5
              · subst q7
                have b7 : ((k : Int) % 7 == 5) = true := beq_iff_eq.2 (by omega)
                have he : evenT true k 7 = true := by simp [evenT]; omega
                have HEE := Lib.hid (HE.out he)
                clear HE he
                clear q5 k7
                go_wp2_with fail
                refine (total_any _ _ _ R _ g0.rd (fits_1000 HBD.out (by omega)) (by omega)).mono ?_
                rintro e w' ⟨rfl, rfl⟩
                rw [HSU.out]
                go_wp2_with fail
                refine (iCountParts_any (k : Int) _).mono ?_
                rintro e w6 ⟨rfl, hb⟩
                replace g0 := g0.below (hb.mono g0.le)
                replace hA := hA.trans (hb.mono hA.size)
                have hz6 := hb.size
                clear hb
                go_wp2_with fail
                refine (allSame_yes _ _ _ R (R.getD 0 0) _ g0.rd HEE.out (by omega)).mono ?_
                rintro e w7 ⟨rfl, hd⟩
                have hb : Below w6.heap.size w6 w7 := hd.below _
                clear hd
                replace g0 := g0.below (hb.mono g0.le)
                replace hA := hA.trans (hb.mono hA.size)
                have hz7 := hb.size
                clear hb
                go_wp2_with fail
                go_ret
                exact ⟨rfl, hA⟩
              · subst q7
                have b7 : ((k : Int) % 7 == 5) = false := beq_eq_false_iff_ne.2 (by omega)
                have HEE := Lib.hid True.intro
                clear HE
                clear q5 k7
                go_wp2_with fail
                refine (total_any _ _ _ R _ g0.rd (fits_1000 HBD.out (by omega)) (by omega)).mono ?_
                rintro e w' ⟨rfl, rfl⟩
                rw [HSU.out]
                go_wp2_with fail
                refine (iCountParts_any (k : Int) _).mono ?_
                rintro e w6 ⟨rfl, hb⟩
                replace g0 := g0.below (hb.mono g0.le)
                replace hA := hA.trans (hb.mono hA.size)
                have hz6 := hb.size
                clear hb
                go_wp2_with fail
                go_ret
                exact ⟨rfl, hA⟩
            · by_cases q11 : q = 11
              · by_cases k11 : k % 11 = 6
                · subst q11
                  have b11 : ((k : Int) % 11 == 6) = true := beq_iff_eq.2 (by omega)
                  have he : evenT true k 11 = true := by simp [evenT]; omega
                  have HEE := Lib.hid (HE.out he)
                  clear HE he
                  clear q5 q7 k11
                  go_wp2_with fail
                  refine (total_any _ _ _ R _ g0.rd (fits_1000 HBD.out (by omega)) (by omega)).mono ?_
                  rintro e w' ⟨rfl, rfl⟩
                  rw [HSU.out]
                  go_wp2_with fail
                  refine (iCountParts_any (k : Int) _).mono ?_
                  rintro e w6 ⟨rfl, hb⟩
                  replace g0 := g0.below (hb.mono g0.le)
                  replace hA := hA.trans (hb.mono hA.size)
                  have hz6 := hb.size
                  clear hb
                  go_wp2_with fail
                  refine (allSame_yes _ _ _ R (R.getD 0 0) _ g0.rd HEE.out (by omega)).mono ?_
                  rintro e w7 ⟨rfl, hd⟩
                  have hb : Below w6.heap.size w6 w7 := hd.below _
                  clear hd
                  replace g0 := g0.below (hb.mono g0.le)
                  replace hA := hA.trans (hb.mono hA.size)
                  have hz7 := hb.size
                  clear hb
                  go_wp2_with fail
                  go_ret
                  exact ⟨rfl, hA⟩
                · subst q11
                  have b11 : ((k : Int) % 11 == 6) = false := beq_eq_false_iff_ne.2 (by omega)
                  have HEE := Lib.hid True.intro
                  clear HE
                  clear q5 q7 k11
                  go_wp2_with fail
                  refine (total_any _ _ _ R _ g0.rd (fits_1000 HBD.out (by omega)) (by omega)).mono ?_
                  rintro e w' ⟨rfl, rfl⟩
                  rw [HSU.out]
                  go_wp2_with fail
                  refine (iCountParts_any (k : Int) _).mono ?_
                  rintro e w6 ⟨rfl, hb⟩
                  replace g0 := g0.below (hb.mono g0.le)
                  replace hA := hA.trans (hb.mono hA.size)
                  have hz6 := hb.size
                  clear hb
                  go_wp2_with fail
                  go_ret
                  exact ⟨rfl, hA⟩
              · have a5 : ((q : Int) == 5) = false := beq_eq_false_iff_ne.2 (by omega)
                have a7 : ((q : Int) == 7) = false := beq_eq_false_iff_ne.2 (by omega)
                have a11 : ((q : Int) == 11) = false := beq_eq_false_iff_ne.2 (by omega)
                have HEE := Lib.hid True.intro
                clear HE
                clear q5 q7 q11
                go_wp2_with fail
                refine (total_any _ _ _ R _ g0.rd (fits_1000 HBD.out (by omega)) (by omega)).mono ?_
                rintro e w' ⟨rfl, rfl⟩
                rw [HSU.out]
                go_wp2_with fail
                refine (iCountParts_any (k : Int) _).mono ?_
                rintro e w6 ⟨rfl, hb⟩
                replace g0 := g0.below (hb.mono g0.le)
                replace hA := hA.trans (hb.mono hA.size)
                have hz6 := hb.size
                clear hb
                go_wp2_with fail
                go_ret
                exact ⟨rfl, hA⟩
  · have hl' : 1048576 < bs.length := by omega
    go_enter Try.func6, Try.ntmps6
    go_wp2_with fail
    go_ret
    exact ⟨rfl, Below.refl _ _⟩

theorem own : ownKnob Try.prog.godebug = none := by kernel_rfl
theorem laidOut : laidOutB Try.prog = true := by kernel_rfl

set_option maxRecDepth 100000 in
theorem lifted (os : Os) (started : os.Started) (H : Type) (enc : TypeId × Value → H) :
    ReturnsInHanded {} Try.checked os 6 .any (Rows.fnCrankSpreadSpec.pre6 enc Try.prog Try.f6 Rows.fnCrankSpreadRow.domain false) (Rows.fnCrankSpreadSpec.post enc Try.prog Try.f6 false true false false) := by
  refine returnsInHanded_of_change (C := Try.checked) own started (by kernel_rfl) Try.func6
    (ChangeSpec.witness6 (enc := enc) (C := Try.checked) false ⟨#[], #[.slice none 0 0], []⟩ 8 (by kernel_rfl) (by kernel_rfl) (by kernel_rfl) (by kernel_rfl)) ?_
  intro W base args ds gs before hval0 hW hcnd _
  have hval : ∀ (j : Nat) t v, Try.f6.params[j]? = some t → args[j]? = some v → Value.okWide Try.prog W .any base t v := hval0
  have hW' := hW
  obtain ⟨p, q, hA0, hV, rfl, hfz, hnd⟩ := hW
  have hA : DataW.TrodAll enc Try.prog W 0 (fun _ => true) true Try.f6.params.toList args.toList ds p := hA0
  rw [Try.params6] at hA hval
  obtain ⟨v0, vs0, d0, ds0, p0, q0, hargs, rfl, rfl, h0, r0⟩ := trodAll_cons hA
  obtain ⟨rfl, rfl, rfl⟩ := trodAll_nil r0
  obtain rfl : args = #[v0] := by cases args; simp_all
  obtain ⟨rfl, rfl⟩ := trodVars_none hV
  obtain ⟨a0, len0, cap0, rfl⟩ := okWide_slice Try.underlying27 (hval 0 27 v0 rfl rfl)
  have k0 := h0
  have lt0 : ∀ x ∈ p0, x.block < W.heap.size := by obtain ⟨m, hm⟩ := k0; exact DataW.trod_lt m _ _ _ hm
  obtain ⟨z0, w0⟩ : ∃ zs, IsRow .u8 W a0 len0 cap0 zs := by
    obtain ⟨fuel, hf⟩ := h0
    rcases open_ints Try.underlying27 Try.underlying5 (by kernel_rfl) hf with ⟨hcs, _⟩ | ⟨x, l, c, zs, hcs, _, hl, hm, hz, _, hcell, hwz⟩
    · simp [Value.cells] at hcs
      obtain ⟨rfl, rfl, rfl⟩ := hcs
      exact ⟨[], .inl ⟨rfl, rfl, rfl, rfl⟩⟩
    · simp [Value.cells] at hcs
      obtain ⟨rfl, rfl, rfl⟩ := hcs
      exact ⟨zs, .inr ⟨_, rfl, hl, hm, by simpa using hz, hcell, hwz⟩⟩
  have lc0 := w0.lc
  obtain ⟨L0, rfl, R0, wf0, m0⟩ := w0.rd
  clear hA0 hval0
  refine (walk a0 cap0 L0 W R0 wf0 m0 (by simpa using lc0)).mono fun e W' ⟨he, bel⟩ => ?_
  subst he
  exact ⟨_, rfl, _, _, _, [], _, [], hW', trodAll_mk1 (shut_bool Try.underlying4 _), (trodAll_cons_mk (Below.trod laidOut (by kernel_rfl) (of_decide_eq_true (by kernel_rfl)) k0 bel lt0) trodAll_mk0), rfl, bel.frame _, fun h => by cases h⟩

theorem over : Rows.fnCrankSpreadRow.holds Try.pinned (OpenSpec.ofChange Rows.fnCrankSpreadSpec) :=
  OpenClaim.holds_of_wide 6 Try.f6 rfl rfl rfl rfl rfl rfl rfl ⟨rfl, rfl, rfl, rfl, rfl⟩ rfl rfl rfl rfl rfl (by kernel_rfl) Try.func6 (by kernel_rfl)
    (of_decide_eq_true (by kernel_rfl)) (by unfold Func.isWrapper; first | (rw [if_pos (by decide +kernel)]; kernel_rfl) | (rw [if_neg (by decide +kernel)]; exact ⟨rfl, rfl⟩))
    (fun os started H enc _ => lifted os started H enc)

/-- the given statement -/
theorem proved : Rows.FnCrankSpreadSaid := over
end Go.Proofs.Ytcjnmconehfbgaa.fnCrankSpread
