/-
  Walks of the model: kinds by name. Walks of the model: IsKind for every name. Walks of the program: all parts with a sum. Walks of the model: all parts with a sum. Walks of the model: the parts of a kind, as lists of the call's own. Walks of the program: the parts of a kind, and how many they are. Plain mathematics of counts: how many parts have a sum, none greater than a number. Plain mathematics of counts, over whole numbers. Walks: inRange, countTo of the model; withMany, countsUpTo of the program. Walks: CountParts, AtMostParts, JustParts of the model and of the program. Plain mathematics of sums over squares and divisors. Plain mathematics of counts with signs. Plain mathematics: tables of counts, signs and divisors up to 40, and what the promises say of them. Plain mathematics: partners are as many. What the table of partners reads as, for the walks.
-/
import Derived.Test.YtmlomapifldlpaaDoorZA1
import Derived.Test.YtmlomapifldlpaaDoorZA2
import Derived.Test.YtmlomapifldlpaaDoorZA3
import Derived.Test.YtmlomapifldlpaaDoorZA4
import Derived.Test.YtmlomapifldlpaaDoorZA5
import Derived.Test.YtmlomapifldlpaaDoorZA6
import Derived.Test.YtmlomapifldlpaaDoorProg
import Derived.Deep.QuietTactic
import Derived.BigQuiet
import Derived.StillTailTactics
import Derived.IntWalk
import Derived.Lib.Hide
import Derived.Shelf.Abstract
import Derived.Test.YtmlomapifldlpaaDoorRows
import Derived.ProofKit
import Derived.LaidMore
import Derived.OpenShut
import Derived.OpenVars
import Derived.MakeChecks
import Derived.Stop.Joined
namespace Go.Proofs.YtmlomapifldlpaaDoor
open Go.RowKit NP
set_option maxRecDepth 8000
set_option linter.unusedVariables false
set_option linter.unusedSimpArgs false
def fewB (m : Int) (M : List Int) : Bool := allTo (fun j => decide (M.getD j 0 < m)) M.length
def fewTab (N : List Nat) : Bool :=
  let L := N.map Int.ofNat
  (List.range 17).all fun m => decide (m < 2) || decide (fewB (m : Int) (tim L) = kNone m L)
set_option maxRecDepth 100000 in
theorem fewTab_all : all16.all fewTab = true := by decide +kernel
theorem few_none {L : List Int} (hv : valid L = true) {m : Nat} (h1 : 2 ≤ m) (h2 : m ≤ 16) : fewB (m : Int) (tim L) = kNone m L := by
  obtain ⟨N, hN, rfl⟩ := of_all fewTab_all hv
  have := List.all_eq_true.1 hN m (by simp; omega)
  simp only [Bool.or_eq_true, decide_eq_true_eq] at this
  exact this.resolve_left (by omega)
theorem remIn_pair (m r : Int) (L : List Int) : remIn m [r, m - r] L = kRem m r L := by
  unfold remIn kRem
  congr 1
  funext j
  simp [hasI]
  try rfl
theorem no_one (L : List Int) : (!hasI L 1) = kNoOne L := by
  unfold kNoOne hasI
  rw [Bool.eq_iff_iff, allTo_iff]
  simp only [Bool.not_eq_true', decide_eq_false_iff_not, decide_eq_true_eq]
  constructor
  · intro h j hj
    rw [getD_lt hj]
    exact fun e => h (e ▸ List.getElem_mem hj)
  · intro h hm
    obtain ⟨j, hj, e⟩ := List.getElem_of_mem hm
    have := h j hj
    rw [getD_lt hj] at this
    exact this e

theorem fewer_any (a : Option Addr) (c B : Nat) (L : List Int) (m : Int) (hm : 0 ≤ m ∧ m ≤ 100) (hv : valid L = true) (w : World) (h : Rd w B a (ints L)) (hB : B ≤ w.heap.size) :
    Calls Tryd.prog 36 #[.slice a L.length c, .int .i64 m] w fun e w' => e = .returned (.bool (fewB m (tim L))) ∧ Below w.heap.size w w' := by
  have HV := Lib.hid hv
  have htl : (tim L).length ≤ 16 := by have := timF_len L; rwa [timF_yes hv] at this
  clear hv
  go_enter Tryd.func36, Tryd.ntmps36
  go_wp2_with (go_at_call 50; refine (stimes_any _ _ B L _ h hB HV.out).mono ?_; rintro e w1 ⟨a', c', rfl, ho, hb⟩)
  obtain ⟨M, hM⟩ : ∃ M, M = tim L := ⟨_, rfl⟩
  rw [← hM] at ho htl ⊢
  have hrd := ho.rd
  have HM := Lib.hid hM
  clear hM ho
  go_loopw [6] (fun vi wr => ∃ k : Nat, k ≤ M.length ∧ vi = .int .i64 (k : Int) ∧ wr = w1 ∧ Hid (∀ j, j < k → (fun j => decide (M.getD j 0 < m)) j = true)) (fun vi _ => 20 - (intOf vi).toNat)
  case atStart => exact ⟨0, Nat.zero_le _, rfl, rfl, Lib.hid fun j hj => by omega⟩
  case round =>
    obtain ⟨k, hk, rfl, rfl, HJ⟩ := hrel
    by_cases hlt : k < M.length
    · have hlt' : (k : Int) < (M.length : Int) := by omega
      obtain ⟨b1, o1, rfl, _, hc⟩ := hrd.at_ hlt
      have HG := Lib.hid (getD_lt hlt)
      generalize M[k] = x at hc HG
      by_cases hx : m ≤ x
      · have HF : Hid (fewB m M = false) := Lib.hid (allTo_no hlt (by rw [HG.out]; exact decide_eq_false (by omega)))
        go_wp2
        go_ret
        exact ⟨ret_bool (by rw [← HM.out, HF.out]), hb⟩
      · have HX : Hid (x < m) := Lib.hid (by omega)
        go_wp2
        go_roundw
        case rel => exact ⟨k + 1, by omega, by go_num, (by first | rfl | trivial), Lib.hid (upto HJ.out (by show decide _ = true; rw [HG.out]; exact decide_eq_true HX.out))⟩
        case measure => simp [intOf]; omega
    · obtain rfl : k = M.length := by omega
      have HF : Hid (fewB m M = true) := Lib.hid (allTo_yes HJ.out)
      clear hlt
      go_wp2
      go_ret
      exact ⟨ret_bool (by rw [← HM.out, HF.out]), hb⟩

set_option maxHeartbeats 2000000 in
theorem schur_any (a : Option Addr) (c B : Nat) (L : List Int) (hv : valid L = true) (w : World) (h : Rd w B a (ints L)) :
    Calls Tryd.prog 38 #[.slice a L.length c] w fun e w' => e = .returned (.bool (kFall 3 4 L)) ∧ ∃ n, w' = w.drewN n := by
  have hl16 := (valid_bd hv).2.2.2
  have HNN := Lib.hid (getD_nn hv)
  clear hv
  go_enter Tryd.func38, Tryd.ntmps38
  go_wp2
  go_loopw [3] (fun vi wr => ∃ k : Nat, k ≤ L.length - 1 ∧ vi = .int .i64 k ∧ Dr w wr ∧ Hid (∀ j, j < k → (fun j => decide ((if L.getD j 0 % 3 = 0 then (4 : Int) else 3) ≤ L.getD j 0 - L.getD (j + 1) 0)) j = true)) (fun vi _ => L.length - (intOf vi).toNat)
  case atStart => exact ⟨0, Nat.zero_le _, rfl, Dr.refl _, Lib.hid fun j hj => by omega⟩
  case round =>
    obtain ⟨k, hk, rfl, hdr, HP⟩ := hrel
    by_cases hlt : k < L.length - 1
    · have hlt' : (k : Int) + 1 < (L.length : Int) := by omega
      have hR := h.dr hdr
      have hk0 : k < L.length := by omega
      have hk1 : k + 1 < L.length := by omega
      obtain ⟨b, o, rfl, _, hc⟩ := hR.at_ hk0
      obtain ⟨b', o', e', -, hc'⟩ := hR.at_ hk1
      injection e' with e'; injection e' with e2 e3; subst e2 e3
      have hx := HNN.out k
      have hy := HNN.out (k + 1)
      have hg : L.getD k 0 = L[k] := getD_lt hk0
      have hg' : L.getD (k + 1) 0 = L[k + 1] := getD_lt hk1
      rw [hg] at hx
      rw [hg'] at hy
      have HG := Lib.hid hg
      have HG' := Lib.hid hg'
      clear hg hg'
      have hr := hdr
      generalize L[k] = x at hc hx HG
      generalize L[k + 1] = y at hc' hy HG'
      obtain ⟨dd, hdd⟩ : ∃ d, x - y = d := ⟨_, rfl⟩
      have hw1 : IntKind.i64.wrap (x - y) = dd := by rw [hdd]; exact IntWalk.i64_in _ (by omega)
      have hdb : -16 ≤ dd ∧ dd ≤ 16 := by omega
      have HDD := Lib.hid hdd
      have hxt : x.tmod 3 = x % 3 := Int.tmod_eq_emod_of_nonneg hx.1
      clear hdd
      by_cases e3 : dd < 3
      · have HF : Hid (kFall 3 4 L = false) := Lib.hid (allTo_no hlt (by rw [HG.out, HG'.out, HDD.out]; refine decide_eq_false ?_; split <;> omega))
        go_wp2_with fail
        go_quiet (fail)
        go_wp2
        go_ret
        exact ⟨ret_bool HF.out.symm, hdr.trans (Dr.n _ _)⟩
      · by_cases e4 : dd = 3
        · have q4 : (dd == 3) = true := beq_iff_eq.2 e4
          have HE4 := Lib.hid e4
          clear e4
          by_cases e5 : x % 3 = 0
          · have HF : Hid (kFall 3 4 L = false) := Lib.hid (allTo_no hlt (by rw [HG.out, HG'.out, HDD.out, if_pos e5, HE4.out]; rfl))
            have q5 : (x % 3 == 0) = true := beq_iff_eq.2 e5
            have q5' : (x.tmod 3 == 0) = true := by rw [hxt]; exact q5
            clear e5 hxt
            go_wp2_with fail
            go_quiet (fail)
            go_wp2
            go_ret
            exact ⟨ret_bool HF.out.symm, hdr.trans (Dr.n _ _)⟩
          · have HT : Hid ((if x % 3 = 0 then (4 : Int) else 3) ≤ dd) := Lib.hid (by rw [if_neg e5, HE4.out]; omega)
            have q5 : (x % 3 == 0) = false := beq_eq_false_iff_ne.2 e5
            have q5' : (x.tmod 3 == 0) = false := by rw [hxt]; exact q5
            clear e5 hxt
            go_wp2_with fail
            go_quiet (fail)
            go_wp2
            go_roundw
            case rel => exact ⟨k + 1, by omega, by go_num, hdr.drewN _, Lib.hid (upto HP.out (by show decide (_ ≤ _) = true; rw [HG.out, HG'.out, HDD.out]; exact decide_eq_true HT.out))⟩
            case measure => simp [intOf]; omega
        · have q4 : (dd == 3) = false := beq_eq_false_iff_ne.2 e4
          have HT : Hid ((if x % 3 = 0 then (4 : Int) else 3) ≤ dd) := Lib.hid (by split <;> omega)
          clear e4 hxt
          go_wp2_with fail
          go_quiet (fail)
          go_wp2
          go_roundw
          case rel => exact ⟨k + 1, by omega, by go_num, hdr.drewN _, Lib.hid (upto HP.out (by show decide (_ ≤ _) = true; rw [HG.out, HG'.out, HDD.out]; exact decide_eq_true HT.out))⟩
          case measure => simp [intOf]; omega
    · have hge : ¬ (k : Int) + 1 < (L.length : Int) := by omega
      obtain rfl : k = L.length - 1 := by omega
      have HF : Hid (kFall 3 4 L = true) := Lib.hid (allTo_yes HP.out)
      clear hlt
      go_wp2
      go_ret
      exact ⟨ret_bool HF.out.symm, hdr⟩

theorem sk_odd : SK ⟨#[111, 100, 100]⟩ (kRem 2 1) := by
  intro a c B L w hv h hB
  have HV := Lib.hid hv
  have hl16 := (valid_bd hv).2.2.2
  clear hv
  go_enter Tryd.func18, Tryd.ntmps18
  go_wp2_with (go_at_call 32; refine (allRemain_any _ _ _ _ _ B L [1] 2 (by omega) HV.out _ (h.alloc hB _) (rd_new w _ _) (by simp)).mono ?_; rintro e w3 ⟨rfl, rfl⟩; rw [remIn_twoK])
  go_ret2
  exact ⟨rfl, (Below.refl _ _).alloc (Nat.le_refl _) _⟩
theorem sk_notthree : SK ⟨#[110, 111, 116, 116, 104, 114, 101, 101]⟩ (kRem 3 1) := by
  intro a c B L w hv h hB
  have HV := Lib.hid hv
  have hl16 := (valid_bd hv).2.2.2
  clear hv
  go_enter Tryd.func18, Tryd.ntmps18
  go_wp2_with (go_at_call 32; refine (allRemain_any _ _ _ _ _ B L [1, 2] 3 (by omega) HV.out _ (h.alloc hB _) (rd_new w _ _) (by simp)).mono ?_; rintro e w3 ⟨rfl, rfl⟩; rw [show ([1, 2] : List Int) = [1, 3 - 1] from rfl]; rw [remIn_pair 3 1])
  go_ret2
  exact ⟨rfl, (Below.refl _ _).alloc (Nat.le_refl _) _⟩
theorem sk_five : SK ⟨#[102, 105, 118, 101]⟩ (kRem 5 1) := by
  intro a c B L w hv h hB
  have HV := Lib.hid hv
  have hl16 := (valid_bd hv).2.2.2
  clear hv
  go_enter Tryd.func18, Tryd.ntmps18
  go_wp2_with (go_at_call 32; refine (allRemain_any _ _ _ _ _ B L [1, 4] 5 (by omega) HV.out _ (h.alloc hB _) (rd_new w _ _) (by simp)).mono ?_; rintro e w3 ⟨rfl, rfl⟩; rw [show ([1, 4] : List Int) = [1, 5 - 1] from rfl]; rw [remIn_pair 5 1])
  go_ret2
  exact ⟨rfl, (Below.refl _ _).alloc (Nat.le_refl _) _⟩
theorem sk_fivetwo : SK ⟨#[102, 105, 118, 101, 116, 119, 111]⟩ (kRem 5 2) := by
  intro a c B L w hv h hB
  have HV := Lib.hid hv
  have hl16 := (valid_bd hv).2.2.2
  clear hv
  go_enter Tryd.func18, Tryd.ntmps18
  go_wp2_with (go_at_call 32; refine (allRemain_any _ _ _ _ _ B L [2, 3] 5 (by omega) HV.out _ (h.alloc hB _) (rd_new w _ _) (by simp)).mono ?_; rintro e w3 ⟨rfl, rfl⟩; rw [show ([2, 3] : List Int) = [2, 5 - 2] from rfl]; rw [remIn_pair 5 2])
  go_ret2
  exact ⟨rfl, (Below.refl _ _).alloc (Nat.le_refl _) _⟩
theorem sk_six : SK ⟨#[115, 105, 120]⟩ (kRem 6 1) := by
  intro a c B L w hv h hB
  have HV := Lib.hid hv
  have hl16 := (valid_bd hv).2.2.2
  clear hv
  go_enter Tryd.func18, Tryd.ntmps18
  go_wp2_with (go_at_call 32; refine (allRemain_any _ _ _ _ _ B L [1, 5] 6 (by omega) HV.out _ (h.alloc hB _) (rd_new w _ _) (by simp)).mono ?_; rintro e w3 ⟨rfl, rfl⟩; rw [show ([1, 5] : List Int) = [1, 6 - 1] from rfl]; rw [remIn_pair 6 1])
  go_ret2
  exact ⟨rfl, (Below.refl _ _).alloc (Nat.le_refl _) _⟩
theorem sk_gap : SK ⟨#[103, 97, 112]⟩ (kFall 2 2) := by
  intro a c B L w hv h hB
  have HV := Lib.hid hv
  have hl16 := (valid_bd hv).2.2.2
  clear hv
  go_enter Tryd.func18, Tryd.ntmps18
  go_wp2_with (go_at_call 33; refine (gaps_any _ _ B L 2 (by omega) HV.out _ h).mono ?_; rintro e wv ⟨rfl, n1, rfl⟩)
  go_ret2
  exact ⟨rfl, (Dr.n w n1).below _⟩
theorem sk_schur : SK ⟨#[115, 99, 104, 117, 114]⟩ (kFall 3 4) := by
  intro a c B L w hv h hB
  have HV := Lib.hid hv
  have hl16 := (valid_bd hv).2.2.2
  clear hv
  go_enter Tryd.func18, Tryd.ntmps18
  go_wp2_with (go_at_call 38; refine (schur_any _ _ B L HV.out _ h).mono ?_; rintro e wv ⟨rfl, n1, rfl⟩)
  go_ret2
  exact ⟨rfl, (Dr.n w n1).below _⟩
theorem sk_twice : SK ⟨#[116, 119, 105, 99, 101]⟩ (kNone 3) := by
  intro a c B L w hv h hB
  have HV := Lib.hid hv
  have hl16 := (valid_bd hv).2.2.2
  clear hv
  go_enter Tryd.func18, Tryd.ntmps18
  go_wp2_with (go_at_call 36; refine (fewer_any _ _ B L 3 (by omega) HV.out _ h hB).mono ?_; rintro e w1 ⟨rfl, hb1⟩; rw [show fewB 3 (tim L) = kNone 3 L from few_none HV.out (m := 3) (by omega) (by omega)])
  go_ret2
  exact ⟨rfl, hb1⟩
theorem sk_gapone : SK ⟨#[103, 97, 112, 111, 110, 101]⟩ (fun L => kFall 2 2 L && kNoOne L) := by
  intro a c B L w hv h hB
  have HV := Lib.hid hv
  have hl16 := (valid_bd hv).2.2.2
  clear hv
  cases hk : kFall 2 2 L with
  | false =>
    have HK := Lib.hid hk
    clear hk
    go_enter Tryd.func18, Tryd.ntmps18
    go_wp2_with (go_at_call 33; refine (gaps_any _ _ B L 2 (by omega) HV.out _ h).mono ?_; rintro e wv ⟨rfl, n1, rfl⟩; rw [HK.out])
    go_ret2
    exact ⟨by simp [HK.out], (Dr.n w n1).below _⟩
  | true =>
    have HK := Lib.hid hk
    have HN : Hid (kNoOne L = !hasI L 1) := Lib.hid (no_one L).symm
    clear hk
    go_enter Tryd.func18, Tryd.ntmps18
    go_wp2_with (first
      | (go_at_call 37; refine (hasInt_any _ _ B L 1 _ (h.dr (Dr.n w n1)) (by omega)).mono ?_; rintro e w3 ⟨rfl, rfl⟩)
      | (go_at_call 33; refine (gaps_any _ _ B L 2 (by omega) HV.out _ h).mono ?_; rintro e wv ⟨rfl, n1, rfl⟩; rw [HK.out]))
    go_ret2
    exact ⟨by simp [HK.out, HN.out], (Dr.n w n1).below _⟩
end Go.Proofs.YtmlomapifldlpaaDoor
namespace Go.Proofs.YtmlomapifldlpaaDoor
open Go.RowKit NP
set_option maxRecDepth 8000
set_option linter.unusedVariables false
set_option linter.unusedSimpArgs false
theorem kind_ne {s : ByteArray} (hk : kindOf s.data.toList = none) {l : List UInt8} {K : List Int → Bool} (h : kindOf l = some K) : s.data.toList ≠ l := by
  intro e
  rw [e, h] at hk
  cases hk

set_option maxHeartbeats 2000000 in
theorem skind_none (s : ByteArray) (hk : kindOf s.data.toList = none) (a : Option Addr) (c : Nat) (L : List Int) (w : World) :
    Calls Tryd.prog 18 #[.string s, .slice a L.length c] w fun e w' => e = .returned (.tuple #[.bool false, .bool false]) ∧ Below w.heap.size w w' := by
  have e0 : (s.toList == [111, 100, 100]) = false := by rw [ByteArray.toList_eq]; exact beq_eq_false_iff_ne.2 (kind_ne hk kindOf_odd)
  have e1 : (s.toList == [100, 105, 115, 116, 105, 110, 99, 116]) = false := by rw [ByteArray.toList_eq]; exact beq_eq_false_iff_ne.2 (kind_ne hk kindOf_distinct)
  have e2 : (s.toList == [115, 101, 108, 102]) = false := by rw [ByteArray.toList_eq]; exact beq_eq_false_iff_ne.2 (kind_ne hk kindOf_self)
  have e3 : (s.toList == [100, 105, 115, 116, 105, 110, 99, 116, 111, 100, 100]) = false := by rw [ByteArray.toList_eq]; exact beq_eq_false_iff_ne.2 (kind_ne hk kindOf_distinctodd)
  have e4 : (s.toList == [110, 111, 116, 116, 104, 114, 101, 101]) = false := by rw [ByteArray.toList_eq]; exact beq_eq_false_iff_ne.2 (kind_ne hk kindOf_notthree)
  have e5 : (s.toList == [116, 119, 105, 99, 101]) = false := by rw [ByteArray.toList_eq]; exact beq_eq_false_iff_ne.2 (kind_ne hk kindOf_twice)
  have e6 : (s.toList == [103, 97, 112]) = false := by rw [ByteArray.toList_eq]; exact beq_eq_false_iff_ne.2 (kind_ne hk kindOf_gap)
  have e7 : (s.toList == [102, 105, 118, 101]) = false := by rw [ByteArray.toList_eq]; exact beq_eq_false_iff_ne.2 (kind_ne hk kindOf_five)
  have e8 : (s.toList == [103, 97, 112, 111, 110, 101]) = false := by rw [ByteArray.toList_eq]; exact beq_eq_false_iff_ne.2 (kind_ne hk kindOf_gapone)
  have e9 : (s.toList == [102, 105, 118, 101, 116, 119, 111]) = false := by rw [ByteArray.toList_eq]; exact beq_eq_false_iff_ne.2 (kind_ne hk kindOf_fivetwo)
  have e10 : (s.toList == [115, 99, 104, 117, 114]) = false := by rw [ByteArray.toList_eq]; exact beq_eq_false_iff_ne.2 (kind_ne hk kindOf_schur)
  have e11 : (s.toList == [115, 105, 120]) = false := by rw [ByteArray.toList_eq]; exact beq_eq_false_iff_ne.2 (kind_ne hk kindOf_six)
  clear hk
  go_enter Tryd.func18, Tryd.ntmps18
  go_wp2
  go_ret2
  exact ⟨rfl, Below.refl _ _⟩

theorem sk_of {s : ByteArray} {K : List Int → Bool} (hk : kindOf s.data.toList = some K) : ∃ K', SK s K' ∧ ∀ L, K' L = K L := by
  obtain ⟨l, hl⟩ : ∃ l, l = s.data.toList := ⟨_, rfl⟩
  have hs : s = ⟨l.toArray⟩ := by rw [hl]
  rw [← hl] at hk
  subst hs
  clear hl
  by_cases h_odd : l = [111, 100, 100]
  · subst h_odd
    rw [kindOf_odd] at hk
    injection hk with hk
    subst hk
    exact ⟨_, sk_odd, fun L => by first | rfl | exact Bool.and_comm _ _⟩
  by_cases h_distinct : l = [100, 105, 115, 116, 105, 110, 99, 116]
  · subst h_distinct
    rw [kindOf_distinct] at hk
    injection hk with hk
    subst hk
    exact ⟨_, sk_distinct, fun L => by first | rfl | exact Bool.and_comm _ _⟩
  by_cases h_self : l = [115, 101, 108, 102]
  · subst h_self
    rw [kindOf_self] at hk
    injection hk with hk
    subst hk
    exact ⟨_, sk_self, fun L => by first | rfl | exact Bool.and_comm _ _⟩
  by_cases h_distinctodd : l = [100, 105, 115, 116, 105, 110, 99, 116, 111, 100, 100]
  · subst h_distinctodd
    rw [kindOf_distinctodd] at hk
    injection hk with hk
    subst hk
    exact ⟨_, sk_distinctodd, fun L => by first | rfl | exact Bool.and_comm _ _⟩
  by_cases h_notthree : l = [110, 111, 116, 116, 104, 114, 101, 101]
  · subst h_notthree
    rw [kindOf_notthree] at hk
    injection hk with hk
    subst hk
    exact ⟨_, sk_notthree, fun L => by first | rfl | exact Bool.and_comm _ _⟩
  by_cases h_twice : l = [116, 119, 105, 99, 101]
  · subst h_twice
    rw [kindOf_twice] at hk
    injection hk with hk
    subst hk
    exact ⟨_, sk_twice, fun L => by first | rfl | exact Bool.and_comm _ _⟩
  by_cases h_gap : l = [103, 97, 112]
  · subst h_gap
    rw [kindOf_gap] at hk
    injection hk with hk
    subst hk
    exact ⟨_, sk_gap, fun L => by first | rfl | exact Bool.and_comm _ _⟩
  by_cases h_five : l = [102, 105, 118, 101]
  · subst h_five
    rw [kindOf_five] at hk
    injection hk with hk
    subst hk
    exact ⟨_, sk_five, fun L => by first | rfl | exact Bool.and_comm _ _⟩
  by_cases h_gapone : l = [103, 97, 112, 111, 110, 101]
  · subst h_gapone
    rw [kindOf_gapone] at hk
    injection hk with hk
    subst hk
    exact ⟨_, sk_gapone, fun L => by first | rfl | exact Bool.and_comm _ _⟩
  by_cases h_fivetwo : l = [102, 105, 118, 101, 116, 119, 111]
  · subst h_fivetwo
    rw [kindOf_fivetwo] at hk
    injection hk with hk
    subst hk
    exact ⟨_, sk_fivetwo, fun L => by first | rfl | exact Bool.and_comm _ _⟩
  by_cases h_schur : l = [115, 99, 104, 117, 114]
  · subst h_schur
    rw [kindOf_schur] at hk
    injection hk with hk
    subst hk
    exact ⟨_, sk_schur, fun L => by first | rfl | exact Bool.and_comm _ _⟩
  by_cases h_six : l = [115, 105, 120]
  · subst h_six
    rw [kindOf_six] at hk
    injection hk with hk
    subst hk
    exact ⟨_, sk_six, fun L => by first | rfl | exact Bool.and_comm _ _⟩
  unfold kindOf at hk
  simp [*] at hk

end Go.Proofs.YtmlomapifldlpaaDoor
namespace Go.Proofs.YtmlomapifldlpaaDoor
open Go.RowKit NP
set_option maxRecDepth 8000
set_option linter.unusedVariables false
set_option linter.unusedSimpArgs false
def apF (n : Int) : List (List Int) := if 0 ≤ n ∧ n ≤ 12 then allQ n.toNat n.toNat n.toNat else []
theorem apF_yes {n : Nat} (h : n ≤ 12) : apF (n : Int) = allQ n n n := by unfold apF; rw [if_pos (by omega)]; simp
theorem apF_no {n : Int} (h : ¬ (0 ≤ n ∧ n ≤ 12)) : apF n = [] := by unfold apF; rw [if_neg h]

end Go.Proofs.YtmlomapifldlpaaDoor
namespace Go.Proofs.YtmlomapifldlpaaDoor
open Go.RowKit NP
set_option maxRecDepth 8000
set_option linter.unusedVariables false
set_option linter.unusedSimpArgs false
theorem cntQQ : (List.range 13).all (fun k => decide (cntLL (allQ k k k) ≤ 2000)) = true := by decide +kernel
theorem apF_cnt (n : Int) : cntLL (apF n) ≤ 2000 := by
  unfold apF
  split
  · have := List.all_eq_true.1 cntQQ n.toNat (by simp; omega)
    simpa using this
  · simp [cntLL]
theorem apF_few2 (n : Int) : (apF n).length ≤ 1000 := by
  unfold apF
  split
  · exact allQ_len (by omega)
  · simp
theorem apF_shortTab : (List.range 13).all (fun k => (allQ k k k).all fun X => decide (X.length ≤ 16)) = true := by decide +kernel
theorem apF_short2 (n : Int) : ∀ X ∈ apF n, X.length ≤ 4611686018427387904 := by
  intro X hX
  unfold apF at hX
  split at hX
  · have h1 := List.all_eq_true.1 apF_shortTab n.toNat (by simp; omega)
    have h2 := List.all_eq_true.1 h1 X hX
    simp at h2
    omega
  · simp at hX
end Go.Proofs.YtmlomapifldlpaaDoor
namespace Go.Proofs.YtmlomapifldlpaaDoor
open Go.RowKit NP
set_option maxRecDepth 8000
set_option linter.unusedVariables false
set_option linter.unusedSimpArgs false
/-- the parts of the kind of a name with a sum -/
def kpF (l : List UInt8) (n : Int) : List (List Int) := match kindOf l with
  | some K => if 0 ≤ n ∧ n ≤ 12 then (allQ n.toNat n.toNat n.toNat).filter K else []
  | none => []
def kpOk (l : List UInt8) (n : Int) : Bool := (kindOf l).isSome && decide (0 ≤ n) && decide (n ≤ 12)
def kcF (l : List UInt8) (n : Int) : Int := if kpOk l n = true then ((kpF l n).length : Int) else -1
theorem kpF_none {l : List UInt8} (h : kindOf l = none) (n : Int) : kpF l n = [] := by unfold kpF; rw [h]
theorem kpF_some {l : List UInt8} {K : List Int → Bool} (h : kindOf l = some K) {n : Nat} (hn : n ≤ 12) : kpF l (n : Int) = (allQ n n n).filter K := by
  unfold kpF; rw [h]; simp only; rw [if_pos (by omega), Int.toNat_natCast]
theorem kpF_out {l : List UInt8} {n : Int} (h : ¬ (0 ≤ n ∧ n ≤ 12)) : kpF l n = [] := by
  unfold kpF
  split
  · rw [if_neg h]
  · rfl
theorem kcF_none {l : List UInt8} (h : kindOf l = none) (n : Int) : kcF l n = -1 := by unfold kcF kpOk; rw [h]; rfl
theorem kcF_out {l : List UInt8} {n : Int} (h : ¬ (0 ≤ n ∧ n ≤ 12)) : kcF l n = -1 := by
  unfold kcF
  rw [if_neg]
  unfold kpOk
  intro hh
  simp at hh
  exact h ⟨hh.1.2, hh.2⟩
theorem kcF_some {l : List UInt8} {K : List Int → Bool} (h : kindOf l = some K) {n : Nat} (hn : n ≤ 12) : kcF l (n : Int) = ((kpF l (n : Int)).length : Int) := by
  unfold kcF
  rw [if_pos]
  unfold kpOk
  rw [h]
  simp; omega
theorem filter_len {l : List UInt8} {K : List Int → Bool} (h : kindOf l = some K) {n : Nat} (hn : n ≤ 12) : (kpF l (n : Int)).length ≤ 1000 := by
  rw [kpF_some h hn]
  exact Nat.le_trans (List.length_filter_le _ _) (allQ_len (by omega))
set_option maxHeartbeats 4000000 in
theorem kindList_ll (s : ByteArray) (K : List Int → Bool) (hSK : SK s K) (n : Nat) (hn : n ≤ 12) (w : World) :
    Calls Tryd.prog 20 #[.string s, .int .i64 (n : Int)] w fun e w' => ∃ (a' : Option Addr) (c' : Nat) (us : List Value), e = .returned (.slice a' ((allQ n n n).filter K).length c') ∧ OwnLL w' w.heap.size w'.heap.size 46 3 (.slice a' ((allQ n n n).filter K).length c') us ((allQ n n n).filter K) ∧ Below w.heap.size w w' := by
  obtain ⟨i0, hi, hz0, hz1, hz2⟩ := T_int'
  obtain ⟨i1, hj, hy0, hy1, hy2⟩ := T_ints'
  have hE := OwnLL.empty w 46 3
  obtain ⟨w1, hw1⟩ : ∃ w1, w1 = w.alloc (.cells #[] 46) := ⟨_, rfl⟩
  have hb1 : Below w.heap.size w w1 := hw1 ▸ (Below.refl _ _).alloc (Nat.le_refl _) _
  have hz1' : w1.heap.size = w.heap.size + 1 := by rw [hw1, World.size_alloc]
  have HW1 := Lib.hid hw1
  have HZ1 := Lib.hid hz1'
  rw [← hw1] at hE
  clear hw1 hz1'
  have HZ2 : Hid ((w1.alloc (.cells #[] 3)).heap.size = w.heap.size + 1 + 1) := Lib.hid (by rw [World.size_alloc, HZ1.out])
  obtain ⟨LL, hLL⟩ : ∃ LL, LL = allQ n n n := ⟨_, rfl⟩
  have HOK : Hid (∀ L ∈ LL, valid L = true ∧ SmallParts L) := Lib.hid (hLL ▸ allQ_ok hn)
  have hle : LL.length ≤ 400 := hLL ▸ allQ_le (by omega) (by omega) (by omega)
  have HL := Lib.hid hLL
  clear hLL
  go_enter Tryd.func20, Tryd.ntmps20
  go_wp2_with fail
  rw [← HW1.out]
  refine (slist_lists n (by omega) n _ 0 (w1.alloc (.cells #[] 3)).heap.size [] n _ (Nat.le_refl _) (by simp; omega) (by omega) (fun h => absurd rfl h) (Nat.le_refl _)).mono ?_
  rintro e w2 ⟨a6, c6, vs, rfl, h6, hb2⟩
  rw [show List.map (fun x => [] ++ x) (allQ n n n) = allQ n n n from by simp, ← HL.out] at h6
  rw [← HL.out]
  rw [HZ2.out] at h6 hb2
  have HALL := Lib.hid (h6.lower (show w.heap.size + 1 ≤ w.heap.size + 1 + 1 by omega))
  clear h6
  have hbw2 : Below w.heap.size w w2 := (hb1.alloc hb1.size _).trans (hb2.mono (by omega))
  have hE2 := (hE.below ((Below.refl _ _).alloc (by have := HZ1.out; omega) (.cells #[] 3))).below (hb2.mono (show w.heap.size + 1 ≤ w.heap.size + 1 + 1 by omega))
  have hsz2 : w.heap.size + 1 ≤ w2.heap.size := by have := hb2.size; rw [HZ2.out] at this; omega
  go_wp2_with fail
  clear hE hb1 hb2
  go_loopw [5, 7] (fun v ii wr => ∃ (i : Nat) (us : List Value), ii = .int .i64 (i : Int) ∧ i ≤ LL.length ∧ us.length ≤ i ∧ OwnLL wr w.heap.size wr.heap.size 46 3 v us ((LL.take i).filter K) ∧ (∀ g, v.ownBlock = some g → g < w.heap.size + 1 ∨ w2.heap.size ≤ g) ∧ (∀ u ∈ us, ∃ j, j < i ∧ vs[j]? = some u) ∧ Kp w2 wr (w.heap.size + 1) ∧ Below w.heap.size w wr) (fun _ ii _ => LL.length - (intOf ii).toNat)
  case atStart => exact ⟨0, [], rfl, Nat.zero_le _, Nat.le_refl _, by simpa using hE2.more, fun g hg => by left; cases hg; exact Nat.lt_succ_self _, by simp, ⟨Nat.le_refl _, fun _ _ _ => rfl⟩, hbw2⟩
  case round =>
    obtain ⟨i, us, rfl, hiN, hui, ho, hout, hmem, hkp, hbel⟩ := hrel
    clear hE2 hbw2
    have HO := Lib.hid ho
    clear ho
    by_cases hlt : i < LL.length
    · have hlt' : (i : Int) < (LL.length : Int) := by omega
      obtain ⟨hv, hs⟩ := HOK.out _ (List.getElem_mem hlt)
      have HAL := Lib.hid (HALL.out.keep hkp.1 hkp.2)
      obtain ⟨gA, aM, cM, rfl, hgl, hgh, hcell, hoM, hvk⟩ := HAL.out.at_ hlt
      have HT := Lib.hid (show (LL.take (i + 1)).filter K = (LL.take i).filter K ++ [LL[i]].filter K by rw [List.take_succ_eq_append_getElem hlt, List.filter_append])
      obtain ⟨M, hM⟩ : ∃ M, M = LL[i] := ⟨_, rfl⟩
      rw [← hM] at hv hs hcell hoM hvk HT
      have HV := Lib.hid hv
      have HR := Lib.hid hoM.rd
      have HOM := Lib.hid hoM
      have HVK := Lib.hid hvk
      clear hv hs hM hoM hvk
      have hkz := hkp.1
      cases hK : K M with
      | false =>
        have HK := Lib.hid hK
        clear hK
        go_wp2_with (go_at_call 18; refine (hSK _ _ _ M _ HV.out HR.out (by omega)).mono ?_; rintro e w3 ⟨rfl, hb3⟩; rw [HK.out])
        go_roundw
        case rel =>
          refine ⟨i + 1, us, by go_num, by omega, by omega, ?_, hout, fun u hu => ?_, hkp.below hb3, hbel.trans (hb3.mono hbel.size)⟩
          · rw [HT.out]
            have e0 : [M].filter K = [] := by simp [HK.out]
            rw [e0, List.append_nil]
            exact (HO.out.below hb3).more
          · obtain ⟨j, h1, h2⟩ := hmem u hu
            exact ⟨j, by omega, h2⟩
        case measure => simp [intOf] <;> omega
      | true =>
        have HK := Lib.hid hK
        clear hK
        go_wp2_with (first
          | (at_builtin; refine wpList_append_o _ rfl (.tmp 31) (.tmp 36) 42 rfl w.heap.size w3.heap.size 46 i1 (.slice none 0 0) 24 Tryd.underlying42 hj hy0 hy1 hy2 rfl _ us rfl ((HO.out.outer.below hb3).more.alloc _) (w3.heap.size + 1) (some ⟨w3.heap.size, 0, none⟩) 1 1 [.slice aM M.length cM] rfl (Rd.one w3 _ _) rfl (by intro u hu; rw [List.mem_singleton.1 hu]; rfl) (by unfold maxLen; omega) (by omega) (by rw [World.size_alloc]; have := hbel.size; have := hb3.size; omega) ?_; intro v' w6 ho6 hg6 hat6)
          | (go_at_call 18; refine (hSK _ _ _ M _ HV.out HR.out (by omega)).mono ?_; rintro e w3 ⟨rfl, hb3⟩; rw [HK.out]; have hcell3 := (hb3.cell (p := ⟨gA, i, none⟩) (World.block_lt_of_cell? _ _ hcell)).trans hcell))
        go_roundw
        case rel =>
          have hz3 := hb3.size
          have hrow := HO.out.outer.base
          have hvn : ∀ g, v'.ownBlock = some g → g < w.heap.size + 1 ∨ w2.heap.size ≤ g := fun g hg => by
            rcases hat6 with e | e
            · exact hout g (e ▸ hg)
            · rw [e] at hg
              cases hg
              right
              rw [World.size_alloc]
              omega
          have hAlo : ∀ (j : Nat) x g, vs[j]? = some x → x.ownBlock = some g → w.heap.size + 1 ≤ g ∧ g < w2.heap.size := fun j x g hx hg => by
            have hjl := (List.getElem?_eq_some_iff.1 hx).1
            have hjL : j < LL.length := by rw [← HALL.out.len]; exact hjl
            have hin := HALL.out.inner j x LL[j] hx (List.getElem?_eq_getElem hjL)
            exact ⟨hin.base g hg, hin.lt g hg⟩
          have hOM6 : Own w6 w.heap.size w6.heap.size 3 (.slice aM M.length cM) (ints M) := by
            have h3 := ((HOM.out.below (hb3.mono hkp.1)).alloc (.cells #[.slice aM M.length cM] 46))
            refine ((h3.grown hg6 ?_).more).lower (by omega)
            cases hb : (Value.slice aM M.length cM).ownBlock with
            | none => exact .inl rfl
            | some g =>
              refine .inr fun e => ?_
              have h4 := hAlo i _ g HVK.out hb
              have h5 := hout g e.symm
              omega
          have hstep : OwnLL w6 w.heap.size w6.heap.size 46 3 v' (us ++ [.slice aM M.length cM]) ((LL.take i).filter K ++ [M]) := by
            refine (HO.out.below hb3).push (by simpa using ho6) (fun k x L hx hL => ?_) hOM6 (fun g hg e => ?_) (fun k x g hx hg => ?_)
            · have hk := (HO.out.below hb3).inner k x L hx hL
              refine ((hk.alloc (.cells #[.slice aM M.length cM] 46)).grown hg6 ?_).more
              cases hb : x.ownBlock with
              | none => exact .inl rfl
              | some g => exact .inr fun e => HO.out.apartO k x g hx hb e.symm
            · have h4 := hAlo i _ g HVK.out hg
              have h5 := hvn g e
              omega
            · obtain ⟨j, hj1, hj2⟩ := hmem x (List.mem_of_getElem? hx)
              have h4 := hAlo j x g hj2 hg
              refine ⟨fun e => by have h5 := hvn g e; omega, fun e => ?_⟩
              have := HALL.out.apart j i x _ g hj2 HVK.out hg e
              omega
          refine ⟨i + 1, us ++ [.slice aM M.length cM], by go_num, by omega, by simp; omega, ?_, hvn, fun u hu => ?_, ((hkp.below hb3).alloc _).grown hg6 (fun g hg => by have := hout g hg; omega), below_push (hbel.trans (hb3.mono hbel.size)) (Nat.le_refl _) hg6 hrow⟩
          · rw [HT.out]
            have e0 : [M].filter K = [M] := by simp [HK.out]
            rw [e0]
            exact hstep
          · rcases List.mem_append.1 hu with h | h
            · obtain ⟨j, h1, h2⟩ := hmem u h
              exact ⟨j, by omega, h2⟩
            · rw [List.mem_singleton.1 h]; exact ⟨i, by omega, HVK.out⟩
        case measure => simp [intOf] <;> omega
    · obtain rfl : i = LL.length := by omega
      obtain ⟨a5, c5, rfl⟩ := HO.out.form
      have HE : Hid ((LL.take LL.length).filter K = LL.filter K) := Lib.hid (by rw [List.take_of_length_le (Nat.le_refl _)])
      go_wp2_with fail
      go_ret
      have hq : (LL.take LL.length).filter K = (allQ n n n).filter K := by rw [HE.out, HL.out]
      have h1 := HO.out
      rw [hq] at h1
      exact ⟨a5, c5, us, by rw [← hq]; rfl, h1, hbel⟩
theorem filter_same {K K' : List Int → Bool} (h : ∀ L, K' L = K L) (l : List (List Int)) : l.filter K' = l.filter K := by
  congr 1; funext L; exact h L
theorem sKindCount_any (s : ByteArray) (n : Int) (w : World) :
    Calls Tryd.prog 11 #[.string s, .int .i64 n] w fun e w' => e = .returned (.int .i64 (kcF s.data.toList n)) ∧ Below w.heap.size w w' := by
  have hb0 := (Below.refl w.heap.size w).alloc (Nat.le_refl _) (.cells #[] 3)
  cases hk : kindOf s.data.toList with
  | none =>
    have HF := Lib.hid (kcF_none hk n)
    have HK := Lib.hid hk
    clear hk
    go_enter Tryd.func11, Tryd.ntmps11
    go_wp2_with (go_at_call 18; refine (skind_none s HK.out _ _ [] _).mono ?_; rintro e w1 ⟨rfl, hb1⟩)
    go_ret
    exact ⟨ret_i64 HF.out.symm, hb0.trans (hb1.mono (by simp))⟩
  | some K =>
    obtain ⟨K', hSK, hKK⟩ := sk_of hk
    have HSK := Lib.hid hSK
    have HKK := Lib.hid hKK
    have HK := Lib.hid hk
    clear hk hSK hKK
    have hv0 : valid [] = true := rfl
    have HR : Hid (Rd (w.alloc (.cells #[] 3)) (w.alloc (.cells #[] 3)).heap.size (some ⟨w.heap.size, 0, none⟩) (ints [])) := Lib.hid (fun h => absurd rfl h)
    by_cases h : 0 ≤ n ∧ n ≤ 12
    · obtain ⟨h1, h2⟩ := h
      obtain ⟨n, rfl⟩ := Int.eq_ofNat_of_zero_le h1
      have hn : n ≤ 12 := by omega
      have HF := Lib.hid (kpF_some HK.out hn)
      have HC := Lib.hid (kcF_some HK.out hn)
      go_enter Tryd.func11, Tryd.ntmps11
      go_wp2_with (first
        | (go_at_call 18; refine (HSK.out _ _ _ [] _ hv0 HR.out (Nat.le_refl _)).mono ?_; rintro e w1 ⟨rfl, hb1⟩)
        | (go_at_call 19; refine (inRange_yes _ _ _ _ h1 h2).mono ?_; rintro e wv ⟨rfl, hwv⟩; obtain rfl : w1 = wv := hwv.symm)
        | (go_at_call 20; refine (kindList_ll s K' HSK.out n hn _).mono ?_; rintro e w2 ⟨a', c', us, rfl, hLL, hb2⟩; rw [filter_same HKK.out, ← HF.out] at hLL ⊢))
      go_ret
      have hb := hb0.trans (hb1.mono (by simp))
      exact ⟨ret_i64 HC.out.symm, hb.trans (hb2.mono hb.size)⟩
    · have HF := Lib.hid (kcF_out (l := s.data.toList) h)
      have HN : Hid (n < 0 ∨ 12 < n) := Lib.hid (by omega)
      clear h
      go_enter Tryd.func11, Tryd.ntmps11
      go_wp2_with (first
        | (go_at_call 18; refine (HSK.out _ _ _ [] _ hv0 HR.out (Nat.le_refl _)).mono ?_; rintro e w1 ⟨rfl, hb1⟩)
        | (go_at_call 19; refine (inRange_no _ _ _ _ HN.out).mono ?_; rintro e wv ⟨rfl, hwv⟩; obtain rfl : w1 = wv := hwv.symm))
      go_ret
      exact ⟨ret_i64 HF.out.symm, hb0.trans (hb1.mono (by simp))⟩
end Go.Proofs.YtmlomapifldlpaaDoor
namespace Go.Proofs.YtmlomapifldlpaaDoor
open Go.RowKit NP
set_option maxRecDepth 8000
set_option linter.unusedVariables false
set_option linter.unusedSimpArgs false
theorem kpF_ap (l : List UInt8) (n : Int) : kpF l n = [] ∨ ∃ K, kpF l n = (apF n).filter K := by
  unfold kpF apF
  split
  · rename_i K _
    right
    refine ⟨K, ?_⟩
    split <;> simp
  · exact .inl rfl
theorem cnt_filter (K : List Int → Bool) (l : List (List Int)) : cntLL (l.filter K) ≤ cntLL l := by
  induction l with
  | nil => simp [cntLL]
  | cons x r ih =>
    rw [List.filter_cons]
    split
    · simp [cntLL] at ih ⊢; omega
    · simp [cntLL] at ih ⊢; omega
theorem kpF_few (l : List UInt8) (n : Int) : (kpF l n).length ≤ 1000 := by
  rcases kpF_ap l n with h | ⟨K, h⟩
  · rw [h]; simp
  · rw [h]; exact Nat.le_trans (List.length_filter_le _ _) (apF_few2 n)
theorem kpF_cnt (l : List UInt8) (n : Int) : cntLL (kpF l n) ≤ 2000 := by
  rcases kpF_ap l n with h | ⟨K, h⟩
  · rw [h]; simp [cntLL]
  · rw [h]; exact Nat.le_trans (cnt_filter _ _) (apF_cnt n)
theorem kpF_short (l : List UInt8) (n : Int) : ∀ X ∈ kpF l n, X.length ≤ 4611686018427387904 := by
  intro X hX
  rcases kpF_ap l n with h | ⟨K, h⟩
  · rw [h] at hX; simp at hX
  · rw [h] at hX; exact apF_short2 n X ((List.mem_filter.1 hX).1)
set_option maxRecDepth 4000 in
set_option maxHeartbeats 2000000 in
theorem iKindParts_any (s : ByteArray) (hs : s.size ≤ maxLen) (n : Int) (w : World) :
    Calls Tryd.prog 17 #[.string s, .int .i64 n] w fun e w' => ∃ (a' : Option Addr) (c' : Nat) (us : List Value), e = .returned (.slice a' (kpF s.data.toList n).length c') ∧ OwnLL w' w.heap.size w'.heap.size 46 3 (.slice a' (kpF s.data.toList n).length c') us (kpF s.data.toList n) ∧ Below w.heap.size w w' := by
  cases hk : kindOf s.data.toList with
  | none =>
    have HF := Lib.hid (kpF_none hk n)
    go_enter Tryd.func17, Tryd.ntmps17
    go_wp2_with (go_at_call 16; refine (kindsByName_any _).mono ?_; rintro e w1 ⟨b, n, f, rfl, km, kt, hb1⟩; have kt0 := kt s.data.toList; rw [hk] at kt0; have hlk := km.look_no s hs kt0)
    go_ret
    rw [HF.out]
    exact ⟨none, 0, [], rfl, (OwnLL.nil _ _ _ _).lower hb1.size, hb1⟩
  | some K =>
    by_cases h : 0 ≤ n ∧ n ≤ 12
    · obtain ⟨h1, h2⟩ := h
      obtain ⟨n, rfl⟩ := Int.eq_ofNat_of_zero_le h1
      have hn : n ≤ 12 := by omega
      have HF := Lib.hid (kpF_some hk hn)
      clear h1 h2
      go_enter Tryd.func17, Tryd.ntmps17
      go_wp2_with (first
        | (go_at_call 31; refine (listWhere_any n hn _ K _ hKK.out).mono ?_; rintro e w2 ⟨a', c', us, rfl, hLL, hb2⟩; rw [← HF.out] at hLL ⊢)
        | (go_at_call 16; refine (kindsByName_any _).mono ?_; rintro e w1 ⟨b, nn, f, rfl, km, kt, hb1⟩; have kt0 := kt s.data.toList; rw [hk] at kt0; obtain ⟨v, hfv, hik⟩ := kt0; have hKK := Lib.hid hik.isK; obtain ⟨f1, p1, c1, rfl, he1, hK1⟩ := hik.isK; have hlk := km.look_ok s hs hfv; clear hK1))
      go_ret
      exact ⟨a', c', us, rfl, hLL.lower hb1.size, hb1.trans (hb2.mono hb1.size)⟩
    · have HF := Lib.hid (kpF_out (l := s.data.toList) h)
      have HN := Lib.hid h
      clear h
      go_enter Tryd.func17, Tryd.ntmps17
      go_wp2_with (first
        | (go_at_call 31; refine (listWhere_no n HN.out _ _).mono ?_; rintro e w2 ⟨rfl, hb2⟩)
        | (go_at_call 16; refine (kindsByName_any _).mono ?_; rintro e w1 ⟨b, nn, f, rfl, km, kt, hb1⟩; have kt0 := kt s.data.toList; rw [hk] at kt0; obtain ⟨v, hfv, hik⟩ := kt0; obtain ⟨f1, p1, c1, rfl, he1, hK1⟩ := hik.isK; have hlk := km.look_ok s hs hfv; clear hK1))
      go_ret
      rw [HF.out]
      have hb := hb1.trans (hb2.mono hb1.size)
      exact ⟨none, 0, [], rfl, (OwnLL.nil _ _ _ _).lower hb.size, hb⟩
set_option maxRecDepth 4000 in
set_option maxHeartbeats 2000000 in
theorem iKindCount_any (s : ByteArray) (hs : s.size ≤ maxLen) (n : Int) (w : World) :
    Calls Tryd.prog 10 #[.string s, .int .i64 n] w fun e w' => e = .returned (.int .i64 (kcF s.data.toList n)) ∧ Below w.heap.size w w' := by
  cases hk : kindOf s.data.toList with
  | none =>
    have HF := Lib.hid (kcF_none hk n)
    go_enter Tryd.func10, Tryd.ntmps10
    go_wp2_with (go_at_call 16; refine (kindsByName_any _).mono ?_; rintro e w1 ⟨b, n, f, rfl, km, kt, hb1⟩; have kt0 := kt s.data.toList; rw [hk] at kt0; have hlk := km.look_no s hs kt0)
    go_ret
    exact ⟨ret_i64 HF.out.symm, hb1⟩
  | some K =>
    by_cases h : 0 ≤ n ∧ n ≤ 12
    · obtain ⟨h1, h2⟩ := h
      obtain ⟨n, rfl⟩ := Int.eq_ofNat_of_zero_le h1
      have hn : n ≤ 12 := by omega
      have HC := Lib.hid (kcF_some hk hn)
      go_enter Tryd.func10, Tryd.ntmps10
      go_wp2_with (first
        | (go_at_call 17; refine (iKindParts_any s hs (n : Int) _).mono ?_; rintro e w2 ⟨a', c', us, rfl, hLL, hb2⟩)
        | (go_at_call 16; refine (kindsByName_any _).mono ?_; rintro e w1 ⟨b, nn, f, rfl, km, kt, hb1⟩; have kt0 := kt s.data.toList; rw [hk] at kt0; obtain ⟨v, hfv, hik⟩ := kt0; obtain ⟨f1, p1, c1, rfl, he1, hK1⟩ := hik.isK; have hlk := km.look_ok s hs hfv; clear hK1))
      go_ret
      exact ⟨ret_i64 HC.out.symm, hb1.trans (hb2.mono hb1.size)⟩
    · have HF := Lib.hid (kcF_out (l := s.data.toList) h)
      have HN : Hid (n < 0 ∨ 12 < n) := Lib.hid (by omega)
      by_cases h0 : n < 0
      · clear h
        go_enter Tryd.func10, Tryd.ntmps10
        go_wp2_with (go_at_call 16; refine (kindsByName_any _).mono ?_; rintro e w1 ⟨b, nn, f, rfl, km, kt, hb1⟩; have kt0 := kt s.data.toList; rw [hk] at kt0; obtain ⟨v, hfv, hik⟩ := kt0; obtain ⟨f1, p1, c1, rfl, he1, hK1⟩ := hik.isK; have hlk := km.look_ok s hs hfv; clear hK1)
        go_ret
        exact ⟨ret_i64 HF.out.symm, hb1⟩
      · have h12 : 12 < n := by omega
        clear h
        go_enter Tryd.func10, Tryd.ntmps10
        go_wp2_with (go_at_call 16; refine (kindsByName_any _).mono ?_; rintro e w1 ⟨b, nn, f, rfl, km, kt, hb1⟩; have kt0 := kt s.data.toList; rw [hk] at kt0; obtain ⟨v, hfv, hik⟩ := kt0; obtain ⟨f1, p1, c1, rfl, he1, hK1⟩ := hik.isK; have hlk := km.look_ok s hs hfv; clear hK1)
        go_ret
        exact ⟨ret_i64 HF.out.symm, hb1⟩
end Go.Proofs.YtmlomapifldlpaaDoor
namespace Go.Proofs.YtmlomapifldlpaaDoor
namespace NP
set_option linter.unusedVariables false
/-- how many parts of n, none greater than k -/
def ct : Nat → Nat → Nat
  | 0, _ => 1
  | _ + 1, 0 => 0
  | n + 1, k + 1 => ct (n + 1) k + (if k ≤ n then ct (n - k) (k + 1) else 0)
termination_by n k => n + k
decreasing_by all_goals omega
theorem ct_zero (k : Nat) : ct 0 k = 1 := by unfold ct; rfl
theorem ct_none (n : Nat) (h : 0 < n) : ct n 0 = 0 := by
  cases n with
  | zero => omega
  | succ n => unfold ct; rfl
theorem ct_rec (n k : Nat) (hk : 1 ≤ k) (h : k ≤ n) : ct n k = ct n (k - 1) + ct (n - k) k := by
  cases n with
  | zero => omega
  | succ n =>
    cases k with
    | zero => omega
    | succ k =>
      rw [ct, if_pos (by omega)]
      simp
theorem ct_big (n k : Nat) (hk : 1 ≤ k) (h : n < k) : ct n k = ct n (k - 1) := by
  cases n with
  | zero => rw [ct_zero, ct_zero]
  | succ n =>
    cases k with
    | zero => omega
    | succ k =>
      rw [ct, if_neg (by omega)]
      simp
theorem ct_pow (m : Nat) : ∀ n k, n + k = m → 1 ≤ n → ct n k + 2 ^ (n - k) ≤ 2 ^ n := by
  induction m using Nat.strongRecOn with
  | _ m ih =>
    intro n k hm hn
    cases k with
    | zero => rw [ct_none n hn]; simp
    | succ k =>
      have i1 := ih (n + k) (by omega) n k rfl hn
      rcases Nat.lt_or_ge n (k + 1) with h | h
      · rw [ct_big n (k + 1) (by omega) h, Nat.add_sub_cancel]
        have e : n - (k + 1) = n - k := by omega
        rw [e]; exact i1
      · rw [ct_rec n (k + 1) (by omega) h, Nat.add_sub_cancel]
        have e1 : n - k = n - (k + 1) + 1 := by omega
        rw [e1, Nat.pow_succ] at i1
        rcases Nat.eq_zero_or_pos (n - (k + 1)) with h0 | h0
        · rw [h0, ct_zero]
          rw [h0] at i1
          omega
        · have i2 := ih (n - (k + 1) + (k + 1)) (by omega) (n - (k + 1)) (k + 1) rfl h0
          have := Nat.two_pow_pos (n - (k + 1) - (k + 1))
          omega
theorem ct_le (n k : Nat) (h : n ≤ 40) : ct n k ≤ 1099511627776 := by
  rcases Nat.eq_zero_or_pos n with rfl | h0
  · rw [ct_zero]; decide
  · have h1 := ct_pow _ n k rfl h0
    have h2 : 2 ^ n ≤ 2 ^ 40 := Nat.pow_le_pow_right (by decide) h
    have h3 : (2 : Nat) ^ 40 = 1099511627776 := by decide
    have h4 := Nat.two_pow_pos (n - k)
    omega
/-- counts when a further number may come -/
def wv (D : List Int) (p : Nat) (s : Nat) : Int := if h : p = 0 ∨ s < p then D.getD s 0 else D.getD s 0 + wv D p (s - p)
termination_by s
decreasing_by have := h; omega
theorem wv_low (D : List Int) (p s : Nat) (h : s < p) : wv D p s = D.getD s 0 := by rw [wv, dif_pos (.inr h)]
theorem wv_high (D : List Int) (p s : Nat) (hp : 1 ≤ p) (h : p ≤ s) : wv D p s = D.getD s 0 + wv D p (s - p) := by rw [wv, dif_neg (by omega)]
def wrow (D : List Int) (p : Nat) : List Int := (List.range 41).map (wv D p)
def wmid (D : List Int) (p l : Nat) : List Int := (List.range 41).map fun s => if s < p + l then wv D p s else D.getD s 0
theorem wrow_len (D : List Int) (p : Nat) : (wrow D p).length = 41 := by simp [wrow]
theorem wmid_len (D : List Int) (p l : Nat) : (wmid D p l).length = 41 := by simp [wmid]
theorem wmid_zero {D : List Int} (hD : D.length = 41) (p : Nat) : wmid D p 0 = D := by
  apply List.ext_getElem
  · rw [wmid_len, hD]
  · intro j h1 h2
    simp only [wmid, List.getElem_map, List.getElem_range]
    rw [← getD_lt h2]
    split
    · exact wv_low D p j (by omega)
    · rfl
theorem wmid_end (D : List Int) (p l : Nat) (h : 41 ≤ p + l) : wmid D p l = wrow D p := by
  apply List.map_congr_left
  intro s hs
  rw [List.mem_range] at hs
  rw [if_pos (by omega)]
theorem wmid_lo (D : List Int) (p l : Nat) (hp : 1 ≤ p) (h : l < 41) : (wmid D p l)[l]'(by rw [wmid_len]; exact h) = wv D p l := by
  simp only [wmid, List.getElem_map, List.getElem_range]
  rw [if_pos (by omega)]
theorem wmid_hi (D : List Int) (p l : Nat) (h : l + p < 41) : (wmid D p l)[l + p]'(by rw [wmid_len]; exact h) = D.getD (l + p) 0 := by
  simp only [wmid, List.getElem_map, List.getElem_range]
  rw [if_neg (by omega)]
theorem wmid_set (D : List Int) (p l : Nat) (hp : 1 ≤ p) (h : l + p < 41) : (wmid D p l).set (l + p) (D.getD (l + p) 0 + wv D p l) = wmid D p (l + 1) := by
  apply List.ext_getElem
  · rw [List.length_set, wmid_len, wmid_len]
  · intro j h1 h2
    by_cases hj : l + p = j
    · subst hj
      rw [List.getElem_set_self]
      simp only [wmid, List.getElem_map, List.getElem_range]
      rw [if_pos (by omega), wv_high D p (l + p) hp (by omega), Nat.add_sub_cancel]
    · rw [List.getElem_set_ne hj]
      simp only [wmid, List.getElem_map, List.getElem_range]
      split <;> split <;> first | rfl | omega
/-- the counts of all parts, none greater than k -/
def crow (k : Nat) : List Int := (List.range 41).map fun s => (ct s k : Int)
theorem crow_len (k : Nat) : (crow k).length = 41 := by simp [crow]
theorem crow_getD (k s : Nat) (h : s < 41) : (crow k).getD s 0 = ct s k := by rw [getD_lt (by rw [crow_len]; exact h)]; simp [crow]
theorem crow_get (k s : Nat) (h : s < (crow k).length) : (crow k)[s] = ct s k := by simp [crow]
theorem wv_crow (k : Nat) (s : Nat) (h : s < 41) : wv (crow k) (k + 1) s = ct s (k + 1) := by
  induction s using Nat.strongRecOn with
  | _ s ih =>
    rcases Nat.lt_or_ge s (k + 1) with h1 | h1
    · rw [wv_low _ _ _ h1, crow_getD _ _ h, ct_big s (k + 1) (by omega) h1]; rfl
    · rw [wv_high _ _ _ (by omega) h1, crow_getD _ _ h, ih (s - (k + 1)) (by omega) (by omega), ct_rec s (k + 1) (by omega) h1]
      simp
theorem wrow_crow (k : Nat) : wrow (crow k) (k + 1) = crow (k + 1) := by
  apply List.map_congr_left
  intro s hs
  rw [List.mem_range] at hs
  exact wv_crow k s hs
theorem crow_zero : crow 0 = 1 :: List.replicate 40 0 := by
  have e : ∀ n, (List.range (n + 1)).map (fun s => ((ct s 0 : Nat) : Int)) = 1 :: List.replicate n 0 := by
    intro n
    induction n with
    | zero => simp [ct_zero]
    | succ n ih => rw [List.range_succ, List.map_append, ih, List.replicate_succ', List.map_cons, List.map_nil, ct_none _ (by omega)]; rfl
  exact e 40
end NP
end Go.Proofs.YtmlomapifldlpaaDoor
namespace Go.Proofs.YtmlomapifldlpaaDoor
namespace NP
set_option linter.unusedVariables false
def ctZ (n k : Int) : Int := if n < 0 then 0 else (ct n.toNat k.toNat : Int)
theorem ctZ_zero (k : Int) : ctZ 0 k = 1 := by unfold ctZ; rw [if_neg (by omega)]; simp [ct_zero]
theorem ctZ_neg (n k : Int) (h : n < 0) : ctZ n k = 0 := by unfold ctZ; rw [if_pos h]
theorem ctZ_none (n : Int) (h : 0 < n) : ctZ n 0 = 0 := by unfold ctZ; rw [if_neg (by omega), Int.toNat_zero, ct_none _ (by omega)]; rfl
theorem ctZ_nat (n k : Nat) : ctZ n k = ct n k := by unfold ctZ; rw [if_neg (by omega)]; simp
theorem ctZ_rec (n k : Int) (hn : 1 ≤ n) (hk : 1 ≤ k) : ctZ n k = ctZ n (k - 1) + ctZ (n - k) k := by
  obtain ⟨n, rfl⟩ := Int.eq_ofNat_of_zero_le (by omega : 0 ≤ n)
  obtain ⟨k, rfl⟩ := Int.eq_ofNat_of_zero_le (by omega : 0 ≤ k)
  have e : (k : Int) - 1 = ((k - 1 : Nat) : Int) := by omega
  rw [e, ctZ_nat, ctZ_nat]
  rcases Nat.lt_or_ge n k with h | h
  · rw [ctZ_neg _ _ (by omega), ct_big n k (by omega) h]; omega
  · have e2 : (n : Int) - k = ((n - k : Nat) : Int) := by omega
    rw [e2, ctZ_nat, ct_rec n k (by omega) h]; omega
theorem ctZ_bd (n k : Int) (h : n ≤ 40) : 0 ≤ ctZ n k ∧ ctZ n k ≤ 1099511627776 := by
  unfold ctZ
  split
  · omega
  · have := ct_le n.toNat k.toNat (by omega)
    omega
theorem ctZ_crow (n k : Int) (h0 : 0 ≤ n) (h : n ≤ 40) : (crow k.toNat).getD n.toNat 0 = ctZ n k := by
  rw [crow_getD _ _ (by omega)]
  unfold ctZ
  rw [if_neg (by omega)]
/-- how many parts have a sum -/
def cpF (n : Int) : Int := if 0 ≤ n ∧ n ≤ 40 then ctZ n n else -1
/-- at most so many -/
def amF (n k : Int) : Int := if (0 ≤ n ∧ n ≤ 40) ∧ (0 ≤ k ∧ k ≤ 40) then ctZ n k else -1
/-- just so many -/
def jpF (n k : Int) : Int := if (0 ≤ n ∧ n ≤ 40) ∧ (0 ≤ k ∧ k ≤ 40) then ctZ (n - k) k else -1
theorem jp_spec (n k : Int) (hn : 0 ≤ n) (hk : 0 < k) : ctZ n k - ctZ n (k - 1) = ctZ (n - k) k := by
  rcases Int.lt_or_le 0 n with h | h
  · rw [ctZ_rec n k (by omega) (by omega)]; omega
  · obtain rfl : n = 0 := by omega
    rw [ctZ_zero, ctZ_zero, ctZ_neg _ _ (by omega)]; rfl
end NP
end Go.Proofs.YtmlomapifldlpaaDoor
namespace Go.Proofs.YtmlomapifldlpaaDoor
open Go.RowKit NP
set_option maxRecDepth 8000
set_option linter.unusedVariables false

theorem rngYes (n lo hi : Int) (w : World) (h1 : lo ≤ n) (h2 : n ≤ hi) : Calls Tryd.prog 19 #[.int .i64 n, .int .i64 lo, .int .i64 hi] w fun e w' => e = .returned (.bool true) ∧ w' = w := by
  go_enter Tryd.func19, Tryd.ntmps19
  go_wp2
  go_ret
  exact ⟨rfl, rfl⟩
theorem rngNo (n lo hi : Int) (w : World) (h : n < lo ∨ hi < n) : Calls Tryd.prog 19 #[.int .i64 n, .int .i64 lo, .int .i64 hi] w fun e w' => e = .returned (.bool false) ∧ w' = w := by
  by_cases h1 : lo ≤ n
  · have h2 : hi < n := by omega
    clear h
    go_enter Tryd.func19, Tryd.ntmps19
    go_wp2
    go_ret
    exact ⟨ret_bool (by simp; omega), rfl⟩
  · clear h
    go_enter Tryd.func19, Tryd.ntmps19
    go_wp2
    go_ret
    exact ⟨rfl, rfl⟩
def inR (n lo hi : Int) : Bool := decide (lo ≤ n) && decide (n ≤ hi)
theorem inRange_any (n lo hi : Int) (w : World) : Calls Tryd.prog 19 #[.int .i64 n, .int .i64 lo, .int .i64 hi] w fun e w' => e = .returned (.bool (inR n lo hi)) ∧ w = w' := by
  by_cases h : lo ≤ n ∧ n ≤ hi
  · refine (rngYes n lo hi w h.1 h.2).mono ?_
    rintro e w' ⟨rfl, rfl⟩
    exact ⟨ret_bool (by unfold inR; rw [decide_eq_true h.1, decide_eq_true h.2]; rfl), rfl⟩
  · refine (rngNo n lo hi w (by omega)).mono ?_
    rintro e w' ⟨rfl, rfl⟩
    refine ⟨ret_bool ?_, rfl⟩
    unfold inR
    rcases Int.lt_or_le n lo with h1 | h1
    · rw [decide_eq_false (by omega : ¬ lo ≤ n)]; rfl
    · rw [decide_eq_false (by omega : ¬ n ≤ hi)]; simp


theorem T_info41 : (Tryd.prog.info? 49).map (·.size) = some 41 := by kernel_rfl
theorem T_index41 (D : List Int) (k : Nat) (hk : k < D.length) (h16 : k < 41) (w : World) : (Instr.index 49 (.agg (arr D)) (.int .i64 k)).run Tryd.prog w = .ok (.int .i64 D[k]) w :=
  run_index_row 49 3 _ 41 Tryd.underlying49 Tryd.underlying3 rfl (by kernel_rfl) (arr D) k _ h16 (arr_get D k hk) .i64 w

theorem withMany_any (D : List Int) (hD : D.length = 41) (p : Nat) (hp : 1 ≤ p) (hp40 : p ≤ 40) (hb : ∀ s, s < 41 → (0 ≤ D.getD s 0 ∧ D.getD s 0 ≤ 1099511627776) ∧ 0 ≤ wv D p s ∧ wv D p s ≤ 1099511627776) (w : World) :
    Calls Tryd.prog 41 #[.agg (arr D), .int .i64 p] w fun e w' => e = .returned (.agg (arr (wrow D p))) ∧ Below w.heap.size w w' := by
  have HD := Lib.hid hD
  have hi41 : (Tryd.prog.info? 49).map (·.size) = some (arr D).size := by rw [arr_size, hD]; exact T_info41
  have HB := Lib.hid hb
  clear hD hb
  have hrange : (41 : Int) - (p : Int) = ((41 - p : Nat) : Int) := by omega
  have hb0 := (Blk.new w 49 (arr D)).alloc (.cells (arr (List.replicate 41 0)) 49)
  go_enter Tryd.func41, Tryd.ntmps41
  go_wp2
  go_loopw [8] (fun i wr => ∃ l : Nat, l ≤ 41 - p ∧ i = .int .i64 l ∧ Below w.heap.size w wr ∧ Blk wr (w.heap.size + 1) 49 (arr (List.replicate 41 0)) ∧ Blk wr w.heap.size 49 (arr (wmid D p l))) (fun i _ => 41 - (intOf i).toNat)
  case atStart =>
    refine ⟨0, Nat.zero_le _, rfl, ((Below.refl _ _).alloc (Nat.le_refl _) _).alloc (by simp) _, ?_, by rw [wmid_zero HD.out]; exact hb0⟩
    have e := Blk.new (w.alloc (.cells (arr D) 49)) 49 (arr (List.replicate 41 0))
    rw [World.size_alloc] at e
    exact e
  case round =>
    obtain ⟨l, hl, rfl, hbel, hb2, hb3⟩ := hrel
    by_cases hlt : l < 41 - p
    · have hlp : l + p < 41 := by omega
      have hl41 : l < 41 := by omega
      have b1 := (HB.out (l + p) hlp).1
      have b2 := (HB.out l hl41).2
      have hs : D.getD (l + p) 0 + wv D p l = wv D p (l + p) := by rw [wv_high D p (l + p) hp (by omega), Nat.add_sub_cancel]
      have b3 := (HB.out (l + p) hlp).2
      rw [← hs] at b3
      have HSET := Lib.hid (wmid_set D p l hp hlp)
      have hc1 : wr.cell? ⟨w.heap.size, l, none⟩ = some (.int .i64 (wv D p l)) := by rw [hb3.cell l, arr_get _ l (by rw [wmid_len]; exact hl41), wmid_lo D p l hp hl41]
      have hc2 : wr.cell? ⟨w.heap.size, l + p, none⟩ = some (.int .i64 (D.getD (l + p) 0)) := by rw [hb3.cell (l + p), arr_get _ (l + p) (by rw [wmid_len]; exact hlp), wmid_hi D p l hlp]
      have hf2 : wr.frozen? ⟨w.heap.size, l + p, none⟩ = false := hb3.free (l + p)
      have hl41' : (l : Int) < 41 := by omega
      clear hs
      obtain ⟨q, hq⟩ : ∃ q : Nat, q = l + p := ⟨_, rfl⟩
      rw [← hq] at hf2 b1 b3
      have hc2' : wr.cell? ⟨w.heap.size, q, none⟩ = some (.int .i64 (D.getD q 0)) := by rw [hq]; exact hc2
      have HSET' : Hid ((wmid D p l).set q (D.getD q 0 + wv D p l) = wmid D p (l + 1)) := Lib.hid (by rw [hq]; exact HSET.out)
      clear hc2 HSET
      have hw : IntKind.i64.wrap ((l : Int) + (p : Int)) = (q : Int) := by rw [IntWalk.i64_in _ (by omega)]; omega
      have hq41 : (q : Int) < 41 := by omega
      have hq41' : q < 41 := by omega
      clear hq
      generalize D.getD q 0 = x at *
      generalize wv D p l = y at *
      have hw2 : IntKind.i64.wrap (x + y) = x + y := IntWalk.i64_in _ (by omega)
      go_wp2
      go_still_tail 10, (by kernel_rfl)
      change wpList _ _ _ _ _ wr.drew
      have hbel' : Below w.heap.size w wr.drew := hbel.trans ((Dr.n wr 1).below _)
      have hb2' : Blk wr.drew (w.heap.size + 1) 49 (arr (List.replicate 41 0)) := hb2
      have hb3' : Blk wr.drew w.heap.size 49 (arr (wmid D p l)) := hb3
      have hf3 : wr.drew.frozen? ⟨w.heap.size, q, none⟩ = false := hf2
      have hc3 : wr.drew.cell? ⟨w.heap.size, q, none⟩ = some (.int .i64 x) := hc2'
      generalize wr.drew = w2 at *
      clear hbel hb2 hb3
      go_wp2
      go_roundw
      case rel =>
        refine ⟨l + 1, by omega, by go_num, hbel'.setCell (by show w.heap.size ≤ w.heap.size; omega) _, hb2'.off (by show w.heap.size + 1 ≠ w.heap.size; omega) _, ?_⟩
        have e := hb3'.set q (.int .i64 (x + y))
        rw [arr_set, HSET'.out] at e
        exact e
      case measure => simp [intOf]; omega
    · obtain rfl : l = 41 - p := by omega
      have HE := Lib.hid (wmid_end D p (41 - p) (by omega))
      have hi2 : (Tryd.prog.info? 49).map (·.size) = some (arr (wmid D p (41 - p))).size := by rw [arr_size, wmid_len]; exact T_info41
      have hsz : (arr (wmid D p (41 - p))).size = (arr (List.replicate 41 0)).size := by rw [arr_size, arr_size, wmid_len]; rfl
      go_wp2_with (first | (refine wpList_load_row rfl 49 (.tmp 2) rfl w.heap.size rfl 49 (arr (wmid D p (41 - p))) (0, 0) _ hb3 Tryd.underlying49 rfl hi2 ?_) | (refine wpList_store_row rfl 49 (.tmp 4) (.tmp 22) rfl (w.heap.size + 1) rfl (arr (wmid D p (41 - p))) rfl 49 _ hb2 hi2 hsz (arr_one _) ?_))
      refine bodyPost_ret (results_cell_row rfl _ _ (w.heap.size + 1) 49 (arr (wmid D p (41 - p))) (0, 0) _ rfl hb2.row Tryd.underlying49 rfl hi2) rfl ?_
      exact ⟨by rw [HE.out], below_setRow' hbel (by omega) _⟩

theorem crow_bd (k : Nat) : ∀ s, s < 41 → (0 ≤ (crow k).getD s 0 ∧ (crow k).getD s 0 ≤ 1099511627776) ∧ 0 ≤ wv (crow k) (k + 1) s ∧ wv (crow k) (k + 1) s ≤ 1099511627776 := fun s hs => by
  rw [crow_getD k s hs, wv_crow k s hs]
  have := ct_le s k (by omega)
  have := ct_le s (k + 1) (by omega)
  omega

theorem countsBy_any (ff : Nat) (he : ∀ (args : Array Value) (w : World), (callFunc ff args).run Tryd.prog w = .ok (.enter ff args) w) (R : Nat → List Int) (h0 : R 0 = 1 :: List.replicate 40 0) (hl : ∀ j, (R j).length = 41)
    (k : Nat) (hk : k ≤ 40) (hc : ∀ j : Nat, j < k → ∀ w1 : World, Calls Tryd.prog ff #[.agg (arr (R j)), .int .i64 ((j : Int) + 1)] w1 fun e w2 => e = .returned (.agg (arr (R (j + 1)))) ∧ Below w1.heap.size w1 w2) (w : World) :
    Calls Tryd.prog 40 #[.int .i64 k, .func (.func ff) #[] #[]] w fun e w' => e = .returned (.agg (arr (R k))) ∧ Below w.heap.size w w' := by
  have hi0 : (Tryd.prog.info? 49).map (·.size) = some (arr (1 :: List.replicate 40 0)).size := T_info41
  have hsz0 : (arr (1 :: List.replicate 40 0)).size = (arr (List.replicate 41 0)).size := rfl
  have hb1 : Blk ((w.alloc (.cells (arr (List.replicate 41 0)) 49)).alloc (.cells (arr (List.replicate 41 0)) 49)) (w.heap.size + 1) 49 (arr (List.replicate 41 0)) := by
    have e := Blk.new (w.alloc (.cells (arr (List.replicate 41 0)) 49)) 49 (arr (List.replicate 41 0))
    rw [World.size_alloc] at e
    exact e
  have HC := Lib.hid hc
  have HL := Lib.hid hl
  clear hc hl
  go_enter Tryd.func40, Tryd.ntmps40
  go_wp2_with (refine wpList_store_row rfl 49 (.tmp 5) (.tmp 7) rfl (w.heap.size + 1) rfl (arr (1 :: List.replicate 40 0)) rfl 49 _ hb1 hi0 hsz0 (arr_one _) ?_)
  go_loopw [6] (fun i wr => ∃ j : Nat, j ≤ k ∧ i = .int .i64 ((j : Int) + 1) ∧ Below w.heap.size w wr ∧ Blk wr w.heap.size 49 (arr (List.replicate 41 0)) ∧ Blk wr (w.heap.size + 1) 49 (arr (R j))) (fun i _ => 50 - (intOf i).toNat)
  case atStart =>
    refine ⟨0, Nat.zero_le _, rfl, below_setRow' (((Below.refl _ _).alloc (Nat.le_refl _) _).alloc (by simp) _) (by omega) _, ?_, ?_⟩
    · exact ((Blk.new w 49 (arr (List.replicate 41 0))).alloc _).rowOff (by omega)
    · rw [h0]; exact hb1.row
  case round =>
    obtain ⟨j, hj, rfl, hbel, hb2, hb3⟩ := hrel
    have hi2 : (Tryd.prog.info? 49).map (·.size) = some (arr (R j)).size := by rw [arr_size, HL.out]; exact T_info41
    by_cases hlt : j < k
    · have hlt' : (j : Int) + 1 ≤ (k : Int) := by omega
      have hi3 : (Tryd.prog.info? 49).map (·.size) = some (arr (R (j + 1))).size := by rw [arr_size, HL.out]; exact T_info41
      have hsz : (arr (R (j + 1))).size = (arr (R j)).size := by rw [arr_size, arr_size, HL.out, HL.out]
      have HCj := Lib.hid (HC.out j hlt)
      go_wp2_with (first
        | (refine wpList_load_row rfl 49 (.tmp 5) rfl (w.heap.size + 1) rfl 49 (arr (R j)) (0, 0) _ hb3 Tryd.underlying49 rfl hi2 ?_)
        | (with_reducible refine (HCj.out _).mono ?_; rintro e w1 ⟨rfl, hbw⟩; have hb3' : Blk w1 (w.heap.size + 1) 49 (arr (R j)) := hb3.below hbw hb3.lt; have hb2' : Blk w1 w.heap.size 49 (arr (List.replicate 41 0)) := hb2.below hbw hb2.lt; have hbel' : Below w.heap.size w w1 := hbel.trans (hbw.mono hbel.size))
        | (refine wpList_store_row rfl 49 (.tmp 5) (.tmp 16) rfl (w.heap.size + 1) rfl (arr (R (j + 1))) rfl 49 _ hb3' hi3 hsz (arr_one _) ?_))
      go_roundw
      case rel => exact ⟨j + 1, by omega, by go_num, below_setRow' hbel' (by omega) _, hb2'.rowOff (by omega), hb3'.row (vs := arr (R (j + 1)))⟩
      case measure => simp [intOf]; omega
    · obtain rfl : j = k := by omega
      have hlt' : (j : Int) < (j : Int) + 1 := by omega
      have hsz : (arr (R j)).size = (arr (List.replicate 41 0)).size := by rw [arr_size, arr_size, HL.out]; rfl
      go_wp2_with (first
        | (refine wpList_load_row rfl 49 (.tmp 5) rfl (w.heap.size + 1) rfl 49 (arr (R j)) (0, 0) _ hb3 Tryd.underlying49 rfl hi2 ?_)
        | (refine wpList_store_row rfl 49 (.tmp 4) (.tmp 17) rfl w.heap.size rfl (arr (R j)) rfl 49 _ hb2 hi2 hsz (arr_one _) ?_))
      refine bodyPost_ret (results_cell_row rfl _ _ w.heap.size 49 (arr (R j)) (0, 0) _ rfl hb2.row Tryd.underlying49 rfl hi2) rfl ?_
      exact ⟨rfl, below_setRow' hbel (Nat.le_refl _) _⟩

theorem countsUpTo_any (k : Nat) (hk : k ≤ 40) (w : World) :
    Calls Tryd.prog 21 #[.int .i64 k] w fun e w' => e = .returned (.agg (arr (crow k))) ∧ Below w.heap.size w w' := by
  have H := Lib.hid (countsBy_any 41 (enters_of Tryd.func41 (by kernel_rfl) rfl) crow crow_zero crow_len k hk (fun j hj w1 => by
    have h := withMany_any (crow j) (crow_len j) (j + 1) (by omega) (by omega) (crow_bd j) w1
    rw [wrow_crow] at h
    exact h))
  have hic : (Tryd.prog.info? 49).map (·.size) = some (arr (crow k)).size := by rw [arr_size, crow_len]; exact T_info41
  have hsz : (arr (crow k)).size = (arr (List.replicate 41 0)).size := by rw [arr_size, arr_size, crow_len]; rfl
  have hb0 := Blk.new w 49 (arr (List.replicate 41 0))
  have hbel0 : Below w.heap.size w (w.alloc (.cells (arr (List.replicate 41 0)) 49)) := (Below.refl _ _).alloc (Nat.le_refl _) _
  go_enter Tryd.func21, Tryd.ntmps21
  go_wp2_with (first
    | (go_at_call 40; refine (H.out _).mono ?_; rintro e w1 ⟨rfl, hb⟩; have hb0' := hb0.below hb hb0.lt; have hbel1 := hbel0.trans (hb.mono hbel0.size))
    | (refine wpList_store_row rfl 49 (.tmp 2) (.tmp 4) rfl w.heap.size rfl (arr (crow k)) rfl 49 _ hb0' hic hsz (arr_one _) ?_))
  refine bodyPost_ret (results_cell_row rfl _ _ w.heap.size 49 (arr (crow k)) (0, 0) _ rfl hb0'.row Tryd.underlying49 rfl hic) rfl ?_
  exact ⟨rfl, below_setRow' hbel1 (Nat.le_refl _) _⟩
end Go.Proofs.YtmlomapifldlpaaDoor
namespace Go.Proofs.YtmlomapifldlpaaDoor
open Go.RowKit NP
set_option maxRecDepth 8000
set_option linter.unusedVariables false

theorem cpF_in {n : Int} (h : 0 ≤ n ∧ n ≤ 40) : cpF n = ctZ n n := by unfold cpF; rw [if_pos h]
theorem cpF_out {n : Int} (h : ¬ (0 ≤ n ∧ n ≤ 40)) : cpF n = -1 := by unfold cpF; rw [if_neg h]
theorem amF_in {n k : Int} (h : 0 ≤ n ∧ n ≤ 40) (h2 : 0 ≤ k ∧ k ≤ 40) : amF n k = ctZ n k := by unfold amF; rw [if_pos ⟨h, h2⟩]
theorem amF_out {n k : Int} (h : ¬ ((0 ≤ n ∧ n ≤ 40) ∧ (0 ≤ k ∧ k ≤ 40))) : amF n k = -1 := by unfold amF; rw [if_neg h]
theorem jpF_in {n k : Int} (h : 0 ≤ n ∧ n ≤ 40) (h2 : 0 ≤ k ∧ k ≤ 40) : jpF n k = ctZ (n - k) k := by unfold jpF; rw [if_pos ⟨h, h2⟩]
theorem jpF_out {n k : Int} (h : ¬ ((0 ≤ n ∧ n ≤ 40) ∧ (0 ≤ k ∧ k ≤ 40))) : jpF n k = -1 := by unfold jpF; rw [if_neg h]


theorem iCountParts_any (n : Int) (w : World) :
    Calls Tryd.prog 12 #[.int .i64 n] w fun e w' => e = .returned (.int .i64 (cpF n)) ∧ Below w.heap.size w w' := by
  by_cases h : 0 ≤ n ∧ n ≤ 40
  · rw [cpF_in h]
    obtain ⟨k, rfl⟩ := Int.eq_ofNat_of_zero_le h.1
    have hk : k ≤ 40 := by omega
    have hk41 : k < (crow k).length := by rw [crow_len]; omega
    have hix := T_index41 (crow k) k hk41 (by omega)
    rw [crow_get, ← ctZ_nat] at hix
    have g1 : decide ((k : Int) < 0) = false := decide_eq_false (by omega)
    have g2 : decide (40 < k) = false := decide_eq_false (by omega)
    clear h
    go_enter Tryd.func12, Tryd.ntmps12
    go_wp2_with (go_at_call 21; refine (countsUpTo_any k hk _).mono ?_; rintro e w1 ⟨rfl, hb⟩)
    go_ret
    exact ⟨rfl, hb⟩
  · rw [cpF_out h]
    by_cases h1 : n < 0
    · have g1 : decide (n < 0) = true := decide_eq_true h1
      clear h h1
      go_enter Tryd.func12, Tryd.ntmps12
      go_wp2
      go_ret
      exact ⟨rfl, Below.refl _ _⟩
    · have g1 : decide (n < 0) = false := decide_eq_false h1
      have g2 : decide (40 < n) = true := decide_eq_true (by omega)
      clear h h1
      go_enter Tryd.func12, Tryd.ntmps12
      go_wp2
      go_ret
      exact ⟨rfl, Below.refl _ _⟩




end Go.Proofs.YtmlomapifldlpaaDoor
namespace Go.Proofs.YtmlomapifldlpaaDoor
namespace NP
set_option linter.unusedVariables false
def sqn (n : Int) : Nat → Int
  | 0 => 0
  | m + 1 => sqn n m + ctZ (n - (m : Int) * m) m
def scs (n : Int) : Nat → Int
  | 0 => 0
  | m + 1 => scs n m + (if (n - (m : Int) * m) % 2 = 0 then ctZ ((n - (m : Int) * m) / 2) m else 0)
def isq (n : Int) : Nat := ff (fun k => decide ((k : Int) * k ≤ n)) 7
def sqF (n : Int) : Int := if 0 ≤ n ∧ n ≤ 40 then sqn n (isq n) else -1
def scF (n : Int) : Int := if 0 ≤ n ∧ n ≤ 40 then scs n (isq n) else -1
theorem sq_nn (m : Nat) : 0 ≤ (m : Int) * m := Int.mul_nonneg (by omega) (by omega)
theorem sqn_bd (n : Int) (hn : n ≤ 40) (m : Nat) : 0 ≤ sqn n m ∧ sqn n m ≤ 1099511627776 * m := by
  induction m with
  | zero => simp [sqn]
  | succ m ih =>
    have := sq_nn m
    have := ctZ_bd (n - (m : Int) * m) m (by omega)
    simp only [sqn]
    omega
theorem scs_bd (n : Int) (hn : n ≤ 40) (m : Nat) : 0 ≤ scs n m ∧ scs n m ≤ 1099511627776 * m := by
  induction m with
  | zero => simp [scs]
  | succ m ih =>
    have := sq_nn m
    have := ctZ_bd ((n - (m : Int) * m) / 2) m (by omega)
    simp only [scs]
    split <;> omega
theorem sq_lt (k : Nat) (hk : k < 7) : (k : Int) * k ≤ 36 := by
  have : ∀ k : Nat, k < 7 → (k : Int) * k ≤ 36 := by decide
  exact this k hk
theorem isq_eq {n : Int} (hn : n ≤ 40) {k : Nat} (hk : k ≤ 7) (h : ∀ j, j < k → (j : Int) * j ≤ n) (h2 : k = 7 ∨ n < (k : Int) * k) : isq n = k := by
  unfold isq
  refine ff_eq (fun j hj => decide_eq_true (h j hj)) hk ?_
  rcases h2 with h2 | h2
  · exact .inl h2
  · exact .inr (decide_eq_false (by omega))
/-- the sum of the divisors, up to m -/
def dvs (n : Int) : Nat → Int
  | 0 => 0
  | m + 1 => dvs n m + (if n % ((m : Int) + 1) = 0 then (m : Int) + 1 else 0)
def dvF (n : Int) : Int := if 1 ≤ n ∧ n ≤ 40 then dvs n n.toNat else -1
theorem dvs_bd (n : Int) (m : Nat) (hm : m ≤ 41) : 0 ≤ dvs n m ∧ dvs n m ≤ 50 * m := by
  induction m with
  | zero => simp [dvs]
  | succ m ih =>
    have := ih (by omega)
    simp only [dvs]
    split <;> omega
def pnF (k : Int) : Int := if -100 ≤ k ∧ k ≤ 100 then k * (3 * k - 1) / 2 else -1
theorem pn_bd (k : Int) (h1 : -100 ≤ k) (h2 : k ≤ 100) : 0 ≤ k * (3 * k - 1) ∧ k * (3 * k - 1) ≤ 30100 := by
  rcases Int.lt_or_le k 1 with h | h
  · have e : k * (3 * k - 1) = (-k) * (3 * (-k) + 1) := by rw [Int.mul_add, Int.mul_sub, Int.mul_one, Int.mul_one, Int.mul_neg, Int.mul_neg, Int.neg_mul]; omega
    rw [e]
    have a := Int.mul_nonneg (a := -k) (b := 3 * (-k) + 1) (by omega) (by omega)
    have b := Int.mul_le_mul (a := -k) (b := 3 * (-k) + 1) (c := 100) (d := 301) (by omega) (by omega) (by omega) (by omega)
    omega
  · have a := Int.mul_nonneg (a := k) (b := 3 * k - 1) (by omega) (by omega)
    have b := Int.mul_le_mul (a := k) (b := 3 * k - 1) (c := 100) (d := 299) (by omega) (by omega) (by omega) (by omega)
    omega
end NP
end Go.Proofs.YtmlomapifldlpaaDoor
namespace Go.Proofs.YtmlomapifldlpaaDoor
namespace NP
set_option linter.unusedVariables false
/-- counts when a further number may come once -/
def wo (D : List Int) (p : Nat) (sg : Int) (s : Nat) : Int := if s < p then D.getD s 0 else D.getD s 0 + sg * D.getD (s - p) 0
def worow (D : List Int) (p : Nat) (sg : Int) : List Int := (List.range 41).map (wo D p sg)
def womid (D : List Int) (p : Nat) (sg : Int) (l : Nat) : List Int := (List.range 41).map fun s => if s < p + l then wo D p sg s else D.getD s 0
theorem worow_len (D : List Int) (p : Nat) (sg : Int) : (worow D p sg).length = 41 := by simp [worow]
theorem womid_len (D : List Int) (p : Nat) (sg : Int) (l : Nat) : (womid D p sg l).length = 41 := by simp [womid]
theorem womid_zero {D : List Int} (hD : D.length = 41) (p : Nat) (sg : Int) : womid D p sg 0 = D := by
  apply List.ext_getElem
  · rw [womid_len, hD]
  · intro j h1 h2
    simp only [womid, List.getElem_map, List.getElem_range]
    rw [← getD_lt h2]
    split
    · unfold wo; rw [if_pos (by omega)]
    · rfl
theorem womid_end (D : List Int) (p : Nat) (sg : Int) (l : Nat) (h : 41 ≤ p + l) : womid D p sg l = worow D p sg := by
  apply List.map_congr_left
  intro s hs
  rw [List.mem_range] at hs
  rw [if_pos (by omega)]
theorem womid_hi (D : List Int) (p : Nat) (sg : Int) (l : Nat) (h : l + p < 41) : (womid D p sg l)[l + p]'(by rw [womid_len]; exact h) = D.getD (l + p) 0 := by
  simp only [womid, List.getElem_map, List.getElem_range]
  rw [if_neg (by omega)]
theorem womid_set (D : List Int) (p : Nat) (sg : Int) (l : Nat) (hp : 1 ≤ p) (h : l + p < 41) : (womid D p sg l).set (l + p) (D.getD (l + p) 0 + sg * D.getD l 0) = womid D p sg (l + 1) := by
  apply List.ext_getElem
  · rw [List.length_set, womid_len, womid_len]
  · intro j h1 h2
    by_cases hj : l + p = j
    · subst hj
      rw [List.getElem_set_self]
      simp only [womid, List.getElem_map, List.getElem_range]
      rw [if_pos (by omega)]
      unfold wo
      rw [if_neg (by omega), Nat.add_sub_cancel]
    · rw [List.getElem_set_ne hj]
      simp only [womid, List.getElem_map, List.getElem_range]
      split <;> split <;> first | rfl | omega
theorem worow_getD (D : List Int) (p : Nat) (sg : Int) (s : Nat) (h : s < 41) : (worow D p sg).getD s 0 = wo D p sg s := by
  rw [getD_lt (by rw [worow_len]; exact h)]
  simp [worow]
/-- the different parts, none greater than d, with signs -/
def srow : Nat → List Int
  | 0 => 1 :: List.replicate 40 0
  | d + 1 => worow (srow d) (d + 1) (-1)
theorem srow_len (d : Nat) : (srow d).length = 41 := by
  cases d with
  | zero => rfl
  | succ d => exact worow_len _ _ _
theorem srow_bd (d : Nat) : ∀ s, -(2 ^ d : Int) ≤ (srow d).getD s 0 ∧ (srow d).getD s 0 ≤ 2 ^ d := by
  induction d with
  | zero =>
    intro s
    rcases Nat.lt_or_ge s 41 with h | h
    · have : ∀ s, s < 41 → -(2 ^ 0 : Int) ≤ (srow 0).getD s 0 ∧ (srow 0).getD s 0 ≤ 2 ^ 0 := by decide
      exact this s h
    · rw [getD_ge (by rw [srow_len]; exact h)]; decide
  | succ d ih =>
    intro s
    have hp : (2 : Int) ^ (d + 1) = 2 * 2 ^ d := by rw [Int.pow_succ]; omega
    have h0 : (0 : Int) < 2 ^ d := Int.pow_pos (by decide)
    rw [hp]
    rcases Nat.lt_or_ge s 41 with h | h
    · show -(2 * 2 ^ d : Int) ≤ (worow (srow d) (d + 1) (-1)).getD s 0 ∧ _
      rw [show srow (d + 1) = worow (srow d) (d + 1) (-1) from rfl, worow_getD _ _ _ _ h]
      unfold wo
      have a := ih s
      have b := ih (s - (d + 1))
      split <;> omega
    · rw [getD_ge (by rw [srow_len]; exact h)]; omega
theorem pow40 (d : Nat) (h : d ≤ 40) : (2 : Int) ^ d ≤ 1099511627776 := by
  have : ∀ d : Nat, d < 41 → (2 : Int) ^ d ≤ 1099511627776 := by decide
  exact this d (by omega)
theorem srow_bd40 (d : Nat) (h : d ≤ 40) (s : Nat) : -1099511627776 ≤ (srow d).getD s 0 ∧ (srow d).getD s 0 ≤ 1099511627776 := by
  have := srow_bd d s
  have := pow40 d h
  omega
def sdF (n : Int) : Int := if 0 ≤ n ∧ n ≤ 40 then (srow n.toNat).getD n.toNat 0 else 0
/-- what stands in the model's table of n+1 numbers when those from x up have been done -/
def smid (D : List Int) (n d x : Nat) : List Int := (List.range (n + 1)).map fun s => if x ≤ s then wo D d (-1) s else D.getD s 0
theorem smid_len (D : List Int) (n d x : Nat) : (smid D n d x).length = n + 1 := by simp [smid]
theorem smid_get (D : List Int) (n d x k : Nat) (h : k < (smid D n d x).length) : (smid D n d x)[k] = if x ≤ k then wo D d (-1) k else D.getD k 0 := by simp [smid]
theorem smid_set (D : List Int) (n d x : Nat) (hd : 1 ≤ d) (hx : d ≤ x) (hn : x ≤ n) : (smid D n d (x + 1)).set x (D.getD x 0 - D.getD (x - d) 0) = smid D n d x := by
  apply List.ext_getElem
  · rw [List.length_set, smid_len, smid_len]
  · intro j h1 h2
    by_cases hj : x = j
    · subst hj
      rw [List.getElem_set_self, smid_get, if_pos (Nat.le_refl _)]
      unfold wo
      rw [if_neg (by omega)]
      omega
    · rw [List.getElem_set_ne hj, smid_get, smid_get]
      split <;> split <;> first | rfl | omega
theorem smid_next (D : List Int) (hD : D.length = 41) (n d : Nat) (hn : n ≤ 40) : smid D n d d = smid (worow D d (-1)) n (d + 1) (n + 1) := by
  apply List.ext_getElem
  · rw [smid_len, smid_len]
  · intro j h1 h2
    rw [smid_len] at h1
    rw [smid_get, smid_get, if_neg (by omega : ¬ n + 1 ≤ j), worow_getD _ _ _ _ (by omega)]
    split
    · rfl
    · unfold wo; rw [if_pos (by omega)]
theorem smid_start (n : Nat) (hn : n ≤ 40) : (List.replicate (n + 1) (0 : Int)).set 0 1 = smid (srow 0) n 1 (n + 1) := by
  apply List.ext_getElem
  · rw [List.length_set, List.length_replicate, smid_len]
  · intro j h1 h2
    rw [smid_len] at h2
    rw [smid_get, if_neg (by omega)]
    cases j with
    | zero => rfl
    | succ j =>
      rw [List.getElem_set_ne (by omega), List.getElem_replicate]
      have : ∀ j, j < 40 → (0 : Int) = (srow 0).getD (j + 1) 0 := by decide
      exact this j (by omega)
end NP
end Go.Proofs.YtmlomapifldlpaaDoor
namespace Go.Proofs.YtmlomapifldlpaaDoor
namespace NP
set_option linter.unusedVariables false
theorem ct_ge (n k : Nat) (h : n ≤ k) : ct n k = ct n n := by
  induction k with
  | zero => obtain rfl : n = 0 := by omega
            rfl
  | succ k ih =>
    rcases Nat.lt_or_ge k n with h1 | h1
    · obtain rfl : n = k + 1 := by omega
      rfl
    · rw [ct_big n (k + 1) (by omega) (by omega), Nat.add_sub_cancel]
      exact ih h1
theorem ctZ_ge (n k : Int) (h0 : 0 ≤ n) (h : n ≤ k) : ctZ n k = ctZ n n := by
  obtain ⟨a, rfl⟩ := Int.eq_ofNat_of_zero_le h0
  obtain ⟨b, rfl⟩ := Int.eq_ofNat_of_zero_le (by omega : 0 ≤ k)
  rw [ctZ_nat, ctZ_nat, ct_ge a b (by omega)]
/-- a row of counts out of the one ahead -/
def nrow (p : Nat) (old : List Nat) (n : Nat) : List Nat := (List.range n).foldl (fun acc s => acc ++ [old.getD s 0 + (if s < p then 0 else acc.getD (s - p) 0)]) []
theorem nrow_succ (p : Nat) (old : List Nat) (n : Nat) : nrow p old (n + 1) = nrow p old n ++ [old.getD n 0 + (if n < p then 0 else (nrow p old n).getD (n - p) 0)] := by
  unfold nrow
  rw [List.range_succ, List.foldl_append]
  rfl
def crowN (k : Nat) : List Nat := (List.range 41).map fun s => ct s k
theorem crowN_getD (k s : Nat) (h : s < 41) : (crowN k).getD s 0 = ct s k := by
  rw [List.getD_eq_getElem?_getD, List.getElem?_eq_getElem (by simp [crowN]; exact h), Option.getD_some]
  simp [crowN]
theorem nrow_crow (k : Nat) (n : Nat) (hn : n ≤ 41) : nrow (k + 1) (crowN k) n = (List.range n).map fun s => ct s (k + 1) := by
  induction n with
  | zero => rfl
  | succ n ih =>
    rw [nrow_succ, ih (by omega), List.range_succ, List.map_append]
    congr 1
    rw [crowN_getD k n (by omega)]
    simp only [List.map_cons, List.map_nil]
    congr 1
    split
    · rename_i h
      rw [ct_big n (k + 1) (by omega) h]; rfl
    · rename_i h
      rw [List.getD_eq_getElem?_getD, List.getElem?_eq_getElem (by simp; omega), Option.getD_some, ct_rec n (k + 1) (by omega) (by omega)]
      simp
def rowc : Nat → List Nat
  | 0 => 1 :: List.replicate 40 0
  | k + 1 => nrow (k + 1) (rowc k) 41
theorem rowc_eq (k : Nat) : rowc k = crowN k := by
  induction k with
  | zero =>
    have e : ∀ n, (List.range (n + 1)).map (fun s => ct s 0) = 1 :: List.replicate n 0 := by
      intro n
      induction n with
      | zero => simp [ct_zero]
      | succ n ih => rw [List.range_succ, List.map_append, ih, List.replicate_succ', List.map_cons, List.map_nil, ct_none _ (by omega)]; rfl
    exact (e 40).symm
  | succ k ih =>
    show nrow (k + 1) (rowc k) 41 = _
    rw [ih, nrow_crow k 41 (Nat.le_refl _)]
    rfl
def ptab : List Nat := [1, 1, 2, 3, 5, 7, 11, 15, 22, 30, 42, 56, 77, 101, 135, 176, 231, 297, 385, 490, 627, 792, 1002, 1255, 1575, 1958, 2436, 3010, 3718, 4565, 5604, 6842, 8349, 10143, 12310, 14883, 17977, 21637, 26015, 31185, 37338]
theorem ptab_ok : rowc 40 = ptab := by decide +kernel
theorem cp_tab (n : Nat) (h : n ≤ 40) : cpF n = ((ptab.getD n 0 : Nat) : Int) := by
  unfold cpF
  rw [if_pos (by omega), ctZ_nat, ← ct_ge n 40 h, ← ptab_ok, rowc_eq, crowN_getD 40 n (by omega)]
def stab : List Int := [1, -1, -1, 0, 0, 1, 0, 1, 0, 0, 0, 0, -1, 0, 0, -1, 0, 0, 0, 0, 0, 0, 1, 0, 0, 0, 1, 0, 0, 0, 0, 0, 0, 0, 0, -1, 0, 0, 0, 0, -1]
theorem srow_keep (s d : Nat) (h : s ≤ d) (h41 : s < 41) : (srow d).getD s 0 = (srow s).getD s 0 := by
  induction d with
  | zero => obtain rfl : s = 0 := by omega
            rfl
  | succ d ih =>
    rcases Nat.lt_or_ge d s with h1 | h1
    · obtain rfl : s = d + 1 := by omega
      rfl
    · rw [show srow (d + 1) = worow (srow d) (d + 1) (-1) from rfl, worow_getD _ _ _ _ h41]
      unfold wo
      rw [if_pos (by omega)]
      exact ih h1
theorem stab_ok : srow 40 = stab := by decide +kernel
theorem sd_tab (n : Nat) (h : n ≤ 40) : sdF n = stab.getD n 0 := by
  unfold sdF
  rw [if_pos (by omega), Int.toNat_natCast, ← srow_keep n 40 h (by omega), stab_ok]
end NP
end Go.Proofs.YtmlomapifldlpaaDoor
namespace Go.Proofs.YtmlomapifldlpaaDoor
open Go.RowKit NP
set_option linter.unusedVariables false
def kcTab : Bool := nmL.all fun l => (List.range 13).all fun n => decide (kcF l (n : Int) = kcF (pnF l) (n : Int))
set_option maxRecDepth 100000 in
theorem kcTab_all : kcTab = true := by decide +kernel
def apTab : Bool := (List.range 13).all fun n => decide ((allQ n n n).length ≤ ptab.getD n 0)
set_option maxRecDepth 100000 in
theorem apTab_all : apTab = true := by decide +kernel
theorem kc_range {l : List UInt8} {n : Int} (h : 0 ≤ kcF l n) : 0 ≤ n ∧ n ≤ 12 := by
  unfold kcF at h
  split at h
  · rename_i hk
    unfold kpOk at hk
    simp only [Bool.and_eq_true, decide_eq_true_eq] at hk
    exact ⟨hk.1.2, hk.2⟩
  · omega
theorem kc_partner {l : List UInt8} (hl : l ∈ nmL) {n : Int} (h : 0 ≤ kcF l n) : kcF (pnF l) n = kcF l n := by
  have hr := kc_range h
  obtain ⟨k, rfl⟩ := Int.eq_ofNat_of_zero_le hr.1
  have h1 := kcTab_all
  unfold kcTab at h1
  have h2 := List.all_eq_true.1 (List.all_eq_true.1 h1 l hl) k (by simp; omega)
  exact (of_decide_eq_true h2).symm
theorem kc_count {l : List UInt8} {n : Int} (h : 0 ≤ kcF l n) : kcF l n ≤ cpF n := by
  have hr := kc_range h
  obtain ⟨k, rfl⟩ := Int.eq_ofNat_of_zero_le hr.1
  have h1 := of_decide_eq_true (List.all_eq_true.1 apTab_all k (by simp; omega))
  rw [cp_tab k (by omega)]
  have h2 : kcF l (k : Int) ≤ ((allQ k k k).length : Int) := by
    unfold kcF
    split
    · unfold kpF
      split
      · split
        · rw [Int.toNat_natCast]
          exact Int.ofNat_le.2 (List.length_filter_le _ _)
        · first | omega | (simp; try exact List.length_filter_le _ _)
      · simp
    · omega
  omega
end Go.Proofs.YtmlomapifldlpaaDoor
namespace Go.Proofs.YtmlomapifldlpaaDoor
open Go.ChangeShapes Go.WideShapes Go.ChangeAt Go.WideMaps Go.WideElems Go.RowKit
set_option linter.unusedVariables false
namespace NP
end NP
def pnLaid : List (String × DataW Unit) := [("loop.example/numberparts/impl.partners", Rows.laid_loop_example_numberparts_impl_partners)]
theorem gPn : Tryd.prog.globalNamed "loop.example/numberparts/impl.partners" = some 0 := by kernel_rfl
theorem tPn : (Tryd.prog.globals[0]?).map (·.type) = some 33 := by kernel_rfl
theorem door_met (os : Os) (args : Array Value) : laidMetH Tryd.prog pnLaid ((World.doorLaid Tryd.prog 400 os).forCall (fun _ _ => 0) ⟨#[], args, []⟩).memory :=
  laidMetH_of_parts3 (fuel := 8) (laidMet_of_run' 8 (by kernel_rfl) (by kernel_rfl)) (by kernel_rfl) (by kernel_rfl)
theorem ba_of {s : ByteArray} {l : List UInt8} (h : s.data.toList = l) : s = ⟨l.toArray⟩ := by subst h; simp
theorem pn_pair {H : Type} {enc : TypeId × Value → H} {W : World} {base : Nat} {spare : Nat → Bool} {held : Bool} {fuel : Nat} {cs : List Value} {x : DataW H × List MemPlace} {a b : List UInt8}
    (h : DataW.trod enc Tryd.prog W base spare held fuel 32 cs = some x) (hx : x.1 = .agg [.lit (.string a), .lit (.string b)]) : cs = [.string ⟨a.toArray⟩, .string ⟨b.toArray⟩] := by
  obtain ⟨xs, m, rfl, rfl, hl, hn, hel⟩ := DataW.trod_array Tryd.underlying32 h
  have c9 : Tryd.prog.cellsOf 9 = 1 := by kernel_rfl
  have c2 : Tryd.prog.cellsOf 32 = 2 := by kernel_rfl
  rw [c2] at hl
  have h0 := hel 0 (by omega)
  have h1 := hel 1 (by omega)
  rw [c9] at h0 h1
  match cs, hl, xs, hn with
  | [c0, c1], _, [x0, x1], _ =>
    simp only [Nat.zero_mul, List.drop_zero, List.take_succ_cons, List.take_zero, List.getElem?_cons_zero, Nat.one_mul, List.drop_succ_cons, List.getElem?_cons_succ] at h0 h1
    obtain ⟨s0, e0, rfl, -⟩ := DataW.trod_string Tryd.underlying9 h0
    obtain ⟨s1, e1, rfl, -⟩ := DataW.trod_string Tryd.underlying9 h1
    simp only [List.map_cons, List.map_nil, DataW.agg.injEq, List.cons.injEq, DataW.lit.injEq, Lit.string.injEq, and_true] at hx
    simp only [List.cons.injEq, and_true] at e0 e1
    rw [e0, e1, ba_of hx.1, ba_of hx.2]
theorem of_laid {W : World} (h : laidMetH Tryd.prog pnLaid W) : W.rangeAt 0 0 pnCells := by
  rw [MakeChecks.laidMetH_plain _ _ _ (by kernel_rfl)] at h
  obtain ⟨ps, ⟨g0, t0, cs0, f0, p0, q0, hg0, ht0, hv0, hd0, _⟩, _⟩ := h
  obtain rfl := Option.some.inj (gPn.symm.trans hg0)
  obtain rfl := Option.some.inj (tPn.symm.trans ht0)
  have hcs : cs0.toList = pnCells := by
    obtain ⟨xs, m, rfl, hx, hl, hn, hel⟩ := DataW.trod_array Tryd.underlying33 hd0
    have c2 : Tryd.prog.cellsOf 32 = 2 := by kernel_rfl
    have c12 : Tryd.prog.cellsOf 33 = 12 := by kernel_rfl
    rw [c12] at hl
    have h0 := hel 0 (by omega)
    have h1 := hel 1 (by omega)
    have h2 := hel 2 (by omega)
    have h3 := hel 3 (by omega)
    have h4 := hel 4 (by omega)
    have h5 := hel 5 (by omega)
    rw [c2] at h0 h1 h2 h3 h4 h5
    clear hel hd0
    generalize cs0.toList = cs at hl h0 h1 h2 h3 h4 h5 ⊢
    match cs, hl, xs, hn with
    | [c0, c1, c2, c3, c4, c5, c6, c7, c8, c9, c10, c11], _, [x0, x1, x2, x3, x4, x5], _ =>
      simp only [Prod.mk.injEq, Rows.laid_loop_example_numberparts_impl_partners, DataW.agg.injEq, List.map_cons, List.map_nil, List.cons.injEq, and_true] at hx
      obtain ⟨⟨e0, e1, e2, e3, e4, e5⟩, -⟩ := hx
      have k0 := pn_pair h0 e0.symm
      have k1 := pn_pair h1 e1.symm
      have k2 := pn_pair h2 e2.symm
      have k3 := pn_pair h3 e3.symm
      have k4 := pn_pair h4 e4.symm
      have k5 := pn_pair h5 e5.symm
      simp only [Nat.zero_mul, Nat.one_mul, Nat.reduceMul, List.drop_zero, List.drop_succ_cons, List.take_succ_cons, List.take_zero, List.cons.injEq, and_true] at k0 k1 k2 k3 k4 k5
      obtain ⟨rfl, rfl⟩ := k0
      obtain ⟨rfl, rfl⟩ := k1
      obtain ⟨rfl, rfl⟩ := k2
      obtain ⟨rfl, rfl⟩ := k3
      obtain ⟨rfl, rfl⟩ := k4
      obtain ⟨rfl, rfl⟩ := k5
      rfl
  intro j v hj
  have h1 := World.var?_cell hg0 hv0 j
  rw [Nat.zero_add, h1, ← Array.getElem?_toList, hcs]
  exact hj
end Go.Proofs.YtmlomapifldlpaaDoor
