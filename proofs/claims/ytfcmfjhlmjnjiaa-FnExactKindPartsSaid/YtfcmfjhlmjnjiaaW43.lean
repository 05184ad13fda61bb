/-
  Walks of the model: kinds by name.
-/
import Derived.Test.YtfcmfjhlmjnjiaaW40
import Derived.Test.YtfcmfjhlmjnjiaaW38
import Derived.Test.YtfcmfjhlmjnjiaaW5
namespace Go.Proofs.Ytfcmfjhlmjnjiaa
open Go.RowKit NP
set_option linter.unusedVariables false
set_option linter.unusedSimpArgs false
def fewB (m : Int) (M : List Int) : Bool := allTo (fun j => decide (M.getD j 0 < m)) M.length
def fewTab (N : List Nat) : Bool :=
  let L := N.map Int.ofNat
  (List.range 17).all fun m => decide (m < 2) || decide (fewB (m : Int) (tim L) = kNone m L)
set_option maxRecDepth 100000 in
theorem fewTab_all : all16.all fewTab = true := by decide +kernel
theorem few_none {L : List Int} (hv : valid L = true) {m : Nat} (h1 : 2 ≤ m) (h2 : m ≤ 16) : fewB (m : Int) (tim L) = kNone m L := by
  obtain ⟨N, hN, rfl⟩ := of_all fewTab_all hv
  have := List.all_eq_true.1 hN m (by simp; omega)
  simp only [Bool.or_eq_true, decide_eq_true_eq] at this
  exact this.resolve_left (by omega)
theorem remIn_pair (m r : Int) (L : List Int) : remIn m [r, m - r] L = kRem m r L := by
  unfold remIn kRem
  congr 1
  funext j
  simp [hasI]
  try rfl
theorem no_one (L : List Int) : (!hasI L 1) = kNoOne L := by
  unfold kNoOne hasI
  rw [Bool.eq_iff_iff, allTo_iff]
  simp only [Bool.not_eq_true', decide_eq_false_iff_not, decide_eq_true_eq]
  constructor
  · intro h j hj
    rw [getD_lt hj]
    exact fun e => h (e ▸ List.getElem_mem hj)
  · intro h hm
    obtain ⟨j, hj, e⟩ := List.getElem_of_mem hm
    have := h j hj
    rw [getD_lt hj] at this
    exact this e

theorem fewer_any (a : Option Addr) (c B : Nat) (L : List Int) (m : Int) (hm : 0 ≤ m ∧ m ≤ 100) (hv : valid L = true) (w : World) (h : Rd w B a (ints L)) (hB : B ≤ w.heap.size) :
    Calls Try.prog 57 #[.slice a L.length c, .int .i64 m] w fun e w' => e = .returned (.bool (fewB m (tim L))) ∧ Below w.heap.size w w' := by
  have HV := Lib.hid hv
  have htl : (tim L).length ≤ 16 := by have := timF_len L; rwa [timF_yes hv] at this
  clear hv
  go_enter Try.func57, Try.ntmps57
  go_wp2_with (go_at_call 73; refine (stimes_any _ _ B L _ h hB HV.out).mono ?_; rintro e w1 ⟨a', c', rfl, ho, hb⟩)
  obtain ⟨M, hM⟩ : ∃ M, M = tim L := ⟨_, rfl⟩
  rw [← hM] at ho htl ⊢
  have hrd := ho.rd
  have HM := Lib.hid hM
  clear hM ho
  go_loopw [6] (fun vi wr => ∃ k : Nat, k ≤ M.length ∧ vi = .int .i64 (k : Int) ∧ wr = w1 ∧ Hid (∀ j, j < k → (fun j => decide (M.getD j 0 < m)) j = true)) (fun vi _ => 20 - (intOf vi).toNat)
  case atStart => exact ⟨0, Nat.zero_le _, rfl, rfl, Lib.hid fun j hj => by omega⟩
  case round =>
    obtain ⟨k, hk, rfl, rfl, HJ⟩ := hrel
    by_cases hlt : k < M.length
    · have hlt' : (k : Int) < (M.length : Int) := by omega
      obtain ⟨b1, o1, rfl, _, hc⟩ := hrd.at_ hlt
      have HG := Lib.hid (getD_lt hlt)
      generalize M[k] = x at hc HG
      by_cases hx : m ≤ x
      · have HF : Hid (fewB m M = false) := Lib.hid (allTo_no hlt (by rw [HG.out]; exact decide_eq_false (by omega)))
        go_wp2
        go_ret
        exact ⟨ret_bool (by rw [← HM.out, HF.out]), hb⟩
      · have HX : Hid (x < m) := Lib.hid (by omega)
        go_wp2
        go_roundw
        case rel => exact ⟨k + 1, by omega, by go_num, (by first | rfl | trivial), Lib.hid (upto HJ.out (by show decide _ = true; rw [HG.out]; exact decide_eq_true HX.out))⟩
        case measure => simp [intOf]; omega
    · obtain rfl : k = M.length := by omega
      have HF : Hid (fewB m M = true) := Lib.hid (allTo_yes HJ.out)
      clear hlt
      go_wp2
      go_ret
      exact ⟨ret_bool (by rw [← HM.out, HF.out]), hb⟩

set_option maxHeartbeats 2000000 in
theorem schur_any (a : Option Addr) (c B : Nat) (L : List Int) (hv : valid L = true) (w : World) (h : Rd w B a (ints L)) :
    Calls Try.prog 59 #[.slice a L.length c] w fun e w' => e = .returned (.bool (kFall 3 4 L)) ∧ ∃ n, w' = w.drewN n := by
  have hl16 := (valid_bd hv).2.2.2
  have HNN := Lib.hid (getD_nn hv)
  clear hv
  go_enter Try.func59, Try.ntmps59
  go_wp2
  go_loopw [3] (fun vi wr => ∃ k : Nat, k ≤ L.length - 1 ∧ vi = .int .i64 k ∧ Dr w wr ∧ Hid (∀ j, j < k → (fun j => decide ((if L.getD j 0 % 3 = 0 then (4 : Int) else 3) ≤ L.getD j 0 - L.getD (j + 1) 0)) j = true)) (fun vi _ => L.length - (intOf vi).toNat)
  case atStart => exact ⟨0, Nat.zero_le _, rfl, Dr.refl _, Lib.hid fun j hj => by omega⟩
  case round =>
    obtain ⟨k, hk, rfl, hdr, HP⟩ := hrel
    by_cases hlt : k < L.length - 1
    · have hlt' : (k : Int) + 1 < (L.length : Int) := by omega
      have hR := h.dr hdr
      have hk0 : k < L.length := by omega
      have hk1 : k + 1 < L.length := by omega
      obtain ⟨b, o, rfl, _, hc⟩ := hR.at_ hk0
      obtain ⟨b', o', e', -, hc'⟩ := hR.at_ hk1
      injection e' with e'; injection e' with e2 e3; subst e2 e3
      have hx := HNN.out k
      have hy := HNN.out (k + 1)
      have hg : L.getD k 0 = L[k] := getD_lt hk0
      have hg' : L.getD (k + 1) 0 = L[k + 1] := getD_lt hk1
      rw [hg] at hx
      rw [hg'] at hy
      have HG := Lib.hid hg
      have HG' := Lib.hid hg'
      clear hg hg'
      have hr := hdr
      generalize L[k] = x at hc hx HG
      generalize L[k + 1] = y at hc' hy HG'
      obtain ⟨dd, hdd⟩ : ∃ d, x - y = d := ⟨_, rfl⟩
      have hw1 : IntKind.i64.wrap (x - y) = dd := by rw [hdd]; exact IntWalk.i64_in _ (by omega)
      have hdb : -16 ≤ dd ∧ dd ≤ 16 := by omega
      have HDD := Lib.hid hdd
      have hxt : x.tmod 3 = x % 3 := Int.tmod_eq_emod_of_nonneg hx.1
      clear hdd
      by_cases e3 : dd < 3
      · have HF : Hid (kFall 3 4 L = false) := Lib.hid (allTo_no hlt (by rw [HG.out, HG'.out, HDD.out]; refine decide_eq_false ?_; split <;> omega))
        go_wp2_with fail
        go_quiet (fail)
        go_wp2
        go_ret
        exact ⟨ret_bool HF.out.symm, hdr.trans (Dr.n _ _)⟩
      · by_cases e4 : dd = 3
        · have q4 : (dd == 3) = true := beq_iff_eq.2 e4
          have HE4 := Lib.hid e4
          clear e4
          by_cases e5 : x % 3 = 0
          · have HF : Hid (kFall 3 4 L = false) := Lib.hid (allTo_no hlt (by rw [HG.out, HG'.out, HDD.out, if_pos e5, HE4.out]; rfl))
            have q5 : (x % 3 == 0) = true := beq_iff_eq.2 e5
            have q5' : (x.tmod 3 == 0) = true := by rw [hxt]; exact q5
            clear e5 hxt
            go_wp2_with fail
            go_quiet (fail)
            go_wp2
            go_ret
            exact ⟨ret_bool HF.out.symm, hdr.trans (Dr.n _ _)⟩
          · have HT : Hid ((if x % 3 = 0 then (4 : Int) else 3) ≤ dd) := Lib.hid (by rw [if_neg e5, HE4.out]; omega)
            have q5 : (x % 3 == 0) = false := beq_eq_false_iff_ne.2 e5
            have q5' : (x.tmod 3 == 0) = false := by rw [hxt]; exact q5
            clear e5 hxt
            go_wp2_with fail
            go_quiet (fail)
            go_wp2
            go_roundw
            case rel => exact ⟨k + 1, by omega, by go_num, hdr.drewN _, Lib.hid (upto HP.out (by show decide (_ ≤ _) = true; rw [HG.out, HG'.out, HDD.out]; exact decide_eq_true HT.out))⟩
            case measure => simp [intOf]; omega
        · have q4 : (dd == 3) = false := beq_eq_false_iff_ne.2 e4
          have HT : Hid ((if x % 3 = 0 then (4 : Int) else 3) ≤ dd) := Lib.hid (by split <;> omega)
          clear e4 hxt
          go_wp2_with fail
          go_quiet (fail)
          go_wp2
          go_roundw
          case rel => exact ⟨k + 1, by omega, by go_num, hdr.drewN _, Lib.hid (upto HP.out (by show decide (_ ≤ _) = true; rw [HG.out, HG'.out, HDD.out]; exact decide_eq_true HT.out))⟩
          case measure => simp [intOf]; omega
    · have hge : ¬ (k : Int) + 1 < (L.length : Int) := by omega
      obtain rfl : k = L.length - 1 := by omega
      have HF : Hid (kFall 3 4 L = true) := Lib.hid (allTo_yes HP.out)
      clear hlt
      go_wp2
      go_ret
      exact ⟨ret_bool HF.out.symm, hdr⟩

theorem sk_odd : SK ⟨#[111, 100, 100]⟩ (kRem 2 1) := by
  intro a c B L w hv h hB
  have HV := Lib.hid hv
  have hl16 := (valid_bd hv).2.2.2
  clear hv
  go_enter Try.func30, Try.ntmps30
  go_wp2_with (go_at_call 53; refine (allRemain_any _ _ _ _ _ B L [1] 2 (by omega) HV.out _ (h.alloc hB _) (rd_new w _ _) (by simp)).mono ?_; rintro e w3 ⟨rfl, rfl⟩; rw [remIn_twoK])
  go_ret2
  exact ⟨rfl, (Below.refl _ _).alloc (Nat.le_refl _) _⟩
theorem sk_notthree : SK ⟨#[110, 111, 116, 116, 104, 114, 101, 101]⟩ (kRem 3 1) := by
  intro a c B L w hv h hB
  have HV := Lib.hid hv
  have hl16 := (valid_bd hv).2.2.2
  clear hv
  go_enter Try.func30, Try.ntmps30
  go_wp2_with (go_at_call 53; refine (allRemain_any _ _ _ _ _ B L [1, 2] 3 (by omega) HV.out _ (h.alloc hB _) (rd_new w _ _) (by simp)).mono ?_; rintro e w3 ⟨rfl, rfl⟩; rw [show ([1, 2] : List Int) = [1, 3 - 1] from rfl]; rw [remIn_pair 3 1])
  go_ret2
  exact ⟨rfl, (Below.refl _ _).alloc (Nat.le_refl _) _⟩
theorem sk_five : SK ⟨#[102, 105, 118, 101]⟩ (kRem 5 1) := by
  intro a c B L w hv h hB
  have HV := Lib.hid hv
  have hl16 := (valid_bd hv).2.2.2
  clear hv
  go_enter Try.func30, Try.ntmps30
  go_wp2_with (go_at_call 53; refine (allRemain_any _ _ _ _ _ B L [1, 4] 5 (by omega) HV.out _ (h.alloc hB _) (rd_new w _ _) (by simp)).mono ?_; rintro e w3 ⟨rfl, rfl⟩; rw [show ([1, 4] : List Int) = [1, 5 - 1] from rfl]; rw [remIn_pair 5 1])
  go_ret2
  exact ⟨rfl, (Below.refl _ _).alloc (Nat.le_refl _) _⟩
theorem sk_fivetwo : SK ⟨#[102, 105, 118, 101, 116, 119, 111]⟩ (kRem 5 2) := by
  intro a c B L w hv h hB
  have HV := Lib.hid hv
  have hl16 := (valid_bd hv).2.2.2
  clear hv
  go_enter Try.func30, Try.ntmps30
  go_wp2_with (go_at_call 53; refine (allRemain_any _ _ _ _ _ B L [2, 3] 5 (by omega) HV.out _ (h.alloc hB _) (rd_new w _ _) (by simp)).mono ?_; rintro e w3 ⟨rfl, rfl⟩; rw [show ([2, 3] : List Int) = [2, 5 - 2] from rfl]; rw [remIn_pair 5 2])
  go_ret2
  exact ⟨rfl, (Below.refl _ _).alloc (Nat.le_refl _) _⟩
theorem sk_six : SK ⟨#[115, 105, 120]⟩ (kRem 6 1) := by
  intro a c B L w hv h hB
  have HV := Lib.hid hv
  have hl16 := (valid_bd hv).2.2.2
  clear hv
  go_enter Try.func30, Try.ntmps30
  go_wp2_with (go_at_call 53; refine (allRemain_any _ _ _ _ _ B L [1, 5] 6 (by omega) HV.out _ (h.alloc hB _) (rd_new w _ _) (by simp)).mono ?_; rintro e w3 ⟨rfl, rfl⟩; rw [show ([1, 5] : List Int) = [1, 6 - 1] from rfl]; rw [remIn_pair 6 1])
  go_ret2
  exact ⟨rfl, (Below.refl _ _).alloc (Nat.le_refl _) _⟩
theorem sk_gap : SK ⟨#[103, 97, 112]⟩ (kFall 2 2) := by
  intro a c B L w hv h hB
  have HV := Lib.hid hv
  have hl16 := (valid_bd hv).2.2.2
  clear hv
  go_enter Try.func30, Try.ntmps30
  go_wp2_with (go_at_call 54; refine (gaps_any _ _ B L 2 (by omega) HV.out _ h).mono ?_; rintro e wv ⟨rfl, n1, rfl⟩)
  go_ret2
  exact ⟨rfl, (Dr.n w n1).below _⟩
theorem sk_schur : SK ⟨#[115, 99, 104, 117, 114]⟩ (kFall 3 4) := by
  intro a c B L w hv h hB
  have HV := Lib.hid hv
  have hl16 := (valid_bd hv).2.2.2
  clear hv
  go_enter Try.func30, Try.ntmps30
  go_wp2_with (go_at_call 59; refine (schur_any _ _ B L HV.out _ h).mono ?_; rintro e wv ⟨rfl, n1, rfl⟩)
  go_ret2
  exact ⟨rfl, (Dr.n w n1).below _⟩
theorem sk_twice : SK ⟨#[116, 119, 105, 99, 101]⟩ (kNone 3) := by
  intro a c B L w hv h hB
  have HV := Lib.hid hv
  have hl16 := (valid_bd hv).2.2.2
  clear hv
  go_enter Try.func30, Try.ntmps30
  go_wp2_with (go_at_call 57; refine (fewer_any _ _ B L 3 (by omega) HV.out _ h hB).mono ?_; rintro e w1 ⟨rfl, hb1⟩; rw [show fewB 3 (tim L) = kNone 3 L from few_none HV.out (m := 3) (by omega) (by omega)])
  go_ret2
  exact ⟨rfl, hb1⟩
theorem sk_gapone : SK ⟨#[103, 97, 112, 111, 110, 101]⟩ (fun L => kFall 2 2 L && kNoOne L) := by
  intro a c B L w hv h hB
  have HV := Lib.hid hv
  have hl16 := (valid_bd hv).2.2.2
  clear hv
  cases hk : kFall 2 2 L with
  | false =>
    have HK := Lib.hid hk
    clear hk
    go_enter Try.func30, Try.ntmps30
    go_wp2_with (go_at_call 54; refine (gaps_any _ _ B L 2 (by omega) HV.out _ h).mono ?_; rintro e wv ⟨rfl, n1, rfl⟩; rw [HK.out])
    go_ret2
    exact ⟨by simp [HK.out], (Dr.n w n1).below _⟩
  | true =>
    have HK := Lib.hid hk
    have HN : Hid (kNoOne L = !hasI L 1) := Lib.hid (no_one L).symm
    clear hk
    go_enter Try.func30, Try.ntmps30
    go_wp2_with (first
      | (go_at_call 58; refine (hasInt_any _ _ B L 1 _ (h.dr (Dr.n w n1)) (by omega)).mono ?_; rintro e w3 ⟨rfl, rfl⟩)
      | (go_at_call 54; refine (gaps_any _ _ B L 2 (by omega) HV.out _ h).mono ?_; rintro e wv ⟨rfl, n1, rfl⟩; rw [HK.out]))
    go_ret2
    exact ⟨by simp [HK.out, HN.out], (Dr.n w n1).below _⟩
end Go.Proofs.Ytfcmfjhlmjnjiaa
