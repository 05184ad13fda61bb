/-
  Walks of the program: bundles of equal parts: their limits, which parts may be put together, how two counts move. Walks of the program: refining. Walks: cells taken away and put, of the model and of the program. Walks: the draws of a list and an index: RemoveCell, AddCell. Walks: a cell put, of the model; the draws of AddCell. Walks of the program: two diagrams of two lists. (The words lie in W44 and W46 since the code has twoThatFit.) Walks of the program: diagrams added to and taken from each other; a square's diagram. Walks: parts united and added, of the program and of the model.
-/
import Derived.Test.YthafbdpeignccaaZR1
import Derived.Test.YthafbdpeignccaaZR2
import Derived.Test.YthafbdpeignccaaZR3
import Derived.Test.YthafbdpeignccaaZR4
import Derived.Test.YthafbdpeignccaaZR5
import Derived.Test.YthafbdpeignccaaZR6
import Derived.Test.YthafbdpeignccaaZR7
import Derived.Shelf.Abstract
import Derived.Deep.QuietTactic
import Derived.Deep.RegionHeld3
import Derived.Deep.MidRow
import Derived.StillTailTactics
namespace Go.Proofs.Ythafbdpeignccaa
open Go.RowKit NP
set_option maxRecDepth 8000
set_option linter.unusedVariables false
set_option linter.unusedSimpArgs false
def inLim (m : Int) : Bool := decide (2 ≤ m) && decide (m ≤ 16)
def kMg (m : Int) (P : List Int) : Bool := inLim m && P.all fun x => x % m != 0
theorem isInLimits_any (m : Int) (w : World) : Calls Try.prog 95 #[.int .i64 m] w fun e w' => e = .returned (.bool (inLim m)) ∧ w = w' := by
  unfold inLim
  by_cases h1 : 2 ≤ m
  · have d1 : decide (2 ≤ m) = true := decide_eq_true h1
    rw [d1]
    go_enter Try.func95, Try.ntmps95
    go_wp2
    go_ret
    exact ⟨by simp, rfl⟩
  · have d1 : decide (2 ≤ m) = false := decide_eq_false h1
    rw [d1]
    go_enter Try.func95, Try.ntmps95
    go_wp2
    go_ret
    exact ⟨by simp, rfl⟩
set_option maxRecDepth 100000 in
set_option maxHeartbeats 2000000 in
theorem mayMerge_any (m : Int) (P : List Int) (hp : valid P = true) (w : World) :
    Calls Try.prog 53 #[.int .i64 m, .agg (arr (pad P))] w fun e w' => e = .returned (.bool (kMg m P)) ∧ Below w.heap.size w w' := by
  have hlP := pad_len (valid_bd hp).2.2.2
  have hiP : (Try.prog.info? 59).map (·.size) = some (arr (pad P)).size := by rw [arr_size, hlP]; exact T_info35
  have hb0 := Blk.new w 59 (arr (pad P))
  have hB0 : Below w.heap.size w (w.alloc (.cells (arr (pad P)) 59)) := (Below.refl _ _).alloc (Nat.le_refl _) _
  have hl16 := (valid_bd hp).2.2.2
  have HXB : Hid (∀ i (h : i < P.length), 1 ≤ P[i] ∧ P[i] ≤ 16) := Lib.hid (fun i h => by
    have h3 := pad_nonneg hp i (by rw [pad_len hl16]; omega)
    rw [pad_get hl16 h] at h3
    have h4 := preS_of_valid hp i h h
    omega)
  have HP := Lib.hid hp
  clear hp
  cases hm : inLim m with
  | false =>
    have hk : kMg m P = false := by unfold kMg; rw [hm]; rfl
    rw [hk]
    have HM := Lib.hid hm
    clear hm hk
    go_enter Try.func53, Try.ntmps53
    go_wp2_with (go_at_call 95; refine (isInLimits_any m _).mono ?_; rintro e w' ⟨rfl, rfl⟩; rw [HM.out])
    go_ret
    exact ⟨rfl, hB0⟩
  | true =>
    have hm2 := hm
    unfold inLim at hm2
    simp only [Bool.and_eq_true, decide_eq_true_eq] at hm2
    have hk : kMg m P = P.all fun x => x % m != 0 := by unfold kMg; rw [hm, Bool.true_and]
    rw [hk]
    have HM := Lib.hid hm
    have hm0 : m ≠ 0 := by omega
    clear hm hk
    go_enter Try.func53, Try.ntmps53
    go_wp2_with (first
      | (go_at_call 95; refine (isInLimits_any m _).mono ?_; rintro e w' ⟨rfl, rfl⟩; rw [HM.out])
      | (refine wpList_load_row rfl 59 (.tmp 3) rfl w.heap.size rfl 59 (arr (pad P)) (0, 0) _ hb0 Try.underlying59 rfl hiP ?_)
      | (go_at_call 76; refine (list_any P HP.out _).mono ?_; rintro e w2 ⟨aL, rfl, hoL, hb2⟩))
    have HO := Lib.hid hoL
    have hbw : Below w.heap.size w w2 := hB0.trans (hb2.mono hB0.size)
    clear hoL hb2
    go_loopw [13] (fun ii wr => ∃ i : Nat, i ≤ P.length ∧ ii = .int .i64 (i : Int) ∧ w2 = wr ∧ Hid (∀ j (hj : j < P.length), j < i → P[j] % m ≠ 0)) (fun ii _ => P.length - (intOf ii).toNat)
    case atStart => exact ⟨0, Nat.zero_le _, rfl, rfl, Lib.hid (fun j _ hj => by omega)⟩
    case round =>
      obtain ⟨i, hin, rfl, rfl, HN⟩ := hrel
      by_cases hlt : i < P.length
      · have hlt' : (i : Int) < (P.length : Int) := by omega
        obtain ⟨gL, rfl, hc⟩ := HO.out.read (k := i) (by simpa using hlt)
        have hx := HXB.out i hlt
        have hcx : w2.cell? ⟨gL, i, none⟩ = some (.int .i64 P[i]) := by rw [hc]; simp
        obtain ⟨x, hxx⟩ : ∃ x, P[i] = x := ⟨_, rfl⟩
        have HX := Lib.hid hxx
        rw [hxx] at hx hcx
        have htm : Int.tmod x m = x % m := Int.tmod_eq_emod_of_nonneg (by omega)
        have hrb := Int.emod_nonneg x hm0
        have hrb2 := Int.emod_lt_of_pos x (show (0 : Int) < m by omega)
        obtain ⟨r, hr⟩ : ∃ r, x % m = r := ⟨_, rfl⟩
        rw [hr] at htm hrb hrb2
        have HR := Lib.hid hr
        clear hc hxx hr
        by_cases hz : r = 0
        · have hzb : (r == 0) = true := by simp [hz]
          have hall : (P.all fun x => x % m != 0) = false := by
            rw [List.all_eq_false]
            exact ⟨P[i], List.getElem_mem hlt, by rw [HX.out, HR.out]; simp [hz]⟩
          have HALL := Lib.hid hall
          clear hz hall
          go_wp2_with fail
          go_ret
          exact ⟨by rw [HALL.out]; rfl, hbw⟩
        · have hzb : (r == 0) = false := by simp [hz]
          go_wp2_with fail
          go_roundw
          case rel => exact ⟨i + 1, by omega, by go_num, by first | rfl | trivial, Lib.hid (fun j hj h1 => by
            rcases Nat.lt_or_ge j i with h3 | h3
            · exact HN.out j hj h3
            · obtain rfl : j = i := by omega
              rw [HX.out, HR.out]; exact hz)⟩
          case measure => simp [intOf] <;> omega
      · have hall : (P.all fun x => x % m != 0) = true := by
          rw [List.all_eq_true]
          intro y hy
          obtain ⟨j, hj, rfl⟩ := List.getElem_of_mem hy
          simpa using HN.out j hj (by omega)
        have HALL := Lib.hid hall
        clear hall
        go_wp2_with fail
        go_ret
        exact ⟨by rw [HALL.out]; rfl, hbw⟩
theorem mayMerge_isK (m : Int) (w : World) : IsK w (.func (.func 53) #[.int .i64 m] #[]) (kMg m) :=
  ⟨_, _, _, rfl, enters_of Try.func53 (by kernel_rfl) rfl, fun w1 _ L hL => mayMerge_any m L hL w1⟩
theorem split1_any (x y m : Int) (g : Nat) (hx : 0 ≤ x ∧ x ≤ 100) (hy : 0 ≤ y ∧ y ≤ 100) (hm : 2 ≤ m ∧ m ≤ 16) (w : World) (hc : w.cell? ⟨g, 0, none⟩ = some (.int .i64 m)) :
    Calls Try.prog 99 #[.int .i64 x, .int .i64 y, .pointer (some ⟨g, 0, none⟩)] w fun e w' => e = .returned (.tuple #[.int .i64 (x + y * m), .int .i64 0]) ∧ Dr w w' := by
  have h1 : 0 ≤ y * m ∧ y * m ≤ 1600 := ⟨Int.mul_nonneg hy.1 (by omega), by have := Int.mul_le_mul hy.2 hm.2 (by omega) (by omega); omega⟩
  obtain ⟨pr, hpr⟩ : ∃ pr, y * m = pr := ⟨_, rfl⟩
  rw [hpr] at h1 ⊢
  have hw1 : wrap64 (y * m) = pr := by rw [hpr]; unfold wrap64; omega
  have hw2 : IntKind.i64.wrap (y * m) = pr := by rw [hpr]; exact IntWalk.i64_in _ (by omega)
  have hw3 : IntKind.i64.wrap (x + pr) = x + pr := IntWalk.i64_in _ (by omega)
  clear hpr
  go_enter Try.func99, Try.ntmps99
  go_wp2_with fail
  go_ret2
  exact ⟨rfl, Dr.refl _⟩
theorem merge1_any (x y m : Int) (g : Nat) (hx : 0 ≤ x ∧ x ≤ 100) (hy : 0 ≤ y ∧ y ≤ 100) (hm : 2 ≤ m ∧ m ≤ 16) (w : World) (hc : w.cell? ⟨g, 0, none⟩ = some (.int .i64 m)) :
    Calls Try.prog 97 #[.int .i64 x, .int .i64 y, .pointer (some ⟨g, 0, none⟩)] w fun e w' => e = .returned (.tuple #[.int .i64 (x % m), .int .i64 (y + x / m)]) ∧ Dr w w' := by
  have hm0 : m ≠ 0 := by omega
  have htm : Int.tmod x m = x % m := Int.tmod_eq_emod_of_nonneg hx.1
  have htd : Int.tdiv x m = x / m := Int.tdiv_eq_ediv_of_nonneg hx.1
  have hr := Int.emod_nonneg x hm0
  have hr2 := Int.emod_lt_of_pos x (show (0 : Int) < m by omega)
  have hq := Int.ediv_nonneg hx.1 (show (0 : Int) ≤ m by omega)
  have hq2 : x / m ≤ x := Int.ediv_le_self _ hx.1
  obtain ⟨r, hrr⟩ : ∃ r, x % m = r := ⟨_, rfl⟩
  obtain ⟨q, hqq⟩ : ∃ q, x / m = q := ⟨_, rfl⟩
  rw [hrr] at htm hr hr2 ⊢
  rw [hqq] at htd hq hq2 ⊢
  have hw1 : IntKind.i64.wrap r = r := IntWalk.i64_in _ (by omega)
  have hw2 : IntKind.i64.wrap q = q := IntWalk.i64_in _ (by omega)
  clear hrr hqq
  go_enter Try.func97, Try.ntmps97
  go_wp2_with fail
  go_quiet (fail)
  go_wp2_with fail
  go_ret2
  exact ⟨rfl, Dr.n _ _⟩
end Go.Proofs.Ythafbdpeignccaa
namespace Go.Proofs.Ythafbdpeignccaa
open Go.RowKit NP
set_option maxRecDepth 8000
set_option linter.unusedVariables false
set_option linter.unusedSimpArgs false
set_option maxRecDepth 100000 in
set_option maxHeartbeats 2000000 in
theorem drefines_any (P Q : List Int) (hp : valid P = true) (hq : valid Q = true) (w : World) :
    Calls Try.prog 82 #[.agg (arr (pad P)), .agg (arr (pad Q))] w fun e w' => e = .returned (.bool (rfF P Q)) ∧ Below w.heap.size w w' := by
  have hlP := pad_len (valid_bd hp).2.2.2
  have hlQ := pad_len (valid_bd hq).2.2.2
  have hiD : (Try.prog.info? 59).map (·.size) = some (arr (pad P)).size := by rw [arr_size, hlP]; exact T_info35
  have hiE : (Try.prog.info? 59).map (·.size) = some (arr (pad Q)).size := by rw [arr_size, hlQ]; exact T_info35
  have HSP := Lib.hid (fun w => dsum_any (pad P) hlP (pad_fits hp) w)
  rw [sumL_pad P] at HSP
  have HSQ := Lib.hid (fun w => dsum_any (pad Q) hlQ (pad_fits hq) w)
  rw [sumL_pad Q] at HSQ
  have hRF : rfF P Q = (decide (sumL P = sumL Q) && fitsF P Q) := by unfold rfF; rw [hp, hq]; rfl
  have hend := rms_end hp hq
  obtain ⟨w1, hw1⟩ : ∃ w1, (w.alloc (.cells (arr (pad P)) 59)).alloc (.cells (arr (pad Q)) 59) = w1 := ⟨_, rfl⟩
  have hb2 : Blk w1 w.heap.size 59 (arr (pad P)) := by rw [← hw1]; exact (Blk.new w _ _).alloc _
  have hb3 : Blk w1 (w.heap.size + 1) 59 (arr (pad Q)) := by
    have e := Blk.new (w.alloc (.cells (arr (pad P)) 59)) 59 (arr (pad Q))
    rw [World.size_alloc] at e
    rw [← hw1]; exact e
  have hA : Below w.heap.size w w1 := by rw [← hw1]; exact ((Below.refl _ _).alloc (Nat.le_refl _) _).alloc (by simp) _
  have hmx : Try.prog.follows .mixedOrders = true := by kernel_rfl
  have HP := Lib.hid hp
  have HQ := Lib.hid hq
  have HT17 := Lib.hid (tlyL_len Q)
  have HFOLD := Lib.hid (fold17 _ (tlyL_len Q))
  have hsz17 : (arr (tlyL Q)).size = 17 := by rw [arr_size, tlyL_len]
  obtain ⟨s, hs⟩ : ∃ s, sumL P = s := ⟨_, rfl⟩
  obtain ⟨t, ht⟩ : ∃ t, sumL Q = t := ⟨_, rfl⟩
  rw [hs] at HSP
  rw [ht] at HSQ
  rw [hs, ht] at hend hRF
  clear hlP hlQ hp hq hs ht
  by_cases hst : s = t
  · subst hst
    have HRF : Hid (rfF P Q = decide (0 < (rms Q P P.length).length)) := Lib.hid (by rw [hRF, hend rfl]; simp)
    clear hRF hend
    go_enter Try.func82, Try.ntmps82
    go_wp2_with fail
    try rw [hw1]
    refine wp_region_vals [0, 1, 2, 3, 4] [.agg (arr (pad P)), .int .i64 s, .agg (arr (pad Q)), .int .i64 s, .bool false] (fun w' => Below w1.heap.size w1 w') _ hmx (fun y hy => hy.below _) rfl rfl (by kernel_rfl) (by kernel_rfl) rfl ?steps ?rest
    case steps =>
        simp only [putsOfG, Act.put, List.getElem?_toArray, List.getElem?_cons_succ, List.getElem?_cons_zero, Option.bind_some, Nat.reduceAdd, List.setIfInBounds_toArray, List.set_cons_zero, List.set_cons_succ]
        refine StepsG.cons rfl rfl (fun wq hS => ?_) ?_
        · exact op_loadv 59 (.tmp 2) rfl ⟨w.heap.size, 0, none⟩ rfl (run_loadVar_row wq (w.heap.size) 59 59 (arr (pad P)) (0, 0) _ (hb2.below hS hb2.lt) Try.underlying59 rfl hiD) ⟨rfl, hS⟩
        refine StepsG.cons rfl rfl (fun wq hS => ?_) ?_
        · go_simp
          go_at_call 70
          refine (HSP.out wq).mono ?_
          rintro e w5 ⟨rfl, hb5⟩
          exact ⟨rfl, hS.trans (hb5.mono hS.size)⟩
        refine StepsG.cons rfl rfl (fun wq hS => ?_) ?_
        · exact op_loadv 59 (.tmp 3) rfl ⟨w.heap.size + 1, 0, none⟩ rfl (run_loadVar_row wq (w.heap.size + 1) 59 59 (arr (pad Q)) (0, 0) _ (hb3.below hS hb3.lt) Try.underlying59 rfl hiE) ⟨rfl, hS⟩
        refine StepsG.cons rfl rfl (fun wq hS => ?_) ?_
        · go_simp
          go_at_call 70
          refine (HSQ.out wq).mono ?_
          rintro e w5 ⟨rfl, hb5⟩
          exact ⟨rfl, hS.trans (hb5.mono hS.size)⟩
        refine StepsG.cons rfl rfl (fun wq hS => ?_) ?_
        · go_simp
        exact StepsG.nil
    case rest =>
      intro wq hS
      simp only [putsOfG, Act.put, List.getElem?_toArray, List.getElem?_cons_succ, List.getElem?_cons_zero, Option.bind_some, Nat.reduceAdd, List.setIfInBounds_toArray, List.set_cons_zero, List.set_cons_succ]
      clear hw1
      have hz1 := hA.size
      have hA2 := hA.trans (hS.mono hz1)
      have hb2q := hb2.below hS hb2.lt
      have hb3q := hb3.below hS hb3.lt
      have hzq := hS.size
      go_wp2_with (first
        | (refine wpList_load_row rfl 59 (.tmp 3) rfl (w.heap.size + 1) rfl 59 (arr (pad Q)) (0, 0) _ hb3q Try.underlying59 rfl hiE ?_)
        | (go_at_call 111; refine (dtally_any Q HQ.out _).mono ?_; rintro e w3 ⟨rfl, hb3x⟩)
        | ((try rw [HFOLD.out]); refine wpList_load_row rfl 59 (.tmp 2) rfl w.heap.size rfl 59 (arr (pad P)) (0, 0) _ ((hb2q.below hb3x hb2q.lt).alloc _) Try.underlying59 rfl hiD ?_)
        | ((try rw [HFOLD.out]); go_at_call 76; refine (list_any P HP.out _).mono ?_; rintro e w4 ⟨aL, rfl, hoL, hb4⟩))
      have hO1 := OwnW.one w3 81 17 (tlyL Q) HT17.out
      have hz3 := hb3x.size
      have hzw : w.heap.size ≤ w3.heap.size := by have := hA2.size; omega
      have hA3 := (hA2.trans (hb3x.mono hA2.size)).alloc hzw (.cells (arr (tlyL Q)) 3)
      have hA4 : Below w.heap.size w w4 := ((hA2.trans (hb3x.mono hA2.size)).alloc hzw (.cells (arr (tlyL Q)) 81)).trans (hb4.mono (by simp; omega))
      have hO4 := ((hO1.more.below hb4).more).lower hzw
      have HO4 : Hid (OwnW w4 w.heap.size w4.heap.size 81 17 (.slice (some ⟨w3.heap.size, 0, none⟩) 1 1) (rms Q P 0)) := Lib.hid hO4
      obtain ⟨z5, hz5⟩ : ∃ z, (w3.alloc (.cells (arr (tlyL Q)) 81)).heap.size = z := ⟨_, rfl⟩
      rw [hz5] at hoL hb4
      have HZ5 : Hid (w.heap.size ≤ z5) := Lib.hid (by rw [← hz5]; simp; omega)
      obtain ⟨z6, hz6⟩ : ∃ z, w4.heap.size = z := ⟨_, rfl⟩
      have hP16 := (valid_bd HP.out).2.2.2
      clear hO1 hO4 hA3 hz5 hzw hz3 hb3x hb4 hb2q hb3q hzq hS hA2
      go_loopw [5, 19] (fun v5 ii wr => ∃ k : Nat, ii = .int .i64 (k : Int) ∧ k ≤ P.length ∧ OwnW wr w.heap.size wr.heap.size 81 17 v5 (rms Q P k) ∧ Own wr z5 z6 3 (.slice aL P.length P.length) (ints P) ∧ Below w.heap.size w wr ∧ z6 ≤ wr.heap.size ∧ Below z6 w4 wr) (fun _ ii _ => P.length - (intOf ii).toNat)
      case atStart => exact ⟨0, rfl, Nat.zero_le _, HO4.out, by rw [← hz6]; exact hoL, hA4, by omega, Below.refl _ _⟩
      case round =>
        obtain ⟨k, rfl, hk, hOq, hoq, hAq, hzq, hbq⟩ := hrel
        have HOQ := Lib.hid hOq
        clear hOq
        by_cases hlt : k < P.length
        · have hlt' : (k : Int) < (P.length : Int) := by omega
          have hx := valid_each HP.out _ (List.getElem_mem hlt)
          have hrm := rms_Rm HP.out HQ.out k (by omega)
          have HRM := Lib.hid hrm.1
          have hrl := hrm.2
          have HNX := Lib.hid (rms_succ Q P k hlt)
          have HQ16 : Hid (Q.length ≤ 1000) := Lib.hid (by have := (valid_bd HQ.out).2.2.2; omega)
          obtain ⟨gC, cC', hvC, hloC, hhiC, hcC, -⟩ := hoq.at_ (k := k) (by simpa using hlt)
          injection hvC with hvC hvn hvc
          subst hvC
          obtain ⟨x, hxe⟩ : ∃ x : Nat, P[k] = (x : Int) := ⟨P[k].toNat, by omega⟩
          have hcell : wr.cell? ⟨gC, k, none⟩ = some (.int .i64 (x : Int)) := by rw [hcC]; simp [ints, hxe]
          rw [hxe] at hx HNX
          have hx16 : 1 ≤ x ∧ x ≤ 16 := by omega
          clear hvn hvc hcC hrm hx hxe
          go_wp2_with (go_at_call 112; refine (roomsAfter_any Q.length x HQ16.out hx16 w.heap.size _ u5 (rms Q P k) HRM.out hrl _ HOQ.out).mono ?_; rintro e wn ⟨v', rfl, hon, hbn⟩)
          have hzr := hAq.size
          have hzn := hbn.size
          have HON := Lib.hid (hon.lower hzr)
          go_roundw
          case rel => exact ⟨k + 1, by go_num, by omega, by rw [HNX.out]; exact HON.out, hoq.below (hbn.mono hzq), hAq.trans (hbn.mono hzr), by omega, hbq.trans (hbn.mono hzq)⟩
          case measure => simp [intOf] <;> omega
        · obtain rfl : k = P.length := by omega
          obtain ⟨a5, c5, rfl⟩ := HOQ.out.form
          clear hlt
          go_wp2_with fail
          go_ret
          exact ⟨ret_bool (by rw [HRF.out]), hAq⟩
  · have HRF : Hid (rfF P Q = false) := Lib.hid (by rw [hRF, decide_eq_false hst]; rfl)
    have hdst : decide (s = t) = false := decide_eq_false hst
    clear hRF hend
    go_enter Try.func82, Try.ntmps82
    go_wp2_with fail
    try rw [hw1]
    refine wp_region_vals [0, 1, 2, 3, 4] [.agg (arr (pad P)), .int .i64 s, .agg (arr (pad Q)), .int .i64 t, .bool true] (fun w' => Below w1.heap.size w1 w') _ hmx (fun y hy => hy.below _) rfl rfl (by kernel_rfl) (by kernel_rfl) rfl ?steps ?rest
    case steps =>
        simp only [putsOfG, Act.put, List.getElem?_toArray, List.getElem?_cons_succ, List.getElem?_cons_zero, Option.bind_some, Nat.reduceAdd, List.setIfInBounds_toArray, List.set_cons_zero, List.set_cons_succ]
        refine StepsG.cons rfl rfl (fun wq hS => ?_) ?_
        · exact op_loadv 59 (.tmp 2) rfl ⟨w.heap.size, 0, none⟩ rfl (run_loadVar_row wq (w.heap.size) 59 59 (arr (pad P)) (0, 0) _ (hb2.below hS hb2.lt) Try.underlying59 rfl hiD) ⟨rfl, hS⟩
        refine StepsG.cons rfl rfl (fun wq hS => ?_) ?_
        · go_simp
          go_at_call 70
          refine (HSP.out wq).mono ?_
          rintro e w5 ⟨rfl, hb5⟩
          exact ⟨rfl, hS.trans (hb5.mono hS.size)⟩
        refine StepsG.cons rfl rfl (fun wq hS => ?_) ?_
        · exact op_loadv 59 (.tmp 3) rfl ⟨w.heap.size + 1, 0, none⟩ rfl (run_loadVar_row wq (w.heap.size + 1) 59 59 (arr (pad Q)) (0, 0) _ (hb3.below hS hb3.lt) Try.underlying59 rfl hiE) ⟨rfl, hS⟩
        refine StepsG.cons rfl rfl (fun wq hS => ?_) ?_
        · go_simp
          go_at_call 70
          refine (HSQ.out wq).mono ?_
          rintro e w5 ⟨rfl, hb5⟩
          exact ⟨rfl, hS.trans (hb5.mono hS.size)⟩
        refine StepsG.cons rfl rfl (fun wq hS => ?_) ?_
        · go_simp
        exact StepsG.nil
    case rest =>
      intro wq hS
      simp only [putsOfG, Act.put, List.getElem?_toArray, List.getElem?_cons_succ, List.getElem?_cons_zero, Option.bind_some, Nat.reduceAdd, List.setIfInBounds_toArray, List.set_cons_zero, List.set_cons_succ]
      go_wp2_with fail
      go_ret
      exact ⟨ret_bool HRF.out.symm, hA.trans (hS.mono hA.size)⟩
set_option maxHeartbeats 2000000 in
theorem iRefines_any (a b : Option Addr) (ca cb Ba Bb : Nat) (P Q : List Int) (w : World) (h : Rd w Ba a (ints P)) (hq : Rd w Bb b (ints Q)) (hBa : Ba ≤ w.heap.size) (hBb : Bb ≤ w.heap.size) (hl : P.length ≤ 4611686018427387904) (hlq : Q.length ≤ 4611686018427387904) :
    Calls Try.prog 39 #[.slice a P.length ca, .slice b Q.length cb] w fun e w' => e = .returned (.bool (rfF P Q)) ∧ Below w.heap.size w w' := by
  have hiP : (Try.prog.info? 59).map (·.size) = some (arr (dg P)).size := by rw [arr_size, dg_len]; exact T_info35
  have hszP : (arr (dg P)).size = (arr (List.replicate 16 0)).size := by rw [arr_size, arr_size, dg_len]; rfl
  have hiQ : (Try.prog.info? 59).map (·.size) = some (arr (dg Q)).size := by rw [arr_size, dg_len]; exact T_info35
  have hszQ : (arr (dg Q)).size = (arr (List.replicate 16 0)).size := by rw [arr_size, arr_size, dg_len]; rfl
  cases hv : (valid P && valid Q) with
  | true =>
    have hp : valid P = true := by simp at hv; exact hv.1
    have hq2 : valid Q = true := by simp at hv; exact hv.2
    have HV := Lib.hid hv
    have HP := Lib.hid hp
    have HQ := Lib.hid hq2
    clear hv hp hq2
    go_enter Try.func39, Try.ntmps39
    go_wp2_with (first
      | (refine wpList_load_row_g rfl 59 (.tmp 5) rfl w1.heap.size rfl 59 (arr (dg P)) (0, 0) _ k5 Try.underlying59 rfl hiP ?_)
      | (refine wpList_load_row_g rfl 59 (.tmp 6) rfl (w1.heap.size + 1) rfl 59 (arr (dg Q)) (0, 0) _ k6 Try.underlying59 rfl hiQ ?_)
      | (refine wpList_store_row rfl 59 (.tmp 5) (.tmp 12) rfl w1.heap.size rfl (arr (dg P)) rfl 59 (arr (List.replicate 16 0)) ((Blk.new w1 _ _).alloc _) hiP hszP (arr_one _) ?_)
      | (refine wpList_store_row rfl 59 (.tmp 6) (.tmp 13) rfl (w1.heap.size + 1) rfl (arr (dg Q)) rfl 59 (arr (List.replicate 16 0)) (first_row w1 _ _ _) hiQ hszQ (arr_one _) ?_)
      | (go_at_call 82; rw [dg_yes HP.out, dg_yes HQ.out]; refine (drefines_any P Q HP.out HQ.out _).mono ?_; rintro e w2 ⟨rfl, hb2⟩)
      | (go_at_call 81; refine (twoDiagrams_any _ _ _ _ Ba Bb P Q _ h hq hBa hBb hl hlq).mono ?_; rintro e w1 ⟨rfl, hb1⟩; rw [HV.out]; obtain ⟨k5, k6, kb⟩ := two_rows w1 59 (arr (List.replicate 16 0)) (arr (dg P)) (arr (dg Q))))
    go_ret
    rw [← dg_yes HP.out, ← dg_yes HQ.out] at hb2
    have hb3 := hb1.trans (kb.mono hb1.size)
    exact ⟨rfl, hb3.trans (hb2.mono hb3.size)⟩
  | false =>
    have HI : Hid (rfF P Q = false) := Lib.hid (by unfold rfF; rw [hv]; rfl)
    have HV := Lib.hid hv
    clear hv
    go_enter Try.func39, Try.ntmps39
    go_wp2_with (first
      | (refine wpList_store_row rfl 59 (.tmp 5) (.tmp 12) rfl w1.heap.size rfl (arr (dg P)) rfl 59 (arr (List.replicate 16 0)) ((Blk.new w1 _ _).alloc _) hiP hszP (arr_one _) ?_)
      | (refine wpList_store_row rfl 59 (.tmp 6) (.tmp 13) rfl (w1.heap.size + 1) rfl (arr (dg Q)) rfl 59 (arr (List.replicate 16 0)) (first_row w1 _ _ _) hiQ hszQ (arr_one _) ?_)
      | (go_at_call 81; refine (twoDiagrams_any _ _ _ _ Ba Bb P Q _ h hq hBa hBb hl hlq).mono ?_; rintro e w1 ⟨rfl, hb1⟩; rw [HV.out]; obtain ⟨k5, k6, kb⟩ := two_rows w1 59 (arr (List.replicate 16 0)) (arr (dg P)) (arr (dg Q))))
    go_ret
    exact ⟨ret_bool HI.out.symm, hb1.trans (kb.mono hb1.size)⟩
end Go.Proofs.Ythafbdpeignccaa
namespace Go.Proofs.Ythafbdpeignccaa
open Go.RowKit NP
set_option maxRecDepth 8000
set_option linter.unusedVariables false

theorem Own.take {w : World} {lo hi : Nat} {e : TypeId} {a : Option Addr} {n c : Nat} {vs : List Value} (h : Own w lo hi e (.slice a n c) vs) (k : Nat) (hk : k ≤ vs.length) : Own w lo hi e (.slice a k c) (vs.take k) := by
  refine ⟨?_, fun g hg => h.lt g (by cases a with | none => cases hg | some b => exact hg), h.le⟩
  have hlen : (vs.take k).length = k := by simp; omega
  rw [hlen]
  refine ⟨by rw [hlen]; omega, ?_⟩
  rcases h.row.2 with ⟨e1, e2⟩ | ⟨g, cap, cur, e1, hb, hg, hc, hm, hs, ht⟩
  · injection e1 with e3 e4 e5
    subst e3; subst e5
    have : k = 0 := by omega
    subst this
    exact .inl ⟨rfl, rfl⟩
  · injection e1 with e3 e4 e5
    subst e3; subst e5
    refine .inr ⟨g, c, cur, rfl, hb, hg, by omega, hm, hs, ?_⟩
    rw [← ht, List.take_take]
    congr 1
    omega

theorem hasInt_any (a : Option Addr) (c B : Nat) (M : List Int) (n : Int) (w : World) (h : Rd w B a (ints M)) (hl : M.length ≤ 4611686018427387904) :
    Calls Try.prog 110 #[.slice a M.length c, .int .i64 n] w fun e w' => e = .returned (.bool (hasI M n)) ∧ w = w' := by
  go_enter Try.func110, Try.ntmps110
  go_wp2
  go_loop [5] (fun i => ∃ k : Nat, k ≤ M.length ∧ i = .int .i64 k ∧ Hid (∀ j (hj : j < M.length), j < k → M[j] ≠ n)) (fun i => M.length - (intOf i).toNat)
  case atStart => exact ⟨0, Nat.zero_le _, rfl, Lib.hid fun j _ hj => by omega⟩
  case round =>
    obtain ⟨k, hk, rfl, HP⟩ := hrel
    by_cases hlt : k < M.length
    · obtain ⟨b, o, rfl, _, hc⟩ := h.at_ hlt
      by_cases hx : M[k] = n
      · have hxb : (M[k] == n) = true := beq_iff_eq.2 hx
        have HX := Lib.hid hx
        clear hx
        go_wp2
        go_ret
        exact ⟨ret_bool (by unfold hasI; rw [eq_comm, decide_eq_true_eq, ← HX.out]; exact List.getElem_mem hlt), rfl⟩
      · have hxb : (M[k] == n) = false := beq_eq_false_iff_ne.2 hx
        have HX := Lib.hid hx
        clear hx
        go_wp2
        go_round
        case rel => exact ⟨k + 1, by omega, by go_num, Lib.hid fun j hj hjk => by
          rcases Nat.lt_or_ge j k with h | h
          · exact HP.out j hj h
          · obtain rfl : j = k := by omega
            exact HX.out⟩
        case measure => simp [intOf]; omega
    · obtain rfl : k = M.length := by omega
      go_wp2
      go_ret
      exact ⟨ret_bool (by
        unfold hasI
        rw [eq_comm, decide_eq_false_iff_not]
        intro hm
        obtain ⟨j, hj, e⟩ := List.mem_iff_getElem.1 hm
        exact HP.out j hj hj e), rfl⟩

theorem less_any (a : Option Addr) (c B : Nat) (L : List Int) (k : Nat) (w : World) (h : Rd w B a (ints L)) (hB : B ≤ w.heap.size) (hv : valid L = true) (hk : k < L.length) :
    Calls Try.prog 107 #[.slice a L.length c, .int .i64 k] w fun e w' => ∃ a' c', e = .returned (.slice a' (lessL L k).length c') ∧ Own w' w.heap.size w'.heap.size 3 (.slice a' (lessL L k).length c') (ints (lessL L k)) ∧ Below w.heap.size w w' := by
  obtain ⟨i0, hi, hz0, hz1, hz2⟩ := T_int'
  have hl := (valid_bd hv).2.2.2
  have hp := preS_of_valid hv k hk hk
  have hpk : 1 ≤ L[k] ∧ L[k] ≤ 16 := ⟨hp.1, hp.2.1⟩
  clear hp
  have hg : L.getD k 0 = L[k] := getD_lt hk
  have HG := Lib.hid hg
  clear hg
  have HV := Lib.hid hv
  clear hv
  by_cases h0 : L[k] - 1 = 0
  · have h0b : (L[k] - 1 == 0) = true := beq_iff_eq.2 h0
    have HL : Hid (lessL L k = (L.set k (L[k] - 1)).take k) := Lib.hid (by unfold lessL; rw [HG.out, if_pos h0])
    have hc1 : (k : Int) ≤ (k : Int) := Int.le_refl _
    clear h0 hc1
    go_enter Try.func107, Try.ntmps107
    go_wp2_with (at_builtin; refine wpList_append_o _ rfl (.tmp 6) (.tmp 7) 22 rfl w.heap.size (w.heap.size + 1) 3 i0 (.int .i64 0) 8 Try.underlying22 hi hz0 hz1 hz2 rfl _ [] rfl (Own.empty w 3) B a L.length c (ints L) rfl (h.alloc hB _) (by simp) (ints_one L) (by simp; unfold maxLen; omega) (by simp; omega) (by simp) ?_; intro v' w1 ho1 hg1 hat1; rw [List.nil_append] at ho1; obtain ⟨g, c1, hv', hlog, hghi, hcell, hfz⟩ := ho1.at_ (k := k) (by simpa using hk); have hcap : L.length ≤ c1 := (by obtain ⟨g', c', e', hc'⟩ := ho1.formN (by simp; omega); rw [hv'] at e'; injection e' with _ _ e5; simp at hc'; omega); subst hv'; clear hat1; have hcellk : w1.cell? ⟨g, k, none⟩ = some (.int .i64 L[k]) := by rw [hcell]; simp)
    go_ret
    have hset : (ints L).set k (.int .i64 (L[k] - 1)) = ints (L.set k (L[k] - 1)) := by simp [ints, List.map_set]
    have hb1 : Below w.heap.size w w1 := ((Below.refl _ _).alloc (Nat.le_refl _) _).grown hg1 (by simp) (fun x hx => by injection hx with hx; subst hx; exact Nat.le_refl _)
    have hl1 : (ints L).length = L.length := by simp
    rw [hl1] at ho1
    have e := (ho1.set k (.int .i64 (L[k] - 1))).more
    rw [hset] at e
    rw [HL.out]
    have hlt : ((L.set k (L[k] - 1)).take k).length = k := by simp; omega
    rw [hlt]
    have e2 := e.take k (by simp; omega)
    refine ⟨some ⟨g, 0, none⟩, c1, rfl, ?_, hb1.setCell (by show w.heap.size ≤ g; exact hlog) _⟩
    have e3 : (ints (L.set k (L[k] - 1))).take k = ints ((L.set k (L[k] - 1)).take k) := by simp [ints, List.map_take]
    rw [e3] at e2
    exact e2
  · have h0b : (L[k] - 1 == 0) = false := beq_eq_false_iff_ne.2 h0
    have HL : Hid (lessL L k = L.set k (L[k] - 1)) := Lib.hid (by unfold lessL; rw [HG.out, if_neg h0])
    clear h0
    go_enter Try.func107, Try.ntmps107
    go_wp2_with (at_builtin; refine wpList_append_o _ rfl (.tmp 6) (.tmp 7) 22 rfl w.heap.size (w.heap.size + 1) 3 i0 (.int .i64 0) 8 Try.underlying22 hi hz0 hz1 hz2 rfl _ [] rfl (Own.empty w 3) B a L.length c (ints L) rfl (h.alloc hB _) (by simp) (ints_one L) (by simp; unfold maxLen; omega) (by simp; omega) (by simp) ?_; intro v' w1 ho1 hg1 hat1; rw [List.nil_append] at ho1; obtain ⟨g, c1, hv', hlog, hghi, hcell, hfz⟩ := ho1.at_ (k := k) (by simpa using hk); have hcap : L.length ≤ c1 := (by obtain ⟨g', c', e', hc'⟩ := ho1.formN (by simp; omega); rw [hv'] at e'; injection e' with _ _ e5; simp at hc'; omega); subst hv'; clear hat1; have hcellk : w1.cell? ⟨g, k, none⟩ = some (.int .i64 L[k]) := by rw [hcell]; simp)
    go_ret
    have hset : (ints L).set k (.int .i64 (L[k] - 1)) = ints (L.set k (L[k] - 1)) := by simp [ints, List.map_set]
    have hb1 : Below w.heap.size w w1 := ((Below.refl _ _).alloc (Nat.le_refl _) _).grown hg1 (by simp) (fun x hx => by injection hx with hx; subst hx; exact Nat.le_refl _)
    have hl1 : (ints L).length = L.length := by simp
    rw [hl1] at ho1
    have e := (ho1.set k (.int .i64 (L[k] - 1))).more
    rw [hset] at e
    rw [HL.out]
    have hlt : (L.set k (L[k] - 1)).length = L.length := by simp
    rw [hlt]
    exact ⟨some ⟨g, 0, none⟩, c1, by simp, e, hb1.setCell (by show w.heap.size ≤ g; exact hlog) _⟩

theorem rmvOk_no {L : List Int} (h : valid L = false) (i : Int) : rmvOk L i = false := by simp [rmvOk, h]
theorem rmvOk_yes {L : List Int} (h : valid L = true) (i : Int) : rmvOk L i = hasI (crn L) i := by
  unfold rmvOk crn
  rw [h, Bool.true_and, crnTo_fl, hasI_fl]
theorem rmv_no {L : List Int} {i : Int} (h : rmvOk L i = false) : rmv L i = [] := by simp [rmv, h]
theorem rmv_yes {L : List Int} {i : Int} (h : rmvOk L i = true) : ∃ k : Nat, i = k ∧ k < L.length ∧ isC L k = true ∧ valid L = true ∧ rmv L i = lessL L k := by
  have h2 := h
  unfold rmvOk at h
  simp only [Bool.and_eq_true, decide_eq_true_eq] at h
  obtain ⟨hv, ⟨h0, hlt⟩, hc⟩ := h
  obtain ⟨k, rfl⟩ := Int.eq_ofNat_of_zero_le h0
  refine ⟨k, rfl, by omega, hc, hv, ?_⟩
  unfold rmv
  rw [if_pos h2]
  rfl
theorem own_nil0 (w : World) (lo : Nat) (e : TypeId) : Own w lo w.heap.size e (.slice none ([] : List Int).length 0) (ints []) := Own.nil w lo e

theorem iRemoveCell_any (a : Option Addr) (c B : Nat) (L : List Int) (i : Int) (w : World) (h : Rd w B a (ints L)) (hB : B ≤ w.heap.size) (hl : L.length ≤ 4611686018427387904) :
    Calls Try.prog 30 #[.slice a L.length c, .int .i64 i] w fun e w' => ∃ a' c', e = .returned (.tuple #[.slice a' (rmv L i).length c', .bool (rmvOk L i)]) ∧ Own w' w.heap.size w'.heap.size 3 (.slice a' (rmv L i).length c') (ints (rmv L i)) ∧ Below w.heap.size w w' := by
  cases hv : valid L with
  | true =>
    have hl16 := (valid_bd hv).2.2.2
    have hpl := pad_len hl16
    have hi16 : (Try.prog.info? 59).map (·.size) = some (arr (pad L)).size := by rw [arr_size, hpl]; exact T_info35
    have hsz : (arr (pad L)).size = (arr (List.replicate 16 0)).size := by rw [arr_size, arr_size, hpl]; rfl
    have HD := Lib.hid (dg_yes hv)
    have HV := Lib.hid hv
    have HPL := Lib.hid hpl
    clear hpl
    by_cases hin : 0 ≤ i ∧ i < L.length
    · obtain ⟨k, rfl⟩ := Int.eq_ofNat_of_zero_le hin.1
      have hk : k < L.length := by omega
      have hk16 : k < 16 := by omega
      have hg0 : decide ((k : Int) < 0) = false := decide_eq_false (by omega)
      have hg1 : decide (L.length ≤ k) = false := decide_eq_false (by omega)
      have hk' : (k : Int) < 16 := by omega
      clear hin
      have hIC : isCD (pad L) k = isC L k := by rw [isCD_pad hv, if_pos hk]
      have hOk : rmvOk L k = isC L k := by unfold rmvOk; rw [hv, decide_eq_true (by omega : (0 : Int) ≤ (k : Int)), decide_eq_true (by omega : (k : Int) < (L.length : Int))]; rfl
      have HOK := Lib.hid hOk
      clear hOk
      have hgk : (pad L).getD k 0 = L.getD k 0 := pad_getD hl16 k
      have hgl : L.getD k 0 = L[k] := getD_lt hk
      have hp := preS_of_valid hv k hk hk
      have hpk : 1 ≤ L[k] ∧ L[k] ≤ 16 := ⟨hp.1, hp.2.1⟩
      have hpc : (pad L)[k]'(by rw [HPL.out]; exact hk16) = L[k] := by rw [← hgl, ← hgk, getD_lt]
      have HPC := Lib.hid hpc
      have HGL := Lib.hid hgl
      clear hp hgk hgl hpc
      cases hcb : isC L k with
      | true =>
        rw [hcb] at hIC
        have hvl := valid_less hv hk hcb
        have hpll := pad_less hv hk hcb
        rw [HGL.out] at hpll
        have hil : (Try.prog.info? 59).map (·.size) = some (arr (pad (lessL L k))).size := by rw [arr_size, pad_len (valid_bd hvl).2.2.2]; exact T_info35
        have HVL := Lib.hid hvl
        have HPLL := Lib.hid hpll
        have HIC := Lib.hid hIC
        have HC := Lib.hid hcb
        clear hcb hvl hpll hIC hv
        go_enter Try.func30, Try.ntmps30
        go_wp2_with (first
        | (go_at_call 64; refine (diagramOf_any _ _ B L _ h hB hl).mono ?_; rintro e w1 ⟨rfl, hb1⟩; rw [HD.out, HV.out])
        | (refine wpList_store_row rfl 59 (.tmp 6) (.tmp 11) rfl w1.heap.size rfl (arr (pad L)) rfl 59 (arr (List.replicate 16 0)) (Blk.new w1 _ _) hi16 hsz (arr_one _) ?_; have hb2 := (Blk.new w1 59 (arr (List.replicate 16 0))).row (vs := arr (pad L)); have hbel2 : Below w.heap.size w ((w1.alloc (.cells (arr (List.replicate 16 0)) 59)).setRow w1.heap.size (arr (pad L))) := below_setRow' (hb1.alloc hb1.size _) (by exact hb1.size) _; obtain ⟨w2, hw2⟩ : ∃ w2, w2 = (w1.alloc (.cells (#[.int .i64 0, .int .i64 0, .int .i64 0, .int .i64 0, .int .i64 0, .int .i64 0, .int .i64 0, .int .i64 0, .int .i64 0, .int .i64 0, .int .i64 0, .int .i64 0, .int .i64 0, .int .i64 0, .int .i64 0, .int .i64 0]) 59)).setRow w1.heap.size (arr (pad L)) := ⟨_, rfl⟩; rw [← hw2]; replace hb2 : Blk w2 w1.heap.size 59 (arr (pad L)) := hw2 ▸ hb2; replace hbel2 : Below w.heap.size w w2 := hw2 ▸ hbel2; clear hw2)
        | (refine wpList_load_row_g rfl 59 (.tmp 6) rfl (w1.heap.size) rfl 59 (arr (pad L)) (0, 0) _ hb2 Try.underlying59 rfl hi16 ?_)
        | (go_at_call 75; refine (isCorner_any (pad L) HPL.out k hk16 _).mono ?_; rintro e w3 ⟨rfl, hb3⟩; rw [HIC.out]; have hb3' : Blk w3 w1.heap.size 59 (arr (pad L)) := hb2.below hb3 hb2.lt; have hc3 : w3.cell? ⟨w1.heap.size, k, none⟩ = some (.int .i64 L[k]) := (by rw [hb3'.cell k, arr_get _ k (by rw [HPL.out]; exact hk16), HPC.out]); have hf3 : w3.frozen? ⟨w1.heap.size, k, none⟩ = false := hb3'.free k; have hb4 : Blk (w3.setCell ⟨w1.heap.size, k, none⟩ (.int .i64 (L[k] - 1))) w1.heap.size 59 (arr (pad (lessL L k))) := (by have e := hb3'.set k (.int .i64 (L[k] - 1)); rw [arr_set, HPLL.out] at e; exact e); have hbel4 : Below w.heap.size w (w3.setCell ⟨w1.heap.size, k, none⟩ (.int .i64 (L[k] - 1))) := (hbel2.trans (hb3.mono hbel2.size)).setCell (by show w.heap.size ≤ w1.heap.size; exact hb1.size) _)
        | (refine wpList_load_row rfl 59 (.tmp 6) rfl (w1.heap.size) rfl 59 (arr (pad (lessL L k))) (0, 0) _ hb4 Try.underlying59 rfl hil ?_)
        | (go_at_call 76; refine (list_any (lessL L k) HVL.out _).mono ?_; rintro e w5 ⟨a', rfl, ho5, hb5⟩))
        go_ret2
        rw [HOK.out, HC.out]
        have hr : rmv L k = lessL L k := by unfold rmv; rw [HOK.out, HC.out]; rfl
        rw [hr]
        exact ⟨a', (lessL L k).length, rfl, ho5.lower hbel4.size, hbel4.trans (hb5.mono hbel4.size)⟩
      | false =>
        rw [hcb] at hIC
        have HIC := Lib.hid hIC
        have HC := Lib.hid hcb
        clear hcb hIC hv
        go_enter Try.func30, Try.ntmps30
        go_wp2_with (first
        | (go_at_call 64; refine (diagramOf_any _ _ B L _ h hB hl).mono ?_; rintro e w1 ⟨rfl, hb1⟩; rw [HD.out, HV.out])
        | (refine wpList_store_row rfl 59 (.tmp 6) (.tmp 11) rfl w1.heap.size rfl (arr (pad L)) rfl 59 (arr (List.replicate 16 0)) (Blk.new w1 _ _) hi16 hsz (arr_one _) ?_; have hb2 := (Blk.new w1 59 (arr (List.replicate 16 0))).row (vs := arr (pad L)); have hbel2 : Below w.heap.size w ((w1.alloc (.cells (arr (List.replicate 16 0)) 59)).setRow w1.heap.size (arr (pad L))) := below_setRow' (hb1.alloc hb1.size _) (by exact hb1.size) _; obtain ⟨w2, hw2⟩ : ∃ w2, w2 = (w1.alloc (.cells (#[.int .i64 0, .int .i64 0, .int .i64 0, .int .i64 0, .int .i64 0, .int .i64 0, .int .i64 0, .int .i64 0, .int .i64 0, .int .i64 0, .int .i64 0, .int .i64 0, .int .i64 0, .int .i64 0, .int .i64 0, .int .i64 0]) 59)).setRow w1.heap.size (arr (pad L)) := ⟨_, rfl⟩; rw [← hw2]; replace hb2 : Blk w2 w1.heap.size 59 (arr (pad L)) := hw2 ▸ hb2; replace hbel2 : Below w.heap.size w w2 := hw2 ▸ hbel2; clear hw2)
        | (refine wpList_load_row_g rfl 59 (.tmp 6) rfl (w1.heap.size) rfl 59 (arr (pad L)) (0, 0) _ hb2 Try.underlying59 rfl hi16 ?_)
        | (go_at_call 75; refine (isCorner_any (pad L) HPL.out k hk16 _).mono ?_; rintro e w3 ⟨rfl, hb3⟩; rw [HIC.out]))
        go_ret2
        rw [rmv_no (by rw [HOK.out, HC.out]), HOK.out, HC.out]
        exact ⟨none, 0, rfl, own_nil0 _ _ _, hbel2.trans (hb3.mono hbel2.size)⟩
    · have hOk : rmvOk L i = false := by
        unfold rmvOk
        rw [hv]
        rcases Int.lt_or_le i 0 with h0 | h0
        · rw [decide_eq_false (by omega : ¬ 0 ≤ i)]; rfl
        · rw [decide_eq_false (by omega : ¬ i < (L.length : Int))]; simp
      rw [rmv_no hOk, hOk]
      clear hOk
      by_cases h0 : i < 0
      · have hg0 : decide (i < 0) = true := decide_eq_true h0
        clear hin h0 hv
        go_enter Try.func30, Try.ntmps30
        go_wp2_with (first
        | (go_at_call 64; refine (diagramOf_any _ _ B L _ h hB hl).mono ?_; rintro e w1 ⟨rfl, hb1⟩; rw [HD.out, HV.out])
        | (refine wpList_store_row rfl 59 (.tmp 6) (.tmp 11) rfl w1.heap.size rfl (arr (pad L)) rfl 59 (arr (List.replicate 16 0)) (Blk.new w1 _ _) hi16 hsz (arr_one _) ?_; have hb2 := (Blk.new w1 59 (arr (List.replicate 16 0))).row (vs := arr (pad L)); have hbel2 : Below w.heap.size w ((w1.alloc (.cells (arr (List.replicate 16 0)) 59)).setRow w1.heap.size (arr (pad L))) := below_setRow' (hb1.alloc hb1.size _) (by exact hb1.size) _; obtain ⟨w2, hw2⟩ : ∃ w2, w2 = (w1.alloc (.cells (#[.int .i64 0, .int .i64 0, .int .i64 0, .int .i64 0, .int .i64 0, .int .i64 0, .int .i64 0, .int .i64 0, .int .i64 0, .int .i64 0, .int .i64 0, .int .i64 0, .int .i64 0, .int .i64 0, .int .i64 0, .int .i64 0]) 59)).setRow w1.heap.size (arr (pad L)) := ⟨_, rfl⟩; rw [← hw2]; replace hb2 : Blk w2 w1.heap.size 59 (arr (pad L)) := hw2 ▸ hb2; replace hbel2 : Below w.heap.size w w2 := hw2 ▸ hbel2; clear hw2))
        go_ret2
        exact ⟨none, 0, rfl, own_nil0 _ _ _, hbel2⟩
      · have hg0 : decide (i < 0) = false := decide_eq_false h0
        have hg1 : decide ((L.length : Int) ≤ i) = true := decide_eq_true (by omega)
        clear hin h0 hv
        go_enter Try.func30, Try.ntmps30
        go_wp2_with (first
        | (go_at_call 64; refine (diagramOf_any _ _ B L _ h hB hl).mono ?_; rintro e w1 ⟨rfl, hb1⟩; rw [HD.out, HV.out])
        | (refine wpList_store_row rfl 59 (.tmp 6) (.tmp 11) rfl w1.heap.size rfl (arr (pad L)) rfl 59 (arr (List.replicate 16 0)) (Blk.new w1 _ _) hi16 hsz (arr_one _) ?_; have hb2 := (Blk.new w1 59 (arr (List.replicate 16 0))).row (vs := arr (pad L)); have hbel2 : Below w.heap.size w ((w1.alloc (.cells (arr (List.replicate 16 0)) 59)).setRow w1.heap.size (arr (pad L))) := below_setRow' (hb1.alloc hb1.size _) (by exact hb1.size) _; obtain ⟨w2, hw2⟩ : ∃ w2, w2 = (w1.alloc (.cells (#[.int .i64 0, .int .i64 0, .int .i64 0, .int .i64 0, .int .i64 0, .int .i64 0, .int .i64 0, .int .i64 0, .int .i64 0, .int .i64 0, .int .i64 0, .int .i64 0, .int .i64 0, .int .i64 0, .int .i64 0, .int .i64 0]) 59)).setRow w1.heap.size (arr (pad L)) := ⟨_, rfl⟩; rw [← hw2]; replace hb2 : Blk w2 w1.heap.size 59 (arr (pad L)) := hw2 ▸ hb2; replace hbel2 : Below w.heap.size w w2 := hw2 ▸ hbel2; clear hw2))
        go_ret2
        exact ⟨none, 0, rfl, own_nil0 _ _ _, hbel2⟩
  | false =>
    have hh := rmvOk_no hv i
    rw [hh, rmv_no hh]
    have hi16 : (Try.prog.info? 59).map (·.size) = some (arr (dg L)).size := by rw [arr_size, dg_len]; exact T_info35
    have hsz : (arr (dg L)).size = (arr (List.replicate 16 0)).size := by rw [arr_size, arr_size, dg_len]; rfl
    have HV := Lib.hid hv
    clear hh hv
    go_enter Try.func30, Try.ntmps30
    go_wp2_with (first
        | (go_at_call 64; refine (diagramOf_any _ _ B L _ h hB hl).mono ?_; rintro e w1 ⟨rfl, hb1⟩; rw [HV.out])
        | (refine wpList_store_row rfl 59 (.tmp 6) (.tmp 11) rfl w1.heap.size rfl (arr (dg L)) rfl 59 (arr (List.replicate 16 0)) (Blk.new w1 _ _) hi16 hsz (arr_one _) ?_))
    go_ret2
    exact ⟨none, 0, rfl, own_nil0 _ _ _, below_setRow' (hb1.alloc hb1.size _) (by exact hb1.size) _⟩
theorem addOk_no {L : List Int} (h : valid L = false) (i : Int) : addOk L i = false := by simp [addOk, h]
theorem addC_no {L : List Int} {i : Int} (h : addOk L i = false) : addC L i = [] := by simp [addC, h]
theorem addC_yes {L : List Int} {i : Int} (h : addOk L i = true) : addC L i = addL L i.toNat := by simp [addC, h]
theorem addOk_at {L : List Int} (hv : valid L = true) {k : Nat} (hk : k ≤ L.length) : addOk L k = valid (addL L k) := by
  unfold addOk
  rw [hv, decide_eq_true (by omega : (0 : Int) ≤ (k : Int)), decide_eq_true (by omega : (k : Int) ≤ (L.length : Int))]
  rfl
theorem addOk_out {L : List Int} {i : Int} (h : ¬ (0 ≤ i ∧ i ≤ L.length)) : addOk L i = false := by
  unfold addOk
  rcases Int.lt_or_le i 0 with h0 | h0
  · rw [decide_eq_false (by omega : ¬ 0 ≤ i)]; simp
  · rw [decide_eq_false (by omega : ¬ i ≤ (L.length : Int))]; simp
theorem Blk.drs {w : World} {g : Nat} {t : TypeId} {cs : Array Value} (h : Blk w g t cs) (n : Nat) : Blk (w.drewN n) g t cs := h

end Go.Proofs.Ythafbdpeignccaa
namespace Go.Proofs.Ythafbdpeignccaa
open Go.RowKit NP
set_option maxRecDepth 8000
set_option linter.unusedVariables false

theorem fl_mem_bd (p : Nat → Bool) (n : Nat) : ∀ x ∈ fl p n, 0 ≤ x ∧ x < n := by
  intro x hx
  unfold fl at hx
  simp only [List.mem_map, List.mem_filter, List.mem_range] at hx
  obtain ⟨a, ha, e⟩ := hx
  have : (a : Int) = x := e
  omega
theorem chg_low3 {B : Nat} {b c : World} {w0 : World} {g : Nat} (hb : Below B w0 b) (hB : B ≤ w0.heap.size) (hg : B ≤ g) (h : b.grownBy c (some g)) : Below B w0 c := hb.grown h (by have := hb.size; omega) fun k hk => by injection hk with hk; omega

end Go.Proofs.Ythafbdpeignccaa
namespace Go.Proofs.Ythafbdpeignccaa
open Go.RowKit NP
set_option maxRecDepth 8000
set_option linter.unusedVariables false


end Go.Proofs.Ythafbdpeignccaa
namespace Go.Proofs.Ythafbdpeignccaa
end Go.Proofs.Ythafbdpeignccaa
namespace Go.Proofs.Ythafbdpeignccaa
open Go.RowKit NP
set_option maxRecDepth 8000
set_option linter.unusedVariables false
theorem pad_full {D : List Int} (h : D.length = 16) : pad D = D := by simp [pad, h]
def neg (E : List Int) : List Int := E.map fun x => -x
theorem neg_getD (E : List Int) (i : Nat) : (neg E).getD i 0 = -E.getD i 0 := by
  unfold neg
  rw [List.getD_eq_getElem?_getD, List.getD_eq_getElem?_getD, List.getElem?_map]
  cases E[i]? <;> simp



theorem fillN_set {i : Nat} (n : Int) (h : i < 16) : (List.replicate i n ++ List.replicate (16 - i) 0).set i n = List.replicate (i + 1) n ++ List.replicate (16 - (i + 1)) 0 := by
  rw [show 16 - i = (16 - (i + 1)) + 1 by omega, List.replicate_succ, List.set_append_right _ _ (by simp), List.length_replicate, Nat.sub_self, List.set_cons_zero, List.replicate_succ']
  simp
theorem fillN_len (i : Nat) (n : Int) (h : i ≤ 16) : (List.replicate i n ++ List.replicate (16 - i) 0).length = 16 := by simp; omega
theorem fillN_end (n : Nat) : List.replicate n (n : Int) ++ List.replicate (16 - n) 0 = pad (sqs n) := by simp [pad, sqs]

end Go.Proofs.Ythafbdpeignccaa
namespace Go.Proofs.Ythafbdpeignccaa
open Go.RowKit NP
set_option maxRecDepth 8000
set_option linter.unusedVariables false

theorem um_set {U : List Int} {N : Nat} (hU : U.length = N) (hN : N < 16) (x : Int) : (U ++ List.replicate (16 - N) 0).set N x = (U ++ [x]) ++ List.replicate (16 - (N + 1)) 0 := by
  rw [show 16 - N = (16 - (N + 1)) + 1 by omega, List.replicate_succ, List.set_append_right _ _ (by omega), hU, Nat.sub_self, List.set_cons_zero]
  simp


end Go.Proofs.Ythafbdpeignccaa
