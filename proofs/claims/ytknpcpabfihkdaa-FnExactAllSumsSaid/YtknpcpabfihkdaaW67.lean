/-
  Walks: the program's functions of summands.
-/
import Derived.Test.YtknpcpabfihkdaaW66
import Derived.Test.YtknpcpabfihkdaaM34
namespace Go.Proofs.Ytknpcpabfihkdaa
open Go.RowKit NP
set_option linter.unusedVariables false
theorem iValidSums_any (a : Option Addr) (c B : Nat) (L : List Int) (w : World) (h : Rd w B a (ints L)) (hB : B ≤ w.heap.size) (hl : L.length ≤ 4611686018427387904) :
    Calls Try.prog 19 #[.slice a L.length c] w fun e w' => e = .returned (.bool (vsm L)) ∧ Below w.heap.size w w' := by
  go_enter Try.func19, Try.ntmps19
  go_wp2_with (go_at_call 51; refine (summandsOf_any _ _ B L _ h hB hl).mono ?_; rintro e w1 ⟨rfl, hb1⟩)
  go_ret
  exact ⟨rfl, hb1.alloc hb1.size _⟩
theorem iMaskOf_any (a : Option Addr) (c B : Nat) (L : List Int) (w : World) (h : Rd w B a (ints L)) (hB : B ≤ w.heap.size) (hl : L.length ≤ 4611686018427387904) :
    Calls Try.prog 22 #[.slice a L.length c] w fun e w' => e = .returned (.int .i64 (mkF L)) ∧ Below w.heap.size w w' := by
  cases hv : vsm L with
  | true =>
    have HF := Lib.hid (mkF_yes hv)
    have HM := Lib.hid (smM_yes hv)
    have HV := Lib.hid hv
    clear hv
    go_enter Try.func22, Try.ntmps22
    go_wp2_with (go_at_call 51; refine (summandsOf_any _ _ B L _ h hB hl).mono ?_; rintro e w1 ⟨rfl, hb1⟩; rw [HV.out])
    go_ret
    exact ⟨ret_i64 (by rw [HF.out, HM.out]), hb1.alloc hb1.size _⟩
  | false =>
    have HF := Lib.hid (mkF_no hv)
    have HV := Lib.hid hv
    clear hv
    go_enter Try.func22, Try.ntmps22
    go_wp2_with (go_at_call 51; refine (summandsOf_any _ _ B L _ h hB hl).mono ?_; rintro e w1 ⟨rfl, hb1⟩; rw [HV.out])
    go_ret
    exact ⟨ret_i64 HF.out.symm, hb1.alloc hb1.size _⟩
theorem iOppositeSums_any (a : Option Addr) (c B : Nat) (L : List Int) (w : World) (h : Rd w B a (ints L)) (hB : B ≤ w.heap.size) (hl : L.length ≤ 4611686018427387904) :
    Calls Try.prog 33 #[.slice a L.length c] w fun e w' => ∃ a' c', e = .returned (.slice a' (oppF L).length c') ∧ Own w' w.heap.size w'.heap.size 3 (.slice a' (oppF L).length c') (ints (oppF L)) ∧ Below w.heap.size w w' := by
  cases hv : vsm L with
  | true =>
    have hg : sgN L ≤ 16 := by have := vsm_bd hv; unfold sgN; omega
    have HO : Hid (oppF L = smk (sgN L) (2 ^ (sgN L - 1) - 1 - mkN L)) := Lib.hid (by rw [oppF_yes hv]; rfl)
    have HM := Lib.hid (smM_yes hv)
    have HS := Lib.hid (smS_yes hv)
    have HL := Lib.hid (mkN_lt (vsm_iff.1 hv).1)
    have HV := Lib.hid hv
    clear hv
    go_enter Try.func33, Try.ntmps33
    go_wp2_with (first | (go_at_call 51; refine (summandsOf_any _ _ B L _ h hB hl).mono ?_; rintro e w1 ⟨rfl, hb1⟩; rw [HV.out, HS.out, HM.out]) | (go_at_call 59; refine (opposite_any (sgN L) (mkN L) _ HL.out hg).mono ?_; rintro e w2 ⟨rfl, hb2⟩) | (go_at_call 57; refine (list_any (sgN L) (2 ^ (sgN L - 1) - 1 - mkN L) _ hg).mono ?_; rintro e w3 ⟨a', c', rfl, ho, hb3⟩))
    go_ret
    have h1 := hb1.alloc hb1.size (.cells #[.int .i64 (sgN L : Int), .int .i64 (mkN L : Int)] 48)
    have h2 := h1.trans (hb2.mono h1.size)
    rw [HO.out]
    exact ⟨a', c', rfl, ho.lower h2.size, h2.trans (hb3.mono h2.size)⟩
  | false =>
    have HO := Lib.hid (oppF_no hv)
    have HV := Lib.hid hv
    clear hv
    go_enter Try.func33, Try.ntmps33
    go_wp2_with (go_at_call 51; refine (summandsOf_any _ _ B L _ h hB hl).mono ?_; rintro e w1 ⟨rfl, hb1⟩; rw [HV.out])
    go_ret
    rw [HO.out]
    have h1 := hb1.alloc hb1.size (.cells #[.int .i64 (smS L : Int), .int .i64 (smM L : Int)] 48)
    exact ⟨none, 0, rfl, Own.nil _ _ _ |>.lower h1.size, h1⟩
theorem rev_set {L : List Int} {k : Nat} (hk : k < L.length) : (ints ((List.replicate (L.length - k) 0) ++ (L.take k).reverse)).set (L.length - 1 - k) (.int .i64 L[k]) = ints (List.replicate (L.length - (k + 1)) 0 ++ (L.take (k + 1)).reverse) := by
  have e1 : L.length - k = (L.length - (k + 1)) + 1 := by omega
  have e2 : (ints (List.replicate (L.length - (k + 1)) (0 : Int))).length = L.length - 1 - k := by simp; omega
  rw [e1, List.replicate_succ', List.append_assoc, ints, List.map_append, List.set_append_right _ _ (by rw [← e2]; simp), List.take_succ_eq_append_getElem hk, List.reverse_append]
  have e3 : L.length - 1 - k - (List.map (Value.int .i64) (List.replicate (L.length - (k + 1)) (0 : Int))).length = 0 := by rw [← e2]; simp
  rw [e3]
  simp [ints]
theorem iTurnSums_any (a : Option Addr) (c B : Nat) (L : List Int) (w : World) (h : Rd w B a (ints L)) (hB : B ≤ w.heap.size) (hl : L.length ≤ 4611686018427387904) :
    Calls Try.prog 35 #[.slice a L.length c] w fun e w' => ∃ a' c', e = .returned (.slice a' (trnF L).length c') ∧ Own w' w.heap.size w'.heap.size 3 (.slice a' (trnF L).length c') (ints (trnF L)) ∧ Below w.heap.size w w' := by
  cases hv : vsm L with
  | true =>
    obtain ⟨i0, hi, hz0, hz1, hz2⟩ := T_int'
    have HF := Lib.hid (trnF_yes hv)
    have hln := (vsm_bd hv).2.2.2
    have HV := Lib.hid hv
    clear hv
    go_enter Try.func35, Try.ntmps35
    go_wp2_with (first | (go_at_call 19; refine (iValidSums_any _ _ B L _ h hB hl).mono ?_; rintro e w0 ⟨rfl, hb0⟩; rw [HV.out]) | (refine wpList_make_full _ rfl _ _ 22 rfl w0.heap.size 3 i0 (.int .i64 0) 1 Try.underlying22 hi hz0 hz1 .i64 .i64 _ _ L.length rfl rfl rfl rfl (by rw [hz2]; omega) (by unfold maxLen; omega) (Nat.le_refl _) ?_; intro w1 hown1 hg1; have ho1 : Own w1 w0.heap.size w1.heap.size 3 (.slice (some ⟨w0.heap.size, 0, none⟩) L.length L.length) (List.replicate L.length (Value.int .i64 0)) := ⟨by simpa [toList_madeCells_one, Value.cells] using hown1, fun g hg => (hown1.lt g hg).2, Nat.le_refl _⟩; clear hown1))
    have hB0 : Below w.heap.size w w1 := hb0.trans ((Below.refl _ _).grown hg1 hb0.size (by simp <;> exact hb0.size))
    clear hg1
    go_loopw [4, 5, 14] (fun _ _ i wr => ∃ k : Nat, k ≤ L.length ∧ i = .int .i64 k ∧ Below w.heap.size w wr ∧ Own wr w0.heap.size wr.heap.size 3 (.slice (some ⟨w0.heap.size, 0, none⟩) L.length L.length) (ints (List.replicate (L.length - k) 0 ++ (L.take k).reverse))) (fun _ _ i _ => L.length - (intOf i).toNat)
    case atStart => exact ⟨0, Nat.zero_le _, rfl, hB0, by simpa [ints] using ho1⟩
    case round =>
      obtain ⟨k, hk, rfl, hbr, hor⟩ := hrel
      have hz0 := hb0.size
      clear hB0 ho1
      by_cases hlt : k < L.length
      · obtain ⟨b1, o1, rfl, -, hc1⟩ := ((h.more hB).below hbr).at_ hlt
        obtain ⟨j, hj⟩ : ∃ j, j = L.length - 1 - k := ⟨_, rfl⟩
        have hj' : ((L.length : Int) - 1 - (k : Int)) = (j : Int) := by omega
        have hjl : j < L.length := by omega
        obtain ⟨g, u, e, hlo, hhi, hc2, hf2⟩ := hor.spot (k := j) (by simp; omega)
        obtain rfl : w0.heap.size = g := by injection e with e; injection e
        clear e
        have HF : Hid ((ints ((List.replicate (L.length - k) 0) ++ (L.take k).reverse)).set j (.int .i64 L[k]) = ints (List.replicate (L.length - (k + 1)) 0 ++ (L.take (k + 1)).reverse)) := Lib.hid (by rw [hj]; exact rev_set hlt)
        have HO := Lib.hid hor
        clear hor hj
        go_wp2_with fail
        go_roundw
        case rel =>
          refine ⟨k + 1, by omega, by go_num, hbr.setCell (by simp; omega) _, ?_⟩
          have e := HO.out.set j (.int .i64 L[k])
          rw [HF.out] at e
          exact ⟨e.row, fun g hg => by simpa [World.setCell] using e.lt g hg, Nat.le_refl _⟩
        case measure => simp [intOf] <;> omega
      · obtain rfl : k = L.length := by omega
        have HR : Hid (List.replicate (L.length - L.length) 0 ++ (L.take L.length).reverse = trnF L) := Lib.hid (by rw [HF.out, Nat.sub_self, List.take_of_length_le (Nat.le_refl _)]; simp)
        have HLn : Hid (L.length = (trnF L).length) := Lib.hid (by rw [HF.out, List.length_reverse])
        have HO := Lib.hid hor
        clear hor
        go_wp2
        go_ret
        have e := HO.out.lower hz0
        rw [HR.out] at e
        exact ⟨_, _, by rw [← HLn.out]; rfl, by rw [← HLn.out]; exact e, hbr⟩
  | false =>
    have HO := Lib.hid (trnF_no hv)
    have HV := Lib.hid hv
    clear hv
    go_enter Try.func35, Try.ntmps35
    go_wp2_with (go_at_call 19; refine (iValidSums_any _ _ B L _ h hB hl).mono ?_; rintro e w1 ⟨rfl, hb1⟩; rw [HV.out])
    go_ret
    rw [HO.out]
    exact ⟨none, 0, rfl, Own.nil _ _ _ |>.lower hb1.size, hb1⟩
theorem iSumsOfMask_any (n m : Int) (w : World) :
    Calls Try.prog 24 #[.int .i64 n, .int .i64 m] w fun e w' => ∃ a' c', e = .returned (.tuple #[.slice a' (smkF n m).length c', .bool (smOk n m)]) ∧ Own w' w.heap.size w'.heap.size 3 (.slice a' (smkF n m).length c') (ints (smkF n m)) ∧ Below w.heap.size w w' := by
  cases hv : smOk n m with
  | true =>
    have h := smOk_iff.1 hv
    have HF := Lib.hid (smkF_yes hv)
    obtain ⟨N, rfl⟩ := Int.eq_ofNat_of_zero_le h.1
    obtain ⟨M, rfl⟩ := Int.eq_ofNat_of_zero_le h.2.2.1
    obtain ⟨-, h2, -, h4⟩ := h
    have hN : N ≤ 16 := by omega
    have hM := fun w => masksOf_any N w hN
    simp only [Int.toNat_natCast] at h4 HF
    obtain ⟨p, hp⟩ : ∃ p, p = 2 ^ (N - 1) := ⟨_, rfl⟩
    rw [← hp] at h4
    simp only [← hp] at hM
    have HM := Lib.hid hM
    have h4' : M < p := by omega
    clear hM hp hv h4
    go_enter Try.func24, Try.ntmps24
    go_wp2_with (first | (go_at_call 56; refine (HM.out _).mono ?_; rintro e w' ⟨rfl, rfl⟩) | (go_at_call 57; refine (list_any N M _ hN).mono ?_; rintro e w1 ⟨a', c', rfl, ho, hb⟩))
    go_ret2
    rw [HF.out]
    exact ⟨a', c', rfl, ho, hb⟩
  | false =>
    have HF := Lib.hid (smkF_no hv)
    by_cases h1 : n < 0
    · go_enter Try.func24, Try.ntmps24
      go_wp2
      go_ret2
      rw [HF.out]
      exact ⟨none, 0, rfl, Own.nil _ _ _, Below.refl _ _⟩
    · by_cases h2 : 16 < n
      · go_enter Try.func24, Try.ntmps24
        go_wp2
        go_ret2
        rw [HF.out]
        exact ⟨none, 0, rfl, Own.nil _ _ _, Below.refl _ _⟩
      · by_cases h3 : m < 0
        · go_enter Try.func24, Try.ntmps24
          go_wp2
          go_ret2
          rw [HF.out]
          exact ⟨none, 0, rfl, Own.nil _ _ _, Below.refl _ _⟩
        · obtain ⟨N, rfl⟩ := Int.eq_ofNat_of_zero_le (show 0 ≤ n by omega)
          obtain ⟨M, rfl⟩ := Int.eq_ofNat_of_zero_le (show 0 ≤ m by omega)
          have hN : N ≤ 16 := by omega
          have h4 : 2 ^ (N - 1) ≤ M := by
            have hn : ¬ (smOk N M = true) := by rw [hv]; decide
            rw [smOk_iff] at hn
            simp only [Int.toNat_natCast] at hn
            omega
          have hM := fun w => masksOf_any N w hN
          obtain ⟨p, hp⟩ : ∃ p, p = 2 ^ (N - 1) := ⟨_, rfl⟩
          rw [← hp] at h4
          simp only [← hp] at hM
          have HM := Lib.hid hM
          clear hM hp hv h1 h3
          go_enter Try.func24, Try.ntmps24
          go_wp2_with (go_at_call 56; refine (HM.out _).mono ?_; rintro e w' ⟨rfl, rfl⟩)
          go_ret2
          rw [HF.out]
          exact ⟨none, 0, rfl, Own.nil _ _ _, Below.refl _ _⟩
theorem iLinkSums_any (a b : Option Addr) (ca cb Ba Bb : Nat) (L M : List Int) (near : Bool) (w : World) (h : Rd w Ba a (ints L)) (hm : Rd w Bb b (ints M)) (hB : Ba ≤ w.heap.size) (hB2 : Bb ≤ w.heap.size) (hl : L.length ≤ 4611686018427387904) (hl2 : M.length ≤ 4611686018427387904) :
    Calls Try.prog 37 #[.slice a L.length ca, .slice b M.length cb, .bool near] w fun e w' => ∃ a' c', e = .returned (.tuple #[.slice a' (lnkF L M near).length c', .bool (lnkOk L M)]) ∧ Own w' w.heap.size w'.heap.size 3 (.slice a' (lnkF L M near).length c') (ints (lnkF L M near)) ∧ Below w.heap.size w w' := by
  have HT := Lib.hid (twoSummands_any a b ca cb Ba Bb L M w h hm hB hB2 hl hl2)
  cases hv : (vsm L && vsm M) with
  | true =>
    have hv1 : vsm L = true := by simp at hv; exact hv.1
    have hv2 : vsm M = true := by simp at hv; exact hv.2
    have hb1 := vsm_bd hv1
    have hb2 := vsm_bd hv2
    have p1 := (vsm_iff.1 hv1).1
    have p2 := (vsm_iff.1 hv2).1
    have HS1 := Lib.hid (smS_yes hv1)
    have HS2 := Lib.hid (smS_yes hv2)
    have HM1 := Lib.hid (smM_yes hv1)
    have HM2 := Lib.hid (smM_yes hv2)
    have hm1 := mkN_lt p1
    have hm2 := mkN_lt p2
    have HL := Lib.hid (smk_link p1 p2 near)
    have hs1 : (sgN L : Int) = sumL L := by unfold sgN; omega
    have hs2 : (sgN M : Int) = sumL M := by unfold sgN; omega
    have HV := Lib.hid hv
    by_cases hs : sumL L + sumL M ≤ 16
    · have hok : lnkOk L M = true := lnkOk_iff.2 ⟨hv1, hv2, hs⟩
      have HF := Lib.hid (lnkF_yes hok near)
      have HO := Lib.hid hok
      rw [← hs1, ← hs2] at hs
      obtain ⟨s1, hS1⟩ : ∃ s, s = sgN L := ⟨_, rfl⟩
      obtain ⟨s2, hS2⟩ : ∃ s, s = sgN M := ⟨_, rfl⟩
      rw [← hS1] at HS1 hm1 HL hs
      rw [← hS2] at HS2 hm2 HL hs
      have hs16 : s1 + s2 ≤ 16 := by omega
      have HK := Lib.hid (fun w => link_any s1 (mkN L) s2 (mkN M) near w hm1 hm2 hs16)
      clear hv hv1 hv2 hb1 hb2 p1 p2 hm1 hm2 hs1 hs2 hS1 hS2 hok
      go_enter Try.func37, Try.ntmps37
      go_wp2_with (first | (go_at_call 60; refine (HT.out).mono ?_; rintro e w1 ⟨rfl, hc1⟩; rw [HV.out, HS1.out, HS2.out, HM1.out, HM2.out]) | (go_at_call 61; refine (HK.out _).mono ?_; rintro e w2 ⟨rfl, hc2⟩) | (go_at_call 57; refine (list_any (s1 + s2) (lkN s1 (mkN L) s2 (mkN M) near) _ hs16).mono ?_; rintro e w3 ⟨a', c', rfl, ho, hc3⟩))
      go_ret2
      have e1 := (hc1.alloc hc1.size (.cells #[.int .i64 (s1 : Int), .int .i64 (mkN L : Int)] 48)).alloc (by have := hc1.size; simp; omega) (.cells #[.int .i64 (s2 : Int), .int .i64 (mkN M : Int)] 48)
      have e2 := e1.trans (hc2.mono e1.size)
      have e3 := e2.trans (hc3.mono e2.size)
      have HL' : smk (s1 + s2) (lkN s1 (mkN L) s2 (mkN M) near) = lnk L M near := HL.out
      rw [HL'] at ho ⊢
      rw [HF.out, HO.out]
      exact ⟨a', c', rfl, ho.lower e2.size, e3⟩
    · have hno : lnkOk L M = false := by
        cases hh : lnkOk L M with
        | false => rfl
        | true => exact absurd (lnkOk_iff.1 hh).2.2 hs
      have HF := Lib.hid (lnkF_no hno near)
      have HO := Lib.hid hno
      rw [← hs1, ← hs2] at hs
      obtain ⟨s1, hS1⟩ : ∃ s, s = sgN L := ⟨_, rfl⟩
      obtain ⟨s2, hS2⟩ : ∃ s, s = sgN M := ⟨_, rfl⟩
      have q1 : s1 ≤ 16 := by rw [hS1]; unfold sgN; omega
      have q2 : s2 ≤ 16 := by rw [hS2]; unfold sgN; omega
      rw [← hS1] at HS1 hs
      rw [← hS2] at HS2 hs
      have hs16 : (16 : Int) < (s1 : Int) + (s2 : Int) := by omega
      clear hv hv1 hv2 hb1 hb2 p1 p2 hm1 hm2 hs1 hs2 hS1 hS2 hno hs HL
      go_enter Try.func37, Try.ntmps37
      go_wp2_with (first | (go_at_call 60; refine (HT.out).mono ?_; rintro e w1 ⟨rfl, hc1⟩; rw [HV.out, HS1.out, HS2.out, HM1.out, HM2.out]))
      go_ret2
      have e1 := (hc1.alloc hc1.size (.cells #[.int .i64 (s1 : Int), .int .i64 (mkN L : Int)] 48)).alloc (by have := hc1.size; simp; omega) (.cells #[.int .i64 (s2 : Int), .int .i64 (mkN M : Int)] 48)
      rw [HF.out, HO.out]
      exact ⟨none, 0, rfl, Own.nil _ _ _ |>.lower e1.size, e1⟩
  | false =>
    have hno : lnkOk L M = false := by unfold lnkOk; rw [hv]; rfl
    have HF := Lib.hid (lnkF_no hno near)
    have HO := Lib.hid hno
    have HV := Lib.hid hv
    clear hv hno
    go_enter Try.func37, Try.ntmps37
    go_wp2_with (first | (go_at_call 60; refine (HT.out).mono ?_; rintro e w1 ⟨rfl, hc1⟩; rw [HV.out]))
    go_ret2
    have e1 := (hc1.alloc hc1.size (.cells #[.int .i64 (smS L : Int), .int .i64 (smM L : Int)] 48)).alloc (by have := hc1.size; simp; omega) (.cells #[.int .i64 (smS M : Int), .int .i64 (smM M : Int)] 48)
    rw [HF.out, HO.out]
    exact ⟨none, 0, rfl, Own.nil _ _ _ |>.lower e1.size, e1⟩
theorem iFinerSums_any (a b : Option Addr) (ca cb Ba Bb : Nat) (L M : List Int) (w : World) (h : Rd w Ba a (ints L)) (hm : Rd w Bb b (ints M)) (hB : Ba ≤ w.heap.size) (hB2 : Bb ≤ w.heap.size) (hl : L.length ≤ 4611686018427387904) (hl2 : M.length ≤ 4611686018427387904) :
    Calls Try.prog 39 #[.slice a L.length ca, .slice b M.length cb] w fun e w' => e = .returned (.bool (finF L M)) ∧ Below w.heap.size w w' := by
  have HT := Lib.hid (twoSummands_any a b ca cb Ba Bb L M w h hm hB hB2 hl hl2)
  cases hv : (vsm L && vsm M) with
  | true =>
    have hv1 : vsm L = true := by simp at hv; exact hv.1
    have hv2 : vsm M = true := by simp at hv; exact hv.2
    have HF := Lib.hid (finF_yes hv1 hv2)
    have HS1 := Lib.hid (smS_yes hv1)
    have HS2 := Lib.hid (smS_yes hv2)
    have HM1 := Lib.hid (smM_yes hv1)
    have HM2 := Lib.hid (smM_yes hv2)
    have hm1 := mkN_16 hv1
    have hm2 := mkN_16 hv2
    have HK := Lib.hid (fun w => isFiner_any (sgN L) (mkN L) (sgN M) (mkN M) w (by omega) (by omega))
    have HV := Lib.hid hv
    clear hv hv1 hv2 hm1 hm2
    go_enter Try.func39, Try.ntmps39
    go_wp2_with (first | (go_at_call 60; refine (HT.out).mono ?_; rintro e w1 ⟨rfl, hc1⟩; rw [HV.out, HS1.out, HS2.out, HM1.out, HM2.out]) | (go_at_call 62; refine (HK.out _).mono ?_; rintro e w2 ⟨rfl, hc2⟩; rw [← HF.out]))
    go_ret
    have e1 := (hc1.alloc hc1.size (.cells #[.int .i64 (sgN L : Int), .int .i64 (mkN L : Int)] 48)).alloc (by have := hc1.size; simp; omega) (.cells #[.int .i64 (sgN M : Int), .int .i64 (mkN M : Int)] 48)
    exact ⟨rfl, e1.trans (hc2.mono e1.size)⟩
  | false =>
    have HF := Lib.hid (finF_no hv)
    have HV := Lib.hid hv
    clear hv
    go_enter Try.func39, Try.ntmps39
    go_wp2_with (first | (go_at_call 60; refine (HT.out).mono ?_; rintro e w1 ⟨rfl, hc1⟩; rw [HV.out]))
    go_ret
    have e1 := (hc1.alloc hc1.size (.cells #[.int .i64 (smS L : Int), .int .i64 (smM L : Int)] 48)).alloc (by have := hc1.size; simp; omega) (.cells #[.int .i64 (smS M : Int), .int .i64 (smM M : Int)] 48)
    exact ⟨ret_bool HF.out.symm, e1⟩
end Go.Proofs.Ytknpcpabfihkdaa
