/-
  Walks of the model: marked parts put together.
-/
import Derived.Test.YtbbbfaollcklkaaZp1
import Derived.Test.YtbbbfaollcklkaaZp2
import Derived.Test.YtbbbfaollcklkaaZp3
import Derived.Test.YtbbbfaollcklkaaZp4
import Derived.Test.YtbbbfaollcklkaaZp5
import Derived.Test.YtbbbfaollcklkaaZp6
import Derived.Test.YtbbbfaollcklkaaZp7
import Derived.Test.YtbbbfaollcklkaaZp8
import Derived.Test.YtbbbfaollcklkaaZp9
import Derived.Test.YtbbbfaollcklkaaZp10
import Derived.Test.YtbbbfaollcklkaaZp11
namespace Go.Proofs.Ytbbbfaollcklkaa
open Go.RowKit NP
set_option maxRecDepth 100000
set_option linter.unusedVariables false
set_option linter.unusedSimpArgs false
theorem mkOf_take {C : List Int} {f : Nat → Bool} {k : Nat} (hk : k < C.length) : (mkOf C f).take (k + 1) = (mkOf C f).take k ++ [isC C k && f k] := by
  have hk' : k < (mkOf C f).length := by rw [mkOf_len]; exact hk
  have e := mkOf_getD C f k
  rw [decide_eq_true hk, Bool.true_and, List.getD_eq_getElem?_getD, List.getElem?_eq_getElem hk', Option.getD_some] at e
  rw [List.take_succ_eq_append_getElem hk', e]
set_option maxHeartbeats 16000000 in
theorem sPutMarked_any (a b : Option Addr) (ca cb Ba Bb : Nat) (P Q : List Int) (w : World) (h : Rd w Ba a (ints P)) (hq : Rd w Bb b (ints Q)) (hBa : Ba ≤ w.heap.size) (hBb : Bb ≤ w.heap.size) (hl : P.length ≤ 4611686018427387904) (hlq : Q.length ≤ 4611686018427387904) :
    Calls Try.prog 29 #[.slice a P.length ca, .slice b Q.length cb] w fun e w' => ∃ b1 d1 b2 d2, e = .returned (.tuple #[.agg #[.slice b1 (pmL P Q).length d1, .slice b2 (pmB P Q).length d2], .bool (pmOk P Q)]) ∧ Own w' w.heap.size w'.heap.size 3 (.slice b1 (pmL P Q).length d1) (ints (pmL P Q)) ∧ Own w' w.heap.size w'.heap.size 4 (.slice b2 (pmB P Q).length d2) (bls (pmB P Q)) ∧ Below w.heap.size w w' := by
  obtain ⟨ib, hib, hx0, hx1, hx2⟩ := info_parts T_boolC
  obtain ⟨i0, hi, hz0, hz1, hz2⟩ := T_int'
  have hmu := Try.underlying28
  have hi2 : (Try.prog.info? 28).map (·.size) = some 2 := T_mkL
  have hbe0 : Below w.heap.size w (w.alloc (.cells #[.slice none 0 0, .slice none 0 0] 28)) := (Below.refl _ _).alloc (Nat.le_refl _) _
  have hr0 := Blk.new w 28 #[.slice none 0 0, .slice none 0 0]
  obtain ⟨W, hW⟩ : ∃ W, w.alloc (.cells #[.slice none 0 0, .slice none 0 0] 28) = W := ⟨_, rfl⟩
  have hWs : w.heap.size + 1 ≤ W.heap.size := by rw [← hW]; simp
  rw [hW] at hr0 hbe0
  have HRP : Hid (∀ w', Below W.heap.size W w' → Rd w' Ba a (ints P)) := Lib.hid (fun w' hb => h.below ((hbe0.mono hBa).trans (hb.mono (by omega))))
  have HRQ : Hid (∀ w', Below W.heap.size W w' → Rd w' Bb b (ints Q)) := Lib.hid (fun w' hb => hq.below ((hbe0.mono hBb).trans (hb.mono (by omega))))
  clear h hq
  cases hvp : valid P with
  | false =>
    have HP := Lib.hid hvp
    have HOK : Hid (pmOk P Q = false) := Lib.hid (by unfold pmOk two; rw [hvp]; rfl)
    clear hvp
    have HN := Lib.hid (pm_no HOK.out)
    go_enter Try.func29, Try.ntmps29
    go_wp2_with (first
      | (go_at_call 53; refine (validParts_any _ _ Ba P _ (HRP.out W (Below.refl _ _)) hl).mono ?_; rintro e v1 ⟨rfl, hd1⟩; replace hd1 : Dr W v1 := hd1; rw [HP.out])
      | (refine wpList_store_row rfl 28 (.tmp 4) (.tmp 31) rfl w.heap.size rfl #[.slice none 0 0, .slice none 0 0] rfl 28 _ (hr0.below (hd1.below _) hr0.lt) hi2 rfl (by simp [Value.oneCell']) ?_))
    have hrz := hr0.below (hd1.below _) hr0.lt
    have hbt := hbe0.trans (hd1.below _)
    refine bodyPost_ret (results_cell_tmp rfl _ _ w.heap.size 28 #[.slice none 0 0, .slice none 0 0] (0, 0) _ rfl hrz.row hmu rfl hi2) rfl ?_
    rw [HN.out.1, HN.out.2, HOK.out]
    exact ⟨none, 0, none, 0, rfl, own_nil3 _ _ _ _ (Nat.le_refl _), own_nil3 _ _ _ _ (Nat.le_refl _), below_setRow' hbt (by omega) _⟩
  | true =>
    have HP := Lib.hid hvp
    cases hk : kFall 1 1 P with
    | false =>
      have HK := Lib.hid hk
      have HOK : Hid (pmOk P Q = false) := Lib.hid (by unfold pmOk; rw [hk, Bool.and_false])
      clear hvp hk
      have HN := Lib.hid (pm_no HOK.out)
      go_enter Try.func29, Try.ntmps29
      go_wp2_with (first
        | (go_at_call 54; refine (gaps_any _ _ Ba P 1 (by omega) HP.out _ (HRP.out _ (hd1.below _))).mono ?_; rintro e v2 ⟨rfl, hn2⟩; have hd2 : Dr W v2 := hd1.trans hn2; rw [HK.out])
        | (go_at_call 53; refine (validParts_any _ _ Ba P _ (HRP.out W (Below.refl _ _)) hl).mono ?_; rintro e v1 ⟨rfl, hd1⟩; replace hd1 : Dr W v1 := hd1; rw [HP.out])
        | (refine wpList_store_row rfl 28 (.tmp 4) (.tmp 31) rfl w.heap.size rfl #[.slice none 0 0, .slice none 0 0] rfl 28 _ (hr0.below (hd2.below _) hr0.lt) hi2 rfl (by simp [Value.oneCell']) ?_))
      have hrz := hr0.below (hd2.below _) hr0.lt
      have hbt := hbe0.trans (hd2.below _)
      refine bodyPost_ret (results_cell_tmp rfl _ _ w.heap.size 28 #[.slice none 0 0, .slice none 0 0] (0, 0) _ rfl hrz.row hmu rfl hi2) rfl ?_
      rw [HN.out.1, HN.out.2, HOK.out]
      exact ⟨none, 0, none, 0, rfl, own_nil3 _ _ _ _ (Nat.le_refl _), own_nil3 _ _ _ _ (Nat.le_refl _), below_setRow' hbt (by omega) _⟩
    | true =>
      have HK := Lib.hid hk
      cases hvq : valid Q with
      | false =>
        have HQ := Lib.hid hvq
        have HOK : Hid (pmOk P Q = false) := Lib.hid (by unfold pmOk two; rw [hvq, Bool.and_false]; rfl)
        clear hvp hk hvq
        have HN := Lib.hid (pm_no HOK.out)
        go_enter Try.func29, Try.ntmps29
        go_wp2_with (first
          | (go_at_call 53; have hsx := hd2; refine (validParts_any _ _ Bb Q _ (HRQ.out _ (hd2.below _)) hlq).mono ?_; rintro e v3 ⟨rfl, hn3⟩; have hd3 : Dr W v3 := hd2.trans hn3; rw [HQ.out])
          | (go_at_call 54; refine (gaps_any _ _ Ba P 1 (by omega) HP.out _ (HRP.out _ (hd1.below _))).mono ?_; rintro e v2 ⟨rfl, hn2⟩; have hd2 : Dr W v2 := hd1.trans hn2; rw [HK.out])
          | (go_at_call 53; refine (validParts_any _ _ Ba P _ (HRP.out W (Below.refl _ _)) hl).mono ?_; rintro e v1 ⟨rfl, hd1⟩; replace hd1 : Dr W v1 := hd1; rw [HP.out])
          | (refine wpList_store_row rfl 28 (.tmp 4) (.tmp 31) rfl w.heap.size rfl #[.slice none 0 0, .slice none 0 0] rfl 28 _ (hr0.below (hd3.below _) hr0.lt) hi2 rfl (by simp [Value.oneCell']) ?_))
        have hrz := hr0.below (hd3.below _) hr0.lt
        have hbt := hbe0.trans (hd3.below _)
        refine bodyPost_ret (results_cell_tmp rfl _ _ w.heap.size 28 #[.slice none 0 0, .slice none 0 0] (0, 0) _ rfl hrz.row hmu rfl hi2) rfl ?_
        rw [HN.out.1, HN.out.2, HOK.out]
        exact ⟨none, 0, none, 0, rfl, own_nil3 _ _ _ _ (Nat.le_refl _), own_nil3 _ _ _ _ (Nat.le_refl _), below_setRow' hbt (by omega) _⟩
      | true =>
        have HQ := Lib.hid hvq
        have HFP := Lib.hid (valid_fits hvp)
        have HFQ := Lib.hid (valid_fits hvq)
        have hbp := valid_bd hvp
        have hbq := valid_bd hvq
        have hs1' : 0 ≤ sumL P ∧ sumL P ≤ 16 := ⟨hbp.1, hbp.2.1⟩
        have hs2' : 0 ≤ sumL Q ∧ sumL Q ≤ 16 := ⟨hbq.1, hbq.2.1⟩
        have hp16 := hbp.2.2.2
        have hq16 := hbq.2.2.2
        by_cases hsum : sumL P + sumL Q ≤ 16
        · have HT : Hid (two P Q = true) := Lib.hid (by unfold two; rw [hvp, hvq, decide_eq_true hsum]; rfl)
          have HOK : Hid (pmOk P Q = true) := Lib.hid (by unfold pmOk; rw [HT.out, hk]; rfl)
          have hg : decide (16 < sumL P + sumL Q) = false := decide_eq_false (by omega)
          have HN := Lib.hid (pm_yes HOK.out)
          have hcv := valid_uni HT.out
          have hcl := (valid_bd hcv).2.2.2
          obtain ⟨T, hT⟩ : ∃ T, T = pmT P Q := ⟨_, rfl⟩
          have hTf : T = mkOf (uni P Q) (fun i => hasI P ((uni P Q).getD i 0)) := hT
          rw [← hT] at HN
          have HCU : Hid (uni P Q = mrg (P ++ Q)) := Lib.hid rfl
          obtain ⟨C, hC⟩ : ∃ C, C = uni P Q := ⟨_, rfl⟩
          rw [← hC] at hcl HN HCU hTf
          have HTL : Hid (T.length = C.length) := Lib.hid (by rw [hTf]; exact mkOf_len _ _)
          have HTN : Hid (∀ k (hk : k < C.length), T.take (k + 1) = T.take k ++ [isC C k && hasI P (C.getD k 0)]) := Lib.hid (fun k hk => by rw [hTf]; exact mkOf_take hk)
          clear hvp hk hvq hsum hbp hbq hcv hT hC hTf
          go_enter Try.func29, Try.ntmps29
          go_wp2_with (first
            | (go_at_call 56; rw [show P.length + Q.length = (P ++ Q).length from (by simp)]; refine (merge_any _ _ _ (P ++ Q) _ HO4.out.rd (Nat.le_refl _) (by simp; omega)).mono ?_; rintro e wb ⟨aC, cC, rfl, ho5, hb5⟩; rw [← HCU.out] at ho5 ⊢; have HO2 := Lib.hid ho5; clear ho5)
            | (at_builtin; refine wpList_append_o _ rfl (.tmp 34) (.tmp 35) 22 rfl v3.heap.size w3.heap.size 3 i0 (.int .i64 0) 8 Try.underlying22 hi hz0 hz1 hz2 rfl _ (ints P) rfl HO.out Bb b Q.length cb (ints Q) rfl (HRQ.out _ ((hd3.below _).trans (hb3.mono (by rw [hd3.size]; exact Nat.le_refl _)))) (by simp) (ints_one Q) (by simp; unfold maxLen; omega) (by simp; omega) hb3.size ?_; intro v' w4 ho4 hg4 hat4; clear hat4; have hb4 : Below v3.heap.size v3 w4 := hb3.grown hg4 hb3.size HO.out.base; have e4 : ints P ++ ints Q = ints (P ++ Q) := (by simp [ints]); rw [e4] at ho4; obtain ⟨a4, c4, rfl⟩ := ho4.form; have hl4 : (ints (P ++ Q)).length = P.length + Q.length := (by simp [ints]); rw [hl4] at ho4 ⊢; have HO4 := Lib.hid ho4; clear ho4 hg4 e4 hl4)
            | (at_builtin; refine wpList_append_o _ rfl (.tmp 32) (.tmp 33) 22 rfl v3.heap.size (v3.heap.size + 1) 3 i0 (.int .i64 0) 8 Try.underlying22 hi hz0 hz1 hz2 rfl _ [] rfl (Own.empty v3 3) Ba a P.length ca (ints P) rfl (HRP.out _ ((hd3.below _).alloc (by rw [hd3.size]; exact Nat.le_refl _) _)) (by simp) (ints_one P) (by simp; unfold maxLen; omega) (by simp; omega) (by simp) ?_; intro v' w3 ho3 hg3 hat3; rw [List.nil_append] at ho3; clear hat3; have hb3 : Below v3.heap.size v3 w3 := ((Below.refl _ _).alloc (Nat.le_refl _) _).grown hg3 (by simp) (fun x hx => by injection hx with hx; subst hx; exact Nat.le_refl _); obtain ⟨a3, c3, rfl⟩ := ho3.form; have hl1 : (ints P).length = P.length := (by simp); rw [hl1] at ho3 ⊢; have HO := Lib.hid ho3; clear ho3 hg3 hl1)
            | (go_at_call 55; have hsx := hs1; refine (sum_any _ _ Bb Q _ (HRQ.out _ (hd3.below _)) HFQ.out hlq).mono ?_; rintro e wv ⟨rfl, rfl⟩)
            | (go_at_call 55; refine (sum_any _ _ Ba P _ (HRP.out _ (hd3.below _)) HFP.out hl).mono ?_; rintro e wv ⟨rfl, rfl⟩; have hs1 : True := trivial)
            | (go_at_call 53; have hsx := hd2; refine (validParts_any _ _ Bb Q _ (HRQ.out _ (hd2.below _)) hlq).mono ?_; rintro e v3 ⟨rfl, hn3⟩; have hd3 : Dr W v3 := hd2.trans hn3; rw [HQ.out])
            | (go_at_call 54; refine (gaps_any _ _ Ba P 1 (by omega) HP.out _ (HRP.out _ (hd1.below _))).mono ?_; rintro e v2 ⟨rfl, hn2⟩; have hd2 : Dr W v2 := hd1.trans hn2; rw [HK.out])
            | (go_at_call 53; refine (validParts_any _ _ Ba P _ (HRP.out W (Below.refl _ _)) hl).mono ?_; rintro e v1 ⟨rfl, hd1⟩; replace hd1 : Dr W v1 := hd1; rw [HP.out]))
          have hWv : W.heap.size = v3.heap.size := hd3.size.symm
          have hz4 := hb4.size
          have hz5 := hb5.size
          have hbv : Below W.heap.size W wb := (hd3.below _).trans ((hb4.mono (by omega)).trans (hb5.mono (by omega)))
          have hr2 : Blk wb w.heap.size 28 #[.slice none 0 0, .slice none 0 0] := hr0.below hbv hr0.lt
          have hbe2 : Below w.heap.size w wb := hbe0.trans (hbv.mono (by omega))
          have HRB : Hid (∀ w', Below wb.heap.size wb w' → Rd w' Ba a (ints P)) := Lib.hid (fun w' hb => HRP.out w' (hbv.trans (hb.mono (by omega))))
          have hG0 := Blk.new wb 28 #[.slice aC C.length cC, .slice none 0 0]
          have hE0 := Own.nil (wb.alloc (.cells #[.slice aC C.length cC, .slice none 0 0] 28)) (wb.heap.size + 1) 4
          have hB0 : Below wb.heap.size wb (wb.alloc (.cells #[.slice aC C.length cC, .slice none 0 0] 28)) := (Below.refl _ _).alloc (Nat.le_refl _) _
          have HRC := Lib.hid HO2.out.rd
          have hlo4 : w.heap.size ≤ w4.heap.size := by omega
          clear hW hr0 hbe0 hd1 hn2 hd2 hn3 hd3 hs1 hb3 hb4 hb5 hbv hg
          go_loopw [8] (fun i wr => ∃ k : Nat, k ≤ C.length ∧ i = .int .i64 k ∧ Below wb.heap.size wb wr ∧ ∃ vM, Blk wr wb.heap.size 28 #[.slice aC C.length cC, vM] ∧ Own wr (wb.heap.size + 1) wr.heap.size 4 vM (bls (T.take k))) (fun i _ => 20 - (intOf i).toNat)
          case atStart => exact ⟨0, Nat.zero_le _, rfl, hB0, _, hG0, hE0⟩
          case round =>
            obtain ⟨k, hk, rfl, hbel, vM, hG, hoM⟩ := hrel
            clear hG0 hE0 hB0
            have hbw := hbe2.trans (hbel.mono (by omega))
            have q4 : wr.cell? ⟨wb.heap.size, 1, none⟩ = some vM := hG.cell 1
            by_cases hlt : k < C.length
            · have hlt' : (k : Int) < (C.length : Int) := by omega
              obtain ⟨bC, oC, rfl, hbC, hcC⟩ := (HRC.out.below hbel).at_ hlt
              have HGK : Hid (C.getD k 0 = C[k]) := Lib.hid (getD_lt hlt)
              have HTK := Lib.hid (HTN.out k hlt)
              rw [HGK.out] at HTK
              obtain ⟨x, hx⟩ : ∃ x, x = C[k] := ⟨_, rfl⟩
              rw [← hx] at hcC HTK HGK
              obtain ⟨mm, hmm⟩ : ∃ mm, hasI P x = mm := ⟨_, rfl⟩
              rw [hmm] at HTK
              have HMM := Lib.hid hmm
              have hw1 : IntKind.i64.wrap ((k : Int) + 1) = (k : Int) + 1 := IntWalk.i64_in _ (by omega)
              have hk0 : (0 : Int) ≤ (k : Int) + 1 := by omega
              have HO := Lib.hid hoM
              have hlv : (bls (T.take k)).length ≤ 16 := by rw [List.length_map, List.length_take]; have := HTL.out; omega
              have HHG := Lib.hid hG
              have hcC5 : ∀ (w' : World), Below wb.heap.size wb w' → w'.cell? ⟨bC, oC + k, none⟩ = some (.int .i64 x) := fun w' h => by
                have e1 := (h.cell (p := ⟨bC, oC + k, none⟩) hbC)
                have e2 := (hbel.cell (p := ⟨bC, oC + k, none⟩) hbC)
                rw [e1, ← e2]; exact hcC
              have HC5 := Lib.hid hcC5
              clear hx hmm hoM hcC5 hG
              by_cases hend : k + 1 = C.length
              · have hbe : ((k : Int) + 1 == (C.length : Int)) = true := beq_iff_eq.2 (by omega)
                have HQC : Hid (isC C k = true) := Lib.hid (isC_end hend)
                rw [HQC.out, Bool.true_and] at HTK
                clear hend
                go_wp2_with fail
                go_quiet (fail)
                go_wp2_with fail
                rename_i nq
                refine wp_region_held_drew (S := fun w' => w'.cell? ⟨bC, oC + k, none⟩ = some (.int .i64 x) ∧ Below wb.heap.size wb w') (by kernel_rfl) ⟨hcC, hbel.trans (((Dr.n wr nq).below _).trans ((Dr.n _ 1).below _))⟩ (fun hS0 => ?_)
                obtain ⟨wy, hwy⟩ : ∃ wy, wy = (wr.drewN nq).drew := ⟨_, rfl⟩
                have HGy : Hid (Blk wy wb.heap.size 28 #[.slice (some ⟨bC, oC, none⟩) C.length cC, vM]) := Lib.hid (by rw [hwy]; exact (HHG.out.drewN nq).drew)
                have HOy : Hid (Own wy (wb.heap.size + 1) wr.heap.size 4 vM (bls (T.take k))) := Lib.hid (by rw [hwy]; exact (HO.out.dr (Dr.n wr nq)).drew)
                have HBy : Hid (Below wb.heap.size wb wy) := Lib.hid (by rw [hwy]; exact (hbel.trans ((Dr.n wr nq).below _)).trans ((Dr.n _ 1).below _))
                have q4y : wy.cell? ⟨wb.heap.size, 1, none⟩ = some vM := by rw [hwy]; exact q4
                have hwys : wr.heap.size ≤ wy.heap.size := by rw [hwy]; exact Nat.le_refl _
                rw [← hwy] at hS0 ⊢
                clear hwy
                refine wpAnyH_take (i := 0) (v := .pointer (some ⟨wb.heap.size, 1, none⟩)) (by simp only [List.getElem?_toArray, List.getElem?_cons_succ, List.getElem?_cons_zero]; exact rfl) (by kernel_rfl) (by kernel_rfl) (by kernel_rfl) (by intro _ _ _ h; exact h) (Or.inl ⟨by kernel_rfl, by intro w hSw; go_simp⟩) (by assumption) ?_
                simp only [Act.put, List.setIfInBounds_toArray, List.set_cons_zero, List.set_cons_succ, List.toList_toArray]
                refine wpAnyH_take (i := 2) (v := .bool true) (by simp only [List.getElem?_toArray, List.getElem?_cons_succ, List.getElem?_cons_zero]; exact rfl) (by kernel_rfl) (by kernel_rfl) (by kernel_rfl) (by intro _ _ _ h; exact h) (Or.inl ⟨by kernel_rfl, by intro w hSw; go_simp⟩) (by assumption) ?_
                simp only [Act.put, List.setIfInBounds_toArray, List.set_cons_zero, List.set_cons_succ, List.toList_toArray]
                refine wpAnyH_take (i := 3) (v := .bool true) (by simp only [List.getElem?_toArray, List.getElem?_cons_succ, List.getElem?_cons_zero]; exact rfl) (by kernel_rfl) (by kernel_rfl) (by kernel_rfl) (by intro _ _ _ h; exact h) (Or.inl ⟨by kernel_rfl, by intro w hSw; go_simp⟩) (by assumption) ?_
                simp only [Act.put, List.setIfInBounds_toArray, List.set_cons_zero, List.set_cons_succ, List.toList_toArray]
                refine wpAnyH_take (i := 4) (v := .slice a P.length ca) (by simp only [List.getElem?_toArray, List.getElem?_cons_succ, List.getElem?_cons_zero]; exact rfl) (by kernel_rfl) (by kernel_rfl) (by kernel_rfl) (by intro _ _ _ h; exact h) (Or.inl ⟨by kernel_rfl, by intro w hSw; go_simp⟩) (by assumption) ?_
                simp only [Act.put, List.setIfInBounds_toArray, List.set_cons_zero, List.set_cons_succ, List.toList_toArray]
                refine wpAnyH_take (i := 5) (v := .slice (some ⟨bC, oC, none⟩) C.length cC) (by simp only [List.getElem?_toArray, List.getElem?_cons_succ, List.getElem?_cons_zero]; exact rfl) (by kernel_rfl) (by kernel_rfl) (by kernel_rfl) (by intro _ _ _ h; exact h) (Or.inl ⟨by kernel_rfl, by intro w hSw; go_simp⟩) (by assumption) ?_
                simp only [Act.put, List.setIfInBounds_toArray, List.set_cons_zero, List.set_cons_succ, List.toList_toArray]
                refine wpAnyH_take (i := 6) (v := .int .i64 (k : Int)) (by simp only [List.getElem?_toArray, List.getElem?_cons_succ, List.getElem?_cons_zero]; exact rfl) (by kernel_rfl) (by kernel_rfl) (by kernel_rfl) (by intro _ _ _ h; exact h) (Or.inl ⟨by kernel_rfl, by intro w hSw; go_simp⟩) (by assumption) ?_
                simp only [Act.put, List.setIfInBounds_toArray, List.set_cons_zero, List.set_cons_succ, List.toList_toArray]
                refine wpAnyH_take (i := 7) (v := .pointer (some ⟨bC, oC + k, none⟩)) (by simp only [List.getElem?_toArray, List.getElem?_cons_succ, List.getElem?_cons_zero]; exact rfl) (by kernel_rfl) (by kernel_rfl) (by kernel_rfl) (by intro _ _ _ h; exact h) (Or.inl ⟨by kernel_rfl, by intro w hSw; go_simp⟩) (by assumption) ?_
                simp only [Act.put, List.setIfInBounds_toArray, List.set_cons_zero, List.set_cons_succ, List.toList_toArray]
                refine wpAnyH_take (i := 8) (v := .int .i64 x) (by simp only [List.getElem?_toArray, List.getElem?_cons_succ, List.getElem?_cons_zero]; exact rfl) (by kernel_rfl) (by kernel_rfl) (by kernel_rfl) (by intro _ _ _ h; exact h) (Or.inl ⟨by kernel_rfl, by intro w hSw; obtain ⟨s1, s2⟩ := hSw; go_simp⟩) (by assumption) ?_
                simp only [Act.put, List.setIfInBounds_toArray, List.set_cons_zero, List.set_cons_succ, List.toList_toArray]
                refine wpAnyH_ready (rs := [1, 9]) (by kernel_rfl) (by simp) ?_
                refine AllReadyH.cons (o := _) (by simp only [List.getElem?_toArray, List.getElem?_cons_succ, List.getElem?_cons_zero]; exact rfl) (fun K hK => ?_) ?_
                · skip
                  rw [if_pos (by rfl)]
                  go_simp
                  refine hK.out _ _ hS0 (fun hS1 => ?_)
                  clear hK K
                  try simp only [Act.put, List.setIfInBounds_toArray, List.set_cons_zero, List.set_cons_succ, List.toList_toArray]
                  refine wpAnyH_ready (rs := [9]) (by kernel_rfl) (by simp) ?_
                  refine AllReadyH.cons (o := _) (by simp only [List.getElem?_toArray, List.getElem?_cons_succ, List.getElem?_cons_zero]; exact rfl) (fun K hK => ?_) AllReadyH.nil
                  rw [if_pos (by rfl)]
                  go_simp
                  go_at_call 57
                  refine (hasInt_any a ca Ba P x _ (HRB.out _ hS1.2) hl).mono ?_
                  rintro e wq ⟨rfl, rfl⟩
                  rw [HMM.out]
                  refine hK.out _ _ hS1 (fun hS7 => ?_)
                  clear hK K
                  try simp only [Act.put, List.setIfInBounds_toArray, List.set_cons_zero, List.set_cons_succ, List.toList_toArray]
                  refine wpAnyH_take (i := 10) (v := .bool mm) (by simp only [List.getElem?_toArray, List.getElem?_cons_succ, List.getElem?_cons_zero]; exact rfl) (by kernel_rfl) (by kernel_rfl) (by kernel_rfl) (by intro _ _ _ h; exact h) (Or.inl ⟨by kernel_rfl, by intro w hSw; go_simp⟩) (by assumption) ?_
                  simp only [Act.put, List.setIfInBounds_toArray, List.set_cons_zero, List.set_cons_succ, List.toList_toArray]
                  refine wpAnyH_ready (rs := [11]) (by kernel_rfl) (by simp) ?_
                  refine AllReadyH.cons (o := _) (by simp only [List.getElem?_toArray, List.getElem?_cons_succ, List.getElem?_cons_zero]; exact rfl) (fun K hK => ?_) AllReadyH.nil
                  rw [if_pos (by rfl)]
                  go_simp
                  have hWe : ∃ Wy, Wy = wy.alloc (.cells #[.bool mm] 4) := ⟨_, rfl⟩
                  obtain ⟨Wy, hWy⟩ := hWe
                  have hSy : (fun w' => w'.cell? ⟨bC, oC + k, none⟩ = some (.int .i64 x) ∧ Below wb.heap.size wb w') Wy := by obtain ⟨s1, s2⟩ := hS7; rw [hWy]; exact ⟨cell_alloc s1, s2.alloc s2.size _⟩
                  rw [← hWy]
                  have HWY := Lib.hid hWy
                  clear hWy
                  refine hK.out _ _ hSy (fun hS2 => ?_)
                  clear hK K
                  try simp only [Act.put, List.setIfInBounds_toArray, List.set_cons_zero, List.set_cons_succ, List.toList_toArray]
                  refine wpAnyH_ready (rs := [12]) (by kernel_rfl) (by simp) ?_
                  refine AllReadyH.cons (o := _) (by simp only [List.getElem?_toArray, List.getElem?_cons_succ, List.getElem?_cons_zero]; exact rfl) (fun K hK => ?_) AllReadyH.nil
                  have hoy : Own Wy (wb.heap.size + 1) wr.heap.size 4 vM (bls (T.take k)) := by rw [HWY.out]; exact HOy.out.alloc _
                  have hry : Rd Wy (wy.heap.size + 1) (some ⟨wy.heap.size, 0, none⟩) [.bool mm] := by rw [HWY.out]; exact Rd.one wy _ _
                  have hGy : Blk Wy wb.heap.size 28 #[.slice (some ⟨bC, oC, none⟩) C.length cC, vM] := by rw [HWY.out]; exact HGy.out.alloc _
                  have hBy : Below wb.heap.size wb Wy := by rw [HWY.out]; exact HBy.out.alloc HBy.out.size _
                  have hsy : wy.heap.size ≤ Wy.heap.size := by rw [HWY.out]; simp
                  refine step_append_o Wy rfl (.tmp 64) (.tmp 74) 23 rfl (wb.heap.size + 1) wr.heap.size 4 ib (.bool false) 1 Try.underlying23 hib hx0 hx1 hx2 rfl vM (bls (T.take k)) rfl hoy (wy.heap.size + 1) (some ⟨wy.heap.size, 0, none⟩) 1 1 [.bool mm] rfl hry rfl (by simp; rfl) (by unfold maxLen; omega) (by omega) (by have := HHG.out.lt; omega) (fun v' w5 ho5 hg5 hat5 => ?_)
                  have hb5 := hBy.grown hg5 hBy.size (fun g hg => by have := hoy.base g hg; omega)
                  have hG5 := hGy.grown hg5 (fun e => by have := hoy.base _ e.symm; omega)
                  have hS5 : (fun w' => w'.cell? ⟨bC, oC + k, none⟩ = some (.int .i64 x) ∧ Below wb.heap.size wb w') w5 := ⟨HC5.out w5 hb5, hb5⟩
                  refine hK.out _ _ hS5 (fun hS4 => ?_)
                  clear hK K
                  try simp only [Act.put, List.setIfInBounds_toArray, List.set_cons_zero, List.set_cons_succ, List.toList_toArray]
                  have r4 : w5.cell? ⟨wb.heap.size, 1, none⟩ = some vM := hG5.cell 1
                  have r5 : w5.frozen? ⟨wb.heap.size, 1, none⟩ = false := hG5.free 1
                  refine wpAnyH_take (i := 13) (v := .pointer (some ⟨wb.heap.size, 1, none⟩)) (by simp only [List.getElem?_toArray, List.getElem?_cons_succ, List.getElem?_cons_zero]; exact rfl) (by kernel_rfl) (by kernel_rfl) (by kernel_rfl) (by intro _ _ _ h; exact h) (Or.inl ⟨by kernel_rfl, by intro w hSw; go_simp⟩) (by assumption) ?_
                  simp only [Act.put, List.setIfInBounds_toArray, List.set_cons_zero, List.set_cons_succ, List.toList_toArray]
                  refine wpAnyH_ready (rs := [14]) (by kernel_rfl) (by simp) ?_
                  refine AllReadyH.cons (o := _) (by simp only [List.getElem?_toArray, List.getElem?_cons_succ, List.getElem?_cons_zero]; exact rfl) (fun K hK => ?_) AllReadyH.nil
                  rw [if_pos (by rfl)]
                  refine oper_store_one 23 (.tmp 76) (.tmp 75) rfl ⟨wb.heap.size, 1, none⟩ rfl (w' := w5.setCell ⟨wb.heap.size, 1, none⟩ v') (by have hq := r4; have hq' := r5; obtain ⟨av, cv, rfl⟩ := ho5.form; go_simp) ?_
                  obtain ⟨w6, hw6⟩ : ∃ w6, w6 = w5.setCell ⟨wb.heap.size, 1, none⟩ v' := ⟨_, rfl⟩
                  rw [← hw6]
                  have hb6 : Below wb.heap.size wb w6 := by rw [hw6]; exact hb5.setCell (show wb.heap.size ≤ wb.heap.size from Nat.le_refl _) _
                  have hG6 : Blk w6 wb.heap.size 28 #[.slice (some ⟨bC, oC, none⟩) C.length cC, v'] := by rw [hw6]; exact hG5.set 1 v'
                  have hs6 : w6.heap.size = w5.heap.size := by rw [hw6]; simp [World.setCell]
                  have ho6 : Own w6 (wb.heap.size + 1) w6.heap.size 4 v' (bls (T.take k) ++ [.bool mm]) := by rw [hs6]; exact ho5.keep (by omega) (fun g hg => by rw [hw6]; exact Below.heap_setCell _ _ _ g (show g ≠ wb.heap.size by have := ho5.base g hg; omega))
                  have hS6 : (fun w' => w'.cell? ⟨bC, oC + k, none⟩ = some (.int .i64 x) ∧ Below wb.heap.size wb w') w6 := ⟨HC5.out w6 hb6, hb6⟩
                  refine hK.out _ _ hS6 (fun hS9 => ?_)
                  clear hK K
                  try simp only [Act.put, List.setIfInBounds_toArray, List.set_cons_zero, List.set_cons_succ, List.toList_toArray]
                  refine wpAnyH_done (by kernel_rfl) ?_ _
                  try simp only [Act.put, List.setIfInBounds_toArray, List.set_cons_zero, List.set_cons_succ]
                  have HO6 := Lib.hid ho6
                  have HB6 := Lib.hid hb6
                  have HG6 := Lib.hid hG6
                  clear ho6 hb6 hG6 hw6 hS6 hS9 hb5 hG5 r4 r5 ho5 hg5 hat5 hoy hry hGy hBy hS5 hSy
                  go_wp2_with fail
                  go_roundw
                  case rel => exact ⟨k + 1, by omega, by go_num, HB6.out, _, HG6.out, by rw [HTK.out, bls, List.map_append]; exact HO6.out⟩
                  case measure => simp [intOf]; omega
                refine AllReadyH.cons (o := _) (by simp only [List.getElem?_toArray, List.getElem?_cons_succ, List.getElem?_cons_zero]; exact rfl) (fun K hK => ?_) AllReadyH.nil
                rw [if_pos (by rfl)]
                go_simp
                go_at_call 57
                refine (hasInt_any a ca Ba P x _ (HRB.out _ hS0.2) hl).mono ?_
                rintro e wq ⟨rfl, rfl⟩
                rw [HMM.out]
                refine hK.out _ _ hS0 (fun hS8 => ?_)
                clear hK K
                try simp only [Act.put, List.setIfInBounds_toArray, List.set_cons_zero, List.set_cons_succ, List.toList_toArray]
                refine wpAnyH_take (i := 10) (v := .bool mm) (by simp only [List.getElem?_toArray, List.getElem?_cons_succ, List.getElem?_cons_zero]; exact rfl) (by kernel_rfl) (by kernel_rfl) (by kernel_rfl) (by intro _ _ _ h; exact h) (Or.inl ⟨by kernel_rfl, by intro w hSw; go_simp⟩) (by assumption) ?_
                simp only [Act.put, List.setIfInBounds_toArray, List.set_cons_zero, List.set_cons_succ, List.toList_toArray]
                refine wpAnyH_ready (rs := [1, 11]) (by kernel_rfl) (by simp) ?_
                refine AllReadyH.cons (o := _) (by simp only [List.getElem?_toArray, List.getElem?_cons_succ, List.getElem?_cons_zero]; exact rfl) (fun K hK => ?_) ?_
                · skip
                  rw [if_pos (by rfl)]
                  go_simp
                  refine hK.out _ _ hS8 (fun hS1 => ?_)
                  clear hK K
                  try simp only [Act.put, List.setIfInBounds_toArray, List.set_cons_zero, List.set_cons_succ, List.toList_toArray]
                  refine wpAnyH_ready (rs := [11]) (by kernel_rfl) (by simp) ?_
                  refine AllReadyH.cons (o := _) (by simp only [List.getElem?_toArray, List.getElem?_cons_succ, List.getElem?_cons_zero]; exact rfl) (fun K hK => ?_) AllReadyH.nil
                  rw [if_pos (by rfl)]
                  go_simp
                  have hWe : ∃ Wy, Wy = wy.alloc (.cells #[.bool mm] 4) := ⟨_, rfl⟩
                  obtain ⟨Wy, hWy⟩ := hWe
                  have hSy : (fun w' => w'.cell? ⟨bC, oC + k, none⟩ = some (.int .i64 x) ∧ Below wb.heap.size wb w') Wy := by obtain ⟨s1, s2⟩ := hS1; rw [hWy]; exact ⟨cell_alloc s1, s2.alloc s2.size _⟩
                  rw [← hWy]
                  have HWY := Lib.hid hWy
                  clear hWy
                  refine hK.out _ _ hSy (fun hS2 => ?_)
                  clear hK K
                  try simp only [Act.put, List.setIfInBounds_toArray, List.set_cons_zero, List.set_cons_succ, List.toList_toArray]
                  refine wpAnyH_ready (rs := [12]) (by kernel_rfl) (by simp) ?_
                  refine AllReadyH.cons (o := _) (by simp only [List.getElem?_toArray, List.getElem?_cons_succ, List.getElem?_cons_zero]; exact rfl) (fun K hK => ?_) AllReadyH.nil
                  have hoy : Own Wy (wb.heap.size + 1) wr.heap.size 4 vM (bls (T.take k)) := by rw [HWY.out]; exact HOy.out.alloc _
                  have hry : Rd Wy (wy.heap.size + 1) (some ⟨wy.heap.size, 0, none⟩) [.bool mm] := by rw [HWY.out]; exact Rd.one wy _ _
                  have hGy : Blk Wy wb.heap.size 28 #[.slice (some ⟨bC, oC, none⟩) C.length cC, vM] := by rw [HWY.out]; exact HGy.out.alloc _
                  have hBy : Below wb.heap.size wb Wy := by rw [HWY.out]; exact HBy.out.alloc HBy.out.size _
                  have hsy : wy.heap.size ≤ Wy.heap.size := by rw [HWY.out]; simp
                  refine step_append_o Wy rfl (.tmp 64) (.tmp 74) 23 rfl (wb.heap.size + 1) wr.heap.size 4 ib (.bool false) 1 Try.underlying23 hib hx0 hx1 hx2 rfl vM (bls (T.take k)) rfl hoy (wy.heap.size + 1) (some ⟨wy.heap.size, 0, none⟩) 1 1 [.bool mm] rfl hry rfl (by simp; rfl) (by unfold maxLen; omega) (by omega) (by have := HHG.out.lt; omega) (fun v' w5 ho5 hg5 hat5 => ?_)
                  have hb5 := hBy.grown hg5 hBy.size (fun g hg => by have := hoy.base g hg; omega)
                  have hG5 := hGy.grown hg5 (fun e => by have := hoy.base _ e.symm; omega)
                  have hS5 : (fun w' => w'.cell? ⟨bC, oC + k, none⟩ = some (.int .i64 x) ∧ Below wb.heap.size wb w') w5 := ⟨HC5.out w5 hb5, hb5⟩
                  refine hK.out _ _ hS5 (fun hS4 => ?_)
                  clear hK K
                  try simp only [Act.put, List.setIfInBounds_toArray, List.set_cons_zero, List.set_cons_succ, List.toList_toArray]
                  have r4 : w5.cell? ⟨wb.heap.size, 1, none⟩ = some vM := hG5.cell 1
                  have r5 : w5.frozen? ⟨wb.heap.size, 1, none⟩ = false := hG5.free 1
                  refine wpAnyH_take (i := 13) (v := .pointer (some ⟨wb.heap.size, 1, none⟩)) (by simp only [List.getElem?_toArray, List.getElem?_cons_succ, List.getElem?_cons_zero]; exact rfl) (by kernel_rfl) (by kernel_rfl) (by kernel_rfl) (by intro _ _ _ h; exact h) (Or.inl ⟨by kernel_rfl, by intro w hSw; go_simp⟩) (by assumption) ?_
                  simp only [Act.put, List.setIfInBounds_toArray, List.set_cons_zero, List.set_cons_succ, List.toList_toArray]
                  refine wpAnyH_ready (rs := [14]) (by kernel_rfl) (by simp) ?_
                  refine AllReadyH.cons (o := _) (by simp only [List.getElem?_toArray, List.getElem?_cons_succ, List.getElem?_cons_zero]; exact rfl) (fun K hK => ?_) AllReadyH.nil
                  rw [if_pos (by rfl)]
                  refine oper_store_one 23 (.tmp 76) (.tmp 75) rfl ⟨wb.heap.size, 1, none⟩ rfl (w' := w5.setCell ⟨wb.heap.size, 1, none⟩ v') (by have hq := r4; have hq' := r5; obtain ⟨av, cv, rfl⟩ := ho5.form; go_simp) ?_
                  obtain ⟨w6, hw6⟩ : ∃ w6, w6 = w5.setCell ⟨wb.heap.size, 1, none⟩ v' := ⟨_, rfl⟩
                  rw [← hw6]
                  have hb6 : Below wb.heap.size wb w6 := by rw [hw6]; exact hb5.setCell (show wb.heap.size ≤ wb.heap.size from Nat.le_refl _) _
                  have hG6 : Blk w6 wb.heap.size 28 #[.slice (some ⟨bC, oC, none⟩) C.length cC, v'] := by rw [hw6]; exact hG5.set 1 v'
                  have hs6 : w6.heap.size = w5.heap.size := by rw [hw6]; simp [World.setCell]
                  have ho6 : Own w6 (wb.heap.size + 1) w6.heap.size 4 v' (bls (T.take k) ++ [.bool mm]) := by rw [hs6]; exact ho5.keep (by omega) (fun g hg => by rw [hw6]; exact Below.heap_setCell _ _ _ g (show g ≠ wb.heap.size by have := ho5.base g hg; omega))
                  have hS6 : (fun w' => w'.cell? ⟨bC, oC + k, none⟩ = some (.int .i64 x) ∧ Below wb.heap.size wb w') w6 := ⟨HC5.out w6 hb6, hb6⟩
                  refine hK.out _ _ hS6 (fun hS9 => ?_)
                  clear hK K
                  try simp only [Act.put, List.setIfInBounds_toArray, List.set_cons_zero, List.set_cons_succ, List.toList_toArray]
                  refine wpAnyH_done (by kernel_rfl) ?_ _
                  try simp only [Act.put, List.setIfInBounds_toArray, List.set_cons_zero, List.set_cons_succ]
                  have HO6 := Lib.hid ho6
                  have HB6 := Lib.hid hb6
                  have HG6 := Lib.hid hG6
                  clear ho6 hb6 hG6 hw6 hS6 hS9 hb5 hG5 r4 r5 ho5 hg5 hat5 hoy hry hGy hBy hS5 hSy
                  go_wp2_with fail
                  go_roundw
                  case rel => exact ⟨k + 1, by omega, by go_num, HB6.out, _, HG6.out, by rw [HTK.out, bls, List.map_append]; exact HO6.out⟩
                  case measure => simp [intOf]; omega
                refine AllReadyH.cons (o := _) (by simp only [List.getElem?_toArray, List.getElem?_cons_succ, List.getElem?_cons_zero]; exact rfl) (fun K hK => ?_) AllReadyH.nil
                rw [if_pos (by rfl)]
                go_simp
                have hWe : ∃ Wy, Wy = wy.alloc (.cells #[.bool mm] 4) := ⟨_, rfl⟩
                obtain ⟨Wy, hWy⟩ := hWe
                have hSy : (fun w' => w'.cell? ⟨bC, oC + k, none⟩ = some (.int .i64 x) ∧ Below wb.heap.size wb w') Wy := by obtain ⟨s1, s2⟩ := hS8; rw [hWy]; exact ⟨cell_alloc s1, s2.alloc s2.size _⟩
                rw [← hWy]
                have HWY := Lib.hid hWy
                clear hWy
                refine hK.out _ _ hSy (fun hS2 => ?_)
                clear hK K
                try simp only [Act.put, List.setIfInBounds_toArray, List.set_cons_zero, List.set_cons_succ, List.toList_toArray]
                refine wpAnyH_ready (rs := [1]) (by kernel_rfl) (by simp) ?_
                refine AllReadyH.cons (o := _) (by simp only [List.getElem?_toArray, List.getElem?_cons_succ, List.getElem?_cons_zero]; exact rfl) (fun K hK => ?_) AllReadyH.nil
                have r9 : Wy.cell? ⟨wb.heap.size, 1, none⟩ = some vM := by rw [HWY.out]; exact cell_alloc q4y
                rw [if_pos (by rfl)]
                go_simp
                refine hK.out _ _ hS2 (fun hS3 => ?_)
                clear hK K
                try simp only [Act.put, List.setIfInBounds_toArray, List.set_cons_zero, List.set_cons_succ, List.toList_toArray]
                refine wpAnyH_ready (rs := [12]) (by kernel_rfl) (by simp) ?_
                refine AllReadyH.cons (o := _) (by simp only [List.getElem?_toArray, List.getElem?_cons_succ, List.getElem?_cons_zero]; exact rfl) (fun K hK => ?_) AllReadyH.nil
                have hoy : Own Wy (wb.heap.size + 1) wr.heap.size 4 vM (bls (T.take k)) := by rw [HWY.out]; exact HOy.out.alloc _
                have hry : Rd Wy (wy.heap.size + 1) (some ⟨wy.heap.size, 0, none⟩) [.bool mm] := by rw [HWY.out]; exact Rd.one wy _ _
                have hGy : Blk Wy wb.heap.size 28 #[.slice (some ⟨bC, oC, none⟩) C.length cC, vM] := by rw [HWY.out]; exact HGy.out.alloc _
                have hBy : Below wb.heap.size wb Wy := by rw [HWY.out]; exact HBy.out.alloc HBy.out.size _
                have hsy : wy.heap.size ≤ Wy.heap.size := by rw [HWY.out]; simp
                refine step_append_o Wy rfl (.tmp 64) (.tmp 74) 23 rfl (wb.heap.size + 1) wr.heap.size 4 ib (.bool false) 1 Try.underlying23 hib hx0 hx1 hx2 rfl vM (bls (T.take k)) rfl hoy (wy.heap.size + 1) (some ⟨wy.heap.size, 0, none⟩) 1 1 [.bool mm] rfl hry rfl (by simp; rfl) (by unfold maxLen; omega) (by omega) (by have := HHG.out.lt; omega) (fun v' w5 ho5 hg5 hat5 => ?_)
                have hb5 := hBy.grown hg5 hBy.size (fun g hg => by have := hoy.base g hg; omega)
                have hG5 := hGy.grown hg5 (fun e => by have := hoy.base _ e.symm; omega)
                have hS5 : (fun w' => w'.cell? ⟨bC, oC + k, none⟩ = some (.int .i64 x) ∧ Below wb.heap.size wb w') w5 := ⟨HC5.out w5 hb5, hb5⟩
                refine hK.out _ _ hS5 (fun hS4 => ?_)
                clear hK K
                try simp only [Act.put, List.setIfInBounds_toArray, List.set_cons_zero, List.set_cons_succ, List.toList_toArray]
                have r4 : w5.cell? ⟨wb.heap.size, 1, none⟩ = some vM := hG5.cell 1
                have r5 : w5.frozen? ⟨wb.heap.size, 1, none⟩ = false := hG5.free 1
                refine wpAnyH_take (i := 13) (v := .pointer (some ⟨wb.heap.size, 1, none⟩)) (by simp only [List.getElem?_toArray, List.getElem?_cons_succ, List.getElem?_cons_zero]; exact rfl) (by kernel_rfl) (by kernel_rfl) (by kernel_rfl) (by intro _ _ _ h; exact h) (Or.inl ⟨by kernel_rfl, by intro w hSw; go_simp⟩) (by assumption) ?_
                simp only [Act.put, List.setIfInBounds_toArray, List.set_cons_zero, List.set_cons_succ, List.toList_toArray]
                refine wpAnyH_ready (rs := [14]) (by kernel_rfl) (by simp) ?_
                refine AllReadyH.cons (o := _) (by simp only [List.getElem?_toArray, List.getElem?_cons_succ, List.getElem?_cons_zero]; exact rfl) (fun K hK => ?_) AllReadyH.nil
                rw [if_pos (by rfl)]
                refine oper_store_one 23 (.tmp 76) (.tmp 75) rfl ⟨wb.heap.size, 1, none⟩ rfl (w' := w5.setCell ⟨wb.heap.size, 1, none⟩ v') (by have hq := r4; have hq' := r5; obtain ⟨av, cv, rfl⟩ := ho5.form; go_simp) ?_
                obtain ⟨w6, hw6⟩ : ∃ w6, w6 = w5.setCell ⟨wb.heap.size, 1, none⟩ v' := ⟨_, rfl⟩
                rw [← hw6]
                have hb6 : Below wb.heap.size wb w6 := by rw [hw6]; exact hb5.setCell (show wb.heap.size ≤ wb.heap.size from Nat.le_refl _) _
                have hG6 : Blk w6 wb.heap.size 28 #[.slice (some ⟨bC, oC, none⟩) C.length cC, v'] := by rw [hw6]; exact hG5.set 1 v'
                have hs6 : w6.heap.size = w5.heap.size := by rw [hw6]; simp [World.setCell]
                have ho6 : Own w6 (wb.heap.size + 1) w6.heap.size 4 v' (bls (T.take k) ++ [.bool mm]) := by rw [hs6]; exact ho5.keep (by omega) (fun g hg => by rw [hw6]; exact Below.heap_setCell _ _ _ g (show g ≠ wb.heap.size by have := ho5.base g hg; omega))
                have hS6 : (fun w' => w'.cell? ⟨bC, oC + k, none⟩ = some (.int .i64 x) ∧ Below wb.heap.size wb w') w6 := ⟨HC5.out w6 hb6, hb6⟩
                refine hK.out _ _ hS6 (fun hS9 => ?_)
                clear hK K
                try simp only [Act.put, List.setIfInBounds_toArray, List.set_cons_zero, List.set_cons_succ, List.toList_toArray]
                refine wpAnyH_done (by kernel_rfl) ?_ _
                try simp only [Act.put, List.setIfInBounds_toArray, List.set_cons_zero, List.set_cons_succ]
                have HO6 := Lib.hid ho6
                have HB6 := Lib.hid hb6
                have HG6 := Lib.hid hG6
                clear ho6 hb6 hG6 hw6 hS6 hS9 hb5 hG5 r4 r5 ho5 hg5 hat5 hoy hry hGy hBy hS5 hSy
                go_wp2_with fail
                go_roundw
                case rel => exact ⟨k + 1, by omega, by go_num, HB6.out, _, HG6.out, by rw [HTK.out, bls, List.map_append]; exact HO6.out⟩
                case measure => simp [intOf]; omega
              · have hne : ((k : Int) + 1 == (C.length : Int)) = false := beq_eq_false_iff_ne.2 (by omega)
                have hlt2 : k + 1 < C.length := by omega
                have hlt2' : (k : Int) + 1 < (C.length : Int) := by omega
                obtain ⟨b9, o9, e9, _, hcN⟩ := (HRC.out.below hbel).at_ hlt2
                injection e9 with e9; injection e9 with e9 e8; subst e9 e8
                have HIC : Hid (isC C k = decide (C[k + 1] < x)) := Lib.hid (by unfold isC; rw [decide_eq_false hend, Bool.false_or, getD_lt hlt2, HGK.out])
                generalize C[k + 1] = y at hcN HIC
                by_cases hy : y < x
                · have hyd : decide (y < x) = true := decide_eq_true hy
                  rw [HIC.out, hyd, Bool.true_and] at HTK
                  clear hend
                  go_wp2_with fail
                  go_quiet (fail)
                  go_wp2_with fail
                  rename_i nq
                  refine wp_region_held_drew (S := fun w' => w'.cell? ⟨bC, oC + k, none⟩ = some (.int .i64 x) ∧ Below wb.heap.size wb w') (by kernel_rfl) ⟨hcC, hbel.trans (((Dr.n wr nq).below _).trans ((Dr.n _ 1).below _))⟩ (fun hS0 => ?_)
                  obtain ⟨wy, hwy⟩ : ∃ wy, wy = (wr.drewN nq).drew := ⟨_, rfl⟩
                  have HGy : Hid (Blk wy wb.heap.size 28 #[.slice (some ⟨bC, oC, none⟩) C.length cC, vM]) := Lib.hid (by rw [hwy]; exact (HHG.out.drewN nq).drew)
                  have HOy : Hid (Own wy (wb.heap.size + 1) wr.heap.size 4 vM (bls (T.take k))) := Lib.hid (by rw [hwy]; exact (HO.out.dr (Dr.n wr nq)).drew)
                  have HBy : Hid (Below wb.heap.size wb wy) := Lib.hid (by rw [hwy]; exact (hbel.trans ((Dr.n wr nq).below _)).trans ((Dr.n _ 1).below _))
                  have q4y : wy.cell? ⟨wb.heap.size, 1, none⟩ = some vM := by rw [hwy]; exact q4
                  have hwys : wr.heap.size ≤ wy.heap.size := by rw [hwy]; exact Nat.le_refl _
                  rw [← hwy] at hS0 ⊢
                  clear hwy
                  refine wpAnyH_take (i := 0) (v := .pointer (some ⟨wb.heap.size, 1, none⟩)) (by simp only [List.getElem?_toArray, List.getElem?_cons_succ, List.getElem?_cons_zero]; exact rfl) (by kernel_rfl) (by kernel_rfl) (by kernel_rfl) (by intro _ _ _ h; exact h) (Or.inl ⟨by kernel_rfl, by intro w hSw; go_simp⟩) (by assumption) ?_
                  simp only [Act.put, List.setIfInBounds_toArray, List.set_cons_zero, List.set_cons_succ, List.toList_toArray]
                  refine wpAnyH_take (i := 2) (v := .bool true) (by simp only [List.getElem?_toArray, List.getElem?_cons_succ, List.getElem?_cons_zero]; exact rfl) (by kernel_rfl) (by kernel_rfl) (by kernel_rfl) (by intro _ _ _ h; exact h) (Or.inl ⟨by kernel_rfl, by intro w hSw; go_simp⟩) (by assumption) ?_
                  simp only [Act.put, List.setIfInBounds_toArray, List.set_cons_zero, List.set_cons_succ, List.toList_toArray]
                  refine wpAnyH_take (i := 3) (v := .bool true) (by simp only [List.getElem?_toArray, List.getElem?_cons_succ, List.getElem?_cons_zero]; exact rfl) (by kernel_rfl) (by kernel_rfl) (by kernel_rfl) (by intro _ _ _ h; exact h) (Or.inl ⟨by kernel_rfl, by intro w hSw; go_simp⟩) (by assumption) ?_
                  simp only [Act.put, List.setIfInBounds_toArray, List.set_cons_zero, List.set_cons_succ, List.toList_toArray]
                  refine wpAnyH_take (i := 4) (v := .slice a P.length ca) (by simp only [List.getElem?_toArray, List.getElem?_cons_succ, List.getElem?_cons_zero]; exact rfl) (by kernel_rfl) (by kernel_rfl) (by kernel_rfl) (by intro _ _ _ h; exact h) (Or.inl ⟨by kernel_rfl, by intro w hSw; go_simp⟩) (by assumption) ?_
                  simp only [Act.put, List.setIfInBounds_toArray, List.set_cons_zero, List.set_cons_succ, List.toList_toArray]
                  refine wpAnyH_take (i := 5) (v := .slice (some ⟨bC, oC, none⟩) C.length cC) (by simp only [List.getElem?_toArray, List.getElem?_cons_succ, List.getElem?_cons_zero]; exact rfl) (by kernel_rfl) (by kernel_rfl) (by kernel_rfl) (by intro _ _ _ h; exact h) (Or.inl ⟨by kernel_rfl, by intro w hSw; go_simp⟩) (by assumption) ?_
                  simp only [Act.put, List.setIfInBounds_toArray, List.set_cons_zero, List.set_cons_succ, List.toList_toArray]
                  refine wpAnyH_take (i := 6) (v := .int .i64 (k : Int)) (by simp only [List.getElem?_toArray, List.getElem?_cons_succ, List.getElem?_cons_zero]; exact rfl) (by kernel_rfl) (by kernel_rfl) (by kernel_rfl) (by intro _ _ _ h; exact h) (Or.inl ⟨by kernel_rfl, by intro w hSw; go_simp⟩) (by assumption) ?_
                  simp only [Act.put, List.setIfInBounds_toArray, List.set_cons_zero, List.set_cons_succ, List.toList_toArray]
                  refine wpAnyH_take (i := 7) (v := .pointer (some ⟨bC, oC + k, none⟩)) (by simp only [List.getElem?_toArray, List.getElem?_cons_succ, List.getElem?_cons_zero]; exact rfl) (by kernel_rfl) (by kernel_rfl) (by kernel_rfl) (by intro _ _ _ h; exact h) (Or.inl ⟨by kernel_rfl, by intro w hSw; go_simp⟩) (by assumption) ?_
                  simp only [Act.put, List.setIfInBounds_toArray, List.set_cons_zero, List.set_cons_succ, List.toList_toArray]
                  refine wpAnyH_take (i := 8) (v := .int .i64 x) (by simp only [List.getElem?_toArray, List.getElem?_cons_succ, List.getElem?_cons_zero]; exact rfl) (by kernel_rfl) (by kernel_rfl) (by kernel_rfl) (by intro _ _ _ h; exact h) (Or.inl ⟨by kernel_rfl, by intro w hSw; obtain ⟨s1, s2⟩ := hSw; go_simp⟩) (by assumption) ?_
                  simp only [Act.put, List.setIfInBounds_toArray, List.set_cons_zero, List.set_cons_succ, List.toList_toArray]
                  refine wpAnyH_ready (rs := [1, 9]) (by kernel_rfl) (by simp) ?_
                  refine AllReadyH.cons (o := _) (by simp only [List.getElem?_toArray, List.getElem?_cons_succ, List.getElem?_cons_zero]; exact rfl) (fun K hK => ?_) ?_
                  · skip
                    rw [if_pos (by rfl)]
                    go_simp
                    refine hK.out _ _ hS0 (fun hS1 => ?_)
                    clear hK K
                    try simp only [Act.put, List.setIfInBounds_toArray, List.set_cons_zero, List.set_cons_succ, List.toList_toArray]
                    refine wpAnyH_ready (rs := [9]) (by kernel_rfl) (by simp) ?_
                    refine AllReadyH.cons (o := _) (by simp only [List.getElem?_toArray, List.getElem?_cons_succ, List.getElem?_cons_zero]; exact rfl) (fun K hK => ?_) AllReadyH.nil
                    rw [if_pos (by rfl)]
                    go_simp
                    go_at_call 57
                    refine (hasInt_any a ca Ba P x _ (HRB.out _ hS1.2) hl).mono ?_
                    rintro e wq ⟨rfl, rfl⟩
                    rw [HMM.out]
                    refine hK.out _ _ hS1 (fun hS7 => ?_)
                    clear hK K
                    try simp only [Act.put, List.setIfInBounds_toArray, List.set_cons_zero, List.set_cons_succ, List.toList_toArray]
                    refine wpAnyH_take (i := 10) (v := .bool mm) (by simp only [List.getElem?_toArray, List.getElem?_cons_succ, List.getElem?_cons_zero]; exact rfl) (by kernel_rfl) (by kernel_rfl) (by kernel_rfl) (by intro _ _ _ h; exact h) (Or.inl ⟨by kernel_rfl, by intro w hSw; go_simp⟩) (by assumption) ?_
                    simp only [Act.put, List.setIfInBounds_toArray, List.set_cons_zero, List.set_cons_succ, List.toList_toArray]
                    refine wpAnyH_ready (rs := [11]) (by kernel_rfl) (by simp) ?_
                    refine AllReadyH.cons (o := _) (by simp only [List.getElem?_toArray, List.getElem?_cons_succ, List.getElem?_cons_zero]; exact rfl) (fun K hK => ?_) AllReadyH.nil
                    rw [if_pos (by rfl)]
                    go_simp
                    have hWe : ∃ Wy, Wy = wy.alloc (.cells #[.bool mm] 4) := ⟨_, rfl⟩
                    obtain ⟨Wy, hWy⟩ := hWe
                    have hSy : (fun w' => w'.cell? ⟨bC, oC + k, none⟩ = some (.int .i64 x) ∧ Below wb.heap.size wb w') Wy := by obtain ⟨s1, s2⟩ := hS7; rw [hWy]; exact ⟨cell_alloc s1, s2.alloc s2.size _⟩
                    rw [← hWy]
                    have HWY := Lib.hid hWy
                    clear hWy
                    refine hK.out _ _ hSy (fun hS2 => ?_)
                    clear hK K
                    try simp only [Act.put, List.setIfInBounds_toArray, List.set_cons_zero, List.set_cons_succ, List.toList_toArray]
                    refine wpAnyH_ready (rs := [12]) (by kernel_rfl) (by simp) ?_
                    refine AllReadyH.cons (o := _) (by simp only [List.getElem?_toArray, List.getElem?_cons_succ, List.getElem?_cons_zero]; exact rfl) (fun K hK => ?_) AllReadyH.nil
                    have hoy : Own Wy (wb.heap.size + 1) wr.heap.size 4 vM (bls (T.take k)) := by rw [HWY.out]; exact HOy.out.alloc _
                    have hry : Rd Wy (wy.heap.size + 1) (some ⟨wy.heap.size, 0, none⟩) [.bool mm] := by rw [HWY.out]; exact Rd.one wy _ _
                    have hGy : Blk Wy wb.heap.size 28 #[.slice (some ⟨bC, oC, none⟩) C.length cC, vM] := by rw [HWY.out]; exact HGy.out.alloc _
                    have hBy : Below wb.heap.size wb Wy := by rw [HWY.out]; exact HBy.out.alloc HBy.out.size _
                    have hsy : wy.heap.size ≤ Wy.heap.size := by rw [HWY.out]; simp
                    refine step_append_o Wy rfl (.tmp 64) (.tmp 74) 23 rfl (wb.heap.size + 1) wr.heap.size 4 ib (.bool false) 1 Try.underlying23 hib hx0 hx1 hx2 rfl vM (bls (T.take k)) rfl hoy (wy.heap.size + 1) (some ⟨wy.heap.size, 0, none⟩) 1 1 [.bool mm] rfl hry rfl (by simp; rfl) (by unfold maxLen; omega) (by omega) (by have := HHG.out.lt; omega) (fun v' w5 ho5 hg5 hat5 => ?_)
                    have hb5 := hBy.grown hg5 hBy.size (fun g hg => by have := hoy.base g hg; omega)
                    have hG5 := hGy.grown hg5 (fun e => by have := hoy.base _ e.symm; omega)
                    have hS5 : (fun w' => w'.cell? ⟨bC, oC + k, none⟩ = some (.int .i64 x) ∧ Below wb.heap.size wb w') w5 := ⟨HC5.out w5 hb5, hb5⟩
                    refine hK.out _ _ hS5 (fun hS4 => ?_)
                    clear hK K
                    try simp only [Act.put, List.setIfInBounds_toArray, List.set_cons_zero, List.set_cons_succ, List.toList_toArray]
                    have r4 : w5.cell? ⟨wb.heap.size, 1, none⟩ = some vM := hG5.cell 1
                    have r5 : w5.frozen? ⟨wb.heap.size, 1, none⟩ = false := hG5.free 1
                    refine wpAnyH_take (i := 13) (v := .pointer (some ⟨wb.heap.size, 1, none⟩)) (by simp only [List.getElem?_toArray, List.getElem?_cons_succ, List.getElem?_cons_zero]; exact rfl) (by kernel_rfl) (by kernel_rfl) (by kernel_rfl) (by intro _ _ _ h; exact h) (Or.inl ⟨by kernel_rfl, by intro w hSw; go_simp⟩) (by assumption) ?_
                    simp only [Act.put, List.setIfInBounds_toArray, List.set_cons_zero, List.set_cons_succ, List.toList_toArray]
                    refine wpAnyH_ready (rs := [14]) (by kernel_rfl) (by simp) ?_
                    refine AllReadyH.cons (o := _) (by simp only [List.getElem?_toArray, List.getElem?_cons_succ, List.getElem?_cons_zero]; exact rfl) (fun K hK => ?_) AllReadyH.nil
                    rw [if_pos (by rfl)]
                    refine oper_store_one 23 (.tmp 76) (.tmp 75) rfl ⟨wb.heap.size, 1, none⟩ rfl (w' := w5.setCell ⟨wb.heap.size, 1, none⟩ v') (by have hq := r4; have hq' := r5; obtain ⟨av, cv, rfl⟩ := ho5.form; go_simp) ?_
                    obtain ⟨w6, hw6⟩ : ∃ w6, w6 = w5.setCell ⟨wb.heap.size, 1, none⟩ v' := ⟨_, rfl⟩
                    rw [← hw6]
                    have hb6 : Below wb.heap.size wb w6 := by rw [hw6]; exact hb5.setCell (show wb.heap.size ≤ wb.heap.size from Nat.le_refl _) _
                    have hG6 : Blk w6 wb.heap.size 28 #[.slice (some ⟨bC, oC, none⟩) C.length cC, v'] := by rw [hw6]; exact hG5.set 1 v'
                    have hs6 : w6.heap.size = w5.heap.size := by rw [hw6]; simp [World.setCell]
                    have ho6 : Own w6 (wb.heap.size + 1) w6.heap.size 4 v' (bls (T.take k) ++ [.bool mm]) := by rw [hs6]; exact ho5.keep (by omega) (fun g hg => by rw [hw6]; exact Below.heap_setCell _ _ _ g (show g ≠ wb.heap.size by have := ho5.base g hg; omega))
                    have hS6 : (fun w' => w'.cell? ⟨bC, oC + k, none⟩ = some (.int .i64 x) ∧ Below wb.heap.size wb w') w6 := ⟨HC5.out w6 hb6, hb6⟩
                    refine hK.out _ _ hS6 (fun hS9 => ?_)
                    clear hK K
                    try simp only [Act.put, List.setIfInBounds_toArray, List.set_cons_zero, List.set_cons_succ, List.toList_toArray]
                    refine wpAnyH_done (by kernel_rfl) ?_ _
                    try simp only [Act.put, List.setIfInBounds_toArray, List.set_cons_zero, List.set_cons_succ]
                    have HO6 := Lib.hid ho6
                    have HB6 := Lib.hid hb6
                    have HG6 := Lib.hid hG6
                    clear ho6 hb6 hG6 hw6 hS6 hS9 hb5 hG5 r4 r5 ho5 hg5 hat5 hoy hry hGy hBy hS5 hSy
                    go_wp2_with fail
                    go_roundw
                    case rel => exact ⟨k + 1, by omega, by go_num, HB6.out, _, HG6.out, by rw [HTK.out, bls, List.map_append]; exact HO6.out⟩
                    case measure => simp [intOf]; omega
                  refine AllReadyH.cons (o := _) (by simp only [List.getElem?_toArray, List.getElem?_cons_succ, List.getElem?_cons_zero]; exact rfl) (fun K hK => ?_) AllReadyH.nil
                  rw [if_pos (by rfl)]
                  go_simp
                  go_at_call 57
                  refine (hasInt_any a ca Ba P x _ (HRB.out _ hS0.2) hl).mono ?_
                  rintro e wq ⟨rfl, rfl⟩
                  rw [HMM.out]
                  refine hK.out _ _ hS0 (fun hS8 => ?_)
                  clear hK K
                  try simp only [Act.put, List.setIfInBounds_toArray, List.set_cons_zero, List.set_cons_succ, List.toList_toArray]
                  refine wpAnyH_take (i := 10) (v := .bool mm) (by simp only [List.getElem?_toArray, List.getElem?_cons_succ, List.getElem?_cons_zero]; exact rfl) (by kernel_rfl) (by kernel_rfl) (by kernel_rfl) (by intro _ _ _ h; exact h) (Or.inl ⟨by kernel_rfl, by intro w hSw; go_simp⟩) (by assumption) ?_
                  simp only [Act.put, List.setIfInBounds_toArray, List.set_cons_zero, List.set_cons_succ, List.toList_toArray]
                  refine wpAnyH_ready (rs := [1, 11]) (by kernel_rfl) (by simp) ?_
                  refine AllReadyH.cons (o := _) (by simp only [List.getElem?_toArray, List.getElem?_cons_succ, List.getElem?_cons_zero]; exact rfl) (fun K hK => ?_) ?_
                  · skip
                    rw [if_pos (by rfl)]
                    go_simp
                    refine hK.out _ _ hS8 (fun hS1 => ?_)
                    clear hK K
                    try simp only [Act.put, List.setIfInBounds_toArray, List.set_cons_zero, List.set_cons_succ, List.toList_toArray]
                    refine wpAnyH_ready (rs := [11]) (by kernel_rfl) (by simp) ?_
                    refine AllReadyH.cons (o := _) (by simp only [List.getElem?_toArray, List.getElem?_cons_succ, List.getElem?_cons_zero]; exact rfl) (fun K hK => ?_) AllReadyH.nil
                    rw [if_pos (by rfl)]
                    go_simp
                    have hWe : ∃ Wy, Wy = wy.alloc (.cells #[.bool mm] 4) := ⟨_, rfl⟩
                    obtain ⟨Wy, hWy⟩ := hWe
                    have hSy : (fun w' => w'.cell? ⟨bC, oC + k, none⟩ = some (.int .i64 x) ∧ Below wb.heap.size wb w') Wy := by obtain ⟨s1, s2⟩ := hS1; rw [hWy]; exact ⟨cell_alloc s1, s2.alloc s2.size _⟩
                    rw [← hWy]
                    have HWY := Lib.hid hWy
                    clear hWy
                    refine hK.out _ _ hSy (fun hS2 => ?_)
                    clear hK K
                    try simp only [Act.put, List.setIfInBounds_toArray, List.set_cons_zero, List.set_cons_succ, List.toList_toArray]
                    refine wpAnyH_ready (rs := [12]) (by kernel_rfl) (by simp) ?_
                    refine AllReadyH.cons (o := _) (by simp only [List.getElem?_toArray, List.getElem?_cons_succ, List.getElem?_cons_zero]; exact rfl) (fun K hK => ?_) AllReadyH.nil
                    have hoy : Own Wy (wb.heap.size + 1) wr.heap.size 4 vM (bls (T.take k)) := by rw [HWY.out]; exact HOy.out.alloc _
                    have hry : Rd Wy (wy.heap.size + 1) (some ⟨wy.heap.size, 0, none⟩) [.bool mm] := by rw [HWY.out]; exact Rd.one wy _ _
                    have hGy : Blk Wy wb.heap.size 28 #[.slice (some ⟨bC, oC, none⟩) C.length cC, vM] := by rw [HWY.out]; exact HGy.out.alloc _
                    have hBy : Below wb.heap.size wb Wy := by rw [HWY.out]; exact HBy.out.alloc HBy.out.size _
                    have hsy : wy.heap.size ≤ Wy.heap.size := by rw [HWY.out]; simp
                    refine step_append_o Wy rfl (.tmp 64) (.tmp 74) 23 rfl (wb.heap.size + 1) wr.heap.size 4 ib (.bool false) 1 Try.underlying23 hib hx0 hx1 hx2 rfl vM (bls (T.take k)) rfl hoy (wy.heap.size + 1) (some ⟨wy.heap.size, 0, none⟩) 1 1 [.bool mm] rfl hry rfl (by simp; rfl) (by unfold maxLen; omega) (by omega) (by have := HHG.out.lt; omega) (fun v' w5 ho5 hg5 hat5 => ?_)
                    have hb5 := hBy.grown hg5 hBy.size (fun g hg => by have := hoy.base g hg; omega)
                    have hG5 := hGy.grown hg5 (fun e => by have := hoy.base _ e.symm; omega)
                    have hS5 : (fun w' => w'.cell? ⟨bC, oC + k, none⟩ = some (.int .i64 x) ∧ Below wb.heap.size wb w') w5 := ⟨HC5.out w5 hb5, hb5⟩
                    refine hK.out _ _ hS5 (fun hS4 => ?_)
                    clear hK K
                    try simp only [Act.put, List.setIfInBounds_toArray, List.set_cons_zero, List.set_cons_succ, List.toList_toArray]
                    have r4 : w5.cell? ⟨wb.heap.size, 1, none⟩ = some vM := hG5.cell 1
                    have r5 : w5.frozen? ⟨wb.heap.size, 1, none⟩ = false := hG5.free 1
                    refine wpAnyH_take (i := 13) (v := .pointer (some ⟨wb.heap.size, 1, none⟩)) (by simp only [List.getElem?_toArray, List.getElem?_cons_succ, List.getElem?_cons_zero]; exact rfl) (by kernel_rfl) (by kernel_rfl) (by kernel_rfl) (by intro _ _ _ h; exact h) (Or.inl ⟨by kernel_rfl, by intro w hSw; go_simp⟩) (by assumption) ?_
                    simp only [Act.put, List.setIfInBounds_toArray, List.set_cons_zero, List.set_cons_succ, List.toList_toArray]
                    refine wpAnyH_ready (rs := [14]) (by kernel_rfl) (by simp) ?_
                    refine AllReadyH.cons (o := _) (by simp only [List.getElem?_toArray, List.getElem?_cons_succ, List.getElem?_cons_zero]; exact rfl) (fun K hK => ?_) AllReadyH.nil
                    rw [if_pos (by rfl)]
                    refine oper_store_one 23 (.tmp 76) (.tmp 75) rfl ⟨wb.heap.size, 1, none⟩ rfl (w' := w5.setCell ⟨wb.heap.size, 1, none⟩ v') (by have hq := r4; have hq' := r5; obtain ⟨av, cv, rfl⟩ := ho5.form; go_simp) ?_
                    obtain ⟨w6, hw6⟩ : ∃ w6, w6 = w5.setCell ⟨wb.heap.size, 1, none⟩ v' := ⟨_, rfl⟩
                    rw [← hw6]
                    have hb6 : Below wb.heap.size wb w6 := by rw [hw6]; exact hb5.setCell (show wb.heap.size ≤ wb.heap.size from Nat.le_refl _) _
                    have hG6 : Blk w6 wb.heap.size 28 #[.slice (some ⟨bC, oC, none⟩) C.length cC, v'] := by rw [hw6]; exact hG5.set 1 v'
                    have hs6 : w6.heap.size = w5.heap.size := by rw [hw6]; simp [World.setCell]
                    have ho6 : Own w6 (wb.heap.size + 1) w6.heap.size 4 v' (bls (T.take k) ++ [.bool mm]) := by rw [hs6]; exact ho5.keep (by omega) (fun g hg => by rw [hw6]; exact Below.heap_setCell _ _ _ g (show g ≠ wb.heap.size by have := ho5.base g hg; omega))
                    have hS6 : (fun w' => w'.cell? ⟨bC, oC + k, none⟩ = some (.int .i64 x) ∧ Below wb.heap.size wb w') w6 := ⟨HC5.out w6 hb6, hb6⟩
                    refine hK.out _ _ hS6 (fun hS9 => ?_)
                    clear hK K
                    try simp only [Act.put, List.setIfInBounds_toArray, List.set_cons_zero, List.set_cons_succ, List.toList_toArray]
                    refine wpAnyH_done (by kernel_rfl) ?_ _
                    try simp only [Act.put, List.setIfInBounds_toArray, List.set_cons_zero, List.set_cons_succ]
                    have HO6 := Lib.hid ho6
                    have HB6 := Lib.hid hb6
                    have HG6 := Lib.hid hG6
                    clear ho6 hb6 hG6 hw6 hS6 hS9 hb5 hG5 r4 r5 ho5 hg5 hat5 hoy hry hGy hBy hS5 hSy
                    go_wp2_with fail
                    go_roundw
                    case rel => exact ⟨k + 1, by omega, by go_num, HB6.out, _, HG6.out, by rw [HTK.out, bls, List.map_append]; exact HO6.out⟩
                    case measure => simp [intOf]; omega
                  refine AllReadyH.cons (o := _) (by simp only [List.getElem?_toArray, List.getElem?_cons_succ, List.getElem?_cons_zero]; exact rfl) (fun K hK => ?_) AllReadyH.nil
                  rw [if_pos (by rfl)]
                  go_simp
                  have hWe : ∃ Wy, Wy = wy.alloc (.cells #[.bool mm] 4) := ⟨_, rfl⟩
                  obtain ⟨Wy, hWy⟩ := hWe
                  have hSy : (fun w' => w'.cell? ⟨bC, oC + k, none⟩ = some (.int .i64 x) ∧ Below wb.heap.size wb w') Wy := by obtain ⟨s1, s2⟩ := hS8; rw [hWy]; exact ⟨cell_alloc s1, s2.alloc s2.size _⟩
                  rw [← hWy]
                  have HWY := Lib.hid hWy
                  clear hWy
                  refine hK.out _ _ hSy (fun hS2 => ?_)
                  clear hK K
                  try simp only [Act.put, List.setIfInBounds_toArray, List.set_cons_zero, List.set_cons_succ, List.toList_toArray]
                  refine wpAnyH_ready (rs := [1]) (by kernel_rfl) (by simp) ?_
                  refine AllReadyH.cons (o := _) (by simp only [List.getElem?_toArray, List.getElem?_cons_succ, List.getElem?_cons_zero]; exact rfl) (fun K hK => ?_) AllReadyH.nil
                  have r9 : Wy.cell? ⟨wb.heap.size, 1, none⟩ = some vM := by rw [HWY.out]; exact cell_alloc q4y
                  rw [if_pos (by rfl)]
                  go_simp
                  refine hK.out _ _ hS2 (fun hS3 => ?_)
                  clear hK K
                  try simp only [Act.put, List.setIfInBounds_toArray, List.set_cons_zero, List.set_cons_succ, List.toList_toArray]
                  refine wpAnyH_ready (rs := [12]) (by kernel_rfl) (by simp) ?_
                  refine AllReadyH.cons (o := _) (by simp only [List.getElem?_toArray, List.getElem?_cons_succ, List.getElem?_cons_zero]; exact rfl) (fun K hK => ?_) AllReadyH.nil
                  have hoy : Own Wy (wb.heap.size + 1) wr.heap.size 4 vM (bls (T.take k)) := by rw [HWY.out]; exact HOy.out.alloc _
                  have hry : Rd Wy (wy.heap.size + 1) (some ⟨wy.heap.size, 0, none⟩) [.bool mm] := by rw [HWY.out]; exact Rd.one wy _ _
                  have hGy : Blk Wy wb.heap.size 28 #[.slice (some ⟨bC, oC, none⟩) C.length cC, vM] := by rw [HWY.out]; exact HGy.out.alloc _
                  have hBy : Below wb.heap.size wb Wy := by rw [HWY.out]; exact HBy.out.alloc HBy.out.size _
                  have hsy : wy.heap.size ≤ Wy.heap.size := by rw [HWY.out]; simp
                  refine step_append_o Wy rfl (.tmp 64) (.tmp 74) 23 rfl (wb.heap.size + 1) wr.heap.size 4 ib (.bool false) 1 Try.underlying23 hib hx0 hx1 hx2 rfl vM (bls (T.take k)) rfl hoy (wy.heap.size + 1) (some ⟨wy.heap.size, 0, none⟩) 1 1 [.bool mm] rfl hry rfl (by simp; rfl) (by unfold maxLen; omega) (by omega) (by have := HHG.out.lt; omega) (fun v' w5 ho5 hg5 hat5 => ?_)
                  have hb5 := hBy.grown hg5 hBy.size (fun g hg => by have := hoy.base g hg; omega)
                  have hG5 := hGy.grown hg5 (fun e => by have := hoy.base _ e.symm; omega)
                  have hS5 : (fun w' => w'.cell? ⟨bC, oC + k, none⟩ = some (.int .i64 x) ∧ Below wb.heap.size wb w') w5 := ⟨HC5.out w5 hb5, hb5⟩
                  refine hK.out _ _ hS5 (fun hS4 => ?_)
                  clear hK K
                  try simp only [Act.put, List.setIfInBounds_toArray, List.set_cons_zero, List.set_cons_succ, List.toList_toArray]
                  have r4 : w5.cell? ⟨wb.heap.size, 1, none⟩ = some vM := hG5.cell 1
                  have r5 : w5.frozen? ⟨wb.heap.size, 1, none⟩ = false := hG5.free 1
                  refine wpAnyH_take (i := 13) (v := .pointer (some ⟨wb.heap.size, 1, none⟩)) (by simp only [List.getElem?_toArray, List.getElem?_cons_succ, List.getElem?_cons_zero]; exact rfl) (by kernel_rfl) (by kernel_rfl) (by kernel_rfl) (by intro _ _ _ h; exact h) (Or.inl ⟨by kernel_rfl, by intro w hSw; go_simp⟩) (by assumption) ?_
                  simp only [Act.put, List.setIfInBounds_toArray, List.set_cons_zero, List.set_cons_succ, List.toList_toArray]
                  refine wpAnyH_ready (rs := [14]) (by kernel_rfl) (by simp) ?_
                  refine AllReadyH.cons (o := _) (by simp only [List.getElem?_toArray, List.getElem?_cons_succ, List.getElem?_cons_zero]; exact rfl) (fun K hK => ?_) AllReadyH.nil
                  rw [if_pos (by rfl)]
                  refine oper_store_one 23 (.tmp 76) (.tmp 75) rfl ⟨wb.heap.size, 1, none⟩ rfl (w' := w5.setCell ⟨wb.heap.size, 1, none⟩ v') (by have hq := r4; have hq' := r5; obtain ⟨av, cv, rfl⟩ := ho5.form; go_simp) ?_
                  obtain ⟨w6, hw6⟩ : ∃ w6, w6 = w5.setCell ⟨wb.heap.size, 1, none⟩ v' := ⟨_, rfl⟩
                  rw [← hw6]
                  have hb6 : Below wb.heap.size wb w6 := by rw [hw6]; exact hb5.setCell (show wb.heap.size ≤ wb.heap.size from Nat.le_refl _) _
                  have hG6 : Blk w6 wb.heap.size 28 #[.slice (some ⟨bC, oC, none⟩) C.length cC, v'] := by rw [hw6]; exact hG5.set 1 v'
                  have hs6 : w6.heap.size = w5.heap.size := by rw [hw6]; simp [World.setCell]
                  have ho6 : Own w6 (wb.heap.size + 1) w6.heap.size 4 v' (bls (T.take k) ++ [.bool mm]) := by rw [hs6]; exact ho5.keep (by omega) (fun g hg => by rw [hw6]; exact Below.heap_setCell _ _ _ g (show g ≠ wb.heap.size by have := ho5.base g hg; omega))
                  have hS6 : (fun w' => w'.cell? ⟨bC, oC + k, none⟩ = some (.int .i64 x) ∧ Below wb.heap.size wb w') w6 := ⟨HC5.out w6 hb6, hb6⟩
                  refine hK.out _ _ hS6 (fun hS9 => ?_)
                  clear hK K
                  try simp only [Act.put, List.setIfInBounds_toArray, List.set_cons_zero, List.set_cons_succ, List.toList_toArray]
                  refine wpAnyH_done (by kernel_rfl) ?_ _
                  try simp only [Act.put, List.setIfInBounds_toArray, List.set_cons_zero, List.set_cons_succ]
                  have HO6 := Lib.hid ho6
                  have HB6 := Lib.hid hb6
                  have HG6 := Lib.hid hG6
                  clear ho6 hb6 hG6 hw6 hS6 hS9 hb5 hG5 r4 r5 ho5 hg5 hat5 hoy hry hGy hBy hS5 hSy
                  go_wp2_with fail
                  go_roundw
                  case rel => exact ⟨k + 1, by omega, by go_num, HB6.out, _, HG6.out, by rw [HTK.out, bls, List.map_append]; exact HO6.out⟩
                  case measure => simp [intOf]; omega
                · have hyd : decide (y < x) = false := decide_eq_false hy
                  rw [HIC.out, hyd, Bool.false_and] at HTK
                  clear hend
                  go_wp2_with fail
                  go_quiet (fail)
                  go_wp2_with fail
                  rename_i nq
                  refine wp_region_held_drew (S := fun w' => w'.cell? ⟨bC, oC + k, none⟩ = some (.int .i64 x) ∧ Below wb.heap.size wb w') (by kernel_rfl) ⟨hcC, hbel.trans (((Dr.n wr nq).below _).trans ((Dr.n _ 1).below _))⟩ (fun hS0 => ?_)
                  obtain ⟨wy, hwy⟩ : ∃ wy, wy = (wr.drewN nq).drew := ⟨_, rfl⟩
                  have HGy : Hid (Blk wy wb.heap.size 28 #[.slice (some ⟨bC, oC, none⟩) C.length cC, vM]) := Lib.hid (by rw [hwy]; exact (HHG.out.drewN nq).drew)
                  have HOy : Hid (Own wy (wb.heap.size + 1) wr.heap.size 4 vM (bls (T.take k))) := Lib.hid (by rw [hwy]; exact (HO.out.dr (Dr.n wr nq)).drew)
                  have HBy : Hid (Below wb.heap.size wb wy) := Lib.hid (by rw [hwy]; exact (hbel.trans ((Dr.n wr nq).below _)).trans ((Dr.n _ 1).below _))
                  have q4y : wy.cell? ⟨wb.heap.size, 1, none⟩ = some vM := by rw [hwy]; exact q4
                  have hwys : wr.heap.size ≤ wy.heap.size := by rw [hwy]; exact Nat.le_refl _
                  rw [← hwy] at hS0 ⊢
                  clear hwy
                  refine wpAnyH_take (i := 0) (v := .pointer (some ⟨wb.heap.size, 1, none⟩)) (by simp only [List.getElem?_toArray, List.getElem?_cons_succ, List.getElem?_cons_zero]; exact rfl) (by kernel_rfl) (by kernel_rfl) (by kernel_rfl) (by intro _ _ _ h; exact h) (Or.inl ⟨by kernel_rfl, by intro w hSw; go_simp⟩) (by assumption) ?_
                  simp only [Act.put, List.setIfInBounds_toArray, List.set_cons_zero, List.set_cons_succ, List.toList_toArray]
                  refine wpAnyH_take (i := 2) (v := .bool false) (by simp only [List.getElem?_toArray, List.getElem?_cons_succ, List.getElem?_cons_zero]; exact rfl) (by kernel_rfl) (by kernel_rfl) (by kernel_rfl) (by intro _ _ _ h; exact h) (Or.inl ⟨by kernel_rfl, by intro w hSw; go_simp⟩) (by assumption) ?_
                  simp only [Act.put, List.setIfInBounds_toArray, List.set_cons_zero, List.set_cons_succ, List.toList_toArray]
                  refine wpAnyH_take (i := 3) (v := .bool false) (by simp only [List.getElem?_toArray, List.getElem?_cons_succ, List.getElem?_cons_zero]; exact rfl) (by kernel_rfl) (by kernel_rfl) (by kernel_rfl) (by intro _ _ _ h; exact h) (Or.inl ⟨by kernel_rfl, by intro w hSw; go_simp⟩) (by assumption) ?_
                  simp only [Act.put, List.setIfInBounds_toArray, List.set_cons_zero, List.set_cons_succ, List.toList_toArray]
                  refine wpAnyH_take (i := 4) (v := undef) (by simp only [List.getElem?_toArray, List.getElem?_cons_succ, List.getElem?_cons_zero]; exact rfl) (by kernel_rfl) (by kernel_rfl) (by kernel_rfl) (by intro _ _ _ h; exact h) (Or.inr ⟨by kernel_rfl, rfl⟩) (by assumption) ?_
                  simp only [Act.put, List.setIfInBounds_toArray, List.set_cons_zero, List.set_cons_succ, List.toList_toArray]
                  refine wpAnyH_take (i := 5) (v := undef) (by simp only [List.getElem?_toArray, List.getElem?_cons_succ, List.getElem?_cons_zero]; exact rfl) (by kernel_rfl) (by kernel_rfl) (by kernel_rfl) (by intro _ _ _ h; exact h) (Or.inr ⟨by kernel_rfl, rfl⟩) (by assumption) ?_
                  simp only [Act.put, List.setIfInBounds_toArray, List.set_cons_zero, List.set_cons_succ, List.toList_toArray]
                  refine wpAnyH_take (i := 6) (v := undef) (by simp only [List.getElem?_toArray, List.getElem?_cons_succ, List.getElem?_cons_zero]; exact rfl) (by kernel_rfl) (by kernel_rfl) (by kernel_rfl) (by intro _ _ _ h; exact h) (Or.inr ⟨by kernel_rfl, rfl⟩) (by assumption) ?_
                  simp only [Act.put, List.setIfInBounds_toArray, List.set_cons_zero, List.set_cons_succ, List.toList_toArray]
                  refine wpAnyH_take (i := 7) (v := undef) (by simp only [List.getElem?_toArray, List.getElem?_cons_succ, List.getElem?_cons_zero]; exact rfl) (by kernel_rfl) (by kernel_rfl) (by kernel_rfl) (by intro _ _ _ h; exact h) (Or.inr ⟨by kernel_rfl, rfl⟩) (by assumption) ?_
                  simp only [Act.put, List.setIfInBounds_toArray, List.set_cons_zero, List.set_cons_succ, List.toList_toArray]
                  refine wpAnyH_take (i := 8) (v := undef) (by simp only [List.getElem?_toArray, List.getElem?_cons_succ, List.getElem?_cons_zero]; exact rfl) (by kernel_rfl) (by kernel_rfl) (by kernel_rfl) (by intro _ _ _ h; exact h) (Or.inr ⟨by kernel_rfl, rfl⟩) (by assumption) ?_
                  simp only [Act.put, List.setIfInBounds_toArray, List.set_cons_zero, List.set_cons_succ, List.toList_toArray]
                  refine wpAnyH_take (i := 9) (v := undef) (by simp only [List.getElem?_toArray, List.getElem?_cons_succ, List.getElem?_cons_zero]; exact rfl) (by kernel_rfl) (by kernel_rfl) (by kernel_rfl) (by intro _ _ _ h; exact h) (Or.inr ⟨by kernel_rfl, rfl⟩) (by assumption) ?_
                  simp only [Act.put, List.setIfInBounds_toArray, List.set_cons_zero, List.set_cons_succ, List.toList_toArray]
                  refine wpAnyH_take (i := 10) (v := .bool false) (by simp only [List.getElem?_toArray, List.getElem?_cons_succ, List.getElem?_cons_zero]; exact rfl) (by kernel_rfl) (by kernel_rfl) (by kernel_rfl) (by intro _ _ _ h; exact h) (Or.inl ⟨by kernel_rfl, by intro w hSw; go_simp⟩) (by assumption) ?_
                  simp only [Act.put, List.setIfInBounds_toArray, List.set_cons_zero, List.set_cons_succ, List.toList_toArray]
                  refine wpAnyH_ready (rs := [1, 11]) (by kernel_rfl) (by simp) ?_
                  refine AllReadyH.cons (o := _) (by simp only [List.getElem?_toArray, List.getElem?_cons_succ, List.getElem?_cons_zero]; exact rfl) (fun K hK => ?_) ?_
                  · skip
                    rw [if_pos (by rfl)]
                    go_simp
                    refine hK.out _ _ hS0 (fun hS1 => ?_)
                    clear hK K
                    try simp only [Act.put, List.setIfInBounds_toArray, List.set_cons_zero, List.set_cons_succ, List.toList_toArray]
                    refine wpAnyH_ready (rs := [11]) (by kernel_rfl) (by simp) ?_
                    refine AllReadyH.cons (o := _) (by simp only [List.getElem?_toArray, List.getElem?_cons_succ, List.getElem?_cons_zero]; exact rfl) (fun K hK => ?_) AllReadyH.nil
                    rw [if_pos (by rfl)]
                    go_simp
                    have hWe : ∃ Wy, Wy = wy.alloc (.cells #[.bool false] 4) := ⟨_, rfl⟩
                    obtain ⟨Wy, hWy⟩ := hWe
                    have hSy : (fun w' => w'.cell? ⟨bC, oC + k, none⟩ = some (.int .i64 x) ∧ Below wb.heap.size wb w') Wy := by obtain ⟨s1, s2⟩ := hS1; rw [hWy]; exact ⟨cell_alloc s1, s2.alloc s2.size _⟩
                    rw [← hWy]
                    have HWY := Lib.hid hWy
                    clear hWy
                    refine hK.out _ _ hSy (fun hS2 => ?_)
                    clear hK K
                    try simp only [Act.put, List.setIfInBounds_toArray, List.set_cons_zero, List.set_cons_succ, List.toList_toArray]
                    refine wpAnyH_ready (rs := [12]) (by kernel_rfl) (by simp) ?_
                    refine AllReadyH.cons (o := _) (by simp only [List.getElem?_toArray, List.getElem?_cons_succ, List.getElem?_cons_zero]; exact rfl) (fun K hK => ?_) AllReadyH.nil
                    have hoy : Own Wy (wb.heap.size + 1) wr.heap.size 4 vM (bls (T.take k)) := by rw [HWY.out]; exact HOy.out.alloc _
                    have hry : Rd Wy (wy.heap.size + 1) (some ⟨wy.heap.size, 0, none⟩) [.bool false] := by rw [HWY.out]; exact Rd.one wy _ _
                    have hGy : Blk Wy wb.heap.size 28 #[.slice (some ⟨bC, oC, none⟩) C.length cC, vM] := by rw [HWY.out]; exact HGy.out.alloc _
                    have hBy : Below wb.heap.size wb Wy := by rw [HWY.out]; exact HBy.out.alloc HBy.out.size _
                    have hsy : wy.heap.size ≤ Wy.heap.size := by rw [HWY.out]; simp
                    refine step_append_o Wy rfl (.tmp 64) (.tmp 74) 23 rfl (wb.heap.size + 1) wr.heap.size 4 ib (.bool false) 1 Try.underlying23 hib hx0 hx1 hx2 rfl vM (bls (T.take k)) rfl hoy (wy.heap.size + 1) (some ⟨wy.heap.size, 0, none⟩) 1 1 [.bool false] rfl hry rfl (by simp; rfl) (by unfold maxLen; omega) (by omega) (by have := HHG.out.lt; omega) (fun v' w5 ho5 hg5 hat5 => ?_)
                    have hb5 := hBy.grown hg5 hBy.size (fun g hg => by have := hoy.base g hg; omega)
                    have hG5 := hGy.grown hg5 (fun e => by have := hoy.base _ e.symm; omega)
                    have hS5 : (fun w' => w'.cell? ⟨bC, oC + k, none⟩ = some (.int .i64 x) ∧ Below wb.heap.size wb w') w5 := ⟨HC5.out w5 hb5, hb5⟩
                    refine hK.out _ _ hS5 (fun hS4 => ?_)
                    clear hK K
                    try simp only [Act.put, List.setIfInBounds_toArray, List.set_cons_zero, List.set_cons_succ, List.toList_toArray]
                    have r4 : w5.cell? ⟨wb.heap.size, 1, none⟩ = some vM := hG5.cell 1
                    have r5 : w5.frozen? ⟨wb.heap.size, 1, none⟩ = false := hG5.free 1
                    refine wpAnyH_take (i := 13) (v := .pointer (some ⟨wb.heap.size, 1, none⟩)) (by simp only [List.getElem?_toArray, List.getElem?_cons_succ, List.getElem?_cons_zero]; exact rfl) (by kernel_rfl) (by kernel_rfl) (by kernel_rfl) (by intro _ _ _ h; exact h) (Or.inl ⟨by kernel_rfl, by intro w hSw; go_simp⟩) (by assumption) ?_
                    simp only [Act.put, List.setIfInBounds_toArray, List.set_cons_zero, List.set_cons_succ, List.toList_toArray]
                    refine wpAnyH_ready (rs := [14]) (by kernel_rfl) (by simp) ?_
                    refine AllReadyH.cons (o := _) (by simp only [List.getElem?_toArray, List.getElem?_cons_succ, List.getElem?_cons_zero]; exact rfl) (fun K hK => ?_) AllReadyH.nil
                    rw [if_pos (by rfl)]
                    refine oper_store_one 23 (.tmp 76) (.tmp 75) rfl ⟨wb.heap.size, 1, none⟩ rfl (w' := w5.setCell ⟨wb.heap.size, 1, none⟩ v') (by have hq := r4; have hq' := r5; obtain ⟨av, cv, rfl⟩ := ho5.form; go_simp) ?_
                    obtain ⟨w6, hw6⟩ : ∃ w6, w6 = w5.setCell ⟨wb.heap.size, 1, none⟩ v' := ⟨_, rfl⟩
                    rw [← hw6]
                    have hb6 : Below wb.heap.size wb w6 := by rw [hw6]; exact hb5.setCell (show wb.heap.size ≤ wb.heap.size from Nat.le_refl _) _
                    have hG6 : Blk w6 wb.heap.size 28 #[.slice (some ⟨bC, oC, none⟩) C.length cC, v'] := by rw [hw6]; exact hG5.set 1 v'
                    have hs6 : w6.heap.size = w5.heap.size := by rw [hw6]; simp [World.setCell]
                    have ho6 : Own w6 (wb.heap.size + 1) w6.heap.size 4 v' (bls (T.take k) ++ [.bool false]) := by rw [hs6]; exact ho5.keep (by omega) (fun g hg => by rw [hw6]; exact Below.heap_setCell _ _ _ g (show g ≠ wb.heap.size by have := ho5.base g hg; omega))
                    have hS6 : (fun w' => w'.cell? ⟨bC, oC + k, none⟩ = some (.int .i64 x) ∧ Below wb.heap.size wb w') w6 := ⟨HC5.out w6 hb6, hb6⟩
                    refine hK.out _ _ hS6 (fun hS9 => ?_)
                    clear hK K
                    try simp only [Act.put, List.setIfInBounds_toArray, List.set_cons_zero, List.set_cons_succ, List.toList_toArray]
                    refine wpAnyH_done (by kernel_rfl) ?_ _
                    try simp only [Act.put, List.setIfInBounds_toArray, List.set_cons_zero, List.set_cons_succ]
                    have HO6 := Lib.hid ho6
                    have HB6 := Lib.hid hb6
                    have HG6 := Lib.hid hG6
                    clear ho6 hb6 hG6 hw6 hS6 hS9 hb5 hG5 r4 r5 ho5 hg5 hat5 hoy hry hGy hBy hS5 hSy
                    go_wp2_with fail
                    go_roundw
                    case rel => exact ⟨k + 1, by omega, by go_num, HB6.out, _, HG6.out, by rw [HTK.out, bls, List.map_append]; exact HO6.out⟩
                    case measure => simp [intOf]; omega
                  refine AllReadyH.cons (o := _) (by simp only [List.getElem?_toArray, List.getElem?_cons_succ, List.getElem?_cons_zero]; exact rfl) (fun K hK => ?_) AllReadyH.nil
                  rw [if_pos (by rfl)]
                  go_simp
                  have hWe : ∃ Wy, Wy = wy.alloc (.cells #[.bool false] 4) := ⟨_, rfl⟩
                  obtain ⟨Wy, hWy⟩ := hWe
                  have hSy : (fun w' => w'.cell? ⟨bC, oC + k, none⟩ = some (.int .i64 x) ∧ Below wb.heap.size wb w') Wy := by obtain ⟨s1, s2⟩ := hS0; rw [hWy]; exact ⟨cell_alloc s1, s2.alloc s2.size _⟩
                  rw [← hWy]
                  have HWY := Lib.hid hWy
                  clear hWy
                  refine hK.out _ _ hSy (fun hS2 => ?_)
                  clear hK K
                  try simp only [Act.put, List.setIfInBounds_toArray, List.set_cons_zero, List.set_cons_succ, List.toList_toArray]
                  refine wpAnyH_ready (rs := [1]) (by kernel_rfl) (by simp) ?_
                  refine AllReadyH.cons (o := _) (by simp only [List.getElem?_toArray, List.getElem?_cons_succ, List.getElem?_cons_zero]; exact rfl) (fun K hK => ?_) AllReadyH.nil
                  have r9 : Wy.cell? ⟨wb.heap.size, 1, none⟩ = some vM := by rw [HWY.out]; exact cell_alloc q4y
                  rw [if_pos (by rfl)]
                  go_simp
                  refine hK.out _ _ hS2 (fun hS3 => ?_)
                  clear hK K
                  try simp only [Act.put, List.setIfInBounds_toArray, List.set_cons_zero, List.set_cons_succ, List.toList_toArray]
                  refine wpAnyH_ready (rs := [12]) (by kernel_rfl) (by simp) ?_
                  refine AllReadyH.cons (o := _) (by simp only [List.getElem?_toArray, List.getElem?_cons_succ, List.getElem?_cons_zero]; exact rfl) (fun K hK => ?_) AllReadyH.nil
                  have hoy : Own Wy (wb.heap.size + 1) wr.heap.size 4 vM (bls (T.take k)) := by rw [HWY.out]; exact HOy.out.alloc _
                  have hry : Rd Wy (wy.heap.size + 1) (some ⟨wy.heap.size, 0, none⟩) [.bool false] := by rw [HWY.out]; exact Rd.one wy _ _
                  have hGy : Blk Wy wb.heap.size 28 #[.slice (some ⟨bC, oC, none⟩) C.length cC, vM] := by rw [HWY.out]; exact HGy.out.alloc _
                  have hBy : Below wb.heap.size wb Wy := by rw [HWY.out]; exact HBy.out.alloc HBy.out.size _
                  have hsy : wy.heap.size ≤ Wy.heap.size := by rw [HWY.out]; simp
                  refine step_append_o Wy rfl (.tmp 64) (.tmp 74) 23 rfl (wb.heap.size + 1) wr.heap.size 4 ib (.bool false) 1 Try.underlying23 hib hx0 hx1 hx2 rfl vM (bls (T.take k)) rfl hoy (wy.heap.size + 1) (some ⟨wy.heap.size, 0, none⟩) 1 1 [.bool false] rfl hry rfl (by simp; rfl) (by unfold maxLen; omega) (by omega) (by have := HHG.out.lt; omega) (fun v' w5 ho5 hg5 hat5 => ?_)
                  have hb5 := hBy.grown hg5 hBy.size (fun g hg => by have := hoy.base g hg; omega)
                  have hG5 := hGy.grown hg5 (fun e => by have := hoy.base _ e.symm; omega)
                  have hS5 : (fun w' => w'.cell? ⟨bC, oC + k, none⟩ = some (.int .i64 x) ∧ Below wb.heap.size wb w') w5 := ⟨HC5.out w5 hb5, hb5⟩
                  refine hK.out _ _ hS5 (fun hS4 => ?_)
                  clear hK K
                  try simp only [Act.put, List.setIfInBounds_toArray, List.set_cons_zero, List.set_cons_succ, List.toList_toArray]
                  have r4 : w5.cell? ⟨wb.heap.size, 1, none⟩ = some vM := hG5.cell 1
                  have r5 : w5.frozen? ⟨wb.heap.size, 1, none⟩ = false := hG5.free 1
                  refine wpAnyH_take (i := 13) (v := .pointer (some ⟨wb.heap.size, 1, none⟩)) (by simp only [List.getElem?_toArray, List.getElem?_cons_succ, List.getElem?_cons_zero]; exact rfl) (by kernel_rfl) (by kernel_rfl) (by kernel_rfl) (by intro _ _ _ h; exact h) (Or.inl ⟨by kernel_rfl, by intro w hSw; go_simp⟩) (by assumption) ?_
                  simp only [Act.put, List.setIfInBounds_toArray, List.set_cons_zero, List.set_cons_succ, List.toList_toArray]
                  refine wpAnyH_ready (rs := [14]) (by kernel_rfl) (by simp) ?_
                  refine AllReadyH.cons (o := _) (by simp only [List.getElem?_toArray, List.getElem?_cons_succ, List.getElem?_cons_zero]; exact rfl) (fun K hK => ?_) AllReadyH.nil
                  rw [if_pos (by rfl)]
                  refine oper_store_one 23 (.tmp 76) (.tmp 75) rfl ⟨wb.heap.size, 1, none⟩ rfl (w' := w5.setCell ⟨wb.heap.size, 1, none⟩ v') (by have hq := r4; have hq' := r5; obtain ⟨av, cv, rfl⟩ := ho5.form; go_simp) ?_
                  obtain ⟨w6, hw6⟩ : ∃ w6, w6 = w5.setCell ⟨wb.heap.size, 1, none⟩ v' := ⟨_, rfl⟩
                  rw [← hw6]
                  have hb6 : Below wb.heap.size wb w6 := by rw [hw6]; exact hb5.setCell (show wb.heap.size ≤ wb.heap.size from Nat.le_refl _) _
                  have hG6 : Blk w6 wb.heap.size 28 #[.slice (some ⟨bC, oC, none⟩) C.length cC, v'] := by rw [hw6]; exact hG5.set 1 v'
                  have hs6 : w6.heap.size = w5.heap.size := by rw [hw6]; simp [World.setCell]
                  have ho6 : Own w6 (wb.heap.size + 1) w6.heap.size 4 v' (bls (T.take k) ++ [.bool false]) := by rw [hs6]; exact ho5.keep (by omega) (fun g hg => by rw [hw6]; exact Below.heap_setCell _ _ _ g (show g ≠ wb.heap.size by have := ho5.base g hg; omega))
                  have hS6 : (fun w' => w'.cell? ⟨bC, oC + k, none⟩ = some (.int .i64 x) ∧ Below wb.heap.size wb w') w6 := ⟨HC5.out w6 hb6, hb6⟩
                  refine hK.out _ _ hS6 (fun hS9 => ?_)
                  clear hK K
                  try simp only [Act.put, List.setIfInBounds_toArray, List.set_cons_zero, List.set_cons_succ, List.toList_toArray]
                  refine wpAnyH_done (by kernel_rfl) ?_ _
                  try simp only [Act.put, List.setIfInBounds_toArray, List.set_cons_zero, List.set_cons_succ]
                  have HO6 := Lib.hid ho6
                  have HB6 := Lib.hid hb6
                  have HG6 := Lib.hid hG6
                  clear ho6 hb6 hG6 hw6 hS6 hS9 hb5 hG5 r4 r5 ho5 hg5 hat5 hoy hry hGy hBy hS5 hSy
                  go_wp2_with fail
                  go_roundw
                  case rel => exact ⟨k + 1, by omega, by go_num, HB6.out, _, HG6.out, by rw [HTK.out, bls, List.map_append]; exact HO6.out⟩
                  case measure => simp [intOf]; omega
            · obtain rfl : k = C.length := by omega
              rw [List.take_of_length_le (by rw [HTL.out]; exact Nat.le_refl _)] at hoM
              obtain ⟨aM, cM, rfl⟩ := hoM.form
              rw [List.length_map] at hoM hG
              have hrr := hr2.below hbel (by omega)
              have HO := Lib.hid hoM
              clear hoM q4
              go_wp2_with (first
                | (refine wpList_load_row rfl 28 (.tmp 7) rfl wb.heap.size rfl 28 #[.slice aC C.length cC, .slice aM T.length cM] (0, 0) _ hG hmu rfl hi2 ?_)
                | (refine wpList_store_row rfl 28 (.tmp 4) (.tmp 77) rfl w.heap.size rfl #[.slice aC C.length cC, .slice aM T.length cM] rfl 28 _ hrr hi2 rfl (by simp [Value.oneCell']) ?_))
              refine bodyPost_ret (results_cell_tmp rfl _ _ w.heap.size 28 #[.slice aC C.length cC, .slice aM T.length cM] (0, 0) _ rfl hrr.row hmu rfl hi2) rfl ?_
              have h9 := hr2.lt
              rw [HN.out.1, HN.out.2, HOK.out]
              refine ⟨aC, cC, aM, cM, rfl, ?_, ?_, below_setRow' hbw (by omega) _⟩
              · have e := (HO2.out.below hbel).keep (w' := wr.setRow w.heap.size #[.slice aC C.length cC, .slice aM T.length cM]) (by simp) (fun g hg => by
                  have := HO2.out.base g hg
                  exact setRow_other _ _ _ _ (by omega))
                have e2 := e.lower (lo' := w.heap.size) (by omega)
                exact ⟨e2.row, fun g hg => by have := e2.lt g hg; have := hbel.size; simp; omega, by simp⟩
              · have e := HO.out.keep (w' := wr.setRow w.heap.size #[.slice aC C.length cC, .slice aM T.length cM]) (by simp) (fun g hg => by
                  have := HO.out.base g hg
                  exact setRow_other _ _ _ _ (by omega))
                have e2 := e.lower (lo' := w.heap.size) (by omega)
                simpa using e2
        · have HOK : Hid (pmOk P Q = false) := Lib.hid (by unfold pmOk two; rw [decide_eq_false hsum]; simp)
          have hg : decide (16 < sumL P + sumL Q) = true := decide_eq_true (by omega)
          clear hvp hk hvq hsum hbp hbq
          have HN := Lib.hid (pm_no HOK.out)
          go_enter Try.func29, Try.ntmps29
          go_wp2_with (first
            | (go_at_call 55; have hsx := hs1; refine (sum_any _ _ Bb Q _ (HRQ.out _ (hd3.below _)) HFQ.out hlq).mono ?_; rintro e wv ⟨rfl, rfl⟩)
            | (go_at_call 55; refine (sum_any _ _ Ba P _ (HRP.out _ (hd3.below _)) HFP.out hl).mono ?_; rintro e wv ⟨rfl, rfl⟩; have hs1 : True := trivial)
            | (go_at_call 53; have hsx := hd2; refine (validParts_any _ _ Bb Q _ (HRQ.out _ (hd2.below _)) hlq).mono ?_; rintro e v3 ⟨rfl, hn3⟩; have hd3 : Dr W v3 := hd2.trans hn3; rw [HQ.out])
            | (go_at_call 54; refine (gaps_any _ _ Ba P 1 (by omega) HP.out _ (HRP.out _ (hd1.below _))).mono ?_; rintro e v2 ⟨rfl, hn2⟩; have hd2 : Dr W v2 := hd1.trans hn2; rw [HK.out])
            | (go_at_call 53; refine (validParts_any _ _ Ba P _ (HRP.out W (Below.refl _ _)) hl).mono ?_; rintro e v1 ⟨rfl, hd1⟩; replace hd1 : Dr W v1 := hd1; rw [HP.out])
            | (refine wpList_store_row rfl 28 (.tmp 4) (.tmp 31) rfl w.heap.size rfl #[.slice none 0 0, .slice none 0 0] rfl 28 _ (hr0.below (hd3.below _) hr0.lt) hi2 rfl (by simp [Value.oneCell']) ?_))
          have hrz := hr0.below (hd3.below _) hr0.lt
          have hbt := hbe0.trans (hd3.below _)
          refine bodyPost_ret (results_cell_tmp rfl _ _ w.heap.size 28 #[.slice none 0 0, .slice none 0 0] (0, 0) _ rfl hrz.row hmu rfl hi2) rfl ?_
          rw [HN.out.1, HN.out.2, HOK.out]
          exact ⟨none, 0, none, 0, rfl, own_nil3 _ _ _ _ (Nat.le_refl _), own_nil3 _ _ _ _ (Nat.le_refl _), below_setRow' hbt (by omega) _⟩
end Go.Proofs.Ytbbbfaollcklkaa
