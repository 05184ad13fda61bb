/-
  Walks of the model: SquareCut, SquarePut, DoubleParts; the program's DoubleParts.
-/
import Derived.Test.YtldbjnnolebfbaaW27
import Derived.Test.YtldbjnnolebfbaaW14
namespace Go.Proofs.Ytldbjnnolebfbaa
open Go.RowKit NP
set_option linter.unusedVariables false
set_option linter.unusedSimpArgs false
theorem Own.cap {w : World} {lo hi : Nat} {e : TypeId} {a : Option Addr} {n c : Nat} {vs : List Value} (h : Own w lo hi e (.slice a n c) vs) : n ≤ c := by
  rcases h.row.2 with ⟨h1, h2⟩ | ⟨g, cap, cur, hv, _, _, hle, _⟩
  · injection h1 with _ h3 h4; omega
  · injection hv with _ h3 h4; omega
theorem Rd.cutAny {w : World} {B b o cap : Nat} {vs : List Value} (h : Rd w B (some ⟨b, o, none⟩) vs) (q : Nat) (hc : vs.length ≤ cap) : Rd w B (some (if cap = q then ⟨b, o, none⟩ else ⟨b, o + q, none⟩)) (vs.drop q) := by
  by_cases hq : cap = q
  · rw [List.drop_eq_nil_of_le (by omega)]
    exact fun hne => absurd rfl hne
  · rw [if_neg hq]
    exact h.dropAt q
theorem keep_off {w w1 : World} {lo : Nat} {e : TypeId} {v : Value} {vs : List Value} {o : Obj} {n c : Nat} (h : Own w lo w.heap.size e v vs) (hg : (w.alloc o).grownBy w1 (Value.slice (some ⟨w.heap.size, 0, none⟩) n c).ownBlock) : Own w1 lo w1.heap.size e v vs :=
  ((h.alloc o).grown hg (by
    cases hb : v.ownBlock with
    | none => exact .inl rfl
    | some g => exact .inr fun e => by have := h.lt g hb; simp [Value.ownBlock] at e; omega)).more




set_option maxHeartbeats 4000000 in
theorem sSquarePut_any (d : Int) (a b : Option Addr) (ca cb Ba Bb : Nat) (R B : List Int) (w : World) (h : Rd w Ba a (ints R)) (hq : Rd w Bb b (ints B)) (hBa : Ba ≤ w.heap.size) (hBb : Bb ≤ w.heap.size) (hl : R.length ≤ 4611686018427387904) (hlq : B.length ≤ 4611686018427387904) :
    Calls Try.prog 21 #[.int .i64 d, .slice a R.length ca, .slice b B.length cb] w fun e w' => ∃ a' c', e = .returned (.tuple #[.slice a' (sqPutF d R B).length c', .bool (sqOk d R B)]) ∧ Own w' w.heap.size w'.heap.size 3 (.slice a' (sqPutF d R B).length c') (ints (sqPutF d R B)) ∧ Below w.heap.size w w' := by
  obtain ⟨i0, hi, hz0, hz1, hz2⟩ := T_int'
  by_cases hdr : 0 ≤ d ∧ d ≤ 16
  · obtain ⟨n, rfl⟩ := Int.eq_ofNat_of_zero_le hdr.1
    have hn16 : n ≤ 16 := by omega
    have hd0 : (0 : Int) ≤ (n : Int) := hdr.1
    have hd16 : (n : Int) ≤ 16 := hdr.2
    cases hvp : valid R with
    | true =>
      have HP := Lib.hid hvp
      cases hvq : valid B with
      | true =>
        have HQ := Lib.hid hvq
        have HFP := Lib.hid (valid_fits hvp)
        have HFQ := Lib.hid (valid_fits hvq)
        have hbp := valid_bd hvp
        have hbq := valid_bd hvq
        have hx1 : 0 ≤ sumL R ∧ sumL R ≤ 16 := ⟨hbp.1, hbp.2.1⟩
        have hx2 : 0 ≤ sumL B ∧ sumL B ≤ 16 := ⟨hbq.1, hbq.2.1⟩
        have hp16 := hbp.2.2.2
        have hq16 := hbq.2.2.2
        have hqb := sq_bd hn16
        by_cases hrl : R.length ≤ n
        · have g0 : decide ((n : Int) < (R.length : Int)) = false := decide_eq_false (by omega)
          have g0' : decide (n < R.length) = false := decide_eq_false (by omega)
          by_cases hb0 : B.getD 0 0 ≤ (n : Int)
          · obtain ⟨hqb1, hqb2⟩ := hqb
            have HNP := Lib.hid (getD_nn hvp)
            have hsv : sqOk n R B = decide ((n : Int) * (n : Int) + sumL R + sumL B ≤ 16) := by exact sqOk_val hvp hvq (by omega) hb0 hd16
            by_cases hs : (n : Int) * (n : Int) + sumL R + sumL B ≤ 16
            · have hok : sqOk n R B = true := by rw [hsv, decide_eq_true hs]
              have g1 : decide (16 < (n : Int) * (n : Int) + sumL R + sumL B) = false := decide_eq_false (by omega)
              obtain ⟨_, _, hput, _, hlen, _, _⟩ := sq_put hok
              have HLEN := Lib.hid hlen
              have HPUT := Lib.hid hput
              rw [sqPutF_yes hok, hok]
              clear hvp hvq hok hs hsv hlen hput hbp hbq
              by_cases hB1 : 0 < B.length
              · have hB1' : (0 : Int) < (B.length : Int) := by omega
                obtain ⟨bb, ob, rfl, _, hcb⟩ := hq.at_ hB1
                rw [getD_lt hB1] at hb0
                have hgb : decide ((n : Int) < B[0]) = false := decide_eq_false (by omega)
                generalize B[0] = y at *
                have hcb0 : w.cell? ⟨bb, ob, none⟩ = some (.int .i64 y) := hcb
                clear hcb
                go_enter Try.func21, Try.ntmps21
                go_wp2_with (first
            | (go_at_call 26; have hsx := hs1; refine (sum_any _ _ Bb B _ (hq.dr (Dr.n w (n1 + n2))) HFQ.out hlq).mono ?_; rintro e wv ⟨rfl, rfl⟩)
            | (go_at_call 26; refine (sum_any _ _ Ba R _ (h.dr (Dr.n w (n1 + n2))) HFP.out hl).mono ?_; rintro e wv ⟨rfl, rfl⟩; have hs1 : True := trivial)
            | (go_at_call 25; refine (validParts_any _ _ Bb B _ (hq.dr (Dr.n w n1)) hlq).mono ?_; rintro e wv ⟨rfl, n2, rfl⟩; rw [HQ.out])
            | (go_at_call 25; refine (validParts_any _ _ Ba R _ h hl).mono ?_; rintro e wv ⟨rfl, n1, rfl⟩; rw [HP.out])
            | (go_at_call 36; refine (inRange_yes _ _ _ _ hd0 hd16).mono ?_; rintro e wv ⟨rfl, hwv⟩; obtain rfl : w = wv := hwv.symm))
                go_loopw [8, 9, 10] (fun v vi _ wr => ∃ k : Nat, k ≤ n ∧ vi = .int .i64 (k : Int) ∧ Below w.heap.size w wr ∧ Own wr w.heap.size wr.heap.size 3 v (ints ((adp (sqs n) R).take k))) (fun _ vi _ _ => 20 - (intOf vi).toNat)
                case atStart => exact ⟨0, Nat.zero_le _, rfl, ((Dr.n w (n1 + n2)).below _).alloc (by simp) _, (Own.empty (w.drewN (n1 + n2)) 3).more⟩
                case round =>
                  obtain ⟨k, hk, rfl, hbel, hown⟩ := hrel
                  have hnp := HNP.out k
                  by_cases hlt : k < n
                  · have hlt' : (k : Int) < (n : Int) := by omega
                    have hS : Hid ((adp (sqs n) R).take (k + 1) = (adp (sqs n) R).take k ++ [(n : Int) + R.getD k 0]) := Lib.hid (by
                      have hk2 : k < (adp (sqs n) R).length := by rw [HLEN.out]; exact hlt
                      rw [List.take_succ_eq_append_getElem hk2, ← getD_lt hk2, adp_getD, sqs_getD, if_pos hlt])
                    obtain ⟨vs, hvs⟩ : ∃ vs, vs = ints ((adp (sqs n) R).take k) := ⟨_, rfl⟩
                    have hlv : vs.length ≤ 16 := by rw [hvs]; simp; omega
                    rw [← hvs] at hown
                    have HVS := Lib.hid hvs
                    have HO := Lib.hid hown
                    clear hvs hown
                    by_cases hkp : k < R.length
                    · obtain ⟨b1, o1, rfl, _, hc1⟩ := ((h.more hBa).below hbel).at_ hkp
                      rw [getD_lt hkp] at hnp hS
                      have d1 : decide ((k : Int) < (R.length : Int)) = true := decide_eq_true (by omega)
                      have hwp : IntKind.i64.wrap ((n : Int) + R[k]) = (n : Int) + R[k] := IntWalk.i64_in _ (by omega)
                      generalize R[k] = x at *
                      go_wp2_with (at_builtin; refine wpList_append_o _ rfl (.tmp 71) (.tmp 73) 22 rfl w.heap.size wr.heap.size 3 i0 (.int .i64 0) 8 Try.underlying22 hi hz0 hz1 hz2 rfl _ vs rfl (HO.out.alloc _) (wr.heap.size + 1) (some ⟨wr.heap.size, 0, none⟩) 1 1 [.int .i64 ((n : Int) + x)] rfl (Rd.one _ _ _) rfl (by simp; rfl) (by unfold maxLen; omega) (by omega) (by have := hbel.size; simp; omega) ?_; intro v' w1 ho1 hg1 hat1)
                      go_roundw
                      case rel =>
                        refine ⟨k + 1, by omega, by go_num, below_push hbel (Nat.le_refl _) hg1 HO.out.base, ?_⟩
                        rw [HVS.out] at ho1
                        rw [hS.out]
                        simpa [ints] using ho1
                      case measure => simp [intOf]; omega
                    · rw [getD_ge (by omega)] at hnp hS
                      have d1 : decide ((k : Int) < (R.length : Int)) = false := decide_eq_false (by omega)
                      go_wp2_with (at_builtin; refine wpList_append_o _ rfl (.tmp 71) (.tmp 73) 22 rfl w.heap.size wr.heap.size 3 i0 (.int .i64 0) 8 Try.underlying22 hi hz0 hz1 hz2 rfl _ vs rfl (HO.out.alloc _) (wr.heap.size + 1) (some ⟨wr.heap.size, 0, none⟩) 1 1 [.int .i64 ((n : Int))] rfl (Rd.one _ _ _) rfl (by simp; rfl) (by unfold maxLen; omega) (by omega) (by have := hbel.size; simp; omega) ?_; intro v' w1 ho1 hg1 hat1)
                      go_roundw
                      case rel =>
                        refine ⟨k + 1, by omega, by go_num, below_push hbel (Nat.le_refl _) hg1 HO.out.base, ?_⟩
                        rw [HVS.out] at ho1
                        rw [hS.out]
                        simpa [ints] using ho1
                      case measure => simp [intOf]; omega
                  · obtain rfl : k = n := by omega
                    rw [List.take_of_length_le (by rw [HLEN.out]; exact Nat.le_refl _)] at hown
                    obtain ⟨a', c', rfl⟩ := hown.form
                    have hl4 : (ints (adp (sqs k) R)).length = k := by rw [List.length_map, HLEN.out]
                    obtain ⟨vs, hvs⟩ : ∃ vs, vs = ints (adp (sqs k) R) := ⟨_, rfl⟩
                    rw [← hvs] at hown hl4 ⊢
                    have HVS := Lib.hid hvs
                    have HO := Lib.hid hown
                    have hRb := (hq.more hBb).below hbel
                    have HL4 := Lib.hid hl4
                    have hvl : vs.length ≤ 16 := by omega
                    have HEE : Hid (ints (adp (sqs k) R) ++ ints B = ints (sqPut k R B)) := Lib.hid (by rw [HPUT.out]; simp [ints])
                    clear hown hvs hlt hk hl4
                    go_wp2_with (at_builtin; refine wpList_append_o _ rfl (.tmp 75) (.tmp 76) 22 rfl w.heap.size wr.heap.size 3 i0 (.int .i64 0) 8 Try.underlying22 hi hz0 hz1 hz2 rfl _ vs rfl HO.out w.heap.size _ B.length cb (ints B) rfl hRb (by simp) (ints_one _) (by unfold maxLen; omega) (by omega) hbel.size ?_; intro v' w1 ho1 hg1 hat1; rw [HVS.out, HEE.out] at ho1; obtain ⟨a2, c2, rfl⟩ := ho1.form; rw [List.length_map] at ho1 ⊢)
                    go_ret2
                    exact ⟨a2, c2, rfl, ho1, hbel.grown hg1 hbel.size HO.out.base⟩
              · have hB2 : ¬ (0 : Int) < (B.length : Int) := by omega
                have hB3 : ¬ 0 < B.length := hB1
                go_enter Try.func21, Try.ntmps21
                go_wp2_with (first
            | (go_at_call 26; have hsx := hs1; refine (sum_any _ _ Bb B _ (hq.dr (Dr.n w (n1 + n2))) HFQ.out hlq).mono ?_; rintro e wv ⟨rfl, rfl⟩)
            | (go_at_call 26; refine (sum_any _ _ Ba R _ (h.dr (Dr.n w (n1 + n2))) HFP.out hl).mono ?_; rintro e wv ⟨rfl, rfl⟩; have hs1 : True := trivial)
            | (go_at_call 25; refine (validParts_any _ _ Bb B _ (hq.dr (Dr.n w n1)) hlq).mono ?_; rintro e wv ⟨rfl, n2, rfl⟩; rw [HQ.out])
            | (go_at_call 25; refine (validParts_any _ _ Ba R _ h hl).mono ?_; rintro e wv ⟨rfl, n1, rfl⟩; rw [HP.out])
            | (go_at_call 36; refine (inRange_yes _ _ _ _ hd0 hd16).mono ?_; rintro e wv ⟨rfl, hwv⟩; obtain rfl : w = wv := hwv.symm))
                go_loopw [8, 9, 10] (fun v vi _ wr => ∃ k : Nat, k ≤ n ∧ vi = .int .i64 (k : Int) ∧ Below w.heap.size w wr ∧ Own wr w.heap.size wr.heap.size 3 v (ints ((adp (sqs n) R).take k))) (fun _ vi _ _ => 20 - (intOf vi).toNat)
                case atStart => exact ⟨0, Nat.zero_le _, rfl, ((Dr.n w (n1 + n2)).below _).alloc (by simp) _, (Own.empty (w.drewN (n1 + n2)) 3).more⟩
                case round =>
                  obtain ⟨k, hk, rfl, hbel, hown⟩ := hrel
                  have hnp := HNP.out k
                  by_cases hlt : k < n
                  · have hlt' : (k : Int) < (n : Int) := by omega
                    have hS : Hid ((adp (sqs n) R).take (k + 1) = (adp (sqs n) R).take k ++ [(n : Int) + R.getD k 0]) := Lib.hid (by
                      have hk2 : k < (adp (sqs n) R).length := by rw [HLEN.out]; exact hlt
                      rw [List.take_succ_eq_append_getElem hk2, ← getD_lt hk2, adp_getD, sqs_getD, if_pos hlt])
                    obtain ⟨vs, hvs⟩ : ∃ vs, vs = ints ((adp (sqs n) R).take k) := ⟨_, rfl⟩
                    have hlv : vs.length ≤ 16 := by rw [hvs]; simp; omega
                    rw [← hvs] at hown
                    have HVS := Lib.hid hvs
                    have HO := Lib.hid hown
                    clear hvs hown
                    by_cases hkp : k < R.length
                    · obtain ⟨b1, o1, rfl, _, hc1⟩ := ((h.more hBa).below hbel).at_ hkp
                      rw [getD_lt hkp] at hnp hS
                      have d1 : decide ((k : Int) < (R.length : Int)) = true := decide_eq_true (by omega)
                      have hwp : IntKind.i64.wrap ((n : Int) + R[k]) = (n : Int) + R[k] := IntWalk.i64_in _ (by omega)
                      generalize R[k] = x at *
                      go_wp2_with (at_builtin; refine wpList_append_o _ rfl (.tmp 71) (.tmp 73) 22 rfl w.heap.size wr.heap.size 3 i0 (.int .i64 0) 8 Try.underlying22 hi hz0 hz1 hz2 rfl _ vs rfl (HO.out.alloc _) (wr.heap.size + 1) (some ⟨wr.heap.size, 0, none⟩) 1 1 [.int .i64 ((n : Int) + x)] rfl (Rd.one _ _ _) rfl (by simp; rfl) (by unfold maxLen; omega) (by omega) (by have := hbel.size; simp; omega) ?_; intro v' w1 ho1 hg1 hat1)
                      go_roundw
                      case rel =>
                        refine ⟨k + 1, by omega, by go_num, below_push hbel (Nat.le_refl _) hg1 HO.out.base, ?_⟩
                        rw [HVS.out] at ho1
                        rw [hS.out]
                        simpa [ints] using ho1
                      case measure => simp [intOf]; omega
                    · rw [getD_ge (by omega)] at hnp hS
                      have d1 : decide ((k : Int) < (R.length : Int)) = false := decide_eq_false (by omega)
                      go_wp2_with (at_builtin; refine wpList_append_o _ rfl (.tmp 71) (.tmp 73) 22 rfl w.heap.size wr.heap.size 3 i0 (.int .i64 0) 8 Try.underlying22 hi hz0 hz1 hz2 rfl _ vs rfl (HO.out.alloc _) (wr.heap.size + 1) (some ⟨wr.heap.size, 0, none⟩) 1 1 [.int .i64 ((n : Int))] rfl (Rd.one _ _ _) rfl (by simp; rfl) (by unfold maxLen; omega) (by omega) (by have := hbel.size; simp; omega) ?_; intro v' w1 ho1 hg1 hat1)
                      go_roundw
                      case rel =>
                        refine ⟨k + 1, by omega, by go_num, below_push hbel (Nat.le_refl _) hg1 HO.out.base, ?_⟩
                        rw [HVS.out] at ho1
                        rw [hS.out]
                        simpa [ints] using ho1
                      case measure => simp [intOf]; omega
                  · obtain rfl : k = n := by omega
                    rw [List.take_of_length_le (by rw [HLEN.out]; exact Nat.le_refl _)] at hown
                    obtain ⟨a', c', rfl⟩ := hown.form
                    have hl4 : (ints (adp (sqs k) R)).length = k := by rw [List.length_map, HLEN.out]
                    obtain ⟨vs, hvs⟩ : ∃ vs, vs = ints (adp (sqs k) R) := ⟨_, rfl⟩
                    rw [← hvs] at hown hl4 ⊢
                    have HVS := Lib.hid hvs
                    have HO := Lib.hid hown
                    have hRb := (hq.more hBb).below hbel
                    have HL4 := Lib.hid hl4
                    have hvl : vs.length ≤ 16 := by omega
                    have HEE : Hid (ints (adp (sqs k) R) ++ ints B = ints (sqPut k R B)) := Lib.hid (by rw [HPUT.out]; simp [ints])
                    clear hown hvs hlt hk hl4
                    go_wp2_with (at_builtin; refine wpList_append_o _ rfl (.tmp 75) (.tmp 76) 22 rfl w.heap.size wr.heap.size 3 i0 (.int .i64 0) 8 Try.underlying22 hi hz0 hz1 hz2 rfl _ vs rfl HO.out w.heap.size _ B.length cb (ints B) rfl hRb (by simp) (ints_one _) (by unfold maxLen; omega) (by omega) hbel.size ?_; intro v' w1 ho1 hg1 hat1; rw [HVS.out, HEE.out] at ho1; obtain ⟨a2, c2, rfl⟩ := ho1.form; rw [List.length_map] at ho1 ⊢)
                    go_ret2
                    exact ⟨a2, c2, rfl, ho1, hbel.grown hg1 hbel.size HO.out.base⟩
            · have hok : sqOk n R B = false := by rw [hsv, decide_eq_false hs]
              have g1 : decide (16 < (n : Int) * (n : Int) + sumL R + sumL B) = true := decide_eq_true (by omega)
              rw [sqPutF_no hok, hok]
              clear hvp hvq hok hs hsv hbp hbq
              by_cases hB1 : 0 < B.length
              · have hB1' : (0 : Int) < (B.length : Int) := by omega
                obtain ⟨bb, ob, rfl, _, hcb⟩ := hq.at_ hB1
                rw [getD_lt hB1] at hb0
                have hgb : decide ((n : Int) < B[0]) = false := decide_eq_false (by omega)
                generalize B[0] = y at *
                have hcb0 : w.cell? ⟨bb, ob, none⟩ = some (.int .i64 y) := hcb
                clear hcb
                go_enter Try.func21, Try.ntmps21
                go_wp2_with (first
            | (go_at_call 26; have hsx := hs1; refine (sum_any _ _ Bb B _ (hq.dr (Dr.n w (n1 + n2))) HFQ.out hlq).mono ?_; rintro e wv ⟨rfl, rfl⟩)
            | (go_at_call 26; refine (sum_any _ _ Ba R _ (h.dr (Dr.n w (n1 + n2))) HFP.out hl).mono ?_; rintro e wv ⟨rfl, rfl⟩; have hs1 : True := trivial)
            | (go_at_call 25; refine (validParts_any _ _ Bb B _ (hq.dr (Dr.n w n1)) hlq).mono ?_; rintro e wv ⟨rfl, n2, rfl⟩; rw [HQ.out])
            | (go_at_call 25; refine (validParts_any _ _ Ba R _ h hl).mono ?_; rintro e wv ⟨rfl, n1, rfl⟩; rw [HP.out])
            | (go_at_call 36; refine (inRange_yes _ _ _ _ hd0 hd16).mono ?_; rintro e wv ⟨rfl, hwv⟩; obtain rfl : w = wv := hwv.symm))
                go_ret2
                exact ⟨none, 0, rfl, own_nil0 _ _ _, (Dr.n w _).below _⟩
              · have hB2 : ¬ (0 : Int) < (B.length : Int) := by omega
                have hB3 : ¬ 0 < B.length := hB1
                go_enter Try.func21, Try.ntmps21
                go_wp2_with (first
            | (go_at_call 26; have hsx := hs1; refine (sum_any _ _ Bb B _ (hq.dr (Dr.n w (n1 + n2))) HFQ.out hlq).mono ?_; rintro e wv ⟨rfl, rfl⟩)
            | (go_at_call 26; refine (sum_any _ _ Ba R _ (h.dr (Dr.n w (n1 + n2))) HFP.out hl).mono ?_; rintro e wv ⟨rfl, rfl⟩; have hs1 : True := trivial)
            | (go_at_call 25; refine (validParts_any _ _ Bb B _ (hq.dr (Dr.n w n1)) hlq).mono ?_; rintro e wv ⟨rfl, n2, rfl⟩; rw [HQ.out])
            | (go_at_call 25; refine (validParts_any _ _ Ba R _ h hl).mono ?_; rintro e wv ⟨rfl, n1, rfl⟩; rw [HP.out])
            | (go_at_call 36; refine (inRange_yes _ _ _ _ hd0 hd16).mono ?_; rintro e wv ⟨rfl, hwv⟩; obtain rfl : w = wv := hwv.symm))
                go_ret2
                exact ⟨none, 0, rfl, own_nil0 _ _ _, (Dr.n w _).below _⟩
          · have hok : sqOk n R B = false := sqOk_no2 hb0
            rw [sqPutF_no hok, hok]
            have hB1 : 0 < B.length := by
              rcases Nat.eq_zero_or_pos B.length with h0 | h0
              · rw [getD_ge (by omega)] at hb0; omega
              · exact h0
            have hB1' : (0 : Int) < (B.length : Int) := by omega
            obtain ⟨bb, ob, rfl, _, hcb⟩ := hq.at_ hB1
            rw [getD_lt hB1] at hb0
            have hb0' : (n : Int) < B[0] := by omega
            generalize B[0] = y at *
            have hcb0 : w.cell? ⟨bb, ob, none⟩ = some (.int .i64 y) := hcb
            clear hcb
            clear hvp hvq hok hb0 hbp hbq
            go_enter Try.func21, Try.ntmps21
            go_wp2_with (first
            | (go_at_call 25; refine (validParts_any _ _ Bb B _ (hq.dr (Dr.n w n1)) hlq).mono ?_; rintro e wv ⟨rfl, n2, rfl⟩; rw [HQ.out])
            | (go_at_call 25; refine (validParts_any _ _ Ba R _ h hl).mono ?_; rintro e wv ⟨rfl, n1, rfl⟩; rw [HP.out])
            | (go_at_call 36; refine (inRange_yes _ _ _ _ hd0 hd16).mono ?_; rintro e wv ⟨rfl, hwv⟩; obtain rfl : w = wv := hwv.symm))
            go_ret2
            exact ⟨none, 0, rfl, own_nil0 _ _ _, (Dr.n w _).below _⟩
        · have g0 : decide ((n : Int) < (R.length : Int)) = true := decide_eq_true (by omega)
          have g0' : decide (n < R.length) = true := decide_eq_true (by omega)
          have hok : sqOk n R B = false := sqOk_no1 (by omega)
          rw [sqPutF_no hok, hok]
          clear hvp hvq hok hrl hbp hbq
          go_enter Try.func21, Try.ntmps21
          go_wp2_with (first
            | (go_at_call 25; refine (validParts_any _ _ Bb B _ (hq.dr (Dr.n w n1)) hlq).mono ?_; rintro e wv ⟨rfl, n2, rfl⟩; rw [HQ.out])
            | (go_at_call 25; refine (validParts_any _ _ Ba R _ h hl).mono ?_; rintro e wv ⟨rfl, n1, rfl⟩; rw [HP.out])
            | (go_at_call 36; refine (inRange_yes _ _ _ _ hd0 hd16).mono ?_; rintro e wv ⟨rfl, hwv⟩; obtain rfl : w = wv := hwv.symm))
          go_ret2
          exact ⟨none, 0, rfl, own_nil0 _ _ _, (Dr.n w _).below _⟩
      | false =>
        have HQ := Lib.hid hvq
        have hok : sqOk n R B = false := by cases hk : sqOk n R B with | false => rfl | true => exact absurd ((sqOk_iff _ _ _).1 hk).2.2.2.1 (by rw [hvq]; simp)
        rw [sqPutF_no hok, hok]
        clear hvp hvq hok
        go_enter Try.func21, Try.ntmps21
        go_wp2_with (first
            | (go_at_call 25; refine (validParts_any _ _ Bb B _ (hq.dr (Dr.n w n1)) hlq).mono ?_; rintro e wv ⟨rfl, n2, rfl⟩; rw [HQ.out])
            | (go_at_call 25; refine (validParts_any _ _ Ba R _ h hl).mono ?_; rintro e wv ⟨rfl, n1, rfl⟩; rw [HP.out])
            | (go_at_call 36; refine (inRange_yes _ _ _ _ hd0 hd16).mono ?_; rintro e wv ⟨rfl, hwv⟩; obtain rfl : w = wv := hwv.symm))
        go_ret2
        exact ⟨none, 0, rfl, own_nil0 _ _ _, (Dr.n w _).below _⟩
    | false =>
      have HP := Lib.hid hvp
      have hok : sqOk n R B = false := by cases hk : sqOk n R B with | false => rfl | true => exact absurd ((sqOk_iff _ _ _).1 hk).2.2.1 (by rw [hvp]; simp)
      rw [sqPutF_no hok, hok]
      clear hvp hok
      go_enter Try.func21, Try.ntmps21
      go_wp2_with (first
            | (go_at_call 25; refine (validParts_any _ _ Ba R _ h hl).mono ?_; rintro e wv ⟨rfl, n1, rfl⟩; rw [HP.out])
            | (go_at_call 36; refine (inRange_yes _ _ _ _ hd0 hd16).mono ?_; rintro e wv ⟨rfl, hwv⟩; obtain rfl : w = wv := hwv.symm))
      go_ret2
      exact ⟨none, 0, rfl, own_nil0 _ _ _, (Dr.n w _).below _⟩
  · have hok : sqOk d R B = false := by cases hk : sqOk d R B with | false => rfl | true => exact absurd ⟨((sqOk_iff _ _ _).1 hk).1, ((sqOk_iff _ _ _).1 hk).2.1⟩ hdr
    rw [sqPutF_no hok, hok]
    have HR : Hid (d < 0 ∨ 16 < d) := Lib.hid (by omega)
    clear hok hdr
    go_enter Try.func21, Try.ntmps21
    go_wp2_with (go_at_call 36; refine (inRange_no _ _ _ _ HR.out).mono ?_; rintro e wv ⟨rfl, hwv⟩; obtain rfl : w = wv := hwv.symm)
    go_ret2
    exact ⟨none, 0, rfl, own_nil0 _ _ _, Below.refl _ _⟩
end Go.Proofs.Ytldbjnnolebfbaa
