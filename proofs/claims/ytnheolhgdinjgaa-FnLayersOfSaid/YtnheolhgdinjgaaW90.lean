/-
  Walks of the model: piles: valid, summed, turned, in layers, even.
-/
import Derived.Test.YtnheolhgdinjgaaM45
import Derived.Test.YtnheolhgdinjgaaLL
import Derived.Test.YtnheolhgdinjgaaW4
import Derived.Test.YtnheolhgdinjgaaM28
import Derived.Deep.QuietTactic
import Derived.BigQuiet
import Derived.Deep.RegionLaw
namespace Go.Proofs.Ytnheolhgdinjgaa
open Go.RowKit NP
set_option maxRecDepth 100000
set_option linter.unusedVariables false
set_option linter.unusedSimpArgs false
theorem dr_cell {w w' : World} (h : Dr w w') (p : Addr) : w'.cell? p = w.cell? p := by obtain ⟨n, rfl⟩ := h; rfl
theorem vfits {L : List Int} (h : valid L = true) : sumFits L := valid_fits h
set_option maxHeartbeats 4000000 in
theorem validPile_any (a : Option Addr) (c B : Nat) (LL : List (List Int)) (w : World) (h : RdLL w B a LL) (hn : LL.length ≤ 1099511627776) (hil : ∀ L ∈ LL, L.length ≤ 4611686018427387904) :
    Calls Try.prog 36 #[.slice a LL.length c] w fun e w' => e = .returned (.bool (vpl LL)) ∧ Dr w w' := by
  have HIL := Lib.hid hil
  clear hil
  go_enter Try.func36, Try.ntmps36
  go_wp2_with fail
  go_loopw [3, 4] (fun vn vi wr => ∃ k : Nat, k ≤ LL.length ∧ vi = .int .i64 k ∧ vn = .int .i64 (sumLL (LL.take k)) ∧ Dr w wr ∧ Hid (∀ i, i < k → pgd LL i)) (fun _ vi _ => LL.length - (intOf vi).toNat)
  case atStart => exact ⟨0, Nat.zero_le _, rfl, rfl, Dr.refl w, Lib.hid fun i hi => by omega⟩
  case round =>
    obtain ⟨k, hk, rfl, rfl, hdr, HP⟩ := hrel
    obtain ⟨wo, rfl⟩ : ∃ wo : World, wo = wr := ⟨_, rfl⟩
    have hsb := sumLL_pbd hk HP.out
    by_cases hlt : k < LL.length
    · have hlt' : (k : Int) < (LL.length : Int) := by omega
      obtain ⟨b1, o1, a1, c1, rfl, -, hc1, hr1, -⟩ := (h.dr hdr).at_ hlt
      have hll := HIL.out _ (List.getElem_mem hlt)
      have HBR := Lib.hid (vpl_badrow hlt)
      have HSS := Lib.hid (sumLL_succ hlt)
      have HPS := Lib.hid (pgd_step hlt)
      have HBC : Hid (∀ j m, (hj : k = j + 1) → (LL[j]'(by omega)).getD m 0 < LL[k].getD m 0 → vpl LL = false) := Lib.hid (fun j m hj hh => by subst hj; exact vpl_badcell hlt hh)
      obtain ⟨L, hL⟩ : ∃ L, L = LL[k] := ⟨_, rfl⟩
      rw [← hL] at hc1 hr1 hll HBR HSS HPS HBC
      clear hL
      cases hv : valid L with
      | false =>
        have HF : Hid (vpl LL = false) := Lib.hid (HBR.out (.inl hv))
        have HV := Lib.hid hv
        clear hv
        go_wp2_with (go_at_call 56; refine (validParts_any a1 c1 _ L _ hr1 hll).mono ?_; rintro e wv ⟨rfl, n1, rfl⟩; rw [HV.out])
        go_ret
        exact ⟨ret_bool HF.out.symm, hdr.trans (Dr.n _ _)⟩
      | true =>
        have HV := Lib.hid hv
        have hbd := valid_bd hv
        by_cases hz : L.length = 0
        · have hLn : L = [] := List.eq_nil_of_length_eq_zero hz
          have HF : Hid (vpl LL = false) := Lib.hid (HBR.out (.inr hLn))
          have hz0 : (((L.length : Nat) : Int) == 0) = true := beq_iff_eq.2 (by omega)
          have hc1' := Lib.hid hc1
          clear hLn hv hz
          have hcd : ∀ n, (wo.drewN n).cell? ⟨b1, o1 + k, none⟩ = some (.slice a1 L.length c1) := fun n => hc1
          go_wp2_with (go_at_call 56; refine (validParts_any a1 c1 _ L _ hr1 hll).mono ?_; rintro e wv ⟨rfl, n1, rfl⟩; rw [HV.out])
          go_ret
          exact ⟨ret_bool HF.out.symm, hdr.trans (Dr.n _ _)⟩
        · have hz0 : (((L.length : Nat) : Int) == 0) = false := beq_eq_false_iff_ne.2 (by omega)
          have HNE : Hid (L ≠ []) := Lib.hid (fun e => hz (by rw [e]; rfl))
          have HVF := Lib.hid (vfits hv)
          have hs0 : 0 ≤ sumL L ∧ sumL L ≤ 16 := ⟨hbd.1, hbd.2.1⟩
          clear hv hz
          by_cases hk0 : k = 0
          · subst hk0
            rw [Nat.add_zero] at hc1
            have hs00 : sumLL [] = 0 := rfl
            have HPG : Hid (pgd LL 0) := Lib.hid (HPS.out HV.out HNE.out (fun j hj => by omega))
            go_wp2_with (first
              | (go_at_call 56; refine (validParts_any a1 c1 _ L _ hr1 hll).mono ?_; rintro e wv ⟨rfl, n1, rfl⟩; rw [HV.out])
              | (go_at_call 44; refine (sum_any a1 c1 _ L _ (hr1.dr (Dr.n wo n1)) HVF.out hll).mono ?_; rintro e wv ⟨rfl, rfl⟩))
            go_loopw [5] (fun i wr => i = .int .i64 0 ∧ wr = wo.drewN n1) (fun _ _ => 0)
            case atStart => exact ⟨rfl, rfl⟩
            case round =>
              obtain ⟨rfl, rfl⟩ := hrel
              go_wp2_with fail
              go_roundw
              case rel => exact ⟨1, by omega, by go_num, congrArg (Value.int .i64) (by rw [HSS.out]; show sumL L = 0 + sumL L; omega), hdr.trans (Dr.n _ _), Lib.hid fun i hi => by rw [show i = 0 by omega]; exact HPG.out⟩
              case measure => simp [intOf]; omega
          · obtain ⟨j, rfl⟩ : ∃ j, k = j + 1 := ⟨k - 1, by omega⟩
            have hjl : j < LL.length := by omega
            have hlt2 : (j : Int) + 1 < (LL.length : Int) := by omega
            go_wp2_with (first
              | (go_at_call 56; refine (validParts_any a1 c1 _ L _ hr1 hll).mono ?_; rintro e wv ⟨rfl, n1, rfl⟩; rw [HV.out])
              | (go_at_call 44; refine (sum_any a1 c1 _ L _ (hr1.dr (Dr.n wo n1)) HVF.out hll).mono ?_; rintro e wv ⟨rfl, rfl⟩))
            obtain ⟨b2, o2, a2, c2, e2, -, hc2, hr2, -⟩ := ((h.dr hdr).dr (Dr.n wo n1)).at_ hjl
            injection e2 with e2; injection e2 with e3 e4; subst e3 e4
            have hpp := (HP.out j (by omega)).1
            rw [gl_lt hjl] at hpp
            have hbp := valid_bd hpp
            have HBC2 := Lib.hid (fun m => HBC.out j m rfl)
            have HPG2 := Lib.hid (HPS.out HV.out HNE.out)
            have HPG3 : Hid ((∀ m, m < L.length → L.getD m 0 ≤ LL[j].getD m 0) → pgd LL (j + 1)) := Lib.hid (fun hh => HPG2.out (fun i hi => by
              obtain rfl : j = i := by omega
              exact ⟨hpp, hh⟩))
            have hc1d : (wo.drewN n1).cell? ⟨b1, o1 + (j + 1), none⟩ = some (.slice a1 L.length c1) := hc1
            have hr1d := hr1.dr (Dr.n wo n1)
            obtain ⟨P, hP⟩ : ∃ P, P = LL[j] := ⟨_, rfl⟩
            rw [← hP] at hc2 hr2 hbp HBC2 HPG3
            have HPN := Lib.hid (getD_nn (hP ▸ hpp))
            clear hP hpp HPG2 HBC HPS hk0 hc1 hr1
            have hj0 : (0 : Int) < (j : Int) + 1 := by omega
            have hwj : IntKind.i64.wrap (j : Int) = (j : Int) := IntWalk.i64_in _ (by omega)
            have hjl' : (j : Int) < (LL.length : Int) := by omega
            go_loopw [5] (fun i wr => ∃ m : Nat, m ≤ L.length ∧ i = .int .i64 m ∧ Dr (wo.drewN n1) wr ∧ Hid (∀ q, q < m → L.getD q 0 ≤ P.getD q 0)) (fun i _ => 20 - (intOf i).toNat)
            case atStart => exact ⟨0, Nat.zero_le _, rfl, Dr.refl _, Lib.hid fun q hq => by omega⟩
            case round =>
              obtain ⟨m, hm, rfl, hdq, HJ⟩ := hrel
              have hq1 : wr.cell? ⟨b1, o1 + (j + 1), none⟩ = some (.slice a1 L.length c1) := (dr_cell hdq _).trans hc1d
              have hq2 : wr.cell? ⟨b1, o1 + j, none⟩ = some (.slice a2 P.length c2) := (dr_cell hdq _).trans hc2
              by_cases hml : m < L.length
              · have hml' : (m : Int) < (L.length : Int) := by omega
                obtain ⟨b3, o3, rfl, _, hc3⟩ := (hr1d.dr hdq).at_ hml
                have HX : Hid (L.getD m 0 = L[m]) := Lib.hid (getD_lt hml)
                by_cases hmp : m < P.length
                · have hmp' : (m : Int) < (P.length : Int) := by omega
                  have hg1 : decide ((P.length : Int) ≤ (m : Int)) = false := decide_eq_false (by omega)
                  have hg1' : decide (P.length ≤ m) = false := decide_eq_false (by omega)
                  obtain ⟨b4, o4, rfl, _, hc4⟩ := (hr2.dr hdq).at_ hmp
                  have HY : Hid (P.getD m 0 = P[m]) := Lib.hid (getD_lt hmp)
                  generalize L[m] = y at *
                  generalize P[m] = x at *
                  by_cases hxy : x < y
                  · have d3 : decide (x < y) = true := decide_eq_true hxy
                    have HF : Hid (vpl LL = false) := Lib.hid (HBC2.out m (by rw [HX.out, HY.out]; exact hxy))
                    clear hxy
                    go_wp2_with fail
                    go_quiet (fail)
                    go_wp2_with fail
                    go_ret
                    exact ⟨ret_bool HF.out.symm, ((hdr.trans (Dr.n _ _)).trans hdq).drewN _⟩
                  · have d3 : decide (x < y) = false := decide_eq_false hxy
                    have hyx : y ≤ x := by omega
                    clear hxy
                    go_wp2_with fail
                    go_quiet (fail)
                    go_wp2_with fail
                    go_roundw
                    case rel => exact ⟨m + 1, by omega, by go_num, hdq.drewN _, Lib.hid fun q hq => by
                      rcases Nat.lt_or_ge q m with h | h
                      · exact HJ.out q h
                      · obtain rfl : q = m := by omega
                        rw [HX.out, HY.out]; exact hyx⟩
                    case measure => simp [intOf]; omega
                · have hg1 : decide ((P.length : Int) ≤ (m : Int)) = true := decide_eq_true (by omega)
                  have hg1' : decide (P.length ≤ m) = true := decide_eq_true (by omega)
                  have HF : Hid (vpl LL = false) := Lib.hid (HBC2.out m (by
                    have h1 := preS_of_valid HV.out m hml hml
                    rw [HX.out, getD_ge (by omega)]; omega))
                  go_wp2_with fail
                  go_quiet (fail)
                  go_wp2_with fail
                  go_ret
                  exact ⟨ret_bool HF.out.symm, ((hdr.trans (Dr.n _ _)).trans hdq).drewN _⟩
              · obtain rfl : m = L.length := by omega
                have HPG : Hid (pgd LL (j + 1)) := Lib.hid (HPG3.out (fun q hq => HJ.out q hq))
                go_wp2_with fail
                go_roundw
                case rel => exact ⟨j + 1 + 1, by omega, by go_num, by rw [HSS.out], (hdr.trans (Dr.n _ _)).trans hdq, Lib.hid fun i hi => by
                  rcases Nat.lt_or_ge i (j + 1) with h | h
                  · exact HP.out i h
                  · obtain rfl : i = j + 1 := by omega
                    exact HPG.out⟩
                case measure => simp [intOf]; omega
    · obtain rfl : k = LL.length := by omega
      rw [List.take_of_length_le (Nat.le_refl _)] at hsb
      have HTK : Hid (LL.take LL.length = LL) := Lib.hid (List.take_of_length_le (Nat.le_refl _))
      have HE := Lib.hid (vpl_atEnd HP.out)
      rw [HTK.out]
      by_cases h16 : LL.length ≤ 16
      · have h16' : (LL.length : Int) ≤ 16 := by omega
        go_wp2_with fail
        go_ret
        exact ⟨ret_bool HE.out.symm, hdr⟩
      · have h16' : decide (LL.length ≤ 16) = false := decide_eq_false h16
        have HF := Lib.hid (vpl_long (LL := LL) (by omega))
        go_wp2_with fail
        go_ret
        exact ⟨ret_bool HF.out.symm, hdr⟩
end Go.Proofs.Ytnheolhgdinjgaa
