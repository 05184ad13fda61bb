/-
  Walks: parts in a box, by the model.
-/
import Derived.Test.YtgbkaahmmpgjfaaW80
namespace Go.Proofs.Ytgbkaahmmpgjfaa
open Go.RowKit NP
set_option linter.unusedVariables false
set_option linter.unusedSimpArgs false
theorem validBox_any (a b : Int) (w : World) :
    Calls Try.prog 41 #[.int .i64 a, .int .i64 b] w fun e w' => e = .returned (.bool (limB a b)) ∧ w = w' := by
  by_cases ha : 0 ≤ a ∧ a ≤ 4
  · by_cases hb : 0 ≤ b ∧ b ≤ 4
    · have HR : Hid (limB a b = true) := Lib.hid (decide_eq_true ⟨ha.1, ha.2, hb.1, hb.2⟩)
      go_enter Try.func41, Try.ntmps41
      go_wp2_with (first
        | (go_at_call 69; (with_reducible refine (inRange_yes a _ _ _ ha.1 ha.2).mono ?_); rintro e w' ⟨rfl, rfl⟩)
        | (go_at_call 69; (with_reducible refine (inRange_yes b _ _ _ hb.1 hb.2).mono ?_); rintro e w' ⟨rfl, rfl⟩))
      go_ret
      exact ⟨ret_bool HR.out.symm, rfl⟩
    · have HR : Hid (limB a b = false) := Lib.hid (decide_eq_false (fun h => hb h.2.2))
      have hb' : b < 0 ∨ 4 < b := by omega
      go_enter Try.func41, Try.ntmps41
      go_wp2_with (first
        | (go_at_call 69; (with_reducible refine (inRange_yes a _ _ _ ha.1 ha.2).mono ?_); rintro e w' ⟨rfl, rfl⟩)
        | (go_at_call 69; (with_reducible refine (inRange_no b _ _ _ hb').mono ?_); rintro e w' ⟨rfl, rfl⟩))
      go_ret
      exact ⟨ret_bool HR.out.symm, rfl⟩
  · have HR : Hid (limB a b = false) := Lib.hid (decide_eq_false (fun h => ha ⟨h.1, h.2.1⟩))
    have ha' : a < 0 ∨ 4 < a := by omega
    go_enter Try.func41, Try.ntmps41
    go_wp2_with (go_at_call 69; refine (inRange_no a _ _ _ ha').mono ?_; rintro e w' ⟨rfl, rfl⟩)
    go_ret
    exact ⟨ret_bool HR.out.symm, rfl⟩
theorem inBox_any (p : Option Addr) (c B : Nat) (L : List Int) (a b : Int) (w : World) (r : Bool) (HR : Hid (r = decide ((L.length : Int) ≤ a ∧ (L.length = 0 ∨ L.headD 0 ≤ b)))) (h : Rd w B p (ints L)) (hl : L.length ≤ 4611686018427387904) :
    Calls Try.prog 42 #[.slice p L.length c, .int .i64 a, .int .i64 b] w fun e w' => e = .returned (.bool r) ∧ w = w' := by
  by_cases h1 : (L.length : Int) ≤ a
  · by_cases h0 : L.length = 0
    · have hr : r = true := by rw [HR.out]; exact decide_eq_true ⟨h1, Or.inl h0⟩
      rw [h0] at h1 ⊢
      have d1 : decide ((0 : Int) ≤ a) = true := decide_eq_true (by omega)
      have h1' : 0 ≤ a := by omega
      clear h0 h1 HR
      go_enter Try.func42, Try.ntmps42
      go_wp2
      go_ret
      exact ⟨ret_bool (by rw [hr]), rfl⟩
    · obtain ⟨g, o, rfl, hB, hc⟩ := h.at_ (k := 0) (by omega)
      rw [Nat.add_zero] at hc
      obtain ⟨x, hx⟩ : ∃ x, x = L[0] := ⟨_, rfl⟩
      have hr : r = decide (x ≤ b) := by
        rw [HR.out, hx]
        have e : L.headD 0 = L[0] := by cases L with
          | nil => exact absurd rfl h0
          | cons y L => rfl
        rw [← e, Bool.eq_iff_iff, decide_eq_true_eq, decide_eq_true_eq]
        exact ⟨fun h => h.2.resolve_left h0, fun h => ⟨h1, Or.inr h⟩⟩
      rw [← hx] at hc
      obtain ⟨n, hn⟩ : ∃ n, n = L.length := ⟨_, rfl⟩
      rw [← hn] at h1 h0 hl ⊢
      have d1 : decide ((n : Int) ≤ a) = true := decide_eq_true h1
      have hn0 : 0 < n := by omega
      have hnz : ((n : Int) == 0) = false := beq_eq_false_iff_ne.2 (by omega)
      clear h HR hx hn
      go_enter Try.func42, Try.ntmps42
      go_wp2
      go_ret
      exact ⟨ret_bool (by rw [hr]), rfl⟩
  · have hr : r = false := by rw [HR.out]; exact decide_eq_false (fun h => h1 h.1)
    obtain ⟨n, hn⟩ : ∃ n, n = L.length := ⟨_, rfl⟩
    rw [← hn] at h1 hl ⊢
    have d1 : decide ((n : Int) ≤ a) = false := decide_eq_false h1
    clear HR hn
    go_enter Try.func42, Try.ntmps42
    go_wp2
    go_ret
    exact ⟨ret_bool (by first | rfl | rw [hr]), rfl⟩
theorem sInBox_any (p : Option Addr) (c B : Nat) (L : List Int) (a b : Int) (w : World) (h : Rd w B p (ints L)) (hl : L.length ≤ 4611686018427387904) :
    Calls Try.prog 13 #[.slice p L.length c, .int .i64 a, .int .i64 b] w fun e w' => e = .returned (.bool (inbF L a b)) ∧ Dr w w' := by
  obtain ⟨v, hv⟩ : ∃ v, v = valid L := ⟨_, rfl⟩
  have HV := Lib.hid hv
  obtain ⟨q, hq⟩ : ∃ q, q = limB a b := ⟨_, rfl⟩
  have HQ := Lib.hid hq
  obtain ⟨r, hr⟩ : ∃ r, r = decide ((L.length : Int) ≤ a ∧ (L.length = 0 ∨ L.headD 0 ≤ b)) := ⟨_, rfl⟩
  have HB := Lib.hid hr
  have HR : Hid (inbF L a b = (v && (q && r))) := Lib.hid (by
    unfold inbF
    rw [← hv, ← hq, hr]
    cases v with
    | false => rfl
    | true =>
      cases q with
      | false => rfl
      | true =>
        simp only [Bool.true_and]
        congr 1
        cases L with
        | nil =>
          have := of_decide_eq_true hq.symm
          simp
          omega
        | cons x L => simp)
  rw [HR.out]
  clear hv hq hr
  cases v <;> cases q <;> cases r
  all_goals
    go_enter Try.func13, Try.ntmps13
    go_wp2_with (first
      | (go_at_call 40; refine (validParts_any _ _ B L _ h hl).mono ?_; rintro e w1 ⟨rfl, n, rfl⟩; rw [← HV.out])
      | (go_at_call 41; refine (validBox_any a b _).mono ?_; rintro e w2 ⟨rfl, rfl⟩; rw [← HQ.out])
      | (go_at_call 42; refine (inBox_any _ _ B L a b _ _ HB (h.dr (Dr.n _ _)) hl).mono ?_; rintro e w3 ⟨rfl, rfl⟩))
    go_ret
    exact ⟨ret_bool rfl, Dr.n _ _⟩
end Go.Proofs.Ytgbkaahmmpgjfaa
