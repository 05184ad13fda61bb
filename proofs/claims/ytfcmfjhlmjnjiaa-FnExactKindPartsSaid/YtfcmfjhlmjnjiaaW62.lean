/-
  Walks of the model: IsKind for every name.
-/
import Derived.Test.YtfcmfjhlmjnjiaaW43
namespace Go.Proofs.Ytfcmfjhlmjnjiaa
open Go.RowKit NP
set_option linter.unusedVariables false
set_option linter.unusedSimpArgs false
theorem kind_ne {s : ByteArray} (hk : kindOf s.data.toList = none) {l : List UInt8} {K : List Int → Bool} (h : kindOf l = some K) : s.data.toList ≠ l := by
  intro e
  rw [e, h] at hk
  cases hk

set_option maxHeartbeats 2000000 in
theorem skind_none (s : ByteArray) (hk : kindOf s.data.toList = none) (a : Option Addr) (c : Nat) (L : List Int) (w : World) :
    Calls Try.prog 30 #[.string s, .slice a L.length c] w fun e w' => e = .returned (.tuple #[.bool false, .bool false]) ∧ Below w.heap.size w w' := by
  have e0 : (s.toList == [111, 100, 100]) = false := by rw [ByteArray.toList_eq]; exact beq_eq_false_iff_ne.2 (kind_ne hk kindOf_odd)
  have e1 : (s.toList == [100, 105, 115, 116, 105, 110, 99, 116]) = false := by rw [ByteArray.toList_eq]; exact beq_eq_false_iff_ne.2 (kind_ne hk kindOf_distinct)
  have e2 : (s.toList == [115, 101, 108, 102]) = false := by rw [ByteArray.toList_eq]; exact beq_eq_false_iff_ne.2 (kind_ne hk kindOf_self)
  have e3 : (s.toList == [100, 105, 115, 116, 105, 110, 99, 116, 111, 100, 100]) = false := by rw [ByteArray.toList_eq]; exact beq_eq_false_iff_ne.2 (kind_ne hk kindOf_distinctodd)
  have e4 : (s.toList == [110, 111, 116, 116, 104, 114, 101, 101]) = false := by rw [ByteArray.toList_eq]; exact beq_eq_false_iff_ne.2 (kind_ne hk kindOf_notthree)
  have e5 : (s.toList == [116, 119, 105, 99, 101]) = false := by rw [ByteArray.toList_eq]; exact beq_eq_false_iff_ne.2 (kind_ne hk kindOf_twice)
  have e6 : (s.toList == [103, 97, 112]) = false := by rw [ByteArray.toList_eq]; exact beq_eq_false_iff_ne.2 (kind_ne hk kindOf_gap)
  have e7 : (s.toList == [102, 105, 118, 101]) = false := by rw [ByteArray.toList_eq]; exact beq_eq_false_iff_ne.2 (kind_ne hk kindOf_five)
  have e8 : (s.toList == [103, 97, 112, 111, 110, 101]) = false := by rw [ByteArray.toList_eq]; exact beq_eq_false_iff_ne.2 (kind_ne hk kindOf_gapone)
  have e9 : (s.toList == [102, 105, 118, 101, 116, 119, 111]) = false := by rw [ByteArray.toList_eq]; exact beq_eq_false_iff_ne.2 (kind_ne hk kindOf_fivetwo)
  have e10 : (s.toList == [115, 99, 104, 117, 114]) = false := by rw [ByteArray.toList_eq]; exact beq_eq_false_iff_ne.2 (kind_ne hk kindOf_schur)
  have e11 : (s.toList == [115, 105, 120]) = false := by rw [ByteArray.toList_eq]; exact beq_eq_false_iff_ne.2 (kind_ne hk kindOf_six)
  clear hk
  go_enter Try.func30, Try.ntmps30
  go_wp2
  go_ret2
  exact ⟨rfl, Below.refl _ _⟩

theorem sk_of {s : ByteArray} {K : List Int → Bool} (hk : kindOf s.data.toList = some K) : ∃ K', SK s K' ∧ ∀ L, K' L = K L := by
  obtain ⟨l, hl⟩ : ∃ l, l = s.data.toList := ⟨_, rfl⟩
  have hs : s = ⟨l.toArray⟩ := by rw [hl]
  rw [← hl] at hk
  subst hs
  clear hl
  by_cases h_odd : l = [111, 100, 100]
  · subst h_odd
    rw [kindOf_odd] at hk
    injection hk with hk
    subst hk
    exact ⟨_, sk_odd, fun L => by first | rfl | exact Bool.and_comm _ _⟩
  by_cases h_distinct : l = [100, 105, 115, 116, 105, 110, 99, 116]
  · subst h_distinct
    rw [kindOf_distinct] at hk
    injection hk with hk
    subst hk
    exact ⟨_, sk_distinct, fun L => by first | rfl | exact Bool.and_comm _ _⟩
  by_cases h_self : l = [115, 101, 108, 102]
  · subst h_self
    rw [kindOf_self] at hk
    injection hk with hk
    subst hk
    exact ⟨_, sk_self, fun L => by first | rfl | exact Bool.and_comm _ _⟩
  by_cases h_distinctodd : l = [100, 105, 115, 116, 105, 110, 99, 116, 111, 100, 100]
  · subst h_distinctodd
    rw [kindOf_distinctodd] at hk
    injection hk with hk
    subst hk
    exact ⟨_, sk_distinctodd, fun L => by first | rfl | exact Bool.and_comm _ _⟩
  by_cases h_notthree : l = [110, 111, 116, 116, 104, 114, 101, 101]
  · subst h_notthree
    rw [kindOf_notthree] at hk
    injection hk with hk
    subst hk
    exact ⟨_, sk_notthree, fun L => by first | rfl | exact Bool.and_comm _ _⟩
  by_cases h_twice : l = [116, 119, 105, 99, 101]
  · subst h_twice
    rw [kindOf_twice] at hk
    injection hk with hk
    subst hk
    exact ⟨_, sk_twice, fun L => by first | rfl | exact Bool.and_comm _ _⟩
  by_cases h_gap : l = [103, 97, 112]
  · subst h_gap
    rw [kindOf_gap] at hk
    injection hk with hk
    subst hk
    exact ⟨_, sk_gap, fun L => by first | rfl | exact Bool.and_comm _ _⟩
  by_cases h_five : l = [102, 105, 118, 101]
  · subst h_five
    rw [kindOf_five] at hk
    injection hk with hk
    subst hk
    exact ⟨_, sk_five, fun L => by first | rfl | exact Bool.and_comm _ _⟩
  by_cases h_gapone : l = [103, 97, 112, 111, 110, 101]
  · subst h_gapone
    rw [kindOf_gapone] at hk
    injection hk with hk
    subst hk
    exact ⟨_, sk_gapone, fun L => by first | rfl | exact Bool.and_comm _ _⟩
  by_cases h_fivetwo : l = [102, 105, 118, 101, 116, 119, 111]
  · subst h_fivetwo
    rw [kindOf_fivetwo] at hk
    injection hk with hk
    subst hk
    exact ⟨_, sk_fivetwo, fun L => by first | rfl | exact Bool.and_comm _ _⟩
  by_cases h_schur : l = [115, 99, 104, 117, 114]
  · subst h_schur
    rw [kindOf_schur] at hk
    injection hk with hk
    subst hk
    exact ⟨_, sk_schur, fun L => by first | rfl | exact Bool.and_comm _ _⟩
  by_cases h_six : l = [115, 105, 120]
  · subst h_six
    rw [kindOf_six] at hk
    injection hk with hk
    subst hk
    exact ⟨_, sk_six, fun L => by first | rfl | exact Bool.and_comm _ _⟩
  unfold kindOf at hk
  simp [*] at hk

theorem sIsKind_any (s : ByteArray) (a : Option Addr) (c B : Nat) (L : List Int) (w : World) (h : Rd w B a (ints L)) (hB : B ≤ w.heap.size) (hl : L.length ≤ 4611686018427387904) :
    Calls Try.prog 22 #[.string s, .slice a L.length c] w fun e w' => e = .returned (.bool (kindF s.data.toList L)) ∧ Below w.heap.size w w' := by
  cases hv : valid L with
  | false =>
    have HV := Lib.hid hv
    have HF : Hid (kindF s.data.toList L = false) := Lib.hid (by unfold kindF; rw [hv]; rfl)
    clear hv
    go_enter Try.func22, Try.ntmps22
    go_wp2_with (go_at_call 49; refine (validParts_any _ _ B L _ h hl).mono ?_; rintro e wv ⟨rfl, n1, rfl⟩; rw [HV.out])
    go_ret
    exact ⟨ret_bool HF.out.symm, (Dr.n w n1).below _⟩
  | true =>
    have HV := Lib.hid hv
    clear hv
    cases hk : kindOf s.data.toList with
    | none =>
      have HF : Hid (kindF s.data.toList L = false) := Lib.hid (kindF_none hk L)
      have HK := Lib.hid hk
      clear hk
      go_enter Try.func22, Try.ntmps22
      go_wp2_with (first
        | (go_at_call 30; refine (skind_none s HK.out _ _ L _).mono ?_; rintro e w1 ⟨rfl, hb1⟩)
        | (go_at_call 49; refine (validParts_any _ _ B L _ h hl).mono ?_; rintro e wv ⟨rfl, n1, rfl⟩; rw [HV.out]))
      go_ret
      exact ⟨ret_bool HF.out.symm, ((Dr.n w n1).below w.heap.size).trans (hb1.mono ((Dr.n w n1).below w.heap.size).size)⟩
    | some K =>
      obtain ⟨K', hSK, hKK⟩ := sk_of hk
      have HF : Hid (K' L = kindF s.data.toList L) := Lib.hid (by rw [kindF_some hk, HV.out, hKK]; rfl)
      have HSK := Lib.hid hSK
      clear hk hKK hSK
      go_enter Try.func22, Try.ntmps22
      go_wp2_with (first
        | (go_at_call 30; refine (HSK.out _ _ B L _ HV.out (h.below (((Dr.n w n1).below w.heap.size).mono hB)) (Nat.le_trans hB ((Dr.n w n1).below w.heap.size).size)).mono ?_; rintro e w1 ⟨rfl, hb1⟩)
        | (go_at_call 49; refine (validParts_any _ _ B L _ h hl).mono ?_; rintro e wv ⟨rfl, n1, rfl⟩; rw [HV.out]))
      go_ret
      exact ⟨ret_bool HF.out, ((Dr.n w n1).below w.heap.size).trans (hb1.mono ((Dr.n w n1).below w.heap.size).size)⟩
end Go.Proofs.Ytfcmfjhlmjnjiaa
