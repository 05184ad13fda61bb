/-
  Plain mathematics of orders: how many orders numbers have, reckoned number by number. No Go text.
-/
import Derived.Test.YtgbkaahmmpgjfaaM35
import Derived.Test.YtgbkaahmmpgjfaaM2
namespace Go.Proofs.Ytgbkaahmmpgjfaa
namespace NP
set_option linter.unusedVariables false
/-- c equal ones more: how many stand, in how many orders -/
def inn : Nat → Nat × Nat → Nat × Nat
  | 0, s => s
  | c + 1, s => ((inn c s).1 + 1, (inn c s).2 * ((inn c s).1 + 1) / (c + 1))
def ordS (cs : List Nat) (s : Nat × Nat) : Nat × Nat := cs.foldl (fun s c => inn c s) s
theorem inn_fst (c : Nat) (s : Nat × Nat) : (inn c s).1 = s.1 + c := by
  induction c with
  | zero => rfl
  | succ c ih => simp only [inn, ih]; omega
def fac : Nat → Nat
  | 0 => 1
  | n + 1 => fac n * (n + 1)
theorem inn_le (c : Nat) (s : Nat × Nat) (h : s.2 ≤ fac s.1) : (inn c s).2 ≤ fac (s.1 + c) := by
  induction c with
  | zero => exact h
  | succ c ih =>
    simp only [inn, inn_fst]
    refine Nat.le_trans (Nat.div_le_self _ _) ?_
    rw [← Nat.add_assoc]
    simp only [fac]
    exact Nat.mul_le_mul_right _ ih
theorem ordS_fst (cs : List Nat) (s : Nat × Nat) : (ordS cs s).1 = s.1 + cs.sum := by
  induction cs generalizing s with
  | nil => simp [ordS]
  | cons c r ih => simp only [ordS, List.foldl_cons] at *; rw [ih, inn_fst, List.sum_cons]; omega
theorem ordS_le (cs : List Nat) (s : Nat × Nat) (h : s.2 ≤ fac s.1) : (ordS cs s).2 ≤ fac (s.1 + cs.sum) := by
  induction cs generalizing s with
  | nil => simpa [ordS] using h
  | cons c r ih =>
    have h1 := inn_le c s h
    rw [← inn_fst c s] at h1
    have := ih (inn c s) h1
    rw [inn_fst] at this
    simp only [ordS, List.foldl_cons, List.sum_cons] at *
    rw [← Nat.add_assoc]; exact this
theorem ordS_snoc (cs : List Nat) (c : Nat) (s : Nat × Nat) : ordS (cs ++ [c]) s = inn c (ordS cs s) := by simp [ordS]
theorem fac_mono {a b : Nat} (h : a ≤ b) : fac a ≤ fac b := by
  induction b with
  | zero => obtain rfl : a = 0 := by omega
            exact Nat.le_refl _
  | succ b ih =>
    rcases Nat.lt_or_ge a (b + 1) with h1 | h1
    · refine Nat.le_trans (ih (by omega)) ?_
      simp only [fac]
      exact Nat.le_mul_of_pos_right _ (by omega)
    · obtain rfl : a = b + 1 := by omega
      exact Nat.le_refl _
theorem fac16 : fac 16 = 20922789888000 := by decide
/-- how often each number from 0 to 16 comes -/
def tcs (P : List Int) : List Nat := (List.range 17).map fun (v : Nat) => (eqc (v : Int) P).toNat
def mcs (P : List Int) : List Nat := (tim P).map Int.toNat
def ordP (P : List Int) : Nat := (ordS (tcs P) (0, 1)).2
def ordM (P : List Int) : Nat := (ordS (mcs P) (0, 1)).2
def ordOk (N : List Nat) : Bool :=
  let P := N.map Int.ofNat
  decide (ordM P = ordP P) && decide ((tcs P).sum ≤ 16) && decide ((mcs P).sum ≤ 16) && (mcs P).all (fun c => decide (c ≤ 16)) && (tcs P).all (fun c => decide (c ≤ 16)) && decide (1 ≤ ordP P)
theorem ordTab : all16.all ordOk = true := by decide +kernel
theorem ord_facts {P : List Int} (h : valid P = true) : ordM P = ordP P ∧ (tcs P).sum ≤ 16 ∧ (mcs P).sum ≤ 16 ∧ (∀ c ∈ mcs P, c ≤ 16) ∧ (∀ c ∈ tcs P, c ≤ 16) ∧ 1 ≤ ordP P := by
  obtain ⟨N, hN, rfl⟩ := of_all ordTab h
  unfold ordOk at hN
  simp only [Bool.and_eq_true, decide_eq_true_eq, List.all_eq_true] at hN
  obtain ⟨⟨⟨⟨⟨h1, h2⟩, h3⟩, h4⟩, h5⟩, h6⟩ := hN
  exact ⟨h1, h2, h3, h4, h5, h6⟩
def ordF (P : List Int) : Int := if valid P = true then (ordP P : Int) else -1
theorem ordF_yes {P : List Int} (h : valid P = true) : ordF P = (ordP P : Int) := by unfold ordF; rw [if_pos h]
theorem ordF_no {P : List Int} (h : valid P = false) : ordF P = -1 := by unfold ordF; rw [if_neg (by rw [h]; decide)]
theorem sum_take_le (cs : List Nat) (k : Nat) : (cs.take k).sum ≤ cs.sum := by
  have := congrArg List.sum (List.take_append_drop k cs)
  rw [List.sum_append] at this
  omega
/-- the state on the way: k numbers of the list, j of the next -/
theorem ord_state {cs : List Nat} (hs : cs.sum ≤ 16) {k : Nat} (hk : k < cs.length) {j : Nat} (hj : j ≤ cs[k]) :
    (inn j (ordS (cs.take k) (0, 1))).1 ≤ 16 ∧ (inn j (ordS (cs.take k) (0, 1))).2 ≤ 20922789888000 := by
  have h1 := sum_take_le cs (k + 1)
  rw [List.take_succ_eq_append_getElem hk, List.sum_append] at h1
  simp at h1
  have h2 : (inn j (ordS (cs.take k) (0, 1))).1 = (cs.take k).sum + j := by rw [inn_fst, ordS_fst]; simp
  have h3 := ordS_le (cs.take k) (0, 1) (by decide)
  have h4 := inn_le j (ordS (cs.take k) (0, 1)) (by rw [ordS_fst]; exact h3)
  rw [ordS_fst] at h4
  simp only [Nat.zero_add] at h4
  refine ⟨by rw [h2]; omega, ?_⟩
  refine Nat.le_trans h4 ?_
  rw [← fac16]
  exact fac_mono (by omega)
theorem ord_next {cs : List Nat} {k : Nat} (hk : k < cs.length) : ordS (cs.take (k + 1)) (0, 1) = inn cs[k] (ordS (cs.take k) (0, 1)) := by
  rw [List.take_succ_eq_append_getElem hk, ordS_snoc]
end NP
end Go.Proofs.Ytgbkaahmmpgjfaa
