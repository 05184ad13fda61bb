/-
  Plain mathematics of places: how many parts come ahead, and the parts at a place.
-/
import Derived.Test.YtgdkifpjcjegpaaM8
import Derived.Test.YtgdkifpjcjegpaaM5
namespace Go.Proofs.Ytgdkifpjcjegpaa
namespace NP
set_option linter.unusedVariables false
theorem ctZ_mono1 (n k : Int) (hk : 1 ≤ k) (hn40 : n ≤ 40) : ctZ n (k - 1) ≤ ctZ n k := by
  rcases Int.lt_or_le n 1 with h | h
  · rcases Int.lt_or_le n 0 with h2 | h2
    · rw [ctZ_neg n _ h2, ctZ_neg n _ h2]; exact Int.le_refl _
    · obtain rfl : n = 0 := by omega
      rw [ctZ_zero, ctZ_zero]; exact Int.le_refl _
  · rw [ctZ_rec n k h hk]
    have := (ctZ_bd (n - k) k (by omega)).1
    omega
theorem ctZ_mono (n : Int) (hn40 : n ≤ 40) (d : Nat) : ∀ k : Int, 0 ≤ k → ctZ n k ≤ ctZ n (k + d) := by
  induction d with
  | zero => intro k _; simp
  | succ d ih =>
    intro k hk
    have h1 := ih k hk
    have h2 := ctZ_mono1 n (k + (d + 1 : Nat)) (by omega) hn40
    have e : k + ((d + 1 : Nat) : Int) - 1 = k + d := by omega
    rw [e] at h2
    omega
theorem ctZ_le {n j k : Int} (hn40 : n ≤ 40) (hj : 0 ≤ j) (h : j ≤ k) : ctZ n j ≤ ctZ n k := by
  have := ctZ_mono n hn40 (k - j).toNat j hj
  have e : j + ((k - j).toNat : Int) = k := by omega
  rwa [e] at this
theorem ctZ_cap {n m : Int} (hn : 0 ≤ n) (h : n ≤ m) : ctZ n m = ctZ n n := by
  have key : ∀ d : Nat, ctZ n (n + d) = ctZ n n := by
    intro d
    induction d with
    | zero => simp
    | succ d ih =>
      rcases Int.lt_or_le n 1 with h1 | h1
      · obtain rfl : n = 0 := by omega
        rw [ctZ_zero, ctZ_zero]
      · rw [ctZ_rec n _ h1 (by omega), ctZ_neg (n - (n + ((d + 1 : Nat) : Int))) _ (by omega)]
        have e : n + ((d + 1 : Nat) : Int) - 1 = n + d := by omega
        rw [e, ih]; omega
  have := key (m - n).toNat
  have e : n + ((m - n).toNat : Int) = m := by omega
  rwa [e] at this
theorem ctZ_min {n m : Int} (hn : 0 ≤ n) : ctZ n (min n m) = ctZ n m := by
  rcases Int.le_total n m with h | h
  · rw [Int.min_eq_left h, ctZ_cap hn h]
  · rw [Int.min_eq_right h]
def plc : Int → Int → List Int → Int
  | _, _, [] => 0
  | n, m, x :: r => ctZ n m - ctZ n x + plc (n - x) x r
theorem plc_append (n m : Int) (A : List Int) (x : Int) : plc n m (A ++ [x]) = plc n m A + (ctZ (n - sumL A) (A.getLastD m) - ctZ (n - sumL A) x) := by
  induction A generalizing n m with
  | nil => simp [plc, sumL]
  | cons y r ih =>
    rw [List.cons_append, plc, ih, plc, sumL]
    have e : (y :: r).getLastD m = r.getLastD y := by cases r <;> simp [List.getLastD]
    rw [e, show n - y - sumL r = n - (y + sumL r) by omega]
    omega
/-- parts, none greater than m, with the sum n -/
def ex (n m : Int) (L : List Int) : Prop := vb m n L = true ∧ sumL L = n
theorem ex_nil {n m : Int} (h : ex n m []) : n = 0 := by have := h.2; simp [sumL] at this; omega
theorem ex_cons {n m x : Int} {r : List Int} (h : ex n m (x :: r)) : 1 ≤ x ∧ x ≤ n ∧ x ≤ m ∧ ex (n - x) x r := by
  obtain ⟨h1, h2⟩ := h
  simp only [vb, Bool.and_eq_true, decide_eq_true_eq] at h1
  simp only [sumL] at h2
  exact ⟨h1.1.1.1, h1.1.1.2, h1.1.2, h1.2, by omega⟩
theorem ex_mk {n m x : Int} {r : List Int} (h1 : 1 ≤ x) (h2 : x ≤ n) (h3 : x ≤ m) (h4 : ex (n - x) x r) : ex n m (x :: r) := by
  refine ⟨?_, ?_⟩
  · simp only [vb, Bool.and_eq_true, decide_eq_true_eq]
    exact ⟨⟨⟨h1, h2⟩, h3⟩, h4.1⟩
  · simp only [sumL]
    have := h4.2
    omega
theorem ex_valid {L : List Int} (h : valid L = true) : ex (sumL L) (sumL L) L := by
  refine ⟨?_, rfl⟩
  rw [vb_iff]
  have h2 := h
  unfold valid at h2
  rw [vb_iff] at h2
  refine ⟨fun k hk => ⟨(h2.1 k hk).1, ?_, (h2.1 k hk).2.2⟩, fun _ => Int.le_refl _⟩
  exact (elem_le_sum (valid_nonneg h) hk).1
theorem valid_ex {n m : Int} {L : List Int} (hn : n ≤ 16) (h : ex n m L) : valid L = true := by
  obtain ⟨h1, h2⟩ := h
  unfold valid
  rw [vb_iff] at h1 ⊢
  have hnn : ∀ x ∈ L, 0 ≤ x := fun x hx => by
    obtain ⟨k, hk, rfl⟩ := List.getElem_of_mem hx
    have := (h1.1 k hk).1
    omega
  refine ⟨fun k hk => ⟨(h1.1 k hk).1, ?_, (h1.1 k hk).2.2⟩, fun _ => by omega⟩
  have := (elem_le_sum hnn hk).1
  omega
theorem plc_bd {n m : Int} {L : List Int} (hn : n ≤ 40) (hm : 0 ≤ m) (h : ex n m L) : 0 ≤ plc n m L ∧ plc n m L < ctZ n m := by
  induction L generalizing n m with
  | nil =>
    obtain rfl := ex_nil h
    rw [ctZ_zero]; simp [plc]
  | cons x r ih =>
    obtain ⟨h1, h2, h3, h4⟩ := ex_cons h
    have := ih (by omega) (by omega) h4
    have e := ctZ_rec n x (by omega) h1
    have l1 := ctZ_le (n := n) hn (by omega) h3
    have l2 := (ctZ_bd n (x - 1) hn).1
    simp only [plc]
    omega
/-- from x on, the first part down from which the place k is within -/
def fx : Nat → Int → Int → Int → Int × Int
  | 0, _, x, k => (x, k)
  | f + 1, n, x, k => if ctZ (n - x) x ≤ k then fx f n (x - 1) (k - ctZ (n - x) x) else (x, k)
theorem fx_eq (n y k' : Int) (hn : n ≤ 40) (hy : 1 ≤ y) (hk' : 0 ≤ k' ∧ k' < ctZ (n - y) y) : ∀ (f d : Nat), d < f → y + d ≤ n → fx f n (y + d) (ctZ n (y + d) - ctZ n y + k') = (y, k') := by
  intro f
  induction f with
  | zero => intro d h; omega
  | succ f ih =>
    intro d hd hdn
    cases d with
    | zero =>
      have e : y + ((0 : Nat) : Int) = y := by omega
      rw [e, fx, if_neg (by omega)]
      congr 1; omega
    | succ d =>
      have e1 := ctZ_rec n (y + ((d + 1 : Nat) : Int)) (by omega) (by omega)
      have e2 : y + ((d + 1 : Nat) : Int) - 1 = y + d := by omega
      rw [e2] at e1
      have l1 := ctZ_le (n := n) (j := y) (k := y + d) hn (by omega) (by omega)
      rw [fx, if_pos (by omega), e2]
      have e3 : ctZ n (y + ((d + 1 : Nat) : Int)) - ctZ n y + k' - ctZ (n - (y + ((d + 1 : Nat) : Int))) (y + ((d + 1 : Nat) : Int)) = ctZ n (y + d) - ctZ n y + k' := by omega
      rw [e3]
      exact ih d (by omega) (by omega)
theorem fx_ex (n : Int) (hn : n ≤ 40) : ∀ (x : Nat) (k : Int), 1 ≤ n → (x : Int) ≤ n → 0 ≤ k → k < ctZ n x → ∃ y k' : Int, 1 ≤ y ∧ y ≤ x ∧ 0 ≤ k' ∧ k' < ctZ (n - y) y ∧ k = ctZ n x - ctZ n y + k' := by
  intro x
  induction x with
  | zero =>
    intro k h1 _ h3 h4
    have e : ((0 : Nat) : Int) = 0 := rfl
    rw [e, ctZ_none n (by omega)] at h4
    omega
  | succ x ih =>
    intro k h1 h2 h3 h4
    have e1 := ctZ_rec n ((x + 1 : Nat) : Int) h1 (by omega)
    have e2 : ((x + 1 : Nat) : Int) - 1 = x := by omega
    rw [e2] at e1
    rcases Int.lt_or_le k (ctZ (n - ((x + 1 : Nat) : Int)) ((x + 1 : Nat) : Int)) with h5 | h5
    · exact ⟨_, k, by omega, Int.le_refl _, h3, h5, by omega⟩
    · obtain ⟨y, k', a1, a2, a3, a4, a5⟩ := ih (k - ctZ (n - ((x + 1 : Nat) : Int)) ((x + 1 : Nat) : Int)) h1 (by omega) (by omega) (by omega)
      exact ⟨y, k', a1, by omega, a3, a4, by omega⟩
/-- the parts at place k among those with the sum n, none greater than m -/
def pat : Nat → Int → Int → Int → List Int
  | 0, _, _, _ => []
  | f + 1, n, m, k => if n ≤ 0 then [] else (fx 41 n (min n m) k).1 :: pat f (n - (fx 41 n (min n m) k).1) (fx 41 n (min n m) k).1 (fx 41 n (min n m) k).2
theorem pat_step {n m k : Int} (hn1 : 1 ≤ n) (hn : n ≤ 40) (hm : 1 ≤ m) (hk : 0 ≤ k) (hk2 : k < ctZ n m) : ∃ y k' : Int, fx 41 n (min n m) k = (y, k') ∧ 1 ≤ y ∧ y ≤ n ∧ y ≤ m ∧ 0 ≤ k' ∧ k' < ctZ (n - y) y ∧ k = ctZ n m - ctZ n y + k' := by
  have hc := ctZ_min (n := n) (m := m) (by omega)
  obtain ⟨X, hX⟩ : ∃ X : Nat, (X : Int) = min n m := ⟨(min n m).toNat, by omega⟩
  rw [← hX] at hc ⊢
  obtain ⟨y, k', a1, a2, a3, a4, a5⟩ := fx_ex n hn X k hn1 (by omega) hk (by omega)
  refine ⟨y, k', ?_, a1, by omega, by omega, a3, a4, by omega⟩
  have := fx_eq n y k' hn a1 ⟨a3, a4⟩ 41 ((X : Int) - y).toNat (by omega) (by omega)
  have e : y + (((X : Int) - y).toNat : Int) = X := by omega
  rw [e] at this
  rw [a5, this]
theorem pat_ex : ∀ (f : Nat) (n m k : Int), n ≤ f → 0 ≤ n → n ≤ 40 → 0 ≤ m → 0 ≤ k → k < ctZ n m → ex n m (pat f n m k) ∧ plc n m (pat f n m k) = k := by
  intro f
  induction f with
  | zero =>
    intro n m k h1 h2 h3 hm h4 h5
    obtain rfl : n = 0 := by omega
    rw [ctZ_zero] at h5
    exact ⟨⟨rfl, rfl⟩, by show (0 : Int) = k; omega⟩
  | succ f ih =>
    intro n m k h1 h2 h3 hm h4 h5
    rcases Int.lt_or_le n 1 with h6 | h6
    · obtain rfl : n = 0 := by omega
      rw [ctZ_zero] at h5
      rw [pat, if_pos (Int.le_refl _)]
      exact ⟨⟨rfl, rfl⟩, by show (0 : Int) = k; omega⟩
    · have hm1 : 1 ≤ m := by
        rcases Int.lt_or_le m 1 with h7 | h7
        · obtain rfl : m = 0 := by omega
          rw [ctZ_none n (by omega)] at h5
          omega
        · exact h7
      obtain ⟨y, k', he, a1, a2, a3, a4, a5, a6⟩ := pat_step h6 h3 hm1 h4 h5
      rw [pat, if_neg (by omega), he]
      have := ih (n - y) y k' (by omega) (by omega) (by omega) (by omega) a4 a5
      refine ⟨ex_mk a1 a2 a3 this.1, ?_⟩
      show ctZ n m - ctZ n y + plc (n - y) y (pat f (n - y) y k') = k
      rw [this.2]
      omega
theorem pat_plc : ∀ (f : Nat) (n m : Int) (L : List Int), n ≤ f → n ≤ 40 → 0 ≤ m → ex n m L → pat f n m (plc n m L) = L := by
  intro f
  induction f with
  | zero =>
    intro n m L h1 h2 hm h
    cases L with
    | nil => rfl
    | cons x r => have := ex_cons h; omega
  | succ f ih =>
    intro n m L h1 h2 hm h
    cases L with
    | nil =>
      obtain rfl := ex_nil h
      rw [pat, if_pos (Int.le_refl _)]
    | cons x r =>
      obtain ⟨a1, a2, a3, a4⟩ := ex_cons h
      have hb := plc_bd (by omega) (by omega) a4
      have hc := ctZ_min (n := n) (m := m) (by omega)
      have hfx := fx_eq n x (plc (n - x) x r) h2 a1 hb 41 (min n m - x).toNat (by omega) (by omega)
      have e : x + ((min n m - x).toNat : Int) = min n m := by omega
      rw [e, hc] at hfx
      rw [pat, if_neg (by omega), plc, hfx, ih (n - x) x r (by omega) (by omega) (by omega) a4]
def plcF (L : List Int) : Int := if valid L then plc (sumL L) (sumL L) L else -1
theorem plcF_yes {L : List Int} (h : valid L = true) : plcF L = plc (sumL L) (sumL L) L := by simp [plcF, h]
theorem plcF_no {L : List Int} (h : valid L = false) : plcF L = -1 := by simp [plcF, h]
def patOk (n k : Int) : Bool := decide (0 ≤ n) && decide (n ≤ 16) && decide (0 ≤ k) && decide (k < ctZ n n)
def patF (n k : Int) : List Int := if patOk n k then pat 16 n n k else []
theorem patOk_out {n k : Int} (h : patOk n k = true) : 0 ≤ n ∧ n ≤ 16 ∧ 0 ≤ k ∧ k < ctZ n n := by
  unfold patOk at h
  simp only [Bool.and_eq_true, decide_eq_true_eq] at h
  exact ⟨h.1.1.1, h.1.1.2, h.1.2, h.2⟩
theorem patOk_no {n k : Int} (h : ¬ (0 ≤ n ∧ n ≤ 16 ∧ 0 ≤ k ∧ k < ctZ n n)) : patOk n k = false := by
  cases hk : patOk n k with
  | false => rfl
  | true => exact absurd (patOk_out hk) h
theorem patOk_yes {n k : Int} (h : 0 ≤ n ∧ n ≤ 16 ∧ 0 ≤ k ∧ k < ctZ n n) : patOk n k = true := by
  unfold patOk
  rw [decide_eq_true h.1, decide_eq_true h.2.1, decide_eq_true h.2.2.1, decide_eq_true h.2.2.2]; rfl
theorem patF_yes {n k : Int} (h : patOk n k = true) : patF n k = pat 16 n n k := by simp [patF, h]
theorem patF_no {n k : Int} (h : patOk n k = false) : patF n k = [] := by simp [patF, h]
theorem pat_valid {n k : Int} (h : patOk n k = true) : valid (pat 16 n n k) = true ∧ sumL (pat 16 n n k) = n ∧ plc n n (pat 16 n n k) = k := by
  obtain ⟨h1, h2, h3, h4⟩ := patOk_out h
  obtain ⟨e1, e2⟩ := pat_ex 16 n n k (by omega) h1 (by omega) h1 h3 h4
  exact ⟨valid_ex h2 e1, e1.2, e2⟩
theorem plcF_patF {n k : Int} (h : patOk n k = true) : plcF (patF n k) = k := by
  obtain ⟨h1, h2, h3⟩ := pat_valid h
  rw [patF_yes h, plcF_yes h1, h2, h3]
theorem patF_plcF {L : List Int} (h : valid L = true) : patOk (sumL L) (plcF L) = true ∧ patF (sumL L) (plcF L) = L := by
  have hb := valid_bd h
  have he := ex_valid h
  have hp := plc_bd (by omega) hb.1 he
  have hok : patOk (sumL L) (plcF L) = true := by rw [plcF_yes h]; exact patOk_yes ⟨hb.1, hb.2.1, hp.1, hp.2⟩
  refine ⟨hok, ?_⟩
  rw [patF_yes hok, plcF_yes h]
  exact pat_plc 16 _ _ L (by omega) (by omega) hb.1 he
theorem patF_len (n k : Int) : (patF n k).length ≤ 16 := by
  cases h : patOk n k with
  | true => rw [patF_yes h]; exact (valid_bd (pat_valid h).1).2.2.2
  | false => rw [patF_no h]; simp
end NP
end Go.Proofs.Ytgdkifpjcjegpaa
