/-
  Plain mathematics: equal parts put together and taken apart again, for every number of them. A region that draws its order, of whose first operations each yields the same value in every world of a kind, guarded ones among them: they may be carried out in their text's order. A region that draws its order, all of whose operations yield fixed values but that two of them store: what does not look at the memory may come at any time. Walks of the program: how often each number comes. Walks: tallies of the program written as diagrams. Arrays of numbers compared. Two rows of numbers in one value: built, compared, parted. A row loaded under a guard that holds. Walks of the program: equal parts moved until nothing moves any more.
-/
import Derived.Test.YthafbdpeignccaaZA1
import Derived.Test.YthafbdpeignccaaZA2
import Derived.Test.YthafbdpeignccaaZA3
import Derived.Orders
import Derived.StillTailTactics
import Derived.ChangeKeysEq
import Derived.Deep.LoopGhost
import Derived.Deep.RegionHeld3
import Derived.WalkMore
namespace Go.Proofs.Ythafbdpeignccaa
open Go.RowKit NP
set_option linter.unusedVariables false
/-- a weight summed over a list -/
def Dw (W : Int → Int) : List Int → Int
  | [] => 0
  | x :: r => W x + Dw W r
theorem Dw_append (W : Int → Int) (a b : List Int) : Dw W (a ++ b) = Dw W a + Dw W b := by
  induction a with
  | nil => simp [Dw]
  | cons x r ih => simp only [List.cons_append, Dw, ih]; omega
theorem Dw_rep (W : Int → Int) (n : Nat) (x : Int) : Dw W (List.replicate n x) = (n : Int) * W x := by
  induction n with
  | zero => simp [Dw]
  | succ n ih => rw [List.replicate_succ, Dw, ih, Int.natCast_succ, Int.add_mul]; omega
theorem Dw_filter (W : Int → Int) (k : Int) (L : List Int) : Dw W (L.filter fun x => x != k) + eqc k L * W k = Dw W L := by
  induction L with
  | nil => simp [Dw, eqc]
  | cons x r ih =>
    by_cases h : x = k
    · subst h
      rw [List.filter_cons_of_neg (by simp), Dw, eqc_cons, if_pos rfl, Int.add_mul]; omega
    · rw [List.filter_cons_of_pos (by simpa using h), Dw, Dw, eqc_cons, if_neg h]
      rw [show (0 : Int) + eqc k r = eqc k r from by omega]; omega
theorem eqc_Dw (k : Int) (L : List Int) : eqc k L = Dw (fun x => if x = k then 1 else 0) L := by
  induction L with
  | nil => rfl
  | cons x r ih => rw [eqc_cons, Dw, ih]
theorem sum_Dw (L : List Int) : sumL L = Dw (fun x => x) L := by
  induction L with
  | nil => rfl
  | cons x r ih => rw [Dw, ← ih]; rfl
theorem len_Dw (L : List Int) : (L.length : Int) = Dw (fun _ => 1) L := by
  induction L with
  | nil => rfl
  | cons x r ih => rw [Dw, ← ih, List.length_cons]; omega
theorem cP_eqc (k : Int) (L : List Int) : ((L.countP fun x => x == k : Nat) : Int) = eqc k L := by
  induction L with
  | nil => rfl
  | cons x r ih =>
    rw [List.countP_cons, eqc_cons, ← ih]
    by_cases h : x = k
    · simp [h]; omega
    · simp [h]
theorem Dw_congr {W V : Int → Int} {L : List Int} (h : ∀ x ∈ L, W x = V x) : Dw W L = Dw V L := by
  induction L with
  | nil => rfl
  | cons x r ih => rw [Dw, Dw, h x (by simp), ih fun y hy => h y (by simp [hy])]
theorem Dw_add (W V : Int → Int) (L : List Int) : Dw (fun x => W x + V x) L = Dw W L + Dw V L := by
  induction L with
  | nil => rfl
  | cons x r ih => simp only [Dw, ih]; omega
theorem Dw_mul (c : Int) (V : Int → Int) (L : List Int) : Dw (fun x => c * V x) L = c * Dw V L := by
  induction L with
  | nil => simp [Dw]
  | cons x r ih => simp only [Dw, ih, Int.mul_add]
theorem Dw_zero {W : Int → Int} {L : List Int} (h : ∀ x ∈ L, W x = 0) : Dw W L = 0 := by
  induction L with
  | nil => rfl
  | cons x r ih => rw [Dw, h x (by simp), ih fun y hy => h y (by simp [hy])]; rfl
theorem Dw_of_eqc {A B : List Int} (h : ∀ k, eqc k A = eqc k B) (W : Int → Int) : Dw W A = Dw W B := by
  induction A generalizing B with
  | nil =>
    cases B with
    | nil => rfl
    | cons y s => have h1 := h y; have h2 := eqc_pos (k := y) (L := y :: s) (by simp); rw [← h1] at h2; simp [eqc] at h2
  | cons x r ih =>
    have hx : x ∈ B := eqc_mem (by rw [← h x]; exact eqc_pos (by simp))
    obtain ⟨b1, b2, rfl⟩ := List.append_of_mem hx
    have := ih (B := b1 ++ b2) (fun k => by
      have := h k
      rw [eqc_cons, eqc_append, eqc_cons] at this
      rw [eqc_append]; omega)
    rw [Dw_append] at this
    rw [Dw, Dw_append, Dw]; omega
/-- what is left out of a positive list keeps its sum below -/
theorem eqc_mul_le {L : List Int} (h : ∀ x ∈ L, 1 ≤ x) (k : Int) : eqc k L * k ≤ sumL L := by
  have h1 := Dw_filter (fun x => x) k L
  have h2 : ∀ M : List Int, (∀ x ∈ M, 1 ≤ x) → 0 ≤ Dw (fun x => x) M := by
    intro M
    induction M with
    | nil => intro _; exact Int.le_refl _
    | cons x r ih => intro hm; have := ih fun y hy => hm y (by simp [hy]); have := hm x (by simp); rw [Dw]; omega
  have h3 := h2 (L.filter fun x => x != k) fun x hx => h x (List.mem_filter.1 hx).1
  rw [sum_Dw]
  omega
theorem cK_lt {m k : Nat} {L : List Int} (hv : vsm L = true) (hk : 1 ≤ k) (h : 16 < k * m) : (L.countP fun x => x == (k : Int)) < m := by
  rcases Nat.lt_or_ge (L.countP fun x => x == (k : Int)) m with h1 | h1
  · exact h1
  · exfalso
    have h2 := eqc_mul_le (vsm_iff.1 hv).1 (k : Int)
    rw [← cP_eqc] at h2
    have h3 := (vsm_iff.1 hv).2
    have h4 : k * m ≤ (L.countP fun x => x == (k : Int)) * k := by rw [Nat.mul_comm k m]; exact Nat.mul_le_mul_right k h1
    have h5 : (((L.countP fun x => x == (k : Int)) * k : Nat) : Int) ≤ 16 := by rw [Int.natCast_mul]; omega
    omega
/-- one number taken apart -/
def spStep (m : Nat) (L : List Int) (k : Nat) : List Int := (L.filter fun x => x != ((k * m : Nat) : Int)) ++ List.replicate ((L.countP fun x => x == ((k * m : Nat) : Int)) * m) (k : Int)
theorem pu_Dw (W : Int → Int) (m : Nat) (L : List Int) (k : Nat) :
    Dw W (puStep m L k) + eqc k L * W k = Dw W L + (((L.countP fun x => x == (k : Int)) / m : Nat) : Int) * W ((k * m : Nat) : Int) + (((L.countP fun x => x == (k : Int)) % m : Nat) : Int) * W k := by
  unfold puStep
  rw [Dw_append, Dw_append, Dw_rep, Dw_rep]
  have := Dw_filter W (k : Int) L
  omega
theorem sp_Dw (W : Int → Int) (m : Nat) (L : List Int) (k : Nat) :
    Dw W (spStep m L k) + eqc ((k * m : Nat) : Int) L * W ((k * m : Nat) : Int) = Dw W L + (((L.countP fun x => x == ((k * m : Nat) : Int)) * m : Nat) : Int) * W k := by
  unfold spStep
  rw [Dw_append, Dw_rep]
  have := Dw_filter W ((k * m : Nat) : Int) L
  omega
theorem pu_inv (W : Int → Int) {m : Nat} {L : List Int} (hv : vsm L = true) {k : Nat} (hk : 1 ≤ k) (hW : k * m ≤ 16 → W ((k * m : Nat) : Int) = (m : Int) * W k) : Dw W (puStep m L k) = Dw W L := by
  have h := pu_Dw W m L k
  have hc := cP_eqc (k : Int) L
  rw [← hc] at h
  rcases Nat.lt_or_ge 16 (k * m) with h1 | h1
  · have h2 := cK_lt hv hk h1
    rw [Nat.div_eq_of_lt h2, Nat.mod_eq_of_lt h2] at h
    simp only [Int.natCast_zero, Int.zero_mul] at h
    omega
  · rw [hW h1] at h
    have h2 := Nat.div_add_mod (L.countP fun x => x == (k : Int)) m
    generalize (L.countP fun x => x == (k : Int)) / m = q at *
    generalize (L.countP fun x => x == (k : Int)) % m = r at *
    rw [← h2] at h
    have h3 : ((m * q + r : Nat) : Int) * W k = (q : Int) * ((m : Int) * W k) + (r : Int) * W k := by
      rw [Int.natCast_add, Int.natCast_mul, Int.add_mul, Int.mul_comm (m : Int) (q : Int), Int.mul_assoc]
    rw [h3] at h
    omega
theorem sp_inv (W : Int → Int) {m : Nat} {L : List Int} {k : Nat} (hW : W ((k * m : Nat) : Int) = (m : Int) * W k) : Dw W (spStep m L k) = Dw W L := by
  have h := sp_Dw W m L k
  rw [← cP_eqc, hW] at h
  generalize (L.countP fun x => x == ((k * m : Nat) : Int)) = q at *
  have h3 : ((q * m : Nat) : Int) * W k = (q : Int) * ((m : Int) * W k) := by
    rw [Int.natCast_mul, Int.mul_assoc]
  rw [h3] at h
  omega
theorem pu_vsm {m : Nat} (hm : 2 ≤ m) {L : List Int} (hv : vsm L = true) {k : Nat} (hk : 1 ≤ k) : vsm (puStep m L k) = true := by
  refine vsm_iff.2 ⟨fun x hx => ?_, ?_⟩
  · unfold puStep at hx
    rcases List.mem_append.1 hx with hx | hx
    · rcases List.mem_append.1 hx with hx | hx
      · exact (vsm_iff.1 hv).1 x (List.mem_filter.1 hx).1
      · rw [(List.mem_replicate.1 hx).2]
        have : 1 ≤ k * m := Nat.mul_pos (by omega) (by omega)
        omega
    · rw [(List.mem_replicate.1 hx).2]; omega
  · rw [sum_Dw, pu_inv _ hv hk (fun _ => by rw [Int.natCast_mul, Int.mul_comm]), ← sum_Dw]
    exact (vsm_iff.1 hv).2
theorem sp_vsm {m : Nat} {L : List Int} (hv : vsm L = true) {k : Nat} (hk : 1 ≤ k) : vsm (spStep m L k) = true := by
  refine vsm_iff.2 ⟨fun x hx => ?_, ?_⟩
  · unfold spStep at hx
    rcases List.mem_append.1 hx with hx | hx
    · exact (vsm_iff.1 hv).1 x (List.mem_filter.1 hx).1
    · rw [(List.mem_replicate.1 hx).2]; omega
  · rw [sum_Dw, sp_inv _ (by rw [Int.natCast_mul, Int.mul_comm]), ← sum_Dw]
    exact (vsm_iff.1 hv).2
theorem km_ne {k m : Nat} (hk : 1 ≤ k) (hm : 2 ≤ m) : k < k * m := by
  have : k * 2 ≤ k * m := Nat.mul_le_mul_left k hm
  omega
theorem pu_eqc {m : Nat} (hm : 2 ≤ m) (L : List Int) {k : Nat} (hk : 1 ≤ k) (v : Nat) :
    eqc v (puStep m L k) = if v = k then (((L.countP fun x => x == (k : Int)) % m : Nat) : Int) else if v = k * m then eqc v L + (((L.countP fun x => x == (k : Int)) / m : Nat) : Int) else eqc v L := by
  have h := pu_Dw (fun x => if x = (v : Int) then 1 else 0) m L k
  rw [← eqc_Dw, ← eqc_Dw] at h
  have hkm := km_ne hk hm
  by_cases h1 : v = k
  · subst h1
    simp only [if_true, if_neg (show ¬ (((v * m : Nat) : Int) = (v : Int)) from by omega), Int.mul_one, Int.mul_zero] at h ⊢
    omega
  · rw [if_neg h1]
    by_cases h2 : v = k * m
    · subst h2
      simp only [if_true, if_neg (show ¬ ((k : Int) = ((k * m : Nat) : Int)) from by omega), Int.mul_one, Int.mul_zero] at h ⊢
      omega
    · rw [if_neg h2]
      simp only [if_neg (show ¬ ((k : Int) = (v : Int)) from by omega), if_neg (show ¬ (((k * m : Nat) : Int) = (v : Int)) from by omega), Int.mul_zero] at h
      omega
theorem sp_eqc {m : Nat} (hm : 2 ≤ m) (L : List Int) {k : Nat} (hk : 1 ≤ k) (v : Nat) :
    eqc v (spStep m L k) = if v = k then eqc v L + (((L.countP fun x => x == ((k * m : Nat) : Int)) * m : Nat) : Int) else if v = k * m then 0 else eqc v L := by
  have h := sp_Dw (fun x => if x = (v : Int) then 1 else 0) m L k
  rw [← eqc_Dw, ← eqc_Dw] at h
  have hkm := km_ne hk hm
  by_cases h1 : v = k
  · subst h1
    simp only [if_true, if_neg (show ¬ (((v * m : Nat) : Int) = (v : Int)) from by omega), Int.mul_one, Int.mul_zero] at h ⊢
    omega
  · rw [if_neg h1]
    by_cases h2 : v = k * m
    · subst h2
      simp only [if_true, if_neg (show ¬ ((k : Int) = ((k * m : Nat) : Int)) from by omega), Int.mul_one, Int.mul_zero] at h ⊢
      omega
    · rw [if_neg h2]
      simp only [if_neg (show ¬ ((k : Int) = (v : Int)) from by omega), if_neg (show ¬ (((k * m : Nat) : Int) = (v : Int)) from by omega), Int.mul_zero] at h
      omega
theorem tly_pstep {m : Nat} {f : Int → Int → Int × Int} {L M : List Int} {k : Nat} (hk : 1 ≤ k) (hm : 2 ≤ m) (hkm : k * m ≤ 16) (h1 : eqc k M = (f (eqc k L) (eqc ((k * m : Nat) : Int) L)).1) (h2 : eqc ((k * m : Nat) : Int) M = (f (eqc k L) (eqc ((k * m : Nat) : Int) L)).2) (h3 : ∀ v : Nat, v ≠ k → v ≠ k * m → eqc v M = eqc v L) : tlyL M = pstep m f (tlyL L) k := by
  have hlt := km_ne hk hm
  have e1 : (tlyL L).getD k 0 = eqc k L := by
    rw [List.getD_eq_getElem?_getD, List.getElem?_eq_getElem (by rw [tlyL_len]; omega), Option.getD_some, tlyL_at L (by omega)]
  have e2 : (tlyL L).getD (k * m) 0 = eqc ((k * m : Nat) : Int) L := by
    rw [List.getD_eq_getElem?_getD, List.getElem?_eq_getElem (by rw [tlyL_len]; omega), Option.getD_some, tlyL_at L (by omega)]
  unfold pstep
  rw [e1, e2]
  apply List.ext_getElem
  · simp [tlyL_len]
  · intro v hv hv2
    have hv17 : v < 17 := by rwa [tlyL_len] at hv
    rw [tlyL_at M hv17, List.getElem_set]
    by_cases a : k * m = v
    · subst a; rw [if_pos rfl]; exact h2
    · rw [if_neg a, List.getElem_set]
      by_cases b : k = v
      · subst b; rw [if_pos rfl]; exact h1
      · rw [if_neg b, tlyL_at L hv17]; exact h3 v (fun e => b e.symm) (fun e => a e.symm)
theorem pu_tly {m : Nat} (hm : 2 ≤ m) (L : List Int) {k : Nat} (hk : 1 ≤ k) (hkm : k * m ≤ 16) : tlyL (puStep m L k) = pstep m (fM m) (tlyL L) k := by
  have hlt := km_ne hk hm
  refine tly_pstep hk hm hkm ?_ ?_ fun v a b => ?_
  · rw [pu_eqc hm L hk, if_pos rfl, Int.natCast_emod, cP_eqc]; rfl
  · rw [pu_eqc hm L hk, if_neg (by omega), if_pos rfl, Int.natCast_ediv, cP_eqc]; rfl
  · rw [pu_eqc hm L hk, if_neg a, if_neg b]
theorem sp_tly {m : Nat} (hm : 2 ≤ m) (L : List Int) {k : Nat} (hk : 1 ≤ k) (hkm : k * m ≤ 16) : tlyL (spStep m L k) = pstep m (fS m) (tlyL L) k := by
  have hlt := km_ne hk hm
  refine tly_pstep hk hm hkm ?_ ?_ fun v a b => ?_
  · rw [sp_eqc hm L hk, if_pos rfl, Int.natCast_mul, cP_eqc]; rfl
  · rw [sp_eqc hm L hk, if_neg (by omega), if_pos rfl]; rfl
  · rw [sp_eqc hm L hk, if_neg a, if_neg b]
theorem pu_len {m : Nat} (hm : 2 ≤ m) (L : List Int) {k : Nat} (hk : 1 ≤ k) : (puStep m L k).length < L.length ∨ (eqc k L < (m : Int) ∧ ∀ v, eqc v (puStep m L k) = eqc v L) := by
  have h := pu_Dw (fun _ => 1) m L k
  rw [← len_Dw, ← len_Dw, ← cP_eqc] at h
  simp only [Int.mul_one] at h
  have h2 := Nat.div_add_mod (L.countP fun x => x == (k : Int)) m
  have h4 := Nat.mod_lt (L.countP fun x => x == (k : Int)) (show 0 < m by omega)
  rcases Nat.eq_zero_or_pos ((L.countP fun x => x == (k : Int)) / m) with h3 | h3
  · right
    rw [h3, Nat.mul_zero] at h2
    refine ⟨by rw [← cP_eqc]; omega, fun v => ?_⟩
    have h5 := pu_Dw (fun x => if x = v then 1 else 0) m L k
    rw [← eqc_Dw, ← eqc_Dw, ← cP_eqc (k : Int), h3] at h5
    simp only [Int.natCast_zero, Int.zero_mul] at h5
    rw [show (L.countP fun x => x == (k : Int)) % m = (L.countP fun x => x == (k : Int)) from by omega] at h5
    omega
  · left
    have h6 : 2 * ((L.countP fun x => x == (k : Int)) / m) ≤ m * ((L.countP fun x => x == (k : Int)) / m) := Nat.mul_le_mul_right _ hm
    omega
theorem sp_len {m : Nat} (hm : 2 ≤ m) (L : List Int) {k : Nat} (hk : 1 ≤ k) : L.length < (spStep m L k).length ∨ (eqc ((k * m : Nat) : Int) L = 0 ∧ ∀ v, eqc v (spStep m L k) = eqc v L) := by
  have h := sp_Dw (fun _ => 1) m L k
  rw [← len_Dw, ← len_Dw, ← cP_eqc] at h
  simp only [Int.mul_one] at h
  rcases Nat.eq_zero_or_pos (L.countP fun x => x == ((k * m : Nat) : Int)) with h3 | h3
  · right
    refine ⟨by rw [← cP_eqc]; omega, fun v => ?_⟩
    have h5 := sp_Dw (fun x => if x = v then 1 else 0) m L k
    rw [← eqc_Dw, ← eqc_Dw, ← cP_eqc ((k * m : Nat) : Int), h3] at h5
    simp only [Nat.zero_mul, Int.natCast_zero, Int.zero_mul] at h5
    omega
  · left
    have h6 : (L.countP fun x => x == ((k * m : Nat) : Int)) * 2 ≤ (L.countP fun x => x == ((k * m : Nat) : Int)) * m := Nat.mul_le_mul_left _ hm
    omega
/-- how much of y is at k: so many of k make y -/
def wtN : Nat → Nat → Nat → Nat → Nat
  | 0, _, _, _ => 0
  | f + 1, m, k, y => if y = k then 1 else m * wtN f m (k * m) y
def wt (m k : Nat) (x : Int) : Int := (wtN 5 m k x.toNat : Int)
def wtTab : Bool := (List.range 17).all fun m => decide (m < 2) || (List.range 17).all fun k => decide (k < 1) || (List.range 17).all fun y => decide (y < 1) ||
  (wtN 5 m k y == (if y = k then 1 else 0) + m * wtN 5 m (k * m) y) && (k % m == 0 || ((y * m > 16 || wtN 5 m k (y * m) == m * wtN 5 m k y) && (wtN 5 m k y == (soG m 5 y 1).2 * (if (soG m 5 y 1).1 = k then 1 else 0)) && (y % m == 0 || wtN 5 m k y == (if y = k then 1 else 0))))
  && decide (1 ≤ (soG m 5 y 1).1) && ((soG m 5 y 1).1 % m != 0) && ((soG m 5 y 1).1 * (soG m 5 y 1).2 == y)
set_option maxRecDepth 100000 in
theorem wtTab_all : wtTab = true := by decide +kernel
theorem wtTab_at {m k y : Nat} (hm : 2 ≤ m ∧ m ≤ 16) (hk : 1 ≤ k ∧ k ≤ 16) (hy : 1 ≤ y ∧ y ≤ 16) :
    wtN 5 m k y = (if y = k then 1 else 0) + m * wtN 5 m (k * m) y ∧ (k % m ≠ 0 → (y * m ≤ 16 → wtN 5 m k (y * m) = m * wtN 5 m k y) ∧ wtN 5 m k y = (soG m 5 y 1).2 * (if (soG m 5 y 1).1 = k then 1 else 0) ∧ (y % m ≠ 0 → wtN 5 m k y = if y = k then 1 else 0)) ∧
    1 ≤ (soG m 5 y 1).1 ∧ (soG m 5 y 1).1 % m ≠ 0 ∧ (soG m 5 y 1).1 * (soG m 5 y 1).2 = y := by
  have h := wtTab_all
  unfold wtTab at h
  simp only [List.all_eq_true, List.mem_range, Bool.or_eq_true, Bool.and_eq_true, decide_eq_true_eq, beq_iff_eq, bne_iff_ne] at h
  have h1 := ((h m (by omega)).resolve_left (by omega) k (by omega)).resolve_left (by omega) y (by omega) |>.resolve_left (by omega)
  obtain ⟨⟨⟨⟨h2, h3⟩, h4⟩, h5⟩, h6⟩ := h1
  refine ⟨h2, fun hn => ?_, h4, h5, h6⟩
  obtain ⟨⟨a, b⟩, c⟩ := h3.resolve_left hn
  exact ⟨fun hl => a.resolve_left (by omega), b, fun hq => c.resolve_left hq⟩
theorem wtN_big : ∀ (f m k y : Nat), 1 ≤ m → 1 ≤ k → y < k → wtN f m k y = 0
  | 0, _, _, _, _, _, _ => rfl
  | f + 1, m, k, y, hm, hk, h => by
    have h1 : k * 1 ≤ k * m := Nat.mul_le_mul_left k hm
    rw [wtN, if_neg (by omega), wtN_big f m (k * m) y hm (by omega) (by omega), Nat.mul_zero]
def core (m j : Nat) : Prop := 1 ≤ j ∧ j ≤ 16 ∧ j % m ≠ 0
/-- alike: what is moved between equal parts leaves these sums -/
def Alike (m : Nat) (A B : List Int) : Prop := ∀ j, core m j → Dw (wt m j) A = Dw (wt m j) B
theorem Alike.trans {m : Nat} {A B C : List Int} (h1 : Alike m A B) (h2 : Alike m B C) : Alike m A C := fun j hj => (h1 j hj).trans (h2 j hj)
theorem Alike.symm {m : Nat} {A B : List Int} (h1 : Alike m A B) : Alike m B A := fun j hj => (h1 j hj).symm
theorem wt_step {m j k : Nat} (hm : 2 ≤ m ∧ m ≤ 16) (hj : core m j) (hk : 1 ≤ k) (hkm : k * m ≤ 16) : wt m j ((k * m : Nat) : Int) = (m : Int) * wt m j k := by
  have := km_ne hk hm.1
  unfold wt
  rw [Int.toNat_natCast, Int.toNat_natCast, ((wtTab_at hm ⟨hj.1, hj.2.1⟩ ⟨hk, by omega⟩).2.1 hj.2.2).1 hkm, Int.natCast_mul]
theorem pu_alike {m : Nat} (hm : 2 ≤ m ∧ m ≤ 16) {L : List Int} (hv : vsm L = true) {k : Nat} (hk : 1 ≤ k) : Alike m (puStep m L k) L := fun j hj => pu_inv _ hv hk fun h => wt_step hm hj hk h
theorem sp_alike {m : Nat} (hm : 2 ≤ m ∧ m ≤ 16) {L : List Int} {k : Nat} (hk : 1 ≤ k) (hkm : k * m ≤ 16) : Alike m (spStep m L k) L := fun j hj => sp_inv _ (wt_step hm hj hk hkm)
/-- the number k and what is more of it -/
theorem wt_split {m k : Nat} (hm : 2 ≤ m ∧ m ≤ 16) (hk : 1 ≤ k ∧ k ≤ 16) {L : List Int} (hL : ∀ x ∈ L, 1 ≤ x ∧ x ≤ 16) : Dw (wt m k) L = eqc k L + (m : Int) * Dw (wt m (k * m)) L := by
  rw [eqc_Dw, ← Dw_mul, ← Dw_add]
  refine Dw_congr fun x hx => ?_
  have hb := hL x hx
  have := (wtTab_at (y := x.toNat) hm hk ⟨by omega, by omega⟩).1
  unfold wt
  rw [this, Int.natCast_add, Int.natCast_mul]
  by_cases e : x = (k : Int)
  · rw [if_pos e, if_pos (by omega)]; rfl
  · rw [if_neg e, if_neg (by omega)]; rfl
theorem mul_lt_uniq {m a b A B : Int} (hm : 2 ≤ m) (ha : 0 ≤ a ∧ a < m) (hb : 0 ≤ b ∧ b < m) (h : a + m * A = b + m * B) : a = b ∧ A = B := by
  have key : A = B := by
    rcases Int.lt_trichotomy A B with h1 | h1 | h1
    · have := Int.mul_le_mul_of_nonneg_left (show A + 1 ≤ B by omega) (show 0 ≤ m by omega)
      rw [Int.mul_add] at this; omega
    · exact h1
    · have := Int.mul_le_mul_of_nonneg_left (show B + 1 ≤ A by omega) (show 0 ≤ m by omega)
      rw [Int.mul_add] at this; omega
  subst key
  exact ⟨by omega, rfl⟩
theorem eqc_neg {L : List Int} (hL : ∀ x ∈ L, 1 ≤ x ∧ x ≤ 16) {v : Int} (h : ¬ (1 ≤ v ∧ v ≤ 16)) : eqc v L = 0 := eqc_out fun hx => h (hL v hx)
/-- few of each: then these sums tell all -/
theorem few_uniq {m : Nat} (hm : 2 ≤ m ∧ m ≤ 16) {P Q : List Int} (hP : vsm P = true) (hQ : vsm Q = true) (cP : ∀ k : Nat, 1 ≤ k → eqc k P < (m : Int)) (cQ : ∀ k : Nat, 1 ≤ k → eqc k Q < (m : Int)) (h : Alike m P Q) : ∀ v, eqc v P = eqc v Q := by
  have eP := vsm_each hP
  have eQ := vsm_each hQ
  have big : ∀ (L : List Int), (∀ x ∈ L, 1 ≤ x ∧ x ≤ 16) → ∀ k : Nat, 16 < k → Dw (wt m k) L = 0 := fun L hL k hk => Dw_zero fun x hx => by
    have := hL x hx
    unfold wt
    rw [wtN_big 5 m k x.toNat (by omega) (by omega) (by omega)]; rfl
  have all : ∀ n k : Nat, k ≤ n → 1 ≤ k → Dw (wt m k) P = Dw (wt m k) Q := by
    intro n
    induction n with
    | zero => intro k h1 h2; omega
    | succ n ih =>
      intro k h1 h2
      rcases Nat.lt_or_ge 16 k with h3 | h3
      · rw [big P eP k h3, big Q eQ k h3]
      · by_cases h4 : k % m = 0
        · obtain ⟨q, rfl⟩ := Nat.dvd_of_mod_eq_zero h4
          have hq : 1 ≤ q := by
            rcases Nat.eq_zero_or_pos q with e | e
            · subst e; omega
            · exact e
          have hlt := km_ne hq hm.1
          rw [Nat.mul_comm q m] at hlt
          have h5 := ih q (by omega) hq
          rw [wt_split hm ⟨hq, by omega⟩ eP, wt_split hm ⟨hq, by omega⟩ eQ] at h5
          have h6 := (mul_lt_uniq (by omega) ⟨(eqc_bd _ _).1, cP q hq⟩ ⟨(eqc_bd _ _).1, cQ q hq⟩ h5).2
          rw [Nat.mul_comm m q]; exact h6
        · exact h k ⟨h2, h3, h4⟩
  intro v
  by_cases hv : 1 ≤ v ∧ v ≤ 16
  · obtain ⟨k, rfl⟩ := Int.eq_ofNat_of_zero_le (show 0 ≤ v by omega)
    have h5 := all 16 k (by omega) (by omega)
    rw [wt_split hm ⟨by omega, by omega⟩ eP, wt_split hm ⟨by omega, by omega⟩ eQ] at h5
    exact (mul_lt_uniq (by omega) ⟨(eqc_bd _ _).1, cP k (by omega)⟩ ⟨(eqc_bd _ _).1, cQ k (by omega)⟩ h5).1
  · rw [eqc_neg eP hv, eqc_neg eQ hv]
/-- none that m divides: then these sums are the counts -/
theorem nod_wt {m j : Nat} (hm : 2 ≤ m ∧ m ≤ 16) (hj : core m j) {L : List Int} (hL : ∀ x ∈ L, 1 ≤ x ∧ x ≤ 16) (hn : ∀ x ∈ L, x % (m : Int) ≠ 0) : Dw (wt m j) L = eqc j L := by
  rw [eqc_Dw]
  refine Dw_congr fun x hx => ?_
  have hb := hL x hx
  have hx0 := hn x hx
  obtain ⟨y, rfl⟩ := Int.eq_ofNat_of_zero_le (show 0 ≤ x by omega)
  have hy0 : y % m ≠ 0 := fun e => hx0 (by rw [← Int.natCast_emod, e]; rfl)
  have := ((wtTab_at (y := y) hm ⟨hj.1, hj.2.1⟩ ⟨by omega, by omega⟩).2.1 hj.2.2).2.2 hy0
  unfold wt
  rw [Int.toNat_natCast, this]
  by_cases e : y = j
  · rw [if_pos e, if_pos (by omega)]; rfl
  · rw [if_neg e, if_neg (by omega)]; rfl
theorem nod_uniq {m : Nat} (hm : 2 ≤ m ∧ m ≤ 16) {P Q : List Int} (eP : ∀ x ∈ P, 1 ≤ x ∧ x ≤ 16) (eQ : ∀ x ∈ Q, 1 ≤ x ∧ x ≤ 16) (nP : ∀ x ∈ P, x % (m : Int) ≠ 0) (nQ : ∀ x ∈ Q, x % (m : Int) ≠ 0) (h : Alike m P Q) : ∀ v, eqc v P = eqc v Q := by
  intro v
  by_cases hv : (1 ≤ v ∧ v ≤ 16) ∧ v % (m : Int) ≠ 0
  · obtain ⟨k, rfl⟩ := Int.eq_ofNat_of_zero_le (show 0 ≤ v by omega)
    have hk : core m k := ⟨by omega, by omega, fun e => hv.2 (by rw [← Int.natCast_emod, e]; rfl)⟩
    rw [← nod_wt hm hk eP nP, ← nod_wt hm hk eQ nQ]; exact h k hk
  · rw [eqc_out fun hx => hv ⟨eP v hx, nP v hx⟩, eqc_out fun hx => hv ⟨eQ v hx, nQ v hx⟩]
/-- a list taken apart whole -/
def flat (m : Nat) (P : List Int) : List Int := P.flatMap (soL m)
theorem Dw_soL {m j : Nat} (hm : 2 ≤ m ∧ m ≤ 16) (hj : core m j) {x : Int} (hx : 1 ≤ x ∧ x ≤ 16) : Dw (wt m j) (soL m x) = wt m j x := by
  obtain ⟨y, rfl⟩ := Int.eq_ofNat_of_zero_le (show 0 ≤ x by omega)
  obtain ⟨-, h1, h2, h3, h4⟩ := wtTab_at (y := y) hm ⟨hj.1, hj.2.1⟩ ⟨by omega, by omega⟩
  have hle : (soG m 5 y 1).1 ≤ 16 := by
    rcases Nat.eq_zero_or_pos (soG m 5 y 1).2 with e | e
    · rw [e, Nat.mul_zero] at h4; omega
    · have := Nat.le_mul_of_pos_right (soG m 5 y 1).1 e; omega
  have h5 := ((wtTab_at (y := (soG m 5 y 1).1) hm ⟨hj.1, hj.2.1⟩ ⟨h2, hle⟩).2.1 hj.2.2).2.2 h3
  unfold soL
  rw [Dw_rep, Int.toNat_natCast]
  unfold wt
  rw [Int.toNat_natCast, Int.toNat_natCast, h5, (h1 hj.2.2).2.1, Int.natCast_mul]
theorem soL_facts {m : Nat} (hm : 2 ≤ m ∧ m ≤ 16) {x : Int} (hx : 1 ≤ x ∧ x ≤ 16) : sumL (soL m x) = x ∧ ∀ y ∈ soL m x, 1 ≤ y ∧ y % (m : Int) ≠ 0 := by
  obtain ⟨y, rfl⟩ := Int.eq_ofNat_of_zero_le (show 0 ≤ x by omega)
  obtain ⟨-, -, h2, h3, h4⟩ := wtTab_at (k := 1) (y := y) hm ⟨by omega, by omega⟩ ⟨by omega, by omega⟩
  unfold soL
  rw [Int.toNat_natCast]
  refine ⟨?_, fun z hz => ?_⟩
  · rw [sum_Dw, Dw_rep, ← Int.natCast_mul, Nat.mul_comm, h4]
  · rw [(List.mem_replicate.1 hz).2]
    exact ⟨by omega, fun e => h3 (by rw [← Int.natCast_emod] at e; omega)⟩
theorem flat_facts {m : Nat} (hm : 2 ≤ m ∧ m ≤ 16) : ∀ {P : List Int}, (∀ x ∈ P, 1 ≤ x ∧ x ≤ 16) → sumL (flat m P) = sumL P ∧ (∀ y ∈ flat m P, 1 ≤ y ∧ y % (m : Int) ≠ 0) ∧ ∀ j, core m j → Dw (wt m j) (flat m P) = Dw (wt m j) P
  | [], _ => ⟨rfl, fun y hy => by simp [flat] at hy, fun _ _ => rfl⟩
  | x :: r, h => by
    obtain ⟨h1, h2, h3⟩ := flat_facts hm (P := r) fun y hy => h y (by simp [hy])
    have hx := h x (by simp)
    obtain ⟨h4, h5⟩ := soL_facts hm hx
    have e : flat m (x :: r) = soL m x ++ flat m r := by simp [flat]
    rw [e]
    refine ⟨?_, fun y hy => ?_, fun j hj => ?_⟩
    · rw [sum_Dw, Dw_append, ← sum_Dw, ← sum_Dw, h4, h1]; rfl
    · rcases List.mem_append.1 hy with hy | hy
      · exact h5 y hy
      · exact h2 y hy
    · rw [Dw_append, Dw_soL hm hj hx, h3 j hj]; rfl
theorem mrg_alike (m : Nat) (L : List Int) : Alike m (mrg L) L := fun _ _ => Dw_of_eqc (fun k => mrg_eqc L k) _
theorem mrg_uniq {A B : List Int} (h : ∀ v, eqc v A = eqc v B) : mrg A = mrg B := mono_uniq (mrg_mono A) (mrg_mono B) (fun k => by rw [mrg_eqc, mrg_eqc]; exact h k) (by rw [mrg_len, mrg_len]; exact eqc_len h)
theorem vsm_flat {m : Nat} (hm : 2 ≤ m ∧ m ≤ 16) {P : List Int} (hv : vsm P = true) : vsm (flat m P) = true :=
  vsm_iff.2 ⟨fun y hy => ((flat_facts hm (vsm_each hv)).2.1 y hy).1, by rw [(flat_facts hm (vsm_each hv)).1]; exact (vsm_iff.1 hv).2⟩
theorem vsm_mrg {L : List Int} (hv : vsm L = true) : vsm (mrg L) = true := vsm_of_valid (mrg_ok hv)
/-- steps one after another -/
def goN (st : List Int → Nat → List Int) (L : List Int) : Nat → List Int
  | 0 => L
  | i + 1 => st (goN st L i) (i + 1)
theorem goN_fold (st : List Int → Nat → List Int) (L : List Int) (n : Nat) : (List.range n).foldl (fun out i => st out (i + 1)) L = goN st L n := by
  induction n with
  | zero => rfl
  | succ n ih => rw [List.range_succ, List.foldl_append, ih]; rfl
theorem pu_go {m : Nat} (hm : 2 ≤ m ∧ m ≤ 16) {L : List Int} (hv : vsm L = true) (n : Nat) : vsm (goN (puStep m) L n) = true ∧ Alike m (goN (puStep m) L n) L ∧ sumL (goN (puStep m) L n) = sumL L ∧ ∀ k : Nat, 1 ≤ k → k ≤ n → eqc k (goN (puStep m) L n) < (m : Int) := by
  induction n with
  | zero => exact ⟨hv, fun _ _ => rfl, rfl, fun k h1 h2 => by omega⟩
  | succ n ih =>
    obtain ⟨h1, h2, h3, h4⟩ := ih
    refine ⟨pu_vsm hm.1 h1 (by omega), (pu_alike hm h1 (by omega)).trans h2, ?_, fun k h5 h6 => ?_⟩
    · show sumL (puStep m _ (n + 1)) = _
      rw [sum_Dw, pu_inv _ h1 (by omega) (fun _ => by rw [Int.natCast_mul, Int.mul_comm]), ← sum_Dw, h3]
    · show eqc k (puStep m _ (n + 1)) < _
      have hkm := km_ne (k := n + 1) (by omega) hm.1
      rw [pu_eqc hm.1 _ (by omega)]
      by_cases e : k = n + 1
      · rw [if_pos e]
        have := Nat.mod_lt ((goN (puStep m) L n).countP fun x => x == ((n + 1 : Nat) : Int)) (show 0 < m by omega)
        omega
      · rw [if_neg e, if_neg (by omega)]; exact h4 k h5 (by omega)
theorem puF_go (m : Nat) (P : List Int) : puF m P = mrg (goN (puStep m) P (sumL P).toNat) := by
  unfold puF
  rw [goN_fold]
theorem pu_few {m : Nat} (hm : 2 ≤ m ∧ m ≤ 16) {P : List Int} (hv : vsm P = true) : ∀ k : Nat, 1 ≤ k → eqc k (goN (puStep m) P (sumL P).toNat) < (m : Int) := by
  intro k hk
  obtain ⟨h1, -, h3, h4⟩ := pu_go hm hv (sumL P).toNat
  rcases Nat.lt_or_ge (sumL P).toNat k with h | h
  · have h5 := eqc_mul_le (vsm_iff.1 h1).1 (k : Int)
    rw [h3] at h5
    have h6 := eqc_bd (k : Int) (goN (puStep m) P (sumL P).toNat)
    rcases Int.lt_or_le (eqc (k : Int) (goN (puStep m) P (sumL P).toNat)) 1 with h7 | h7
    · omega
    · have := Int.mul_le_mul_of_nonneg_right h7 (show (0 : Int) ≤ (k : Int) by omega)
      have := (vsm_bd hv).1
      omega
  · exact h4 k hk h
theorem puF_eqc (m : Nat) (P : List Int) (v : Int) : eqc v (puF m P) = eqc v (goN (puStep m) P (sumL P).toNat) := by rw [puF_go, mrg_eqc]
theorem puF_valid {m : Nat} (hm : 2 ≤ m ∧ m ≤ 16) {P : List Int} (hv : vsm P = true) : valid (puF m P) = true := by rw [puF_go]; exact mrg_ok (pu_go hm hv _).1
theorem puF_sum {m : Nat} (hm : 2 ≤ m ∧ m ≤ 16) {P : List Int} (hv : vsm P = true) : sumL (puF m P) = sumL P := by rw [puF_go, mrg_sum]; exact (pu_go hm hv _).2.2.1
theorem puF_few {m : Nat} (hm : 2 ≤ m ∧ m ≤ 16) {P : List Int} (hv : vsm P = true) (k : Nat) (hk : 1 ≤ k) : eqc k (puF m P) < (m : Int) := by rw [puF_eqc]; exact pu_few hm hv k hk
theorem puF_alike {m : Nat} (hm : 2 ≤ m ∧ m ≤ 16) {P : List Int} (hv : vsm P = true) : Alike m (puF m P) P := by rw [puF_go]; exact (mrg_alike m _).trans (pu_go hm hv _).2.1
theorem soF_flat (m : Nat) (P : List Int) : soF m P = mrg (flat m P) := rfl
theorem soF_valid {m : Nat} (hm : 2 ≤ m ∧ m ≤ 16) {P : List Int} (hv : vsm P = true) : valid (soF m P) = true := mrg_ok (vsm_flat hm hv)
theorem soF_sum {m : Nat} (hm : 2 ≤ m ∧ m ≤ 16) {P : List Int} (hv : vsm P = true) : sumL (soF m P) = sumL P := by rw [soF_flat, mrg_sum]; exact (flat_facts hm (vsm_each hv)).1
theorem soF_nod {m : Nat} (hm : 2 ≤ m ∧ m ≤ 16) {P : List Int} (hv : vsm P = true) : ∀ x ∈ soF m P, x % (m : Int) ≠ 0 := fun x hx => ((flat_facts hm (vsm_each hv)).2.1 x (mrg_mem hx)).2
theorem soF_alike {m : Nat} (hm : 2 ≤ m ∧ m ≤ 16) {P : List Int} (hv : vsm P = true) : Alike m (soF m P) P := (mrg_alike m _).trans fun j hj => (flat_facts hm (vsm_each hv)).2.2 j hj
/-- what stands still after putting together is what the model puts together -/
theorem pu_end {m : Nat} (hm : 2 ≤ m ∧ m ≤ 16) {P L : List Int} (hP : vsm P = true) (hL : vsm L = true) (ha : Alike m L P) (hs : ∀ k, 1 ≤ k → k * m ≤ 16 → eqc k L < (m : Int)) : mrg L = puF m P := by
  rw [puF_go]
  refine mrg_uniq (few_uniq hm hL (pu_go hm hP _).1 (fun k hk => ?_) (pu_few hm hP) (ha.trans (pu_go hm hP _).2.1.symm))
  rcases Nat.lt_or_ge 16 (k * m) with h | h
  · rw [← cP_eqc]; have := cK_lt hL hk h; omega
  · exact hs k hk h
theorem sp_end {m : Nat} (hm : 2 ≤ m ∧ m ≤ 16) {P L : List Int} (hP : vsm P = true) (hL : vsm L = true) (ha : Alike m L P) (hs : ∀ k, 1 ≤ k → k * m ≤ 16 → eqc ((k * m : Nat) : Int) L = 0) : mrg L = soF m P := by
  refine mrg_uniq (nod_uniq hm (vsm_each hL) (vsm_each (vsm_flat hm hP)) (fun x hx e => ?_) (fun x hx => ((flat_facts hm (vsm_each hP)).2.1 x hx).2) (ha.trans fun j hj => ((flat_facts hm (vsm_each hP)).2.2 j hj).symm))
  have hb := vsm_each hL x hx
  obtain ⟨y, rfl⟩ := Int.eq_ofNat_of_zero_le (show 0 ≤ x by omega)
  have e2 : y % m = 0 := by rw [← Int.natCast_emod] at e; omega
  obtain ⟨q, rfl⟩ := Nat.dvd_of_mod_eq_zero e2
  have hq : 1 ≤ q := by
    rcases Nat.eq_zero_or_pos q with e | e
    · subst e; simp at hb
    · exact e
  have h1 := hs q hq (by rw [Nat.mul_comm]; omega)
  have h2 := eqc_pos hx
  rw [Nat.mul_comm q m] at h1
  omega
theorem puF_of_few {m : Nat} (hm : 2 ≤ m ∧ m ≤ 16) {P : List Int} (hP : valid P = true) (hf : ∀ k : Nat, 1 ≤ k → eqc k P < (m : Int)) {Q : List Int} (hQ : vsm Q = true) (ha : Alike m Q P) : puF m Q = P := by
  have := pu_end hm (P := Q) hQ (vsm_of_valid hP) ha.symm (fun k hk _ => hf k hk)
  rw [mrg_of_mono (mono_of_valid hP)] at this
  exact this.symm
/-- taken apart, put together -/
theorem puF_soF {m : Nat} (hm : 2 ≤ m ∧ m ≤ 16) {P : List Int} (hP : valid P = true) (hf : ∀ k : Nat, 1 ≤ k → eqc k P < (m : Int)) : puF m (soF m P) = P :=
  puF_of_few hm hP hf (vsm_of_valid (soF_valid hm (vsm_of_valid hP))) (soF_alike hm (vsm_of_valid hP))
theorem soF_puF {m : Nat} (hm : 2 ≤ m ∧ m ≤ 16) {P : List Int} (hP : valid P = true) (hn : ∀ x ∈ P, x % (m : Int) ≠ 0) : soF m (puF m P) = P := by
  have hv := vsm_of_valid hP
  have hpv := vsm_of_valid (puF_valid hm hv)
  have h : mrg (flat m (puF m P)) = mrg P := mrg_uniq (nod_uniq hm (vsm_each (vsm_flat hm hpv)) (vsm_each hv) (fun x hx => ((flat_facts hm (vsm_each hpv)).2.1 x hx).2) hn ((show Alike m _ _ from fun j hj => (flat_facts hm (vsm_each hpv)).2.2 j hj).trans (puF_alike hm hv)))
  rw [mrg_of_mono (mono_of_valid hP)] at h
  exact h
/-- what the program's passes rest on: a step of lists beside a step of tallies -/
structure Mv (m : Nat) (f : Int → Int → Int × Int) (st : List Int → Nat → List Int) (mu : List Int → Nat) (still : List Int → Nat → Prop) : Prop where
  step : ∀ L k, vsm L = true → 1 ≤ k → k * m ≤ 16 → vsm (st L k) = true ∧ tlyL (st L k) = pstep m f (tlyL L) k ∧ Alike m (st L k) L ∧ (mu (st L k) < mu L ∨ (still L k ∧ ∀ v, eqc v (st L k) = eqc v L))
  mu_eq : ∀ A B, (∀ v, eqc v A = eqc v B) → mu A = mu B
  still_eq : ∀ A B k, (∀ v, eqc v A = eqc v B) → still A k → still B k
theorem Mv.go {m : Nat} {f : Int → Int → Int × Int} {st : List Int → Nat → List Int} {mu : List Int → Nat} {still : List Int → Nat → Prop} (h : Mv m f st mu still) {L : List Int} (hv : vsm L = true) : ∀ i, i * m ≤ 16 →
    vsm (goN st L i) = true ∧ Alike m (goN st L i) L ∧ (mu (goN st L i) < mu L ∨ ((∀ k, 1 ≤ k → k ≤ i → still L k) ∧ ∀ v, eqc v (goN st L i) = eqc v L))
  | 0, _ => ⟨hv, fun _ _ => rfl, .inr ⟨fun k h1 h2 => by omega, fun _ => rfl⟩⟩
  | i + 1, hi => by
    have hle : i * m ≤ (i + 1) * m := Nat.mul_le_mul_right m (by omega)
    obtain ⟨h1, h2, h3⟩ := h.go hv i (by omega)
    obtain ⟨h4, -, h5, h6⟩ := h.step _ (i + 1) h1 (by omega) hi
    refine ⟨h4, h5.trans h2, ?_⟩
    rcases h3 with h3 | ⟨h3, h3e⟩
    · left
      rcases h6 with h6 | ⟨-, h6e⟩
      · exact Nat.lt_trans h6 h3
      · rw [show mu (goN st L (i + 1)) = mu (goN st L i) from h.mu_eq _ _ h6e]; exact h3
    · rcases h6 with h6 | ⟨h6, h6e⟩
      · left; rw [← h.mu_eq _ _ h3e]; exact h6
      · right
        refine ⟨fun k h7 h8 => ?_, fun v => (h6e v).trans (h3e v)⟩
        by_cases e : k = i + 1
        · subst e; exact h.still_eq _ _ _ h3e h6
        · exact h3 k h7 (by omega)
theorem tly_eqc {A B : List Int} (hA : vsm A = true) (hB : vsm B = true) (h : tlyL A = tlyL B) : ∀ v, eqc v A = eqc v B := by
  intro v
  by_cases hv : 1 ≤ v ∧ v ≤ 16
  · obtain ⟨k, rfl⟩ := Int.eq_ofNat_of_zero_le (show 0 ≤ v by omega)
    rw [← tlyL_at A (show k < 17 by omega), ← tlyL_at B (show k < 17 by omega)]
    simp only [h]
  · rw [eqc_neg (vsm_each hA) hv, eqc_neg (vsm_each hB) hv]
theorem eqc_tly {A B : List Int} (h : ∀ v, eqc v A = eqc v B) : tlyL A = tlyL B := by unfold tlyL; simp only [h]
theorem mv_merge {m : Nat} (hm : 2 ≤ m ∧ m ≤ 16) : Mv m (fM m) (puStep m) (fun L => L.length) (fun L k => eqc k L < (m : Int)) where
  step L k hv hk hkm := ⟨pu_vsm hm.1 hv hk, pu_tly hm.1 L hk hkm, pu_alike hm hv hk, pu_len hm.1 L hk⟩
  mu_eq A B h := eqc_len h
  still_eq A B k h hs := by rw [← h]; exact hs
theorem mv_split {m : Nat} (hm : 2 ≤ m ∧ m ≤ 16) : Mv m (fS m) (spStep m) (fun L => 16 - L.length) (fun L k => eqc ((k * m : Nat) : Int) L = 0) where
  step L k hv hk hkm := by
    refine ⟨sp_vsm hv hk, sp_tly hm.1 L hk hkm, sp_alike hm hk hkm, ?_⟩
    rcases sp_len hm.1 L hk with h | h
    · left; have := (vsm_bd (sp_vsm (m := m) hv hk)).2.2.2; omega
    · exact .inr h
  mu_eq A B h := by have := eqc_len h; omega
  still_eq A B k h hs := by rw [← h]; exact hs
end Go.Proofs.Ythafbdpeignccaa
namespace Go.Proofs.Ythafbdpeignccaa
open Go.RowKit
set_option linter.unusedVariables false
/-- the slots that an operation looks at: its operands', and its guard's -/
def usesG (ops : Array Oper) (o : Oper) : List Nat :=
  (o.op.operands.toList.filterMap fun x => match x with | .tmp t => some t | _ => none) ++ (match o.guard with | none => [] | some (j, _) => ((ops[j]?).bind (·.dst)).toList)
/-- of the operations ahead of the one numbered z each edge leads back, each one that fills a slot that one of them looks at is waited for; whatever is numbered z or above waits for all of them -/
def regOkG (md : Region.Mode) (ops : Array Oper) (z : Nat) : Bool :=
  decide (z ≤ ops.size) &&
  (List.range ops.size).all fun i => match ops[i]? with
    | none => false
    | some o => (match o.op with | .defer _ => false | .select _ _ => false | _ => true) &&
      (if i < z then (o.after.toList.all fun e => !Region.binds md e || decide (e.on < i)) &&
        ((usesG ops o).all fun t => (List.range z).all fun j => match (ops[j]?).bind (·.dst) with
            | some d => !(d == t) || o.after.toList.any fun e => Region.binds md e && e.on == j
            | none => true)
      else if i = z then true else o.after.toList.any fun e => Region.binds md e && decide (z ≤ e.on) && decide (e.on < i))
/-- each operation ahead of the one numbered z is waited for by a later one, none above z -/
def regUpG (md : Region.Mode) (ops : Array Oper) (z : Nat) : Bool :=
  z == ops.size || (List.range z).all fun j => (List.range (z + 1)).any fun i => decide (j < i) && match ops[i]? with
    | none => false
    | some o => o.after.toList.any fun e => Region.binds md e && e.on == j
section
variable {P : Program} {md : Region.Mode} {ops : Array Oper} {Q : Exit → Act → World → Prop} {z : Nat} {S : World → Prop} {az : Act}
/-- the state is as the one at the end but for what isn't listed yet -/
def AgreeG (ops : Array Oper) (z : Nat) (az : Act) (listed : Array Bool) (a : Act) : Prop :=
  a.defers = az.defers ∧ a.tmps.size = az.tmps.size ∧ ∀ t, (∀ j, j < z → listed.getD j true = false → (ops[j]?).bind (·.dst) ≠ some t) → a.tmps[t]? = az.tmps[t]?
theorem AgreeG.slot {listed : Array Bool} {a : Act} {i : Nat} {o : Oper} (hok : regOkG md ops z = true) (hi : i < z) (ho : ops[i]? = some o) (hA : AgreeG ops z az listed a)
    (hp : ∀ e ∈ o.after, Region.binds md e = true → listed.getD e.on false = true) : ∀ t ∈ usesG ops o, a.tmps[t]? = az.tmps[t]? := by
  intro t ht
  unfold regOkG at hok
  simp only [Bool.and_eq_true, decide_eq_true_eq, List.all_eq_true, List.mem_range] at hok
  have h1 := hok.2 i (by omega)
  rw [ho] at h1
  simp only [hi, if_true, Bool.and_eq_true, List.all_eq_true, Array.mem_toList_iff] at h1
  have h2 := h1.2.2 t ht
  exact hA.2.2 t (fun j hj hu hd => by
      simp only [List.mem_range] at h2
      have h4 := h2 j hj
      rw [hd] at h4
      simp only [BEq.rfl, Bool.not_true, Bool.false_or, List.any_eq_true, Bool.and_eq_true, beq_iff_eq, Array.mem_toList_iff] at h4
      obtain ⟨e, he, hb, hej⟩ := h4
      have h5 := hp e he hb
      rw [hej] at h5
      rcases Nat.lt_or_ge j listed.size with h' | h'
      · simp [h'] at h5 hu; rw [hu] at h5; cases h5
      · simp [Array.getElem?_eq_none h'] at h5)
theorem AgreeG.eval {listed : Array Bool} {a : Act} {i : Nat} {o : Oper} (hok : regOkG md ops z = true) (hi : i < z) (ho : ops[i]? = some o) (hA : AgreeG ops z az listed a)
    (hp : ∀ e ∈ o.after, Region.binds md e = true → listed.getD e.on false = true) : ∀ x ∈ o.op.operands, a.eval x = az.eval x := by
  intro x hx
  cases x with
  | tmp t =>
    simp only [Act.eval]
    have h3 := hA.slot hok hi ho hp t (List.mem_append_left _ (List.mem_filterMap.2 ⟨.tmp t, by simpa using hx, rfl⟩))
    simp only [Array.getD_eq_getD_getElem?, h3]
  | const v => rfl
  | global g => rfl
  | func f => rfl
theorem AgreeG.wanted {listed : Array Bool} {a : Act} {i : Nat} {o : Oper} (hok : regOkG md ops z = true) (hi : i < z) (ho : ops[i]? = some o) (hA : AgreeG ops z az listed a)
    (hp : ∀ e ∈ o.after, Region.binds md e = true → listed.getD e.on false = true) : Region.wanted o (yielded ops a.tmps) = Region.wanted o (yielded ops az.tmps) := by
  have hs := hA.slot hok hi ho hp
  unfold Region.wanted
  cases hg : o.guard with
  | none => rfl
  | some g =>
    obtain ⟨j, b⟩ := g
    simp only
    have e : yielded ops a.tmps j = yielded ops az.tmps j := by
      unfold yielded
      cases hd : (ops[j]?).bind (·.dst) with
      | none => rfl
      | some d =>
        have h3 := hs d (List.mem_append_right _ (by simp [hg, hd]))
        simp only [Option.bind_some, h3]
    rw [e]
theorem AgreeG.put {listed : Array Bool} {a : Act} {i : Nat} {o : Oper} {v : Value} (hls : i < listed.size) (ho : ops[i]? = some o) (hA : AgreeG ops z az listed a) (hv : az.put o.dst v = az) :
    AgreeG ops z az (listed.setIfInBounds i true) (a.put o.dst v) := by
  refine ⟨?_, ?_, ?_⟩
  · rw [← hA.1]; cases o.dst <;> rfl
  · rw [← hA.2.1]; cases o.dst <;> simp [Act.put]
  · intro t ht
    have old : (o.dst ≠ some t) → a.tmps[t]? = az.tmps[t]? := fun hne => hA.2.2 t fun j hj hu hd => by
      by_cases hji : j = i
      · subst hji; rw [ho] at hd; exact hne hd
      · exact ht j hj (by rw [getD_set_ne true (Ne.symm hji)]; exact hu) hd
    cases hd : o.dst with
    | none => simp only [Act.put]; exact old (by rw [hd]; simp)
    | some d =>
      rw [hd] at hv
      simp only [Act.put] at hv ⊢
      by_cases hdt : d = t
      · subst hdt
        have h2 : (az.tmps.setIfInBounds d v)[d]? = az.tmps[d]? := by
          have := congrArg Act.tmps hv
          simp only at this
          rw [this]
        rw [← h2]
        rw [Array.getElem?_setIfInBounds, Array.getElem?_setIfInBounds, hA.2.1]
        simp
      · rw [Array.getElem?_setIfInBounds_ne hdt]
        exact old (by rw [hd]; simp; exact hdt)
theorem wp_agree {a : Act} {w : World} {o : Oper} {K : Act → World → Prop} (hsel : ∀ cs b, o.op ≠ .select cs b) (he : ∀ x ∈ o.op.operands, a.eval x = az.eval x)
    (hK : ∀ v w', az.put o.dst v = az → S w' → K (a.put o.dst v) w')
    (h : o.wp P az w (fun a' w' => a' = az ∧ S w') (fun _ _ _ => False)) : o.wp P a w K Q := by
  have e1 := execOp_congr (ρ := a.eval) (ρ' := az.eval) o hsel he
  unfold Oper.wp at *
  rw [e1]
  have hh := h
  clear h
  generalize (execOp az.eval o).run P w = r at *
  cases r with
  | ok x w' =>
    cases x <;> simp only [Oper.upon] at hh ⊢
    case value u => exact hK u w' hh.1 hh.2
    case skip => exact hK _ w' hh.1 hh.2
    case defer d =>
      have h1 := congrArg (fun a : Act => a.defers.length) hh.1
      have h2 : ∀ (b : Act) (dst : Option Tmp) (v : Value), (b.put dst v).defers = b.defers := fun b dst v => by cases dst <;> rfl
      simp only [h2, List.length_cons] at h1
      omega
    case enter f args =>
      refine Calls.mono hh fun e w'' he => ?_
      cases e with
      | returned u => exact hK u w'' he.1 he.2
      | panicked c => exact he.elim
      | outgrown => obtain ⟨_, _, hf⟩ := he; exact hf.elim
    case row row args => exact Rows.mono hh fun u w'' he => hK u w'' he.1 he.2
  | halt x w' =>
    cases x <;> simp only [Oper.upon] at hh ⊢
/-- the listed ones stay listed with all that they wait for -/
def DownG (md : Region.Mode) (ops : Array Oper) (z : Nat) (listed : Array Bool) : Prop :=
  ∀ i o, i < z → ops[i]? = some o → listed.getD i true = true → ∀ e ∈ o.after, Region.binds md e = true → listed.getD e.on false = true
theorem wpAny_fixed_go (hok : regOkG md ops z = true) (hup : regUpG md ops z = true) (listedz : Array Bool)
    (hz : ∀ j, listedz[j]? = if j < z then some true else if j < ops.size then some false else none)
    (hstep : ∀ i o, i < z → ops[i]? = some o → ∀ w, S w → if Region.wanted o (yielded ops az.tmps) = true then o.wp P az w (fun a' w' => a' = az ∧ S w') (fun _ _ _ => False) else az.put o.dst undef = az)
    (hrest : ∀ w, S w → wpAny P md ops Q (ops.size - z) listedz az w) :
    ∀ (k : Nat) (listed : Array Bool) (a : Act) (w : World), listed.size = ops.size → ((List.range z).filter fun j => !listed.getD j true).length = k →
      (∀ i, z ≤ i → i < ops.size → listed.getD i true = false) → DownG md ops z listed → AgreeG ops z az listed a → S w → wpAny P md ops Q (ops.size - z + k) listed a w := by
  have hok' := hok
  unfold regOkG at hok'
  simp only [Bool.and_eq_true, decide_eq_true_eq, List.all_eq_true, List.mem_range] at hok'
  obtain ⟨hzs, hall⟩ := hok'
  have gd : ∀ (l : Array Bool) (j : Nat), l.getD j false = true → l.getD j true = true := fun l j h => by
    rcases Nat.lt_or_ge j l.size with h' | h'
    · simp [h'] at h ⊢; exact h
    · simp [Array.getElem?_eq_none h'] at h
  -- whoever comes up is ahead of z while one of these isn't listed
  have below : ∀ (listed : Array Bool) (i : Nat), (∀ i, z ≤ i → i < ops.size → listed.getD i true = false) → DownG md ops z listed → (∃ j, j < z ∧ listed.getD j true = false) → i ∈ Region.ready md ops listed → i < z := by
    intro listed i htop hdown ⟨j, hj, hjf⟩ hi
    obtain ⟨hu, o, ho, hp⟩ := mem_ready.1 hi
    have his : i < ops.size := (Array.getElem?_eq_some_iff.1 ho).1
    by_cases hiz : i < z
    · exact hiz
    exfalso
    have hup' := hup
    unfold regUpG at hup'
    rw [Bool.or_eq_true] at hup'
    replace hup' := hup'.resolve_left (by simp; omega)
    simp only [List.all_eq_true, List.mem_range, List.any_eq_true, Bool.and_eq_true, decide_eq_true_eq] at hup'
    by_cases hie : i = z
    · subst hie
      have key : ∀ m j, i - j = m → j < i → listed.getD j false = true := by
        intro m
        induction m using Nat.strongRecOn with
        | ind m ih =>
          intro j hm hj
          obtain ⟨i', hi', hji, hE⟩ := hup' j hj
          cases ho' : ops[i']? with
          | none => rw [ho'] at hE; cases hE
          | some o' =>
            rw [ho'] at hE
            simp only [List.any_eq_true, Bool.and_eq_true, beq_iff_eq, Array.mem_toList_iff] at hE
            obtain ⟨e, he, hb, hej⟩ := hE
            by_cases h0 : i' = i
            · subst h0
              rw [ho] at ho'; injection ho' with ho'; subst ho'
              rw [← hej]; exact hp e he hb
            · have h1 := ih (i - i') (by omega) i' rfl (by omega)
              rw [← hej]; exact hdown i' o' (by omega) ho' (gd _ _ h1) e he hb
      have := gd _ _ (key _ j rfl hj)
      rw [hjf] at this; cases this
    · have h1 := hall i his
      rw [ho] at h1
      simp only [hiz, if_false, hie, Bool.and_eq_true, List.any_eq_true, decide_eq_true_eq, Array.mem_toList_iff] at h1
      obtain ⟨-, e, he, ⟨hb, hze⟩, hei⟩ := h1
      have h2 := gd _ _ (hp e he hb)
      rw [htop e.on hze (by omega)] at h2
      cases h2
  intro k
  induction k with
  | zero =>
    intro listed a w hls hk htop hdown hA hS
    have hl : ∀ j, j < z → listed.getD j true = true := fun j hj => by
      have h1 := List.length_eq_zero_iff.1 hk
      have h2 := List.filter_eq_nil_iff.1 h1 j (List.mem_range.2 hj)
      simpa using h2
    have e1 : listed = listedz := by
      apply Array.ext_getElem?
      intro j
      rw [hz j]
      by_cases hj : j < z
      · have := hl j hj
        rw [if_pos hj]
        have h' : j < listed.size := by omega
        simp [h'] at this ⊢; exact this
      · rw [if_neg hj]
        by_cases hj2 : j < ops.size
        · have := htop j (by omega) hj2
          rw [if_pos hj2]
          have h' : j < listed.size := by omega
          simp [h'] at this ⊢; exact this
        · rw [if_neg hj2]; exact Array.getElem?_eq_none (by omega)
    have e2 : a = az := by
      obtain ⟨h1, h2, h3⟩ := hA
      cases a; cases az
      simp only at h1 h2 h3
      congr
      exact Array.ext_getElem? fun t => h3 t fun j hj hu => by rw [hl j hj] at hu; cases hu
    subst e1 e2
    exact hrest w hS
  | succ k ih =>
    intro listed a w hls hk htop hdown hA hS
    obtain ⟨j0, hj0⟩ : ∃ j, j ∈ (List.range z).filter fun j => !listed.getD j true := List.exists_mem_of_length_pos (by omega)
    have hex : ∃ j, j < z ∧ listed.getD j true = false := by
      rw [List.mem_filter, List.mem_range] at hj0
      exact ⟨j0, hj0.1, by simpa using hj0.2⟩
    -- somebody comes up: the first that isn't listed
    have hne : Region.ready md ops listed ≠ [] := by
      intro h0
      have key : ∀ j, j < z → listed.getD j true = true := by
        intro j
        induction j using Nat.strongRecOn with
        | ind j ihj =>
          intro hj
          by_cases hu : listed.getD j true = true
          · exact hu
          exfalso
          have ho : ∃ o, ops[j]? = some o := ⟨ops[j]'(by omega), Array.getElem?_eq_getElem (by omega)⟩
          obtain ⟨o, ho⟩ := ho
          have h1 := hall j (by omega)
          rw [ho] at h1
          simp only [hj, if_true, Bool.and_eq_true, List.all_eq_true, Array.mem_toList_iff] at h1
          have hm : j ∈ Region.ready md ops listed := mem_ready.2 ⟨by simpa using hu, o, ho, fun e he hb => by
            have h2 := h1.2.1 e he
            simp only [hb, Bool.not_true, Bool.false_or, decide_eq_true_eq] at h2
            have h3 := ihj e.on h2 (by omega)
            have h' : e.on < listed.size := by omega
            simp [h'] at h3 ⊢; exact h3⟩
          rw [h0] at hm
          cases hm
      obtain ⟨j, hj, hf⟩ := hex
      rw [key j hj] at hf; cases hf
    rw [show ops.size - z + (k + 1) = (ops.size - z + k) + 1 from by omega]
    refine wpAny_all rfl hne fun i hi => ?_
    have hiz := below listed i htop hdown hex hi
    obtain ⟨hu, o, ho, hp⟩ := mem_ready.1 hi
    have h1 := hall i (by omega)
    rw [ho] at h1
    simp only [hiz, if_true, Bool.and_eq_true] at h1
    have hsel : ∀ cs b, o.op ≠ .select cs b := fun c b e => by simp [e] at h1
    have hst := hstep i o hiz ho w hS
    unfold wpOp
    rw [ho]
    simp only [hA.wanted hok hiz ho hp]
    suffices hnext : ∀ v w', az.put o.dst v = az → S w' → wpAny P md ops Q (ops.size - z + k) (listed.setIfInBounds i true) (a.put o.dst v) w' by
      by_cases hw : Region.wanted o (yielded ops az.tmps) = true
      · rw [if_pos hw] at hst ⊢
        exact .inl (wp_agree hsel (hA.eval hok hiz ho hp) hnext hst)
      · rw [if_neg hw] at hst ⊢
        exact hnext _ _ hst hS
    intro v w' hv hS'
    refine ih _ _ _ (by simpa using hls) ?_ ?_ ?_ (hA.put (by omega) ho hv) hS'
    · have hsplit : ((List.range z).filter fun j => !listed.getD j true).length = ((List.range z).filter fun j => !(listed.setIfInBounds i true).getD j true).length + 1 := by
        have hcount : ∀ (L : List Nat), L.Nodup → i ∈ L → (L.filter fun j => !listed.getD j true).length = (L.filter fun j => !(listed.setIfInBounds i true).getD j true).length + 1 := by
          intro L
          induction L with
          | nil => intro _ h; cases h
          | cons x L ihL =>
            intro hnd hm
            have hnd' := List.nodup_cons.1 hnd
            by_cases hx : x = i
            · subst hx
              have e1 : (x :: L).filter (fun j => !listed.getD j true) = x :: L.filter (fun j => !listed.getD j true) := List.filter_cons_of_pos (by simp only [hu]; rfl)
              have e2 : (listed.setIfInBounds x true).getD x true = true := by
                have h' : x < listed.size := by omega
                simp [h']
              have e3 : (x :: L).filter (fun j => !(listed.setIfInBounds x true).getD j true) = L.filter (fun j => !(listed.setIfInBounds x true).getD j true) := List.filter_cons_of_neg (by simp only [e2]; simp)
              rw [e1, e3, List.length_cons]
              congr 2
              refine List.filter_congr fun j hj => ?_
              rw [getD_set_ne true (fun e => hnd'.1 (by rw [e]; exact hj))]
            · have hm' : i ∈ L := (List.mem_cons.1 hm).resolve_left (Ne.symm hx)
              have := ihL hnd'.2 hm'
              have e2 : (listed.setIfInBounds i true).getD x true = listed.getD x true := getD_set_ne true (Ne.symm hx)
              by_cases hxu : listed.getD x true = true
              · rw [List.filter_cons_of_neg (by simp only [hxu]; simp), List.filter_cons_of_neg (by simp only [e2, hxu]; simp)]; exact this
              · have hxf : listed.getD x true = false := by simpa using hxu
                rw [List.filter_cons_of_pos (by simp only [hxf]; rfl), List.filter_cons_of_pos (by simp only [e2, hxf]; rfl), List.length_cons, List.length_cons]
                omega
        exact hcount _ List.nodup_range (List.mem_range.2 hiz)
      omega
    · intro j hj hjs
      rw [getD_set_ne true (by omega)]; exact htop j hj hjs
    · intro j o' hj ho' hl e he hb
      by_cases hji : j = i
      · subst hji
        rw [ho] at ho'; injection ho' with ho'; subst ho'
        exact getD_set_true (hp e he hb)
      · rw [getD_set_ne true (Ne.symm hji)] at hl
        exact getD_set_true (hdown j o' hj ho' hl e he hb)
/-- the first z operations, each of which yields its value in whatever world of the kind S; then the rest -/
theorem wpAny_fixed (z : Nat) (S : World → Prop) (az : Act) (hok : regOkG md ops z = true) (hup : regUpG md ops z = true) (a : Act) (w : World) (hA : AgreeG ops z az (Array.replicate ops.size false) a) (hS : S w)
    (listedz : Array Bool) (hz : listedz = Array.replicate z true ++ Array.replicate (ops.size - z) false)
    (hstep : ∀ i o, i < z → ops[i]? = some o → ∀ w, S w → if Region.wanted o (yielded ops az.tmps) = true then o.wp P az w (fun a' w' => a' = az ∧ S w') (fun _ _ _ => False) else az.put o.dst undef = az)
    (hrest : ∀ w, S w → wpAny P md ops Q (ops.size - z) listedz az w) : wpAny P md ops Q ops.size (Array.replicate ops.size false) a w := by
  have hzs : z ≤ ops.size := by
    unfold regOkG at hok
    simp only [Bool.and_eq_true, decide_eq_true_eq] at hok
    exact hok.1
  have h := wpAny_fixed_go (P := P) (Q := Q) (S := S) (az := az) hok hup listedz (fun j => by
    rw [hz, Array.getElem?_append]
    simp only [Array.size_replicate, Array.getElem?_replicate]
    by_cases hj : j < z
    · simp [hj]
    · simp only [hj, if_false]
      by_cases h2 : j < ops.size
      · rw [if_pos (by omega), if_pos h2]
      · rw [if_neg (by omega), if_neg h2]) hstep hrest z (Array.replicate ops.size false) a w (by simp) (by
      rw [List.filter_eq_self.2]
      · simp
      · intro j hj
        have hj := List.mem_range.1 hj
        have h' : j < ops.size := by omega
        simp [h']) (fun i _ h2 => by simp [h2]) (fun i o hi ho hl => by
        have h' : i < ops.size := by omega
        simp [h'] at hl) hA hS
  rwa [show ops.size - z + z = ops.size from by omega] at h
/-- the values of the operations from the one numbered i on, put one after another -/
def putsOfG (ops : Array Oper) : Nat → List Value → Act → Act
  | _, [], a => a
  | i, v :: vs, a => putsOfG ops (i + 1) vs (a.put ((ops[i]?).bind (·.dst)) v)
theorem putsOfG_spec (ops : Array Oper) : ∀ (vs : List Value) (i : Nat) (a : Act), (putsOfG ops i vs a).defers = a.defers ∧ (putsOfG ops i vs a).tmps.size = a.tmps.size ∧ ∀ t, (∀ j, i ≤ j → j < i + vs.length → (ops[j]?).bind (·.dst) ≠ some t) → (putsOfG ops i vs a).tmps[t]? = a.tmps[t]? := by
  intro vs
  induction vs with
  | nil => intro i a; exact ⟨rfl, rfl, fun _ _ => rfl⟩
  | cons v vs ih =>
    intro i a
    obtain ⟨h1, h2, h3⟩ := ih (i + 1) (a.put ((ops[i]?).bind (·.dst)) v)
    unfold putsOfG
    refine ⟨?_, ?_, ?_⟩
    · rw [h1]; cases (ops[i]?).bind (·.dst) <;> rfl
    · rw [h2]; cases (ops[i]?).bind (·.dst) <;> simp [Act.put]
    · intro t ht
      rw [h3 t (fun j hj hj2 => ht j (by omega) (by simp; omega))]
      have h0 := ht i (Nat.le_refl _) (by simp)
      cases hd : (ops[i]?).bind (·.dst) with
      | none => rfl
      | some d =>
        rw [hd] at h0
        simp only [Act.put]
        exact Array.getElem?_setIfInBounds_ne (fun e => h0 (by rw [e]))
def StepsG (P : Program) (ops : Array Oper) (S : World → Prop) (az : Act) (L : List Nat) : Prop :=
  ∀ i ∈ L, ∀ o, ops[i]? = some o → ∀ w, S w → if Region.wanted o (yielded ops az.tmps) = true then o.wp P az w (fun a' w' => a' = az ∧ S w') (fun _ _ _ => False) else az.put o.dst undef = az
theorem StepsG.nil : StepsG P ops S az [] := fun _ h => by cases h
theorem StepsG.one {i : Nat} {L : List Nat} {o : Oper} (ho : ops[i]? = some o) (h : ∀ w, S w → if Region.wanted o (yielded ops az.tmps) = true then o.wp P az w (fun a' w' => a' = az ∧ S w') (fun _ _ _ => False) else az.put o.dst undef = az) (hs : StepsG P ops S az L) : StepsG P ops S az (i :: L) := by
  intro j hj o' ho'
  rcases List.mem_cons.1 hj with rfl | hj
  · rw [ho] at ho'; injection ho' with ho'; subst ho'; exact h
  · exact hs j hj o' ho'
theorem StepsG.cons {i : Nat} {L : List Nat} {o : Oper} (ho : ops[i]? = some o) (hw : Region.wanted o (yielded ops az.tmps) = true) (h : ∀ w, S w → o.wp P az w (fun a' w' => a' = az ∧ S w') (fun _ _ _ => False)) (hs : StepsG P ops S az L) : StepsG P ops S az (i :: L) :=
  .one ho (fun w hS => by rw [if_pos hw]; exact h w hS) hs
theorem StepsG.skip {i : Nat} {L : List Nat} {o : Oper} (ho : ops[i]? = some o) (hw : Region.wanted o (yielded ops az.tmps) = false) (h : az.put o.dst undef = az) (hs : StepsG P ops S az L) : StepsG P ops S az (i :: L) :=
  .one ho (fun w hS => by rw [if_neg (by rw [hw]; simp)]; exact h) hs
/-- the first operations, each of which yields its value in whatever world of the kind S (vs: the values); then the rest -/
theorem wpAny_vals (zl : List Nat) (vs : List Value) (S : World → Prop) (a az : Act) (w : World) (haz : putsOfG ops 0 vs a = az) (hok : regOkG md ops vs.length = true) (hup : regUpG md ops vs.length = true) (hS : S w)
    (listedz : Array Bool) (hz : listedz = Array.replicate vs.length true ++ Array.replicate (ops.size - vs.length) false)
    (hzl : List.range vs.length = zl) (hstep : StepsG P ops S az zl)
    (hrest : ∀ w, S w → wpAny P md ops Q (ops.size - vs.length) listedz az w) : wpAny P md ops Q ops.size (Array.replicate ops.size false) a w := by
  subst hzl
  obtain ⟨h1, h2, h3⟩ := putsOfG_spec ops vs 0 a
  rw [haz] at h1 h2 h3
  have hzs : vs.length ≤ ops.size := by
    unfold regOkG at hok
    simp only [Bool.and_eq_true, decide_eq_true_eq] at hok
    exact hok.1
  refine wpAny_fixed vs.length S az hok hup a w ⟨h1.symm, h2.symm, fun t ht => (h3 t fun j _ hj => ht j (by omega) ?_).symm⟩ hS listedz hz (fun i o hi => hstep i (List.mem_range.2 hi) o) hrest
  have h' : j < ops.size := by omega
  simp [h']
/-- a drawn region, all of whose operations yield their values (vs) in whatever world of the kind S -/
theorem wp_region_vals {id : Nat} {a : Act} {w : World} (zl : List Nat) (vs : List Value) (S : World → Prop) (az : Act) (hm : P.follows .mixedOrders = true) (hS : ∀ y, Dr w y → S y) (haz : putsOfG ops 0 vs a = az) (hlen : vs.length = ops.size)
    (hok : regOkG .any ops vs.length = true) (hup : regUpG .any ops vs.length = true) (hzl : List.range vs.length = zl) (hstep : StepsG P ops S az zl) (hrest : ∀ w', S w' → Q .normal az w') : (Code.region id ops true).wp P Q a w := by
  refine wp_region_any hm ?_
  refine wpAny_vals zl vs S a az _ haz hok hup (hS _ (Dr.n w 1)) _ rfl hzl hstep fun w' hw => ?_
  rw [hlen, Nat.sub_self]
  refine ⟨?_, hrest w' hw⟩
  unfold Region.ready
  rw [List.filter_eq_nil_iff]
  intro i hi
  have h := List.mem_range.1 hi
  simp [h]
/-- the same, the last ones by hand -/
theorem wp_region_vals_rest {id : Nat} {a : Act} {w : World} (zl : List Nat) (vs : List Value) (S : World → Prop) (az : Act) (hm : P.follows .mixedOrders = true) (hS : ∀ y, Dr w y → S y) (haz : putsOfG ops 0 vs a = az)
    (hok : regOkG .any ops vs.length = true) (hup : regUpG .any ops vs.length = true) (hzl : List.range vs.length = zl) (hstep : StepsG P ops S az zl) (hrest : ∀ w', S w' → wpAny P .any ops Q (ops.size - vs.length) (Array.replicate vs.length true ++ Array.replicate (ops.size - vs.length) false) az w') : (Code.region id ops true).wp P Q a w := by
  refine wp_region_any hm ?_
  exact wpAny_vals zl vs S a az _ haz hok hup (hS _ (Dr.n w 1)) _ rfl hzl hstep hrest
end
end Go.Proofs.Ythafbdpeignccaa
namespace Go.Proofs.Ythafbdpeignccaa
open Go.RowKit
set_option linter.unusedVariables false
section
variable {P : Program} {md : Region.Mode} {ops : Array Oper} {Q : Exit → Act → World → Prop} {az : Act}
/-- each operation yields its value in whatever world is due at what is listed -/
theorem wpAny_staged_go {S : Array Bool → World → Prop} (hok : regOkG md ops ops.size = true)
    (hstep : ∀ i o listed w, i < ops.size → ops[i]? = some o → listed.size = ops.size → DownG md ops ops.size listed → listed.getD i true = false → (∀ e ∈ o.after, Region.binds md e = true → listed.getD e.on false = true) → S listed w →
      if Region.wanted o (yielded ops az.tmps) = true then o.wp P az w (fun a' w' => a' = az ∧ S (listed.setIfInBounds i true) w') (fun _ _ _ => False) else az.put o.dst undef = az ∧ S (listed.setIfInBounds i true) w)
    (hrest : ∀ listed w, listed.size = ops.size → (∀ j, j < ops.size → listed.getD j true = true) → S listed w → Q .normal az w) :
    ∀ (k : Nat) (listed : Array Bool) (a : Act) (w : World), listed.size = ops.size → ((List.range ops.size).filter fun j => !listed.getD j true).length = k → DownG md ops ops.size listed → AgreeG ops ops.size az listed a → S listed w → wpAny P md ops Q k listed a w := by
  have hok' := hok
  unfold regOkG at hok'
  simp only [Bool.and_eq_true, decide_eq_true_eq, List.all_eq_true, List.mem_range] at hok'
  obtain ⟨-, hall⟩ := hok'
  intro k
  induction k with
  | zero =>
    intro listed a w hls hk hdown hA hS
    have hl : ∀ j, j < ops.size → listed.getD j true = true := fun j hj => by
      have h1 := List.length_eq_zero_iff.1 hk
      have h2 := List.filter_eq_nil_iff.1 h1 j (List.mem_range.2 hj)
      simpa using h2
    have e2 : a = az := by
      obtain ⟨h1, h2, h3⟩ := hA
      cases a; cases az
      simp only at h1 h2 h3
      congr
      exact Array.ext_getElem? fun t => h3 t fun j hj hu => by rw [hl j hj] at hu; cases hu
    subst e2
    refine ⟨?_, hrest listed w hls hl hS⟩
    unfold Region.ready
    rw [List.filter_eq_nil_iff]
    intro i hi
    have h := List.mem_range.1 hi
    have := hl i h
    simp only [this]
    simp
  | succ k ih =>
    intro listed a w hls hk hdown hA hS
    obtain ⟨j0, hj0⟩ : ∃ j, j ∈ (List.range ops.size).filter fun j => !listed.getD j true := List.exists_mem_of_length_pos (by omega)
    have hex : ∃ j, j < ops.size ∧ listed.getD j true = false := by
      rw [List.mem_filter, List.mem_range] at hj0
      exact ⟨j0, hj0.1, by simpa using hj0.2⟩
    have hne : Region.ready md ops listed ≠ [] := by
      intro h0
      have key : ∀ j, j < ops.size → listed.getD j true = true := by
        intro j
        induction j using Nat.strongRecOn with
        | ind j ihj =>
          intro hj
          by_cases hu : listed.getD j true = true
          · exact hu
          exfalso
          have ho : ∃ o, ops[j]? = some o := ⟨ops[j]'hj, Array.getElem?_eq_getElem hj⟩
          obtain ⟨o, ho⟩ := ho
          have h1 := hall j hj
          rw [ho] at h1
          simp only [hj, if_true, Bool.and_eq_true, List.all_eq_true, Array.mem_toList_iff] at h1
          have hm : j ∈ Region.ready md ops listed := mem_ready.2 ⟨by simpa using hu, o, ho, fun e he hb => by
            have h2 := h1.2.1 e he
            simp only [hb, Bool.not_true, Bool.false_or, decide_eq_true_eq] at h2
            have h3 := ihj e.on h2 (by omega)
            have h' : e.on < listed.size := by omega
            simp [h'] at h3 ⊢; exact h3⟩
          rw [h0] at hm
          cases hm
      obtain ⟨j, hj, hf⟩ := hex
      rw [key j hj] at hf; cases hf
    refine wpAny_all rfl hne fun i hi => ?_
    obtain ⟨hu, o, ho, hp⟩ := mem_ready.1 hi
    have hiz : i < ops.size := (Array.getElem?_eq_some_iff.1 ho).1
    have h1 := hall i hiz
    rw [ho] at h1
    simp only [hiz, if_true, Bool.and_eq_true] at h1
    have hsel : ∀ cs b, o.op ≠ .select cs b := fun c b e => by simp [e] at h1
    have hst := hstep i o listed w hiz ho hls hdown hu hp hS
    unfold wpOp
    rw [ho]
    simp only [hA.wanted hok hiz ho hp]
    suffices hnext : ∀ v w', az.put o.dst v = az → S (listed.setIfInBounds i true) w' → wpAny P md ops Q k (listed.setIfInBounds i true) (a.put o.dst v) w' by
      by_cases hw : Region.wanted o (yielded ops az.tmps) = true
      · rw [if_pos hw] at hst ⊢
        exact .inl (wp_agree hsel (hA.eval hok hiz ho hp) hnext hst)
      · rw [if_neg hw] at hst ⊢
        exact hnext _ _ hst.1 hst.2
    intro v w' hv hS'
    refine ih _ _ _ (by simpa using hls) ?_ ?_ (hA.put (by omega) ho hv) hS'
    · have hsplit : ((List.range ops.size).filter fun j => !listed.getD j true).length = ((List.range ops.size).filter fun j => !(listed.setIfInBounds i true).getD j true).length + 1 := by
        have hcount : ∀ (L : List Nat), L.Nodup → i ∈ L → (L.filter fun j => !listed.getD j true).length = (L.filter fun j => !(listed.setIfInBounds i true).getD j true).length + 1 := by
          intro L
          induction L with
          | nil => intro _ h; cases h
          | cons x L ihL =>
            intro hnd hm
            have hnd' := List.nodup_cons.1 hnd
            by_cases hx : x = i
            · subst hx
              have e1 : (x :: L).filter (fun j => !listed.getD j true) = x :: L.filter (fun j => !listed.getD j true) := List.filter_cons_of_pos (by simp only [hu]; rfl)
              have e2 : (listed.setIfInBounds x true).getD x true = true := by
                have h' : x < listed.size := by omega
                simp [h']
              have e3 : (x :: L).filter (fun j => !(listed.setIfInBounds x true).getD j true) = L.filter (fun j => !(listed.setIfInBounds x true).getD j true) := List.filter_cons_of_neg (by simp only [e2]; simp)
              rw [e1, e3, List.length_cons]
              congr 2
              refine List.filter_congr fun j hj => ?_
              rw [getD_set_ne true (fun e => hnd'.1 (by rw [e]; exact hj))]
            · have hm' : i ∈ L := (List.mem_cons.1 hm).resolve_left (Ne.symm hx)
              have := ihL hnd'.2 hm'
              have e2 : (listed.setIfInBounds i true).getD x true = listed.getD x true := getD_set_ne true (Ne.symm hx)
              by_cases hxu : listed.getD x true = true
              · rw [List.filter_cons_of_neg (by simp only [hxu]; simp), List.filter_cons_of_neg (by simp only [e2, hxu]; simp)]; exact this
              · have hxf : listed.getD x true = false := by simpa using hxu
                rw [List.filter_cons_of_pos (by simp only [hxf]; rfl), List.filter_cons_of_pos (by simp only [e2, hxf]; rfl), List.length_cons, List.length_cons]
                omega
        exact hcount _ List.nodup_range (List.mem_range.2 hiz)
      omega
    · intro j o' hj ho' hl e he hb
      by_cases hji : j = i
      · subst hji
        rw [ho] at ho'; injection ho' with ho'; subst ho'
        exact getD_set_true (hp e he hb)
      · rw [getD_set_ne true (Ne.symm hji)] at hl
        exact getD_set_true (hdown j o' hj ho' hl e he hb)
/-- the operation numbered p waits for the one numbered i -/
def waitsFor (md : Region.Mode) (ops : Array Oper) (p i : Nat) : Bool := match ops[p]? with
  | none => false
  | some o => o.after.toList.any fun e => Region.binds md e && e.on == i
/-- what each operation does: at any time, ahead of the first store, as the first store, as the second -/
def Two (P : Program) (md : Region.Mode) (ops : Array Oper) (az : Act) (p q : Nat) (S0 S1 S2 : World → Prop) (i : Nat) (o : Oper) : Prop :=
  o.guard = none ∧
  ((i ≠ p ∧ i ≠ q ∧ ∀ w, o.wp P az w (fun a' w' => a' = az ∧ w' = w) (fun _ _ _ => False)) ∨
  (i ≠ p ∧ i ≠ q ∧ waitsFor md ops p i = true ∧ ∀ w, S0 w → o.wp P az w (fun a' w' => a' = az ∧ S0 w') (fun _ _ _ => False)) ∨
  (i = p ∧ ∀ w, S0 w → o.wp P az w (fun a' w' => a' = az ∧ S1 w') (fun _ _ _ => False)) ∨
  (i = q ∧ ∀ w, S1 w → o.wp P az w (fun a' w' => a' = az ∧ S2 w') (fun _ _ _ => False)))
def Twos (P : Program) (md : Region.Mode) (ops : Array Oper) (az : Act) (p q : Nat) (S0 S1 S2 : World → Prop) (L : List Nat) : Prop := ∀ i ∈ L, ∀ o, ops[i]? = some o → Two P md ops az p q S0 S1 S2 i o
variable {p q : Nat} {S0 S1 S2 : World → Prop}
theorem Twos.nil : Twos P md ops az p q S0 S1 S2 [] := fun _ h => by cases h
theorem Twos.one {i : Nat} {L : List Nat} {o : Oper} (ho : ops[i]? = some o) (h : Two P md ops az p q S0 S1 S2 i o) (hs : Twos P md ops az p q S0 S1 S2 L) : Twos P md ops az p q S0 S1 S2 (i :: L) := by
  intro j hj o' ho'
  rcases List.mem_cons.1 hj with rfl | hj
  · rw [ho] at ho'; injection ho' with ho'; subst ho'; exact h
  · exact hs j hj o' ho'
theorem Twos.any {i : Nat} {L : List Nat} {o : Oper} (ho : ops[i]? = some o) (hg : o.guard = none) (h1 : i ≠ p) (h2 : i ≠ q) (h : ∀ w, o.wp P az w (fun a' w' => a' = az ∧ w' = w) (fun _ _ _ => False)) (hs : Twos P md ops az p q S0 S1 S2 L) : Twos P md ops az p q S0 S1 S2 (i :: L) := .one ho ⟨hg, .inl ⟨h1, h2, h⟩⟩ hs
theorem Twos.early {i : Nat} {L : List Nat} {o : Oper} (ho : ops[i]? = some o) (hg : o.guard = none) (h1 : i ≠ p) (h2 : i ≠ q) (h3 : waitsFor md ops p i = true) (h : ∀ w, S0 w → o.wp P az w (fun a' w' => a' = az ∧ S0 w') (fun _ _ _ => False)) (hs : Twos P md ops az p q S0 S1 S2 L) : Twos P md ops az p q S0 S1 S2 (i :: L) := .one ho ⟨hg, .inr (.inl ⟨h1, h2, h3, h⟩)⟩ hs
theorem Twos.first {L : List Nat} {o : Oper} (ho : ops[p]? = some o) (hg : o.guard = none) (h : ∀ w, S0 w → o.wp P az w (fun a' w' => a' = az ∧ S1 w') (fun _ _ _ => False)) (hs : Twos P md ops az p q S0 S1 S2 L) : Twos P md ops az p q S0 S1 S2 (p :: L) := .one ho ⟨hg, .inr (.inr (.inl ⟨rfl, h⟩))⟩ hs
theorem Twos.second {L : List Nat} {o : Oper} (ho : ops[q]? = some o) (hg : o.guard = none) (h : ∀ w, S1 w → o.wp P az w (fun a' w' => a' = az ∧ S2 w') (fun _ _ _ => False)) (hs : Twos P md ops az p q S0 S1 S2 L) : Twos P md ops az p q S0 S1 S2 (q :: L) := .one ho ⟨hg, .inr (.inr (.inr ⟨rfl, h⟩))⟩ hs
theorem waits_down {listed : Array Bool} {i j : Nat} (hdown : DownG md ops ops.size listed) (hj : j < ops.size) (hl : listed.getD j true = true) (h : waitsFor md ops j i = true) : listed.getD i false = true := by
  unfold waitsFor at h
  cases ho : ops[j]? with
  | none => rw [ho] at h; cases h
  | some o =>
    rw [ho] at h
    simp only [List.any_eq_true, Bool.and_eq_true, beq_iff_eq, Array.mem_toList_iff] at h
    obtain ⟨e, he, hb, rfl⟩ := h
    exact hdown j o hj ho hl e he hb
theorem getD_ft {l : Array Bool} {j : Nat} (h : l.getD j false = true) : l.getD j true = true := by
  rcases Nat.lt_or_ge j l.size with h' | h'
  · simp [h'] at h ⊢; exact h
  · simp [Array.getElem?_eq_none h'] at h
theorem getD_tf {l : Array Bool} {j : Nat} (hj : j < l.size) (h : l.getD j true = true) : l.getD j false = true := by
  simp [hj] at h ⊢; exact h
theorem wp_region_two {id : Nat} {a : Act} {w : World} (p q : Nat) (zl : List Nat) (vs : List Value) (S0 S1 S2 : World → Prop) (az : Act) (hm : P.follows .mixedOrders = true) (hS : ∀ y, Dr w y → S0 y) (haz : putsOfG ops 0 vs a = az) (hlen : vs.length = ops.size)
    (hok : regOkG .any ops ops.size = true) (hq : q < ops.size) (hpl : p < ops.size) (hpq : waitsFor .any ops q p = true) (hne : p ≠ q) (hzl : List.range ops.size = zl) (hstep : Twos P .any ops az p q S0 S1 S2 zl) (hrest : ∀ w', S2 w' → Q .normal az w') : (Code.region id ops true).wp P Q a w := by
  subst hzl
  refine wp_region_any hm ?_
  obtain ⟨h1, h2, h3⟩ := putsOfG_spec ops vs 0 a
  rw [haz] at h1 h2 h3
  refine wpAny_staged_go (S := fun listed w => if listed.getD q false = true then S2 w else if listed.getD p false = true then S1 w else S0 w) hok (fun i o listed w hi ho hls hdown hu hp hS => ?_) (fun listed w hls hl hS => ?_) ops.size (Array.replicate ops.size false) a _ (by simp) (by
      rw [List.filter_eq_self.2]
      · simp
      · intro j hj
        have hj := List.mem_range.1 hj
        simp [hj]) (fun i o hi ho hl => by simp [hi] at hl) ⟨h1.symm, h2.symm, fun t ht => (h3 t fun j _ hj => ht j (by omega) ?_).symm⟩ ?_
  · obtain ⟨hg, hc⟩ := hstep i (List.mem_range.2 hi) o ho
    rw [if_pos (by simp [Region.wanted, hg])]
    have fq : listed.getD q false = true → listed.getD p false = true := fun h => waits_down hdown hq (getD_ft h) hpq
    have hui : listed.getD i false = false := by
      cases e : listed.getD i false with
      | false => rfl
      | true => rw [getD_ft e] at hu; cases hu
    rcases hc with ⟨c1, c2, c3⟩ | ⟨c1, c2, c3, c4⟩ | ⟨rfl, c4⟩ | ⟨rfl, c4⟩
    · refine Oper.wp_mono (fun a' w' hh => ⟨hh.1, ?_⟩) (c3 w)
      rw [getD_set_ne false c2, getD_set_ne false c1, hh.2]; exact hS
    · have up : listed.getD p false = false := by
        cases e : listed.getD p false with
        | false => rfl
        | true => have := waits_down hdown hpl (getD_ft e) c3; rw [hui] at this; cases this
      have uq : listed.getD q false = false := by
        cases e : listed.getD q false with
        | false => rfl
        | true => rw [fq e] at up; cases up
      rw [uq, up] at hS
      simp only [Bool.false_eq_true, if_false] at hS
      refine Oper.wp_mono (fun a' w' hh => ⟨hh.1, ?_⟩) (c4 w hS)
      rw [getD_set_ne false c2, getD_set_ne false c1, uq, up]
      simp only [Bool.false_eq_true, if_false]
      exact hh.2
    · have uq : listed.getD q false = false := by
        cases e : listed.getD q false with
        | false => rfl
        | true => rw [fq e] at hui; cases hui
      rw [uq, hui] at hS
      simp only [Bool.false_eq_true, if_false] at hS
      refine Oper.wp_mono (fun a' w' hh => ⟨hh.1, ?_⟩) (c4 w hS)
      rw [getD_set_ne false hne, uq, show (listed.setIfInBounds i true).getD i false = true from by simp [show i < listed.size by omega]]
      simp only [Bool.false_eq_true, if_false, if_true]
      exact hh.2
    · have lp : listed.getD p false = true := by
        unfold waitsFor at hpq
        rw [ho] at hpq
        simp only [List.any_eq_true, Bool.and_eq_true, beq_iff_eq, Array.mem_toList_iff] at hpq
        obtain ⟨e, he, hb, rfl⟩ := hpq
        exact hp e he hb
      rw [hui, lp] at hS
      simp only [Bool.false_eq_true, if_false, if_true] at hS
      refine Oper.wp_mono (fun a' w' hh => ⟨hh.1, ?_⟩) (c4 w hS)
      rw [show (listed.setIfInBounds i true).getD i false = true from by simp [show i < listed.size by omega]]
      simp only [if_true]
      exact hh.2
  · rw [getD_tf (by omega) (hl q hq)] at hS
    simp only [if_true] at hS
    exact hrest w hS
  · have h' : j < ops.size := by omega
    simp [h']
  · have hq0 : (Array.replicate ops.size false).getD q false = false := by simp [hq]
    have hp0 : (Array.replicate ops.size false).getD p false = false := by simp [hpl]
    rw [hq0, hp0]
    simp only [Bool.false_eq_true, if_false]
    exact hS _ (Dr.n w 1)
end
end Go.Proofs.Ythafbdpeignccaa
namespace Go.Proofs.Ythafbdpeignccaa
open Go.RowKit NP
set_option maxRecDepth 8000
set_option linter.unusedVariables false
theorem T_tal : (Try.prog.info? 81).map (·.size) = some 17 := by kernel_rfl
set_option maxHeartbeats 1000000 in
theorem tallyOf_any (a : Option Addr) (c B : Nat) (L : List Int) (w : World) (h : Rd w B a (ints L)) (hB : B ≤ w.heap.size) (hv : vsm L = true) :
    Calls Try.prog 93 #[.slice a L.length c] w fun e w' => e = .returned (.agg (arr (tlyL L))) ∧ Below w.heap.size w w' := by
  have hln := (vsm_bd hv).2.2.2
  have hi17 : ∀ M, (Try.prog.info? 81).map (·.size) = some (arr (tlyL M)).size := fun M => by rw [arr_size, tlyL_len]; exact T_tal
  have HI := Lib.hid hi17
  have HE := Lib.hid (vsm_each hv)
  have HZ : Hid (arr (List.replicate 17 0) = arr (tlyL [])) := Lib.hid (by congr 1)
  clear hv hi17
  go_enter Try.func93, Try.ntmps93
  go_wp2
  go_loopw [5, 8] (fun _ i wr => ∃ k : Nat, k ≤ L.length ∧ i = .int .i64 k ∧ Below w.heap.size w wr ∧ Blk wr w.heap.size 81 (arr (List.replicate 17 0)) ∧ Blk wr (w.heap.size + 1) 81 (arr (tlyL (L.take k)))) (fun _ i _ => L.length - (intOf i).toNat)
  case atStart =>
    refine ⟨0, Nat.zero_le _, rfl, ((Below.refl _ _).alloc (Nat.le_refl _) _).alloc (by simp) _, (Blk.new w _ _).alloc _, ?_⟩
    have e := Blk.new (w.alloc (.cells (arr (List.replicate 17 0)) 81)) 81 (arr (List.replicate 17 0))
    rw [World.size_alloc] at e
    rw [List.take_zero, ← HZ.out]
    exact e
  case round =>
    obtain ⟨k, hk, rfl, hbel, hb2, hb3⟩ := hrel
    by_cases hlt : k < L.length
    · have hR := (h.more hB).below hbel
      obtain ⟨b, o, rfl, hbB, hc⟩ := hR.at_ hlt
      have hx := HE.out L[k] (List.getElem_mem hlt)
      have hTK := List.take_succ_eq_append_getElem hlt
      obtain ⟨x, hxe⟩ := Int.eq_ofNat_of_zero_le (show 0 ≤ L[k] by omega)
      rw [hxe] at hx hc hTK
      have hx17 : x < 17 := by omega
      have HS := Lib.hid (tlyL_next (L.take k) hx17)
      rw [← hTK] at HS
      have hbd := eqc_bd (x : Int) (L.take k)
      have hlk : (L.take k).length ≤ 16 := by rw [List.length_take]; omega
      have hct : wr.cell? ⟨w.heap.size + 1, x, none⟩ = some (.int .i64 (eqc (x : Int) (L.take k))) := by
        rw [hb3.cell x, arr_get _ x (by rw [tlyL_len]; exact hx17), tlyL_at _ hx17]
      have hft : wr.frozen? ⟨w.heap.size + 1, x, none⟩ = false := hb3.free x
      obtain ⟨q, hq⟩ : ∃ q, q = eqc (x : Int) (L.take k) := ⟨_, rfl⟩
      rw [← hq] at hct hbd HS
      have hq16 : q ≤ 16 := by omega
      have hq0 := hbd.1
      clear hbd hxe hTK hq
      go_wp2_with fail
      go_roundw
      case rel =>
        refine ⟨k + 1, by omega, by go_num, hbel.setCell (by simp) _, hb2.off (by simp) _, ?_⟩
        have e := hb3.set x (.int .i64 (q + 1))
        rw [arr_set, HS.out] at e
        exact e
      case measure => simp [intOf] <;> omega
    · obtain rfl : k = L.length := by omega
      have ht : L.take L.length = L := List.take_of_length_le (Nat.le_refl _)
      rw [ht] at hb3
      have hsz : (arr (tlyL L)).size = (arr (List.replicate 17 0)).size := by rw [arr_size, arr_size, tlyL_len]; rfl
      go_wp2_with (first | (refine wpList_load_row rfl 81 (.tmp 3) rfl (w.heap.size + 1) rfl 81 (arr (tlyL L)) (0, 0) _ hb3 Try.underlying81 rfl (HI.out L) ?_) | (refine wpList_store_row rfl 81 (.tmp 2) (.tmp 18) rfl w.heap.size rfl (arr (tlyL L)) rfl 81 _ hb2 (HI.out L) hsz (arr_one _) ?_))
      refine bodyPost_ret (results_cell_row rfl _ _ w.heap.size 81 (arr (tlyL L)) (0, 0) _ rfl hb2.row Try.underlying81 rfl (HI.out L)) rfl ?_
      exact ⟨rfl, below_setRow' hbel (Nat.le_refl _) _⟩
theorem dtally_any (P : List Int) (hv : valid P = true) (w : World) :
    Calls Try.prog 111 #[.agg (arr (pad P))] w fun e w' => e = .returned (.agg (arr (tlyL P))) ∧ Below w.heap.size w w' := by
  have hlen := (valid_bd hv).2.2.2
  have hi16 : (Try.prog.info? 59).map (·.size) = some (arr (pad P)).size := by rw [arr_size, pad_len hlen]; exact T_info35
  have hi17 : (Try.prog.info? 81).map (·.size) = some (arr (tlyL P)).size := by rw [arr_size, tlyL_len]; exact T_tal
  have hsz : (arr (tlyL P)).size = (arr (List.replicate 17 0)).size := by rw [arr_size, arr_size, tlyL_len]; rfl
  have HV := Lib.hid hv
  have HS := Lib.hid (vsm_of_valid hv)
  clear hv
  have hb := (Blk.new w 59 (arr (pad P))).alloc (.cells (arr (List.replicate 17 0)) 81)
  have ht := Blk.new (w.alloc (.cells (arr (pad P)) 59)) 81 (arr (List.replicate 17 0))
  rw [World.size_alloc] at ht
  have hA := ((Below.refl w.heap.size w).alloc (Nat.le_refl _) (.cells (arr (pad P)) 59)).alloc (by simp) (.cells (arr (List.replicate 17 0)) 81)
  go_enter Try.func111, Try.ntmps111
  go_wp2_with (first
    | (refine wpList_load_row rfl 59 (.tmp 1) rfl w.heap.size rfl 59 (arr (pad P)) (0, 0) _ hb Try.underlying59 rfl hi16 ?_)
    | (go_at_call 76; refine (list_any P HV.out _).mono ?_; rintro e w1 ⟨a', rfl, ho, hb1⟩; rw [World.size_alloc, World.size_alloc] at hb1; have hz1 := hb1.size; rw [World.size_alloc, World.size_alloc] at hz1; have hA1 := hA.trans (hb1.mono (by omega)); have ht1 := ht.below hb1 (by omega))
    | (go_at_call 93; refine (tallyOf_any _ _ _ P _ ho.rd ho.le HS.out).mono ?_; rintro e w2 ⟨rfl, hb2⟩; have ht2 := ht1.below hb2 (by omega); have hA2 := hA1.trans (hb2.mono (by omega)))
    | (refine wpList_store_row rfl 81 (.tmp 2) (.tmp 5) rfl (w.heap.size + 1) rfl (arr (tlyL P)) rfl 81 _ ht2 hi17 hsz (arr_one _) ?_))
  refine bodyPost_ret (results_cell_row rfl _ _ (w.heap.size + 1) 81 (arr (tlyL P)) (0, 0) _ rfl ht2.row Try.underlying81 rfl hi17) rfl ?_
  exact ⟨rfl, below_setRow' hA2 (by omega) _⟩
end Go.Proofs.Ythafbdpeignccaa
namespace Go.Proofs.Ythafbdpeignccaa
open Go.RowKit NP
set_option maxRecDepth 8000
set_option linter.unusedVariables false
theorem pad_snocS {L : List Int} (h : L.length < 16) (x : Int) : (pad L).set L.length x = pad (L ++ [x]) := by
  unfold pad
  rw [show 16 - L.length = (16 - (L.length + 1)) + 1 by omega, List.replicate_succ, List.set_append_right _ _ (Nat.le_refl _), Nat.sub_self, List.set_cons_zero, List.append_assoc]
  simp
set_option maxHeartbeats 1000000 in
theorem tdiag_any (L : List Int) (hv : vsm L = true) (w : World) :
    Calls Try.prog 94 #[.agg (arr (tlyL L))] w fun e w' => e = .returned (.agg (arr (pad (mrg L)))) ∧ Below w.heap.size w w' := by
  have HV := Lib.hid hv
  have HD := Lib.hid (dscA_all (vsm_each hv))
  have hml : (mrg L).length ≤ 16 := by rw [mrg_len]; exact (vsm_bd hv).2.2.2
  have hi16 : (Try.prog.info? 59).map (·.size) = some (arr (pad (mrg L))).size := by rw [arr_size, pad_len hml]; exact T_info35
  have hsz : (arr (pad (mrg L))).size = (arr (List.replicate 16 0)).size := by rw [arr_size, arr_size, pad_len hml]; rfl
  have hbt := Blk.new w 81 (arr (tlyL L))
  clear hv
  go_enter Try.func94, Try.ntmps94
  go_wp2
  go_loopw [4, 5, 13] (fun i p _ wr => ∃ m : Nat, m ≤ 16 ∧ p = .int .i64 ((16 : Int) - m) ∧ i = .int .i64 ((dscA L m).length : Int) ∧ Below (w.heap.size + 1) (w.alloc (.cells (arr (tlyL L)) 81)) wr ∧ Blk wr (w.heap.size + 1) 59 (arr (List.replicate 16 0)) ∧ Blk wr (w.heap.size + 1 + 1) 59 (arr (pad (dscA L m)))) (fun _ p _ _ => (intOf p).toNat)
  case atStart =>
    refine ⟨0, by omega, rfl, rfl, ((Below.refl _ _).alloc (by simp) _).alloc (by simp) _, ?_, ?_⟩
    · have e := (Blk.new (w.alloc (.cells (arr (tlyL L)) 81)) 59 (arr (List.replicate 16 0))).alloc (.cells (arr (List.replicate 16 0)) 59)
      rw [World.size_alloc] at e
      exact e
    · have e := Blk.new ((w.alloc (.cells (arr (tlyL L)) 81)).alloc (.cells (arr (List.replicate 16 0)) 59)) 59 (arr (List.replicate 16 0))
      rw [World.size_alloc, World.size_alloc] at e
      exact e
  case round =>
    obtain ⟨m, hm, rfl, rfl, hbel, hb2, hb3⟩ := hrel
    by_cases hlt : m < 16
    · obtain ⟨p, hp⟩ : ∃ p : Nat, p = 16 - m := ⟨_, rfl⟩
      have hpe : ((16 : Int) - (m : Int)) = (p : Int) := by omega
      have hp17 : p < 17 := by omega
      have hp1 : (1 : Int) ≤ (p : Int) := by omega
      have hp1' : 1 ≤ p := by omega
      have hbd := eqc_bd (p : Int) L
      obtain ⟨q, hq⟩ := Int.eq_ofNat_of_zero_le hbd.1
      have HDS : Hid (dscA L (m + 1) = dscA L m ++ List.replicate q (p : Int)) := Lib.hid (by rw [dscA, hpe, hq, Int.toNat_natCast])
      have hdl := dscA_len HV.out (show m + 1 ≤ 16 by omega)
      rw [HDS.out, List.length_append, List.length_replicate] at hdl
      have hct : wr.cell? ⟨w.heap.size, p, none⟩ = some (.int .i64 (q : Int)) := by
        rw [(hbt.below hbel (by omega)).cell p, arr_get _ p (by rw [tlyL_len]; exact hp17), tlyL_at _ hp17, hq]
      obtain ⟨P, hP⟩ : ∃ P, P = dscA L m := ⟨_, rfl⟩
      rw [← hP] at hb3 HDS hdl ⊢
      rw [hpe]
      have HPm : Hid ((p : Int) - 1 = (16 : Int) - ((m + 1 : Nat) : Int)) := Lib.hid (by omega)
      clear hP hbd hq hpe hp
      have hwo : ∃ wo : World, wo = wr := ⟨_, rfl⟩
      obtain ⟨wo, hwo⟩ := hwo
      go_wp2
      go_loopw [4, 13] (fun i j wr => ∃ y : Nat, y ≤ q ∧ j = .int .i64 y ∧ i = .int .i64 ((P.length + y : Nat) : Int) ∧ Below (w.heap.size + 1) (w.alloc (.cells (arr (tlyL L)) 81)) wr ∧ Blk wr (w.heap.size + 1) 59 (arr (List.replicate 16 0)) ∧ Blk wr (w.heap.size + 1 + 1) 59 (arr (pad (P ++ List.replicate y (p : Int))))) (fun _ j _ => q - (intOf j).toNat)
      case atStart => exact ⟨0, Nat.zero_le _, rfl, rfl, hbel, hb2, by simpa using hb3⟩
      case round =>
        obtain ⟨y, hy, rfl, rfl, hbel', hb2', hb3'⟩ := hrel
        clear hbel hb2 hb3 hct
        by_cases hyl : y < q
        · have hPy : (P ++ List.replicate y (p : Int)).length = P.length + y := by simp
          have hPS : (pad (P ++ List.replicate y (p : Int))).set (P.length + y) (p : Int) = pad (P ++ List.replicate (y + 1) (p : Int)) := by
            have := pad_snocS (L := P ++ List.replicate y (p : Int)) (by rw [hPy]; omega) (p : Int)
            rw [hPy] at this
            rw [this, List.replicate_succ', List.append_assoc]
          have hpl : (pad (P ++ List.replicate y (p : Int))).length = 16 := pad_len (by rw [hPy]; omega)
          have hci : ∃ u, wr.cell? ⟨w.heap.size + 1 + 1, P.length + y, none⟩ = some u := by
            rw [hb3'.cell]
            exact ⟨_, arr_get _ _ (by rw [hpl]; omega)⟩
          obtain ⟨u, hci⟩ := hci
          have hfi : wr.frozen? ⟨w.heap.size + 1 + 1, P.length + y, none⟩ = false := hb3'.free _
          obtain ⟨z, hz⟩ : ∃ z, z = P.length + y := ⟨_, rfl⟩
          rw [← hz] at hci hfi hPS ⊢
          have hz16 : z < 16 := by omega
          have HPS := Lib.hid hPS
          have HZ := Lib.hid hz
          clear hPy hpl hPS hz
          go_wp2_with fail
          go_roundw
          case rel =>
            refine ⟨y + 1, by omega, by go_num, by rw [← Nat.add_assoc, ← HZ.out]; go_num, hbel'.setCell (by simp <;> omega) _, hb2'.off (by simp) _, ?_⟩
            have e := hb3'.set z (.int .i64 (p : Int))
            rw [arr_set, HPS.out] at e
            exact e
          case measure => simp [intOf] <;> omega
        · obtain rfl : y = q := by omega
          rw [← HDS.out] at hb3'
          have HLL : Hid (((P.length + y : Nat) : Int) = ((dscA L (m + 1)).length : Int)) := Lib.hid (by rw [HDS.out]; simp)
          go_wp2
          go_roundw
          case rel => exact ⟨m + 1, by omega, by rw [HPm.out], by rw [HLL.out], hbel', hb2', hb3'⟩
          case measure => simp [intOf] <;> omega
    · obtain rfl : m = 16 := by omega
      rw [HD.out] at hb3
      go_wp2_with (first | (refine wpList_load_row rfl 59 (.tmp 3) rfl (w.heap.size + 1 + 1) rfl 59 (arr (pad (mrg L))) (0, 0) _ hb3 Try.underlying59 rfl hi16 ?_) | (refine wpList_store_row rfl 59 (.tmp 2) (.tmp 21) rfl (w.heap.size + 1) rfl (arr (pad (mrg L))) rfl 59 _ hb2 hi16 hsz (arr_one _) ?_))
      refine bodyPost_ret (results_cell_row rfl _ _ (w.heap.size + 1) 59 (arr (pad (mrg L))) (0, 0) _ rfl hb2.row Try.underlying59 rfl hi16) rfl ?_
      exact ⟨rfl, below_setRow' (((Below.refl w.heap.size w).alloc (Nat.le_refl _) _).trans (hbel.mono (by omega))) (by omega) _⟩
end Go.Proofs.Ythafbdpeignccaa
namespace Go.Proofs.Ythafbdpeignccaa
open Go.RowKit
theorem run_eqItems_arr {P : Program} {e : TypeId} (he : P.underlying e = some (.int .i64)) (hp : P.plainKey e = true) (d : Nat) (D E : List Int) (w : World) :
    ∀ l : List Nat, (∀ k ∈ l, k < D.length ∧ k < E.length) → (Op.eqItems (d + 1) e 1 (arr D) (arr E) l).run P w = .ok (l.all fun k => D.getD k 0 == E.getD k 0) w
  | [], _ => by simp [Op.eqItems]
  | k :: l, h => by
    obtain ⟨h1, h2⟩ := h k (by simp)
    have ih := run_eqItems_arr he hp d D E w l fun j hj => h j (by simp [hj])
    have p1 : (part e (arr D) (k * 1)).run P w = .ok (.int .i64 D[k]) w := run_part_plain w hp (by rw [Nat.mul_one]; exact arr_get D k h1)
    have p2 : (part e (arr E) (k * 1)).run P w = .ok (.int .i64 E[k]) w := run_part_plain w hp (by rw [Nat.mul_one]; exact arr_get E k h2)
    have p3 := run_equalIn_int (P := P) w d e .i64 .i64 D[k] E[k] he
    have g1 : D.getD k 0 = D[k] := by rw [List.getD_eq_getElem?_getD, List.getElem?_eq_getElem h1]; rfl
    have g2 : E.getD k 0 = E[k] := by rw [List.getD_eq_getElem?_getD, List.getElem?_eq_getElem h2]; rfl
    simp only [Op.eqItems, Sem.run_bind, p1, p2, p3, Result.andThen_ok, List.all_cons, g1, g2]
    cases hq : (D[k] == E[k])
    · simp
    · simpa using ih
theorem all_getD_eq {D E : List Int} (h : D.length = E.length) : ((List.range D.length).all fun k => D.getD k 0 == E.getD k 0) = decide (D = E) := by
  rw [Bool.eq_iff_iff, List.all_eq_true, decide_eq_true_eq]
  constructor
  · intro hh
    apply List.ext_getElem h
    intro i h1 h2
    have := hh i (by simpa using h1)
    rw [List.getD_eq_getElem?_getD, List.getElem?_eq_getElem h1, List.getD_eq_getElem?_getD, List.getElem?_eq_getElem h2] at this
    simpa using this
  · rintro rfl k _
    simp
theorem run_equal_arr {P : Program} {t e : TypeId} {n : Nat} {i : TypeInfo} (ht : P.underlying t = some (.array n e)) (he : P.underlying e = some (.int .i64)) (hp : P.plainKey e = true) (hi : P.info? e = some i) (hc : P.cellsOf e = 1) (D E : List Int) (hD : D.length = n) (hE : E.length = n) (w : World) :
    (Op.equalIn 10000 t (.agg (arr D)) (.agg (arr E))).run P w = .ok (decide (D = E)) w := by
  rw [show (10000 : Nat) = 9998 + 1 + 1 from rfl, run_equalIn_array w (9998 + 1) (arr D) (arr E) ht hi, hc, run_eqItems_arr he hp 9998 D E w _ (fun k hk => by simp at hk; omega), ← hD, all_getD_eq (by omega)]
end Go.Proofs.Ythafbdpeignccaa
namespace Go.Proofs.Ythafbdpeignccaa
open Go.RowKit
set_option linter.unusedVariables false
set_option linter.unusedSimpArgs false
theorem run_equal_arrD {P : Program} {t e : TypeId} {n : Nat} {i : TypeInfo} (d : Nat) (ht : P.underlying t = some (.array n e)) (he : P.underlying e = some (.int .i64)) (hp : P.plainKey e = true) (hi : P.info? e = some i) (hc : P.cellsOf e = 1) (D E : List Int) (hD : D.length = n) (hE : E.length = n) (w : World) :
    (Op.equalIn (d + 1 + 1) t (.agg (arr D)) (.agg (arr E))).run P w = .ok (decide (D = E)) w := by
  rw [run_equalIn_array w (d + 1) (arr D) (arr E) ht hi, hc, run_eqItems_arr he hp d D E w _ (fun k hk => by simp at hk; omega), ← hD, all_getD_eq (by omega)]
theorem arr_ext0 (B A : List Int) (n : Nat) (hB : B.length = n) : (arr (B ++ A)).extract 0 n = arr B := by
  apply Array.toList_inj.1
  simp [arr, ints, ← hB]
theorem arr_ext1 (B A : List Int) (n m : Nat) (hB : B.length = n) (hA : A.length = m) : (arr (B ++ A)).extract n (n + m) = arr A := by
  apply Array.toList_inj.1
  simp only [arr, ints, ← hB, ← hA, List.map_append]
  simp
  exact List.take_of_length_le (by simp)

theorem T_info_bounds : (Try.prog.info? 99).map (·.size) = some 32 := by kernel_rfl
theorem T_isAgg_d (w : World) : (isAgg 59).run Try.prog w = .ok true w := by
  unfold isAgg
  rw [Sem.run_bind, run_underlying Try.underlying59 w]
  rfl
theorem T_part0 (B A : List Int) (hB : B.length = 16) (w : World) : (part 59 (arr (B ++ A)) 0).run Try.prog w = .ok (.agg (arr B)) w := by
  have hs : (sizeOf 59).run Try.prog w = .ok 16 w := by
    cases hq : Try.prog.info? 59 with
    | none => have := T_info35; rw [hq] at this; cases this
    | some i => have := T_info35; rw [hq] at this; simp [sizeOf, typeInfo, hq]; simpa using this
  simp only [part, Sem.run_bind, T_isAgg_d, Result.andThen_ok, if_true, hs, Sem.run_pure, Nat.zero_add]
  rw [arr_ext0 B A 16 hB]
theorem T_part1 (B A : List Int) (hB : B.length = 16) (hA : A.length = 16) (w : World) : (part 59 (arr (B ++ A)) 16).run Try.prog w = .ok (.agg (arr A)) w := by
  have hs : (sizeOf 59).run Try.prog w = .ok 16 w := by
    cases hq : Try.prog.info? 59 with
    | none => have := T_info35; rw [hq] at this; cases this
    | some i => have := T_info35; rw [hq] at this; simp [sizeOf, typeInfo, hq]; simpa using this
  simp only [part, Sem.run_bind, T_isAgg_d, Result.andThen_ok, if_true, hs, Sem.run_pure]
  rw [arr_ext1 B A 16 16 hB hA]
theorem T_eqD (d : Nat) (D E : List Int) (hD : D.length = 16) (hE : E.length = 16) (w : World) : (Op.equalIn (d + 1 + 1) 59 (.agg (arr D)) (.agg (arr E))).run Try.prog w = .ok (decide (D = E)) w := by
  obtain ⟨i, hi⟩ := info_of_underlying Try.underlying3
  exact run_equal_arrD d Try.underlying59 Try.underlying3 (by kernel_rfl) hi (by kernel_rfl) D E hD hE w
theorem T_fields : (Try.prog.fieldsOf 99).toList.map (fun f => (f.name, f.type, f.offset)) = [("below", 59, 0), ("above", 59, 16)] := by kernel_rfl
theorem T_eqb (B A E D : List Int) (hB : B.length = 16) (hA : A.length = 16) (hE : E.length = 16) (hD : D.length = 16) (w : World) :
    (Op.equalIn 10000 99 (.agg (arr (B ++ A))) (.agg (arr (E ++ D)))).run Try.prog w = .ok (decide (B = E) && decide (A = D)) w := by
  rw [show (10000 : Nat) = 9997 + 1 + 1 + 1 from rfl, run_equalIn_struct w (9997 + 1 + 1) 99 (arr (B ++ A)) (arr (E ++ D)) (by kernel_rfl) (by kernel_rfl)]
  have hf := T_fields
  generalize (Try.prog.fieldsOf 99).toList = fs at hf
  match fs, hf with
  | [], hf => simp at hf
  | [_], hf => simp at hf
  | _ :: _ :: _ :: _, hf => simp at hf
  | [f, g], hf =>
    simp only [List.map_cons, List.map_nil, List.cons.injEq, Prod.mk.injEq, and_true] at hf
    obtain ⟨⟨n1, t1, o1⟩, n2, t2, o2⟩ := hf
    have k1 : f.name ≠ "_" := by rw [n1]; decide
    have k2 : g.name ≠ "_" := by rw [n2]; decide
    simp only [Op.eqFields, if_pos k1, if_pos k2, Sem.run_bind, t1, t2, o1, o2, T_part0 B A hB, T_part0 E D hE, T_part1 B A hB hA, T_part1 E D hE hD, T_eqD 9997 B E hB hE, T_eqD 9997 A D hA hD, Result.andThen_ok]
    by_cases h1 : B = E
    · by_cases h2 : A = D
      · simp [h1, h2, T_eqD 9997 D D hD hD, T_part1 E D hE hD, Sem.run_bind]
      · simp [h1, h2, T_part1 E A hE hA, T_part1 E D hE hD, T_eqD 9997 A D hA hD, Sem.run_bind]
    · simp [h1]
theorem T_build0 (e0 e1 e2 e3 e4 e5 e6 e7 e8 e9 e10 e11 e12 e13 e14 e15 d0 d1 d2 d3 d4 d5 d6 d7 d8 d9 d10 d11 d12 d13 d14 d15 : Int) (w : World) : (Instr.build 99 #[(0, .agg (arr [e0, e1, e2, e3, e4, e5, e6, e7, e8, e9, e10, e11, e12, e13, e14, e15])), (1, .agg (arr [d0, d1, d2, d3, d4, d5, d6, d7, d8, d9, d10, d11, d12, d13, d14, d15]))]).run Try.prog w = .ok (.agg (arr ([e0, e1, e2, e3, e4, e5, e6, e7, e8, e9, e10, e11, e12, e13, e14, e15] ++ [d0, d1, d2, d3, d4, d5, d6, d7, d8, d9, d10, d11, d12, d13, d14, d15]))) w := by kernel_rfl
theorem T_build (E D : List Int) (hE : E.length = 16) (hD : D.length = 16) (w : World) :
    (Instr.build 99 #[(0, .agg (arr E)), (1, .agg (arr D))]).run Try.prog w = .ok (.agg (arr (E ++ D))) w := by
  match E, hE with
  | [e0, e1, e2, e3, e4, e5, e6, e7, e8, e9, e10, e11, e12, e13, e14, e15], _ =>
    match D, hD with
    | [d0, d1, d2, d3, d4, d5, d6, d7, d8, d9, d10, d11, d12, d13, d14, d15], _ => exact (T_build0 e0 e1 e2 e3 e4 e5 e6 e7 e8 e9 e10 e11 e12 e13 e14 e15 d0 d1 d2 d3 d4 d5 d6 d7 d8 d9 d10 d11 d12 d13 d14 d15 w)

theorem exec_build {P : Program} {ρ : Operand → Value} {o : Oper} {w : World} {v u1 u2 : Value} (t : TypeId) (x y : Operand) (ho : o.op = .build t #[(0, x), (1, y)]) (hx : ρ x = u1) (hy : ρ y = u2) (h : (Instr.build t #[(0, u1), (1, u2)]).run P w = .ok v w) :
    (execOp ρ o).run P w = .ok (.value v) w := by
  unfold execOp
  simp only [ho, Sem.run_bind, List.map_toArray, List.map_cons, List.map_nil, hx, hy]
  rw [h]
  rfl
theorem exec_eql {P : Program} {ρ : Operand → Value} {o : Oper} {w : World} {xs ys : Array Value} {r : Bool} (t T : TypeId) (x y : Operand) (ho : o.op = .binOp .eql t x y T) (hx : ρ x = .agg xs) (hy : ρ y = .agg ys) (hg : P.eqGuardType P.depth t = false)
    (h : (Op.equalIn 10000 t (.agg xs) (.agg ys)).run P w = .ok r w) : (execOp ρ o).run P w = .ok (.value (.bool r)) w := by
  have h1 : (eqGuard .eql t x y (.agg xs) (.agg ys)).run P w = .ok () w := by
    simp [eqGuard, Sem.run_bind, run_program, hg]
  have h2 : (binOp .eql t (.agg xs) (.agg ys)).run P w = .ok (.bool r) w := by
    have e : binOp .eql t (.agg xs) (.agg ys) = (do let b ← Op.equalIn 10000 t (.agg xs) (.agg ys); pure (Value.bool b)) := rfl
    rw [e, Sem.run_bind, h]
    rfl
  unfold execOp
  simp only [ho, hx, hy, Sem.run_bind, h1, Result.andThen_ok, h2]
  rfl
theorem T_field0 (B A : List Int) (hB : B.length = 16) (w : World) : (Instr.field 99 (.agg (arr (B ++ A))) 0).run Try.prog w = .ok (.agg (arr B)) w := by
  have hp := T_part0 B A hB
  simp [Instr.field, Sem.run_bind, run_underlying Try.underlying99, asAgg, hp]
theorem T_field1 (B A : List Int) (hB : B.length = 16) (hA : A.length = 16) (w : World) : (Instr.field 99 (.agg (arr (B ++ A))) 1).run Try.prog w = .ok (.agg (arr A)) w := by
  have hp := T_part1 B A hB hA
  simp [Instr.field, Sem.run_bind, run_underlying Try.underlying99, asAgg, hp]
end Go.Proofs.Ythafbdpeignccaa
namespace Go.Proofs.Ythafbdpeignccaa
open Go.RowKit
theorem wpList_load_row_g {P : Program} {ops : Array Oper} {rest : List Oper} {o : Oper} {a : Act} {w : World} {Q : Exit → Act → World → Prop} (hgd : Region.wanted o (yielded ops a.tmps) = true) (ty : TypeId) (x : Operand) (ho : o.op = .load ty x)
    (g : Nat) (hx : a.eval x = .pointer (some ⟨g, 0, none⟩)) (t : TypeId) (cs : Array Value) (fr : Nat × Nat) (d : TypeDesc) (hg : w.heap[g]? = some (.cells cs t fr))
    (hu : P.underlying ty = some d) (hd : (match d with | .struct _ | .array _ _ => true | _ => false) = true) (hi : (P.info? ty).map (·.size) = some cs.size)
    (h : wpList P ops Q rest (a.put o.dst (.agg cs)) w) : wpList P ops Q (o :: rest) a w :=
  wpList_step fun K hK => by
    rw [if_pos hgd]
    exact wp_load_row ty x ho g hx t cs fr d hg hu hd hi (hK _ _ h)
end Go.Proofs.Ythafbdpeignccaa
namespace Go.Proofs.Ythafbdpeignccaa
open Go.RowKit NP
set_option maxRecDepth 8000
set_option linter.unusedVariables false
set_option linter.unusedSimpArgs false
/-- a function value that says how two counts move, in every later world -/
def IsMv (w : World) (v : Value) (F : Int → Int → Int × Int) : Prop := ∃ (f : Nat) (p c : Array Value), v = .func (.func f) p c ∧ (∀ (args : Array Value) (w : World), (callFunc f args).run Try.prog w = .ok (.enter f args) w) ∧ ∀ w1, Below w.heap.size w w1 → ∀ x y : Int, 0 ≤ x ∧ x ≤ 16 → 0 ≤ y ∧ y ≤ 16 →
  Calls Try.prog f (p ++ #[.int .i64 x, .int .i64 y] ++ c) w1 fun e w2 => e = .returned (.tuple #[.int .i64 (F x y).1, .int .i64 (F x y).2]) ∧ Dr w1 w2
theorem T_eqT (d : Nat) (D E : List Int) (hD : D.length = 17) (hE : E.length = 17) (w : World) : (Op.equalIn (d + 1 + 1) 81 (.agg (arr D)) (.agg (arr E))).run Try.prog w = .ok (decide (D = E)) w := by
  obtain ⟨i, hi⟩ := info_of_underlying Try.underlying3
  exact run_equal_arrD d Try.underlying81 Try.underlying3 (by kernel_rfl) hi (by kernel_rfl) D E hD hE w
theorem T_guardT : Try.prog.eqGuardType Try.prog.depth 81 = false := by kernel_rfl
theorem wpList_eqlT {ops : Array Oper} {rest : List Oper} {o : Oper} {a : Act} {w : World} {Q : Exit → Act → World → Prop} (hgd : o.guard = none) (x y : Operand) (T : TypeId) (ho : o.op = .binOp .eql 81 x y T) (D E : List Int) (hD : D.length = 17) (hE : E.length = 17) (hx : a.eval x = .agg (arr D)) (hy : a.eval y = .agg (arr E))
    (h : wpList Try.prog ops Q rest (a.put o.dst (.bool (decide (D = E)))) w) : wpList Try.prog ops Q (o :: rest) a w :=
  wpList_plain hgd fun _ hK => by
    unfold Oper.wp
    rw [exec_eql 81 T x y ho hx hy T_guardT (T_eqT 9998 D E hD hE w)]
    exact hK _ _ h
theorem wrapM3 {n m p : Nat} (e : n * m = p) (h : p ≤ 32) : IntKind.i64.wrap ((n : Int) * (m : Int)) = (p : Int) ∧ wrap64 ((n : Int) * (m : Int)) = (p : Int) := by
  have hpi : (n : Int) * (m : Int) = (p : Int) := by rw [← e]; simp
  rw [hpi]
  exact ⟨IntWalk.i64_in _ (by omega), by unfold wrap64; omega⟩
set_option maxRecDepth 100000 in
set_option maxHeartbeats 4000000 in
theorem moveEqual_any (m : Nat) (hm : 2 ≤ m ∧ m ≤ 16) (f : Int → Int → Int × Int) (st : List Int → Nat → List Int) (mu : List Int → Nat) (still : List Int → Nat → Prop) (hMv : Mv m f st mu still) (P : List Int) (hv : valid P = true) (v : Value) (w : World) (hW : IsMv w v f) :
    Calls Try.prog 96 #[.int .i64 m, .agg (arr (pad P)), v] w fun e w' => ∃ L, vsm L = true ∧ Alike m L P ∧ (∀ k, 1 ≤ k → k * m ≤ 16 → still L k) ∧ e = .returned (.agg (arr (pad (mrg L)))) ∧ Below w.heap.size w w' := by
  obtain ⟨fn, pp, cc, rfl, hen, hW1⟩ := hW
  have hl16 := (valid_bd hv).2.2.2
  have hiP : (Try.prog.info? 59).map (·.size) = some (arr (pad P)).size := by rw [arr_size, pad_len hl16]; exact T_info35
  have hi17 : ∀ M, (Try.prog.info? 81).map (·.size) = some (arr (tlyL M)).size := fun M => by rw [arr_size, tlyL_len]; exact T_tal
  have HI := Lib.hid hi17
  have hs17 : ∀ M N, (arr (tlyL M)).size = (arr (tlyL N)).size := fun M N => by rw [arr_size, arr_size, tlyL_len, tlyL_len]
  have HS17 := Lib.hid hs17
  have HSZ : Hid (∀ M, (arr (tlyL M)).size = (arr (List.replicate 17 0)).size) := Lib.hid (fun M => by rw [arr_size, arr_size, tlyL_len]; rfl)
  have HZ : Hid (arr (List.replicate 17 0) = arr (tlyL [])) := Lib.hid (by congr 1)
  have HV := Lib.hid hv
  have HMV := Lib.hid hMv
  have HW1 := Lib.hid hW1
  have hb0 := Blk.new w 59 (arr (pad P))
  have hmx : Try.prog.follows .mixedOrders = true := by kernel_rfl
  clear hi17 hs17 hv hMv hW1
  go_enter Try.func96, Try.ntmps96
  go_wp2_with (first
    | (refine wpList_load_row rfl 59 (.tmp 4) rfl w.heap.size rfl 59 (arr (pad P)) (0, 0) _ (hb0.alloc _) Try.underlying59 rfl hiP ?_)
    | (go_at_call 111; refine (dtally_any P HV.out _).mono ?_; rintro e w1 ⟨rfl, hb1⟩)
    | (refine wpList_store_row rfl 81 (.tmp 7) (.tmp 11) rfl w1.heap.size rfl (arr (tlyL P)) rfl 81 _ (Blk.new w1 _ _) (HI.out P) (HSZ.out P) (arr_one _) ?_))
  have hzz : ((w.alloc (.cells (arr (pad P)) 59)).alloc (.cells (arr (List.replicate 16 0)) 59)).heap.size = w.heap.size + 2 := by simp
  have hR1 : Blk ((w.alloc (.cells (arr (pad P)) 59)).alloc (.cells (arr (List.replicate 16 0)) 59)) (w.heap.size + 1) 59 (arr (List.replicate 16 0)) := by
    have e := Blk.new (w.alloc (.cells (arr (pad P)) 59)) 59 (arr (List.replicate 16 0))
    rw [World.size_alloc] at e
    exact e
  have hA1 : Below w.heap.size w ((w.alloc (.cells (arr (pad P)) 59)).alloc (.cells (arr (List.replicate 16 0)) 59)) := ((Below.refl _ _).alloc (Nat.le_refl _) _).alloc (by simp) _
  replace hb1 : Below ((w.alloc (.cells (arr (pad P)) 59)).alloc (.cells (arr (List.replicate 16 0)) 59)).heap.size ((w.alloc (.cells (arr (pad P)) 59)).alloc (.cells (arr (List.replicate 16 0)) 59)) w1 := hb1
  have hz1 := hb1.size
  rw [hzz] at hz1 hb1
  have hR2 := hR1.below hb1 (by omega)
  have hA2 := hA1.trans (hb1.mono (by omega))
  clear hR1 hA1 hb1 hzz hb0
  obtain ⟨bT, hbT⟩ : ∃ b, w1.heap.size = b := ⟨_, rfl⟩
  obtain ⟨w2, hw2⟩ : ∃ w2, (w1.alloc (.cells #[.int .i64 0, .int .i64 0, .int .i64 0, .int .i64 0, .int .i64 0, .int .i64 0, .int .i64 0, .int .i64 0, .int .i64 0, .int .i64 0, .int .i64 0, .int .i64 0, .int .i64 0, .int .i64 0, .int .i64 0, .int .i64 0, .int .i64 0] 81)).setRow bT (arr (tlyL P)) = w2 := ⟨_, rfl⟩
  have hT2 : Blk w2 bT 81 (arr (tlyL P)) := by rw [← hw2, ← hbT]; exact (Blk.new w1 _ _).row
  have hR3 : Blk w2 (w.heap.size + 1) 59 (arr (List.replicate 16 0)) := by rw [← hw2]; exact (hR2.alloc _).rowOff (by omega)
  have hA3 : Below w.heap.size w w2 := by rw [← hw2, ← hbT]; exact below_setRow' (hA2.alloc (by omega) _) (by omega) _
  try rw [hbT]
  try rw [hw2]
  clear hw2 hA2 hR2
  simp only [Act.put]
  have hz3 := hA3.size
  have hTb : w.heap.size + 1 < bT := by omega
  have hTz := hT2.lt
  clear hbT hz1
  go_loopg [] (mu P) (fun g wr => ∃ L, vsm L = true ∧ Alike m L P ∧ mu L ≤ g ∧ Blk wr (w.heap.size + 1) 59 (arr (List.replicate 16 0)) ∧ Blk wr bT 81 (arr (tlyL L)) ∧ Below w.heap.size w wr)
  case atStart => exact ⟨P, vsm_of_valid HV.out, fun _ _ => rfl, Nat.le_refl _, hR3, hT2, hA3⟩
  case round =>
    obtain ⟨L, hvL, haL, hgL, hR, hT, hA⟩ := hrel
    obtain ⟨wo, rfl⟩ : ∃ wx : World, wx = wr := ⟨_, rfl⟩
    obtain ⟨go, rfl⟩ : ∃ gg : Nat, gg = gk := ⟨_, rfl⟩
    have HVL := Lib.hid hvL
    have HAL := Lib.hid haL
    have hzo := hA.size
    have hTo := hT.lt
    have HGL := Lib.hid hgL
    clear hvL haL hgL
    go_wp2_with (first
      | (refine wpList_load_row rfl 81 (.tmp 7) rfl bT rfl 81 (arr (tlyL L)) (0, 0) _ hT Try.underlying81 rfl (HI.out L) ?_)
      | (refine wpList_store_row rfl 81 (.tmp 8) (.tmp 12) rfl wo.heap.size rfl (arr (tlyL L)) rfl 81 _ (Blk.new wo _ _) (HI.out L) (HSZ.out L) (arr_one _) ?_))
    obtain ⟨bB, hbB⟩ : ∃ b, wo.heap.size = b := ⟨_, rfl⟩
    obtain ⟨w3, hw3⟩ : ∃ w3, (wo.alloc (.cells #[.int .i64 0, .int .i64 0, .int .i64 0, .int .i64 0, .int .i64 0, .int .i64 0, .int .i64 0, .int .i64 0, .int .i64 0, .int .i64 0, .int .i64 0, .int .i64 0, .int .i64 0, .int .i64 0, .int .i64 0, .int .i64 0, .int .i64 0] 81)).setRow bB (arr (tlyL L)) = w3 := ⟨_, rfl⟩
    have hB3 : Blk w3 bB 81 (arr (tlyL L)) := by rw [← hw3, ← hbB]; exact (Blk.new wo _ _).row
    have hR3' : Blk w3 (w.heap.size + 1) 59 (arr (List.replicate 16 0)) := by rw [← hw3]; exact (hR.alloc _).rowOff (by omega)
    have hT3 : Blk w3 bT 81 (arr (tlyL L)) := by rw [← hw3]; exact (hT.alloc _).rowOff (by omega)
    have hA3' : Below w.heap.size w w3 := by rw [← hw3, ← hbB]; exact below_setRow' (hA.alloc (by omega) _) (by omega) _
    try rw [hbB]
    try rw [hw3]
    have hBB : bT < bB := by omega
    clear hw3 hbB hR hT hA hzo hTo
    go_loopw [9] (fun ii wr => ∃ k : Nat, ii = .int .i64 ((k + 1 : Nat) : Int) ∧ k * m ≤ 16 ∧ Blk wr (w.heap.size + 1) 59 (arr (List.replicate 16 0)) ∧ Blk wr bT 81 (arr (tlyL (goN st L k))) ∧ Blk wr bB 81 (arr (tlyL L)) ∧ Below w.heap.size w wr) (fun ii _ => 20 - (intOf ii).toNat)
    case atStart => exact ⟨0, rfl, by omega, hR3', hT3, hB3, hA3'⟩
    case round =>
      obtain ⟨k, rfl, hkm, hR, hT, hB, hA⟩ := hrel
      obtain ⟨wi, rfl⟩ : ∃ wx : World, wx = wr := ⟨_, rfl⟩
      have hk16 : k ≤ 16 := by
        rcases Nat.eq_zero_or_pos k with h | h
        · omega
        · have := Nat.le_mul_of_pos_right k (show 0 < m by omega); omega
      obtain ⟨p, hp⟩ : ∃ p, (k + 1) * m = p := ⟨_, rfl⟩
      have hp256 : p ≤ 32 := by rw [← hp, Nat.add_mul]; omega
      obtain ⟨x, hx⟩ : ∃ x, k + 1 = x := ⟨_, rfl⟩
      rw [hx] at hp ⊢
      have HPM := Lib.hid (wrapM3 hp hp256)
      obtain ⟨hG1, hG2, hG3⟩ := HMV.out.go HVL.out k hkm
      have HG1 := Lib.hid hG1
      have HG2 := Lib.hid hG2
      have HG3 := Lib.hid hG3
      clear hG1 hG2 hG3
      have HXK := Lib.hid hx
      have HPX := Lib.hid hp
      clear hx hp
      by_cases hlt : p ≤ 16
      · have hlt' : (p : Int) ≤ 16 := Int.ofNat_le.2 hlt
        have hxp : x < p := by rw [← HPX.out]; exact km_ne (by rw [← HXK.out]; omega) hm.1
        have hx1 : 1 ≤ x := by rw [← HXK.out]; omega
        obtain ⟨M, hM⟩ : ∃ M, goN st L k = M := ⟨_, rfl⟩
        have HM := Lib.hid hM
        rw [hM] at hT
        have hstep := HMV.out.step M x (by rw [← hM]; exact HG1.out) hx1 (by rw [HPX.out]; exact hlt)
        clear hM
        have e1 : (tlyL M).getD x 0 = eqc x M := by
          rw [List.getD_eq_getElem?_getD, List.getElem?_eq_getElem (by rw [tlyL_len]; omega), Option.getD_some, tlyL_at M (by omega)]
        have e2 : (tlyL M).getD p 0 = eqc p M := by
          rw [List.getD_eq_getElem?_getD, List.getElem?_eq_getElem (by rw [tlyL_len]; omega), Option.getD_some, tlyL_at M (by omega)]
        have hps := hstep.2.1
        unfold pstep at hps
        rw [HPX.out, e1, e2] at hps
        have hvM : vsm M = true := by rw [← HM.out]; exact HG1.out
        have hlM := (vsm_bd hvM).2.2.2
        have b1 := eqc_bd (x : Int) M
        have b2 := eqc_bd (p : Int) M
        have hcx : wi.cell? ⟨bT, x, none⟩ = some (.int .i64 (eqc x M)) := by
          rw [hT.cell x, arr_get _ x (by rw [tlyL_len]; omega), tlyL_at _ (by omega)]
        have hcp : wi.cell? ⟨bT, p, none⟩ = some (.int .i64 (eqc p M)) := by
          rw [hT.cell p, arr_get _ p (by rw [tlyL_len]; omega), tlyL_at _ (by omega)]
        obtain ⟨cx, hcxe⟩ : ∃ c, eqc (x : Int) M = c := ⟨_, rfl⟩
        obtain ⟨cp, hcpe⟩ : ∃ c, eqc (p : Int) M = c := ⟨_, rfl⟩
        rw [hcxe] at hps hcx b1
        rw [hcpe] at hps hcp b2
        have B1 : Hid (0 ≤ cx ∧ cx ≤ 16) := Lib.hid ⟨b1.1, by omega⟩
        have B2 : Hid (0 ≤ cp ∧ cp ≤ 16) := Lib.hid ⟨b2.1, by omega⟩
        obtain ⟨fx, hfx⟩ : ∃ c, (f cx cp).1 = c := ⟨_, rfl⟩
        obtain ⟨fy, hfy⟩ : ∃ c, (f cx cp).2 = c := ⟨_, rfl⟩
        rw [hfx, hfy] at hps
        have HPS : Hid (arr (tlyL (st M x)) = ((arr (tlyL M)).setIfInBounds x (.int .i64 fx)).setIfInBounds p (.int .i64 fy)) := Lib.hid (by rw [hps, arr_set, arr_set])
        have HFX := Lib.hid hfx
        have HFY := Lib.hid hfy
        have hTlt := hT.lt
        have hAz := hA.size
        have hx17 : (x : Int) < 17 := by omega
        have hp17 : (p : Int) < 17 := by omega
        have hfT := hT.free
        have hpN : p < 17 := by omega
        have hpN16 : p ≤ 16 := by omega
        have hne1 : w.heap.size + 1 ≠ bT := by omega
        have hne2 : bB ≠ bT := by omega
        have hle3 : w.heap.size ≤ bT := by omega
        clear hstep e1 e2 hps hvM hlM b1 b2 hcxe hcpe hfx hfy hlt
        obtain ⟨hpm1, hpm2⟩ := HPM.out
        go_wp2
        refine wp_region_two 18 20 [0, 1, 2, 3, 4, 5, 6, 7, 8, 9, 10, 11, 12, 13, 14, 15, 16, 17, 18, 19, 20]
          [.int .i64 x, .int .i64 x, .int .i64 m, .int .i64 p, .func (.func fn) pp cc, .int .i64 x, .pointer (some ⟨bT, x, none⟩), .int .i64 cx, .int .i64 x, .int .i64 m, .int .i64 p, .pointer (some ⟨bT, p, none⟩), .int .i64 cp, .tuple #[.int .i64 fx, .int .i64 fy], .tuple #[.int .i64 fx, .int .i64 fy], .int .i64 fx, .int .i64 fy, .pointer (some ⟨bT, x, none⟩), undef, .pointer (some ⟨bT, p, none⟩), undef]
          (fun w' => Below wi.heap.size wi w') (fun w' => ∃ wx, Below wi.heap.size wi wx ∧ w' = wx.setCell ⟨bT, x, none⟩ (.int .i64 fx)) (fun w' => ∃ wx, Below wi.heap.size wi wx ∧ w' = (wx.setCell ⟨bT, x, none⟩ (.int .i64 fx)).setCell ⟨bT, p, none⟩ (.int .i64 fy)) _ hmx (fun y hy => hy.below _) rfl rfl (by kernel_rfl) (by decide) (by decide) (by kernel_rfl) (by decide) rfl ?steps ?rest
        case steps =>
          simp only [putsOfG, Act.put, List.getElem?_toArray, List.getElem?_cons_succ, List.getElem?_cons_zero, Option.bind_some, Nat.reduceAdd, List.setIfInBounds_toArray, List.set_cons_zero, List.set_cons_succ]
          refine Twos.any rfl rfl (by decide) (by decide) (fun wq => ?_) ?_
          · go_simp
          refine Twos.any rfl rfl (by decide) (by decide) (fun wq => ?_) ?_
          · go_simp
          refine Twos.any rfl rfl (by decide) (by decide) (fun wq => ?_) ?_
          · go_simp
          refine Twos.any rfl rfl (by decide) (by decide) (fun wq => ?_) ?_
          · go_simp
          refine Twos.any rfl rfl (by decide) (by decide) (fun wq => ?_) ?_
          · go_simp
          refine Twos.any rfl rfl (by decide) (by decide) (fun wq => ?_) ?_
          · go_simp
          refine Twos.any rfl rfl (by decide) (by decide) (fun wq => ?_) ?_
          · go_simp
          refine Twos.early rfl rfl (by decide) (by decide) (by kernel_rfl) (fun wq hS => ?_) ?_
          · have hc := (hS.cell (p := ⟨bT, x, none⟩) hTlt).trans hcx
            go_simp
          refine Twos.any rfl rfl (by decide) (by decide) (fun wq => ?_) ?_
          · go_simp
          refine Twos.any rfl rfl (by decide) (by decide) (fun wq => ?_) ?_
          · go_simp
          refine Twos.any rfl rfl (by decide) (by decide) (fun wq => ?_) ?_
          · go_simp
          refine Twos.any rfl rfl (by decide) (by decide) (fun wq => ?_) ?_
          · go_simp
          refine Twos.early rfl rfl (by decide) (by decide) (by kernel_rfl) (fun wq hS => ?_) ?_
          · have hc := (hS.cell (p := ⟨bT, p, none⟩) hTlt).trans hcp
            go_simp
          refine Twos.early rfl rfl (by decide) (by decide) (by kernel_rfl) (fun wq hS => ?_) ?_
          · go_simp
            rw [← Array.append_assoc]
            refine (HW1.out wq (hA.trans (hS.mono hAz)) cx cp B1.out B2.out).mono ?_
            rintro e w5 ⟨rfl, hd5⟩
            exact ⟨by rw [HFX.out, HFY.out], hS.trans (Dr.below hd5 _)⟩
          refine Twos.any rfl rfl (by decide) (by decide) (fun wq => ?_) ?_
          · go_simp
          refine Twos.any rfl rfl (by decide) (by decide) (fun wq => ?_) ?_
          · go_simp
          refine Twos.any rfl rfl (by decide) (by decide) (fun wq => ?_) ?_
          · go_simp
          refine Twos.any rfl rfl (by decide) (by decide) (fun wq => ?_) ?_
          · go_simp
          refine Twos.first rfl rfl (fun wq hS => ?_) ?_
          · have hc := (hS.cell (p := ⟨bT, x, none⟩) hTlt).trans hcx
            have hf := (hT.below hS hTlt).free x
            go_simp
            exact ⟨wq, hS, rfl⟩
          refine Twos.any rfl rfl (by decide) (by decide) (fun wq => ?_) ?_
          · go_simp
          refine Twos.second rfl rfl (fun wq hS => ?_) ?_
          · obtain ⟨wx, hbx, rfl⟩ := hS
            have hBx := (hT.below hbx hTlt).set x (.int .i64 fx)
            have hc : ∃ u, (wx.setCell ⟨bT, x, none⟩ (.int .i64 fx)).cell? ⟨bT, p, none⟩ = some u := by
              rw [hBx.cell p]
              exact ⟨_, Array.getElem?_eq_getElem (by rw [Array.size_setIfInBounds, arr_size, tlyL_len]; exact hpN)⟩
            obtain ⟨u, hc⟩ := hc
            have hf := hBx.free p
            go_simp
            exact ⟨wx, hbx, rfl⟩
          exact Twos.nil
        case rest =>
          rintro wq ⟨wx, hbx, rfl⟩
          simp only [putsOfG, Act.put, List.getElem?_toArray, List.getElem?_cons_succ, List.getElem?_cons_zero, Option.bind_some, Nat.reduceAdd, List.setIfInBounds_toArray, List.set_cons_zero, List.set_cons_succ]
          go_wp2_with fail
          clear hpm1 hpm2
          go_roundw
          case rel =>
            have hTx := ((hT.below hbx hTlt).set x (.int .i64 fx)).set p (.int .i64 fy)
            rw [← HPS.out] at hTx
            refine ⟨x, by go_num, by rw [HPX.out]; exact hpN16, ?_, ?_, ?_, ?_⟩
            · exact ((hR.below hbx hR.lt).off (by exact hne1) _).off (by exact hne1) _
            · rw [show goN st L x = st M x from by rw [← HXK.out, ← HM.out]; rfl]; exact hTx
            · exact ((hB.below hbx hB.lt).off (by exact hne2) _).off (by exact hne2) _
            · exact ((hA.trans (hbx.mono hAz)).setCell (by exact hle3) _).setCell (by exact hle3) _
          case measure => simp [intOf] <;> omega
      · have hlt' : ¬ (p : Int) ≤ 16 := fun h => hlt (Int.ofNat_le.1 h)
        obtain ⟨M, hM⟩ : ∃ M, goN st L k = M := ⟨_, rfl⟩
        rw [hM] at hT HG1 HG2 HG3
        have hkk : ∀ k', k' * m ≤ 16 → k' ≤ k := fun k' h => by
          rcases Nat.lt_or_ge k k' with h1 | h1
          · have h2 : (k + 1) * m ≤ k' * m := Nat.mul_le_mul_right m h1
            rw [HXK.out, HPX.out] at h2; omega
          · exact h1
        have HKK := Lib.hid hkk
        have HTD := Lib.hid (tdiag_any M HG1.out)
        have hiD : (Try.prog.info? 59).map (·.size) = some (arr (pad (mrg M))).size := by rw [arr_size, pad_len (by rw [mrg_len]; exact (vsm_bd HG1.out).2.2.2)]; exact T_info35
        have hsD : (arr (pad (mrg M))).size = (arr (List.replicate 16 0)).size := by rw [arr_size, arr_size, pad_len (by rw [mrg_len]; exact (vsm_bd HG1.out).2.2.2)]; rfl
        have hAz := hA.size
        have hRlt := hR.lt
        by_cases he : tlyL M = tlyL L
        · have HD : Hid (decide (tlyL M = tlyL L) = true) := Lib.hid (decide_eq_true he)
          have heq := tly_eqc HG1.out HVL.out he
          have hst : ∀ k', 1 ≤ k' → k' * m ≤ 16 → still M k' := fun k' h1 h2 => by
            rcases HG3.out with h3 | ⟨h3, -⟩
            · rw [HMV.out.mu_eq _ _ heq] at h3; omega
            · exact HMV.out.still_eq _ _ _ (fun v => (heq v).symm) (h3 k' h1 (HKK.out k' h2))
          have HST := Lib.hid hst
          clear he heq hst hkk hM
          obtain ⟨hpm1, hpm2⟩ := HPM.out
          go_wp2_with (first
            | (refine wpList_load_row rfl 81 (.tmp 7) rfl bT rfl 81 (arr (tlyL M)) (0, 0) _ hT Try.underlying81 rfl (HI.out M) ?_)
            | (refine wpList_load_row rfl 81 (.tmp 8) rfl bB rfl 81 (arr (tlyL L)) (0, 0) _ hB Try.underlying81 rfl (HI.out L) ?_)
            | (refine wpList_eqlT rfl (.tmp 38) (.tmp 39) 81 rfl (tlyL M) (tlyL L) (tlyL_len _) (tlyL_len _) rfl rfl ?_; rw [HD.out])
            | (go_at_call 94; refine (HTD.out _).mono ?_; rintro e w8 ⟨rfl, hb8⟩; have hR8 := hR.below hb8 hRlt)
            | (refine wpList_store_row rfl 59 (.tmp 6) (.tmp 42) rfl (w.heap.size + 1) rfl (arr (pad (mrg M))) rfl 59 _ hR8 hiD hsD (arr_one _) ?_))
          clear hpm1 hpm2
          refine bodyPost_ret (results_cell_row rfl _ _ (w.heap.size + 1) 59 (arr (pad (mrg M))) (0, 0) _ rfl hR8.row Try.underlying59 rfl hiD) rfl ?_
          exact ⟨M, HG1.out, HG2.out.trans HAL.out, HST.out, rfl, below_setRow' (hA.trans (hb8.mono hAz)) (by omega) _⟩
        · have HD : Hid (decide (tlyL M = tlyL L) = false) := Lib.hid (decide_eq_false he)
          have hmu : mu M < mu L := by
            rcases HG3.out with h3 | ⟨-, h3⟩
            · exact h3
            · exact absurd (eqc_tly h3) he
          have HMU := Lib.hid hmu
          clear he hmu hkk hM
          obtain ⟨hpm1, hpm2⟩ := HPM.out
          go_wp2_with (first
            | (refine wpList_load_row rfl 81 (.tmp 7) rfl bT rfl 81 (arr (tlyL M)) (0, 0) _ hT Try.underlying81 rfl (HI.out M) ?_)
            | (refine wpList_load_row rfl 81 (.tmp 8) rfl bB rfl 81 (arr (tlyL L)) (0, 0) _ hB Try.underlying81 rfl (HI.out L) ?_)
            | (refine wpList_eqlT rfl (.tmp 38) (.tmp 39) 81 rfl (tlyL M) (tlyL L) (tlyL_len _) (tlyL_len _) rfl rfl ?_; rw [HD.out]))
          clear hpm1 hpm2
          go_roundg (mu M)
          case measure =>
            have h1 := HGL.out
            have h2 := HMU.out
            omega
          case rel => exact ⟨M, HG1.out, HG2.out.trans HAL.out, Nat.le_refl _, hR, hT, hA⟩
end Go.Proofs.Ythafbdpeignccaa
