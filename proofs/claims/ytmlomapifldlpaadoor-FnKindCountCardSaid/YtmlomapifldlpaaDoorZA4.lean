/-
  Plain mathematics of orders: rows trimmed of zeros, meets, dominance and conjugates, ranks and cranks. Walks: ranks: the program's and the model's. Walks of the program: kinds of parts. A function value that tells of each diagram whether something holds of its parts. A row loaded under a guard that holds. Walks of the program: parts of a kind led a way. Walks of the program: kinds made of kinds; the makers of kinds. Walks of the program: the map of kinds by their names. Walks of the program: IsKind.
-/
import Derived.Test.YtmlomapifldlpaaDoorZA1
import Derived.Test.YtmlomapifldlpaaDoorZA2
import Derived.Test.YtmlomapifldlpaaDoorZA3
import Derived.Deep.RegionHeld3
import Derived.Deep.MidRow
import Derived.StillTailTactics
import Derived.Deep.RegionLaw
import Derived.Deep.DrawnRows
import Derived.Shelf.Abstract
import Derived.Maps.Own
import Derived.Maps.OwnSet
namespace Go.Proofs.YtmlomapifldlpaaDoor
namespace NP
set_option linter.unusedVariables false
/-- the first n values that are above 0 -/
def tr (f : Nat → Int) (n : Nat) : List Int := ((List.range n).map f).filter fun x => decide (0 < x)
def sf (f : Nat → Int) : Nat → Int
  | 0 => 0
  | n + 1 => sf f n + f n
theorem tr_succ (f : Nat → Int) (n : Nat) : tr f (n + 1) = tr f n ++ if 0 < f n then [f n] else [] := by
  unfold tr
  rw [List.range_succ, List.map_append, List.filter_append]
  congr 1
  simp only [List.map_cons, List.map_nil, List.filter_cons, List.filter_nil, decide_eq_true_eq]
theorem tr_len (f : Nat → Int) (n : Nat) : (tr f n).length ≤ n := by
  have h := List.length_filter_le (fun x => decide (0 < x)) ((List.range n).map f)
  simpa [tr] using h
theorem tr_full {f : Nat → Int} {n : Nat} (h : ∀ i, i < n → 0 < f i) : tr f n = (List.range n).map f := by
  unfold tr
  rw [List.filter_eq_self]
  intro x hx
  simp only [List.mem_map, List.mem_range] at hx
  obtain ⟨i, hi, rfl⟩ := hx
  simpa using h i hi
theorem map_getD (f : Nat → Int) (n j : Nat) : ((List.range n).map f).getD j 0 = if j < n then f j else 0 := by
  by_cases h : j < n
  · rw [if_pos h, List.getD_eq_getElem?_getD, List.getElem?_eq_getElem (by simpa using h)]
    simp
  · rw [if_neg h, List.getD_eq_getElem?_getD, List.getElem?_eq_none (by simp; omega)]
    rfl
theorem fall_le {f : Nat → Int} (hf : ∀ i, f (i + 1) ≤ f i) {i j : Nat} (h : i ≤ j) : f j ≤ f i := by
  induction j with
  | zero => obtain rfl : i = 0 := by omega
            exact Int.le_refl _
  | succ j ih =>
    by_cases e : i = j + 1
    · rw [e]; exact Int.le_refl _
    · exact Int.le_trans (hf j) (ih (by omega))
theorem tr_getD {f : Nat → Int} (hf : ∀ i, f (i + 1) ≤ f i) (h0 : ∀ i, 0 ≤ f i) (n j : Nat) : (tr f n).getD j 0 = if j < n then f j else 0 := by
  induction n with
  | zero => rfl
  | succ n ih =>
    by_cases h : 0 < f n
    · rw [tr_full (fun i hi => Int.lt_of_lt_of_le h (fall_le hf (by omega))), map_getD]
    · rw [tr_succ, if_neg h, List.append_nil, ih]
      have := h0 n
      by_cases h1 : j < n
      · rw [if_pos h1, if_pos (by omega)]
      · rw [if_neg h1]
        by_cases h2 : j = n
        · subst h2; rw [if_pos (by omega)]; omega
        · rw [if_neg (by omega)]
theorem tr_pos {f : Nat → Int} {n : Nat} {x : Int} (h : x ∈ tr f n) : 0 < x := by
  unfold tr at h
  rw [List.mem_filter] at h
  simpa using h.2
theorem sum_tr {f : Nat → Int} (h0 : ∀ i, 0 ≤ f i) (n : Nat) : sumL (tr f n) = sf f n := by
  induction n with
  | zero => rfl
  | succ n ih =>
    rw [tr_succ, sumL_append, ih, sf]
    have := h0 n
    by_cases h : 0 < f n
    · rw [if_pos h]; simp [sumL]
    · rw [if_neg h]; simp [sumL]; omega
theorem sf_le {f : Nat → Int} (h0 : ∀ i, 0 ≤ f i) {i n : Nat} (h : i < n) : f i ≤ sf f n ∧ 0 ≤ sf f n := by
  induction n with
  | zero => omega
  | succ n ih =>
    have h1 := h0 n
    have hn : 0 ≤ sf f n := by
      clear ih h h1
      induction n with
      | zero => exact Int.le_refl _
      | succ n ih => have := h0 n; rw [sf]; omega
    rw [sf]
    by_cases e : i = n
    · subst e; omega
    · have := ih (by omega); omega
theorem valid_tr {f : Nat → Int} (hf : ∀ i, f (i + 1) ≤ f i) (h0 : ∀ i, 0 ≤ f i) {n : Nat} (hs : sf f n ≤ 16) : valid (tr f n) = true := by
  apply valid_of_preS
  · intro j hj _
    have e := tr_getD hf h0 n j
    have hp := tr_pos (List.getElem_mem hj)
    rw [getD_lt hj] at e
    have hjn : j < n := by have := tr_len f n; omega
    rw [if_pos hjn] at e
    have hb := sf_le h0 hjn
    refine ⟨by omega, by omega, fun h1 => ?_⟩
    have e2 := tr_getD hf h0 n (j - 1)
    rw [getD_lt (by omega), if_pos (by omega)] at e2
    have := hf (j - 1)
    rw [show j - 1 + 1 = j by omega] at this
    omega
  · rw [sum_tr h0]; exact hs
theorem pad_tr {f : Nat → Int} (hf : ∀ i, f (i + 1) ≤ f i) (h0 : ∀ i, 0 ≤ f i) : pad (tr f 16) = (List.range 16).map f := by
  have hl := tr_len f 16
  apply List.ext_getElem
  · rw [pad_len hl]; simp
  · intro j h1 h2
    have e := pad_getD hl j
    rw [getD_lt h1, tr_getD hf h0] at e
    simp at h2
    rw [e, if_pos h2]
    simp
theorem tr_more {f : Nat → Int} {n m : Nat} (h : n ≤ m) (hz : ∀ i, n ≤ i → f i = 0) : tr f m = tr f n := by
  induction m with
  | zero => obtain rfl : n = 0 := by omega
            rfl
  | succ m ih =>
    by_cases e : n = m + 1
    · rw [e]
    · rw [tr_succ, ih (by omega), hz m (by omega), if_neg (by omega), List.append_nil]
theorem tr_self {L : List Int} (hv : valid L = true) {n : Nat} (h : L.length ≤ n) : tr (fun i => L.getD i 0) n = L := by
  rw [tr_more h (fun i hi => getD_ge hi), tr_full (fun i hi => by have := getD_pos hv hi; omega)]
  apply List.ext_getElem
  · simp
  · intro j h1 h2
    rw [List.getElem_map, List.getElem_range, getD_lt h2]
theorem tr_congr {f g : Nat → Int} {n : Nat} (h : ∀ i, i < n → f i = g i) : tr f n = tr g n := by
  unfold tr
  rw [List.map_congr_left fun i hi => h i (by simpa using hi)]
theorem getD_fall' {L : List Int} (hv : valid L = true) (i : Nat) : L.getD (i + 1) 0 ≤ L.getD i 0 := getD_fall hv (i + 1) (by omega)

/-! what both have, and what has both -/
def lo2 (P Q : List Int) (i : Nat) : Int := min (P.getD i 0) (Q.getD i 0)
def hi2 (P Q : List Int) (i : Nat) : Int := max (P.getD i 0) (Q.getD i 0)
def cutL (P Q : List Int) : List Int := tr (lo2 P Q) 16
def cutH (P Q : List Int) : List Int := tr (hi2 P Q) 16
section
variable {P Q : List Int}
theorem lo2_fall (hp : valid P = true) (hq : valid Q = true) (i : Nat) : lo2 P Q (i + 1) ≤ lo2 P Q i := by
  have := getD_fall' hp i; have := getD_fall' hq i; unfold lo2; omega
theorem hi2_fall (hp : valid P = true) (hq : valid Q = true) (i : Nat) : hi2 P Q (i + 1) ≤ hi2 P Q i := by
  have := getD_fall' hp i; have := getD_fall' hq i; unfold hi2; omega
theorem lo2_nn (hp : valid P = true) (hq : valid Q = true) (i : Nat) : 0 ≤ lo2 P Q i := by
  have := getD_nn hp i; have := getD_nn hq i; unfold lo2; omega
theorem hi2_nn (hp : valid P = true) (hq : valid Q = true) (i : Nat) : 0 ≤ hi2 P Q i := by
  have := getD_nn hp i; have := getD_nn hq i; unfold hi2; omega
theorem sf_sumTo (L : List Int) (n : Nat) : sf (fun i => L.getD i 0) n = sumTo L n := by
  induction n with
  | zero => rfl
  | succ n ih => rw [sf, sumTo, ih]
theorem sf_cut (P Q : List Int) (n : Nat) : sf (lo2 P Q) n + sf (hi2 P Q) n = sumTo P n + sumTo Q n := by
  induction n with
  | zero => rfl
  | succ n ih => rw [sf, sf, sumTo, sumTo]; unfold lo2 hi2 at *; omega
theorem sf_lo_le (hp : valid P = true) (hq : valid Q = true) (n : Nat) : sf (lo2 P Q) n ≤ sumTo P n := by
  induction n with
  | zero => exact Int.le_refl _
  | succ n ih => rw [sf, sumTo]; have : lo2 P Q n ≤ P.getD n 0 := by unfold lo2; omega
                 omega
end
/-- the cut rows fit -/
def cutOk (P Q : List Int) : Bool := valid P && valid Q && decide (sf (hi2 P Q) 16 ≤ 16)
def cutLF (P Q : List Int) : List Int := if cutOk P Q then cutL P Q else []
def cutHF (P Q : List Int) : List Int := if cutOk P Q then cutH P Q else []
theorem cutOk_out {P Q : List Int} (h : cutOk P Q = true) : valid P = true ∧ valid Q = true ∧ sf (hi2 P Q) 16 ≤ 16 := by
  unfold cutOk at h
  simp only [Bool.and_eq_true, decide_eq_true_eq] at h
  exact ⟨h.1.1, h.1.2, h.2⟩
theorem valid_cutL {P Q : List Int} (hp : valid P = true) (hq : valid Q = true) : valid (cutL P Q) = true := by
  have h1 := sf_lo_le hp hq 16
  rw [sumTo_all P 16 (valid_bd hp).2.2.2] at h1
  exact valid_tr (lo2_fall hp hq) (lo2_nn hp hq) (by have := (valid_bd hp).2.1; omega)
theorem valid_cutH {P Q : List Int} (h : cutOk P Q = true) : valid (cutH P Q) = true := by
  obtain ⟨hp, hq, hs⟩ := cutOk_out h
  exact valid_tr (hi2_fall hp hq) (hi2_nn hp hq) hs

/-- are the rows of Q inside of those of P -/
def ins (P Q : List Int) : Bool := valid P && valid Q && (List.range 16).all fun i => decide (Q.getD i 0 ≤ P.getD i 0)
theorem ins_iff {P Q : List Int} : ins P Q = true ↔ valid P = true ∧ valid Q = true ∧ ∀ i, Q.getD i 0 ≤ P.getD i 0 := by
  unfold ins
  simp only [Bool.and_eq_true, List.all_eq_true, List.mem_range, decide_eq_true_eq]
  constructor
  · rintro ⟨⟨hp, hq⟩, h⟩
    refine ⟨hp, hq, fun i => ?_⟩
    rcases Nat.lt_or_ge i 16 with hi | hi
    · exact h i hi
    · rw [getD_ge (Nat.le_trans (valid_bd hq).2.2.2 hi)]; exact (getD_nn hp i).1
  · rintro ⟨hp, hq, h⟩
    exact ⟨⟨hp, hq⟩, fun i _ => h i⟩

/-! first sums -/
def mf (P Q : List Int) (k : Nat) : Int := min (sumTo P k) (sumTo Q k)
def mi (P Q : List Int) (i : Nat) : Int := mf P Q (i + 1) - mf P Q i
def mt (P Q : List Int) : List Int := tr (mi P Q) 16
theorem sf_mi (P Q : List Int) (n : Nat) : sf (mi P Q) n = mf P Q n := by
  induction n with
  | zero => simp [sf, mf, sumTo]
  | succ n ih => rw [sf, ih]; unfold mi; omega
section
variable {P Q : List Int}
theorem mi_fall (hp : valid P = true) (hq : valid Q = true) (i : Nat) : mi P Q (i + 1) ≤ mi P Q i := by
  have := getD_fall' hp i; have := getD_fall' hq i; unfold mi mf; simp only [sumTo]; omega
theorem mi_nn (hp : valid P = true) (hq : valid Q = true) (i : Nat) : 0 ≤ mi P Q i := by
  have := getD_nn hp i; have := getD_nn hq i; unfold mi mf; simp only [sumTo]; omega
theorem mf_end (hp : valid P = true) (hq : valid Q = true) : mf P Q 16 = min (sumL P) (sumL Q) := by
  unfold mf; rw [sumTo_all P 16 (valid_bd hp).2.2.2, sumTo_all Q 16 (valid_bd hq).2.2.2]
theorem valid_mt (hp : valid P = true) (hq : valid Q = true) : valid (mt P Q) = true := by
  refine valid_tr (mi_fall hp hq) (mi_nn hp hq) ?_
  rw [sf_mi, mf_end hp hq]
  have := (valid_bd hp).2.1
  omega
theorem pad_mt (hp : valid P = true) (hq : valid Q = true) : pad (mt P Q) = (List.range 16).map (mi P Q) := pad_tr (mi_fall hp hq) (mi_nn hp hq)
theorem sum_mt (hp : valid P = true) (hq : valid Q = true) : sumL (mt P Q) = min (sumL P) (sumL Q) := by
  unfold mt
  rw [sum_tr (mi_nn hp hq), sf_mi, mf_end hp hq]
theorem sumTo_mt (hp : valid P = true) (hq : valid Q = true) {k : Nat} (hk : k ≤ 16) : sumTo (mt P Q) k = mf P Q k := by
  induction k with
  | zero => simp [sumTo, mf]
  | succ k ih =>
    rw [sumTo, ih (by omega)]
    unfold mt
    rw [tr_getD (mi_fall hp hq) (mi_nn hp hq), if_pos (by omega)]
    unfold mi
    omega
theorem eq_of_sumTo (hp : valid P = true) (hq : valid Q = true) (h : ∀ k, k ≤ 16 → sumTo P k = sumTo Q k) : P = Q := by
  refine valid_ext hp hq fun j => ?_
  rcases Nat.lt_or_ge j 16 with hj | hj
  · have h1 := h j (by omega)
    have h2 := h (j + 1) (by omega)
    simp only [sumTo] at h2
    omega
  · rw [getD_ge (Nat.le_trans (valid_bd hp).2.2.2 hj), getD_ge (Nat.le_trans (valid_bd hq).2.2.2 hj)]
theorem mt_right (hp : valid P = true) (hq : valid Q = true) : mt P Q = Q ↔ ∀ k, k ≤ 16 → sumTo Q k ≤ sumTo P k := by
  constructor
  · intro h k hk
    have := sumTo_mt hp hq hk
    rw [h] at this
    unfold mf at this
    omega
  · intro h
    refine eq_of_sumTo (valid_mt hp hq) hq fun k hk => ?_
    rw [sumTo_mt hp hq hk]
    have := h k hk
    unfold mf
    omega
theorem mt_comm (P Q : List Int) : mt P Q = mt Q P := by
  unfold mt
  refine tr_congr fun i _ => ?_
  unfold mi mf
  omega
end
/-- P dominates Q -/
def dom (P Q : List Int) : Bool := valid P && valid Q && decide (sumL P = sumL Q) && (List.range 17).all fun k => decide (sumTo Q k ≤ sumTo P k)
theorem dom_iff {P Q : List Int} : dom P Q = true ↔ valid P = true ∧ valid Q = true ∧ sumL P = sumL Q ∧ ∀ k, k ≤ 16 → sumTo Q k ≤ sumTo P k := by
  unfold dom
  simp only [Bool.and_eq_true, List.all_eq_true, List.mem_range, decide_eq_true_eq]
  constructor
  · rintro ⟨⟨⟨hp, hq⟩, hs⟩, h⟩; exact ⟨hp, hq, hs, fun k hk => h k (by omega)⟩
  · rintro ⟨hp, hq, hs, h⟩; exact ⟨⟨⟨hp, hq⟩, hs⟩, fun k hk => h k (by omega)⟩

/-! the other way round -/
def csum (j : Nat) (L : List Int) : Int := sumL ((List.range j).map fun (t : Nat) => cnt ((t : Int) + 1) L)
theorem csum_cons (j : Nat) (x : Int) (r : List Int) : csum j (x :: r) = tsum j x + csum j r := by
  unfold csum
  induction j with
  | zero => rfl
  | succ j ih =>
    have e2 : tsum (j + 1) x = tsum j x + if (j : Int) + 1 ≤ x then 1 else 0 := by
      simp [tsum, List.range_succ, sumL_append, sumL]
    rw [List.range_succ, List.map_append, sumL_append, ih, List.map_append, sumL_append, e2]
    simp [cnt, sumL]; omega
theorem csum_nil (j : Nat) : csum j [] = 0 := by
  unfold csum
  induction j with
  | zero => rfl
  | succ j ih => rw [List.range_succ, List.map_append, sumL_append, ih]; simp [cnt, sumL]
theorem sumTo_conj {L : List Int} (hv : valid L = true) (j : Nat) : sumTo (conj L) j = csum j L := by
  unfold csum
  induction j with
  | zero => rfl
  | succ j ih => rw [sumTo, ih, conj_getD hv, List.range_succ, List.map_append, sumL_append]; simp [sumL]
theorem tsum_full (n : Nat) (x : Int) (h : (n : Int) ≤ x) : tsum n x = n := by
  induction n with
  | zero => simp [tsum, sumL]
  | succ n ih =>
    have e2 : tsum (n + 1) x = tsum n x + if (n : Int) + 1 ≤ x then 1 else 0 := by
      simp [tsum, List.range_succ, sumL_append, sumL]
    rw [e2, ih (by omega), if_pos (by omega)]
    omega
theorem cells_le (j : Nat) : ∀ (L : List Int) (k : Nat), (∀ x ∈ L, 0 ≤ x) → sumL (L.take k) + csum j L ≤ sumL L + (k : Int) * (j : Int)
  | [], k, _ => by
    rw [csum_nil]
    have : (0 : Int) ≤ (k : Int) * (j : Int) := Int.mul_nonneg (by omega) (by omega)
    simp [sumL]; exact this
  | x :: r, 0, h => by
    have ih := cells_le j r 0 fun y hy => h y (by simp [hy])
    have h1 := (tsum_le j x (h x (by simp))).1
    rw [csum_cons]
    simp [sumL] at ih ⊢
    omega
  | x :: r, k + 1, h => by
    have ih := cells_le j r k fun y hy => h y (by simp [hy])
    have h1 := (tsum_le j x (h x (by simp))).2
    rw [csum_cons]
    have e : ((k + 1 : Nat) : Int) * (j : Int) = (k : Int) * (j : Int) + (j : Int) := by rw [Int.natCast_add, Int.add_mul]; simp
    rw [e]
    simp only [List.take_succ_cons, sumL]
    omega
theorem cells_eq (j : Nat) : ∀ (L : List Int), mono L → (∀ x ∈ L, 0 ≤ x) → sumL (L.take (cnt ((j : Int) + 1) L).toNat) + csum j L = sumL L + cnt ((j : Int) + 1) L * (j : Int)
  | [], _, _ => by simp [csum_nil, cnt, sumL]
  | x :: r, hm, h => by
    by_cases hx : (j : Int) + 1 ≤ x
    · have ih := cells_eq j r hm.2 fun y hy => h y (by simp [hy])
      have hc := cnt_bd ((j : Int) + 1) r
      have e : cnt ((j : Int) + 1) (x :: r) = cnt ((j : Int) + 1) r + 1 := by rw [cnt, if_pos hx]; omega
      rw [e, csum_cons, tsum_full j x (by omega), show (cnt ((j : Int) + 1) r + 1).toNat = (cnt ((j : Int) + 1) r).toNat + 1 by omega, List.take_succ_cons, Int.add_mul]
      simp only [sumL]
      omega
    · have e : cnt ((j : Int) + 1) (x :: r) = 0 := cnt_none fun y hy => by
        rcases List.mem_cons.1 hy with rfl | hy
        · omega
        · have := hm.1 y hy; omega
      rw [e]
      have h2 : csum j (x :: r) = sumL (x :: r) := csum_eq j _ fun y hy => ⟨h y hy, by
        rcases List.mem_cons.1 hy with rfl | hy
        · omega
        · have := hm.1 y hy; omega⟩
      rw [h2]
      simp [sumL]
theorem dual {P Q : List Int} (hp : valid P = true) (hq : valid Q = true) (hs : sumL P = sumL Q) (h : ∀ k, k ≤ 16 → sumTo Q k ≤ sumTo P k) (j : Nat) : sumTo (conj P) j ≤ sumTo (conj Q) j := by
  rw [sumTo_conj hp, sumTo_conj hq]
  have hc := cnt_bd ((j : Int) + 1) Q
  have h1 := cells_eq j Q (mono_valid hq) (valid_nonneg hq)
  have h2 := cells_le j P (cnt ((j : Int) + 1) Q).toNat (valid_nonneg hp)
  have h3 := h (cnt ((j : Int) + 1) Q).toNat (by have := (valid_bd hq).2.2.2; omega)
  rw [sumTo_take, sumTo_take] at h3
  rw [show (((cnt ((j : Int) + 1) Q).toNat : Nat) : Int) = cnt ((j : Int) + 1) Q by omega] at h2
  omega
theorem dom_conj {P Q : List Int} (hp : valid P = true) (hq : valid Q = true) : dom (conj Q) (conj P) = dom P Q := by
  have key : ∀ {P Q : List Int}, dom P Q = true → dom (conj Q) (conj P) = true := by
    intro P Q h
    obtain ⟨hp, hq, hs, hk⟩ := dom_iff.1 h
    exact dom_iff.2 ⟨valid_conj hq, valid_conj hp, by rw [sumL_conj hp, sumL_conj hq, hs], fun k _ => dual hp hq hs hk k⟩
  rw [Bool.eq_iff_iff]
  refine ⟨fun h => ?_, key⟩
  have := key h
  rwa [conj_conj hp, conj_conj hq] at this
theorem conj_inj {P Q : List Int} (hp : valid P = true) (hq : valid Q = true) : conj P = conj Q ↔ P = Q :=
  ⟨fun h => by rw [← conj_conj hp, h, conj_conj hq], fun h => by rw [h]⟩
theorem pad_inj {P Q : List Int} (hp : valid P = true) (hq : valid Q = true) : pad P = pad Q ↔ P = Q :=
  ⟨fun h => valid_ext hp hq fun j => by rw [← pad_getD (valid_bd hp).2.2.2, h, pad_getD (valid_bd hq).2.2.2], fun h => by rw [h]⟩
/-- what is above both -/
def jn (P Q : List Int) : List Int := conj (mt (conj P) (conj Q))
theorem valid_jn {P Q : List Int} (hp : valid P = true) (hq : valid Q = true) : valid (jn P Q) = true := valid_conj (valid_mt (valid_conj hp) (valid_conj hq))
/-- the program's question: they are their own bounds -/
theorem dom_bounds {P Q : List Int} (hp : valid P = true) (hq : valid Q = true) : dom P Q = (decide (mt P Q = Q) && decide (jn P Q = P)) := by
  have h2 : jn P Q = P ↔ ∀ k, k ≤ 16 → sumTo (conj P) k ≤ sumTo (conj Q) k := by
    rw [← mt_right (valid_conj hq) (valid_conj hp), mt_comm, ← conj_inj (valid_jn hp hq) hp]
    unfold jn
    rw [conj_conj (valid_mt (valid_conj hp) (valid_conj hq))]
  rw [Bool.eq_iff_iff, Bool.and_eq_true, decide_eq_true_eq, decide_eq_true_eq, dom_iff, mt_right hp hq, h2]
  constructor
  · rintro ⟨_, _, hs, h⟩; exact ⟨h, fun k _ => dual hp hq hs h k⟩
  · rintro ⟨h, h'⟩
    refine ⟨hp, hq, ?_, h⟩
    have a1 := h 16 (by omega)
    have a2 := h' 16 (by omega)
    rw [sumTo_all _ 16 (valid_bd hp).2.2.2, sumTo_all _ 16 (valid_bd hq).2.2.2] at a1
    rw [sumTo_all _ 16 (valid_bd (valid_conj hp)).2.2.2, sumTo_all _ 16 (valid_bd (valid_conj hq)).2.2.2, sumL_conj hp, sumL_conj hq] at a2
    omega
theorem ins_bounds {P Q : List Int} (hp : valid P = true) (hq : valid Q = true) : ins P Q = (decide ((List.range 16).map (lo2 P Q) = pad Q) && decide ((List.range 16).map (hi2 P Q) = pad P)) := by
  rw [Bool.eq_iff_iff, Bool.and_eq_true, decide_eq_true_eq, decide_eq_true_eq, ins_iff]
  have hpl := (valid_bd hp).2.2.2
  have hql := (valid_bd hq).2.2.2
  constructor
  · rintro ⟨_, _, h⟩
    constructor
    · apply List.ext_getElem
      · rw [pad_len hql]; simp
      · intro j h1 h2
        rw [← getD_lt h2, pad_getD hql]
        simp only [List.getElem_map, List.getElem_range]
        have := h j
        unfold lo2; omega
    · apply List.ext_getElem
      · rw [pad_len hpl]; simp
      · intro j h1 h2
        rw [← getD_lt h2, pad_getD hpl]
        simp only [List.getElem_map, List.getElem_range]
        have := h j
        unfold hi2; omega
  · rintro ⟨h, _⟩
    refine ⟨hp, hq, fun i => ?_⟩
    rcases Nat.lt_or_ge i 16 with hi | hi
    · have e := congrArg (fun l => l.getD i 0) h
      rw [map_getD, if_pos hi, pad_getD hql] at e
      unfold lo2 at e
      omega
    · rw [getD_ge (by omega)]; exact (getD_nn hp i).1

/-! ranks and cranks -/
def rnk (L : List Int) : Int := if valid L then L.headD 0 - L.length else 0
def crk (L : List Int) : Int := if valid L then (if eqc 1 L = 0 then L.headD 0 else cnt (eqc 1 L + 1) L - eqc 1 L) else 0
theorem rnk_yes {L : List Int} (h : valid L = true) : rnk L = L.headD 0 - L.length := by simp [rnk, h]
theorem rnk_no {L : List Int} (h : valid L = false) : rnk L = 0 := by simp [rnk, h]
theorem crk_yes {L : List Int} (h : valid L = true) : crk L = if eqc 1 L = 0 then L.headD 0 else cnt (eqc 1 L + 1) L - eqc 1 L := by simp [crk, h]
theorem crk_no {L : List Int} (h : valid L = false) : crk L = 0 := by simp [crk, h]
end NP
end Go.Proofs.YtmlomapifldlpaaDoor
namespace Go.Proofs.YtmlomapifldlpaaDoor
namespace NP
theorem head_le_sum {L : List Int} (h : valid L = true) : 0 ≤ L.headD 0 ∧ L.headD 0 ≤ sumL L ∧ (0 < L.length → 1 ≤ L.headD 0) := by
  cases L with
  | nil => simp [sumL]
  | cons x r =>
    have h0 := valid_nonneg h
    have h1 := (elem_le_sum h0 (q := 0) (by simp)).1
    have h2 := valid_ge1 h x (by simp)
    simp at h1 ⊢
    omega
theorem rnk_facts {P : List Int} (h : valid P = true) : rnk (conj P) = -rnk P ∧ rnk P < max (sumL P) 1 ∧ -rnk P < max (sumL P) 1 ∧ -16 ≤ rnk P ∧ rnk P ≤ 16 := by
  have hb := valid_bd h
  have h1 := head_le_sum h
  have hc := head_conj h
  have hcb := headD_bd (valid_conj h)
  rw [rnk_yes h, rnk_yes (valid_conj h), conj_len]
  by_cases h0 : 0 < P.length
  · have := h1.2.2 h0
    omega
  · obtain rfl : P = [] := List.eq_nil_of_length_eq_zero (by omega)
    simp [conj, sumL]
    omega
end NP
end Go.Proofs.YtmlomapifldlpaaDoor
namespace Go.Proofs.YtmlomapifldlpaaDoor
namespace NP
theorem cnt_le_sum {L : List Int} (h : ∀ x ∈ L, 1 ≤ x) (t : Int) : cnt t L ≤ sumL L ∧ 0 ≤ sumL L := by
  induction L with
  | nil => simp [cnt, sumL]
  | cons x r ih =>
    have h1 := ih fun y hy => h y (by simp [hy])
    have h2 := h x (by simp)
    rw [cnt, sumL]
    split <;> omega
theorem eqc_le_sum {L : List Int} (h : ∀ x ∈ L, 1 ≤ x) (t : Int) : eqc t L ≤ sumL L := by
  induction L with
  | nil => simp [eqc, sumL]
  | cons x r ih =>
    have h1 := ih fun y hy => h y (by simp [hy])
    have h2 := h x (by simp)
    rw [eqc_cons, sumL]
    split <;> omega
theorem crk_facts {P : List Int} (h : valid P = true) (h0 : 0 < P.length) : crk P ≤ sumL P ∧ -crk P ≤ sumL P ∧ (P[P.length - 1]'(by omega) = 1 ∨ crk P = P[0]) ∧ -16 ≤ crk P ∧ crk P ≤ 16 ∧ 1 ≤ P[P.length - 1]'(by omega) ∧ P[P.length - 1]'(by omega) ≤ 16 := by
  have hb := valid_bd h
  have h1 := head_le_sum h
  have hg := valid_ge1 h
  have hc := cnt_le_sum hg (eqc 1 P + 1)
  have hcb := cnt_bd (eqc 1 P + 1) P
  have he := eqc_le_sum hg 1
  have heb := eqc_bd 1 P
  have hl := hg _ (List.getElem_mem (show P.length - 1 < P.length by omega))
  have hl2 := preS_of_valid h (P.length - 1) (by omega) (by omega)
  have h0' : P.headD 0 = P[0] := headD_get P h0
  rw [crk_yes h]
  by_cases hz : eqc 1 P = 0
  · rw [if_pos hz]
    refine ⟨h1.2.1, by omega, .inr h0', by omega, by omega, hl, hl2.2.1⟩
  · rw [if_neg hz]
    have hm : (1 : Int) ∈ P := eqc_mem (by omega)
    obtain ⟨q, hq, e⟩ := List.mem_iff_getElem.1 hm
    have hf := falls_all h (P.length - 1) q (by omega) (by omega)
    refine ⟨by omega, by omega, .inl (by omega), by omega, by omega, hl, hl2.2.1⟩
end NP
end Go.Proofs.YtmlomapifldlpaaDoor
namespace Go.Proofs.YtmlomapifldlpaaDoor
open Go.RowKit NP
set_option maxRecDepth 8000
set_option linter.unusedVariables false
set_option linter.unusedSimpArgs false
theorem Blk.range {w : World} {g : Nat} {t : TypeId} {vs : List Value} (h : Blk w g t vs.toArray) : w.rangeAt g 0 vs := fun j v hv => by
  rw [Nat.zero_add, h.cell j]; simpa using hv
theorem range_below {w w' : World} {b o : Nat} {cs : List Value} (h : w.rangeAt b o cs) (hb : Below w.heap.size w w') : w'.rangeAt b o cs := fun j v hv => by
  have := h j v hv
  exact (hb.cell (p := ⟨b, o + j, none⟩) (World.block_lt_of_cell? w _ this)).trans this
theorem keep_cr {w0 w w' : World} {g : Nat} {x : Value} {cs : List Value} (h : w.cell? ⟨g, 0, none⟩ = some x ∧ w.rangeAt g 0 cs ∧ Below w0.heap.size w0 w) (hb : Below w.heap.size w w') :
    w'.cell? ⟨g, 0, none⟩ = some x ∧ w'.rangeAt g 0 cs ∧ Below w0.heap.size w0 w' :=
  ⟨(hb.cell (p := ⟨g, 0, none⟩) (World.block_lt_of_cell? w _ h.1)).trans h.1, range_below h.2.1 hb, h.2.2.trans (hb.mono h.2.2.size)⟩
theorem cntD_le (D : List Int) : cntD D ≤ 16 := (ff_spec _ 16).1
theorem cntD_pad {M : List Int} (hM : valid M = true) : cntD (pad M) = M.length := by
  have hbd := valid_bd hM
  have hlen : M.length ≤ 16 := hbd.2.2.2
  unfold cntD
  refine ff_eq (fun j hj => ?_) hlen ?_
  · have h1 := preS_of_valid hM j hj hj
    rw [List.getD_eq_getElem?_getD, List.getElem?_eq_getElem (by rw [pad_len hlen]; omega), Option.getD_some, pad_get hlen hj]
    simp; omega
  · rcases Nat.lt_or_ge M.length 16 with h | h
    · right
      rw [List.getD_eq_getElem?_getD, List.getElem?_eq_getElem (by rw [pad_len hlen]; omega), Option.getD_some, pad_get0 hlen (Nat.le_refl _) h]
      simp
    · left; omega
theorem getD0 (L : List Int) : L.getD 0 0 = L.headD 0 := by cases L <;> rfl
theorem cntD_zeros : cntD (List.replicate 16 0) = 0 := by decide
theorem dg_bd (L : List Int) : ∀ k (h : k < (dg L).length), 0 ≤ (dg L)[k] ∧ (dg L)[k] ≤ 16 := by
  cases hv : valid L with
  | true => rw [dg_yes hv]; exact pad_nonneg hv
  | false => rw [dg_no hv]; intro k h; rw [List.getElem_replicate]; omega
theorem rnk_dg (L : List Int) : (dg L).getD 0 0 - cntD (dg L) = rnk L := by
  cases hv : valid L with
  | true => rw [dg_yes hv, cntD_pad hv, pad_getD (valid_bd hv).2.2.2, getD0, rnk_yes hv]
  | false => rw [dg_no hv, cntD_zeros, rnk_no hv]; rfl
theorem info_diag (D : List Int) (hD : D.length = 16) : (Tryd.prog.info? 68).map (·.size) = some (ints D).length := by rw [List.length_map, hD]; exact T_info35




end Go.Proofs.YtmlomapifldlpaaDoor
namespace Go.Proofs.YtmlomapifldlpaaDoor
open Go.RowKit NP
set_option maxRecDepth 8000
set_option linter.unusedVariables false
set_option linter.unusedSimpArgs false
theorem cnt_pad {M : List Int} (hM : valid M = true) : cntD (pad M) = M.length := by
  have hlen : M.length ≤ 16 := (valid_bd hM).2.2.2
  unfold cntD
  refine ff_eq (fun j hj => ?_) hlen ?_
  · have h1 := preS_of_valid hM j hj hj
    rw [List.getD_eq_getElem?_getD, List.getElem?_eq_getElem (by rw [pad_len hlen]; omega), Option.getD_some, pad_get hlen hj]
    simp; omega
  · rcases Nat.lt_or_ge M.length 16 with h | h
    · right
      rw [List.getD_eq_getElem?_getD, List.getElem?_eq_getElem (by rw [pad_len hlen]; omega), Option.getD_some, pad_get0 hlen (Nat.le_refl _) h]
      simp
    · left; omega
theorem Blk.one {w : World} {g : Nat} {t : TypeId} {v : Value} (h : Blk w g t #[v]) : w.cell? ⟨g, 0, none⟩ = some v := by rw [h.cell 0]; rfl
theorem upto {k : Nat} {p : Nat → Bool} (H : ∀ j, j < k → p j = true) (h : p k = true) : ∀ j, j < k + 1 → p j = true := fun j hj => by
  rcases Nat.lt_or_ge j k with h1 | h1
  · exact H j h1
  · obtain rfl : j = k := by omega
    exact h

set_option maxHeartbeats 1000000 in
theorem remK_any (m r : Int) (hr : 1 ≤ r ∧ r < m) (hm : m ≤ 100) (g1 g2 : Nat) (L : List Int) (hv : valid L = true) (w : World) (h1 : Blk w g1 3 #[.int .i64 m]) (h2 : Blk w g2 3 #[.int .i64 r]) :
    Calls Tryd.prog 42 #[.agg (arr (pad L)), .pointer (some ⟨g1, 0, none⟩), .pointer (some ⟨g2, 0, none⟩)] w fun e w' => e = .returned (.bool (kRem m r L)) ∧ Below w.heap.size w w' := by
  have hl16 := (valid_bd hv).2.2.2
  have HV := Lib.hid hv
  have HNN := Lib.hid (getD_nn hv)
  clear hv
  have hB0 := Blk.new w 68 (arr (pad L))
  have hiL : (Tryd.prog.info? 68).map (·.size) = some (arr (pad L)).size := by rw [arr_size, pad_len hl16]; exact T_info35
  go_enter Tryd.func42, Tryd.ntmps42
  go_wp2_with (first | (go_at_call 43; refine (list_any L HV.out _).mono ?_; rintro e w1 ⟨a', rfl, ho1, hb1⟩) | (refine wpList_load_row rfl 68 (.tmp 3) rfl w.heap.size rfl 68 (arr (pad L)) (0, 0) _ hB0 Tryd.underlying68 rfl hiL ?_))
  have k1 := ((h1.alloc (.cells (arr (pad L)) 68)).below hb1 (by simp; have := h1.lt; omega)).one
  have k2 := ((h2.alloc (.cells (arr (pad L)) 68)).below hb1 (by simp; have := h2.lt; omega)).one
  have hbel : Below w.heap.size w w1 := ((Below.refl _ _).alloc (Nat.le_refl _) _).trans (hb1.mono (by simp))
  have hrd := ho1.rd
  clear hb1 ho1 h1 h2
  go_loop [6, 7, 11] (fun _ _ vi => ∃ k : Nat, k ≤ L.length ∧ vi = .int .i64 k ∧ Hid (∀ j, j < k → (fun j => L.getD j 0 % m == r || L.getD j 0 % m == m - r) j = true)) (fun _ _ vi => L.length - (intOf vi).toNat)
  case atStart => exact ⟨0, Nat.zero_le _, rfl, Lib.hid fun j hj => by omega⟩
  case round =>
    obtain ⟨k, hk, rfl, HP⟩ := hrel
    by_cases hlt : k < L.length
    · have hlt' : (k : Int) < (L.length : Int) := by omega
      obtain ⟨b, o, rfl, _, hc⟩ := hrd.at_ hlt
      have hx := HNN.out k
      have hg : L.getD k 0 = L[k] := getD_lt hlt
      rw [hg] at hx
      have HG := Lib.hid hg
      clear hg
      generalize L[k] = x at hc hx HG
      obtain ⟨q, hq⟩ : ∃ q, x % m = q := ⟨_, rfl⟩
      have hq0 : x.tmod m = q := by rw [Int.tmod_eq_emod_of_nonneg hx.1]; exact hq
      have hqb : 0 ≤ q ∧ q < m := ⟨hq ▸ Int.emod_nonneg _ (by omega), hq ▸ Int.emod_lt_of_pos _ (by omega)⟩
      have HQ := Lib.hid hq
      by_cases e1 : q = r
      · have b1 : (q != r) = false := by simp [e1]
        clear e1
        go_wp2_with fail
        go_round
        case rel => exact ⟨k + 1, by omega, by go_num, Lib.hid (upto HP.out (by show (L.getD k 0 % m == r || L.getD k 0 % m == m - r) = true; rw [HG.out, HQ.out]; have := bne_eq_false_iff_eq.1 b1; simp [this]))⟩
        case measure => simp [intOf]; omega
      · have b1 : (q != r) = true := by simpa using e1
        by_cases e2 : q = m - r
        · have b2 : (q != m - r) = false := by simp [e2]
          clear e1
          have HE := Lib.hid e2
          clear e2
          go_wp2_with fail
          go_round
          case rel => exact ⟨k + 1, by omega, by go_num, Lib.hid (upto HP.out (by show (L.getD k 0 % m == r || L.getD k 0 % m == m - r) = true; rw [HG.out, HQ.out]; simp [HE.out]))⟩
          case measure => simp [intOf]; omega
        · have b2 : (q != m - r) = true := by simpa using e2
          have HF : Hid (kRem m r L = false) := Lib.hid (allTo_no hlt (by show (L.getD k 0 % m == r || L.getD k 0 % m == m - r) = false; rw [HG.out, HQ.out]; simp [e1, e2]))
          clear e1 e2
          go_wp2_with fail
          go_ret
          exact ⟨ret_bool HF.out.symm, hbel⟩
    · obtain rfl : k = L.length := by omega
      have HF : Hid (kRem m r L = true) := Lib.hid (allTo_yes HP.out)
      go_wp2
      go_ret
      exact ⟨ret_bool HF.out.symm, hbel⟩

set_option maxHeartbeats 1000000 in
theorem fallK_any (s t : Int) (hs : 0 ≤ s ∧ s ≤ 100) (ht : 0 ≤ t ∧ t ≤ 100) (g1 g2 : Nat) (L : List Int) (hv : valid L = true) (w : World) (h1 : Blk w g1 3 #[.int .i64 s]) (h2 : Blk w g2 3 #[.int .i64 t]) :
    Calls Tryd.prog 44 #[.agg (arr (pad L)), .pointer (some ⟨g1, 0, none⟩), .pointer (some ⟨g2, 0, none⟩)] w fun e w' => e = .returned (.bool (kFall s t L)) ∧ Below w.heap.size w w' := by
  have hl16 := (valid_bd hv).2.2.2
  have HNN := Lib.hid (getD_nn hv)
  have HC := Lib.hid (cnt_pad hv)
  have HPL := Lib.hid (pad_len hl16)
  clear hv
  have hB0 := Blk.new w 68 (arr (pad L))
  have hiL : (Tryd.prog.info? 68).map (·.size) = some (arr (pad L)).size := by rw [arr_size, pad_len hl16]; exact T_info35
  go_enter Tryd.func44, Tryd.ntmps44
  go_wp2_with (first | (go_at_call 45; refine (count_any (pad L) HPL.out _).mono ?_; rintro e w1 ⟨rfl, hb1⟩; rw [HC.out]) | (refine wpList_load_row rfl 68 (.tmp 3) rfl w.heap.size rfl 68 (arr (pad L)) (0, 0) _ hB0 Tryd.underlying68 rfl hiL ?_))
  have k1 := (h1.alloc (.cells (arr (pad L)) 68)).below hb1 (by simp; have := h1.lt; omega)
  have k2 := (h2.alloc (.cells (arr (pad L)) 68)).below hb1 (by simp; have := h2.lt; omega)
  have k0 := (Blk.new w 68 (arr (pad L))).below hb1 (by simp)
  have hbel : Below w.heap.size w w1 := ((Below.refl _ _).alloc (Nat.le_refl _) _).trans (hb1.mono (by simp))
  clear hb1 h1 h2
  go_loopw [5, 6, 10] (fun _ _ vi wr => ∃ k : Nat, k ≤ L.length - 1 ∧ vi = .int .i64 k ∧ Dr w1 wr ∧ Hid (∀ j, j < k → (fun j => decide ((if L.getD j 0 % 3 = 0 then t else s) ≤ L.getD j 0 - L.getD (j + 1) 0)) j = true)) (fun _ _ vi _ => L.length - (intOf vi).toNat)
  case atStart => exact ⟨0, Nat.zero_le _, rfl, Dr.refl _, Lib.hid fun j hj => by omega⟩
  case round =>
    obtain ⟨k, hk, rfl, hdr, HP⟩ := hrel
    have hbd := hdr.below w1.heap.size
    have c1 := (k1.below hbd k1.lt).one
    have c2 := (k2.below hbd k2.lt).one
    have c0 := k0.below hbd k0.lt
    by_cases hlt : k < L.length - 1
    · have hlt' : (k : Int) < (L.length : Int) - 1 := by omega
      have hp16 : k < 16 := by omega
      have hp17 : k + 1 < 16 := by omega
      have hk16 : (k : Int) < 16 := by omega
      have hk17 : (k : Int) + 1 < 16 := by omega
      have hc := c0.cell k
      have hc' := c0.cell (k + 1)
      rw [arr_get _ k (by rw [HPL.out]; omega)] at hc
      rw [arr_get _ (k + 1) (by rw [HPL.out]; omega)] at hc'
      rw [pad_get hl16 (by omega)] at hc hc'
      have hx := HNN.out k
      have hy := HNN.out (k + 1)
      have hg : L.getD k 0 = L[k] := getD_lt (by omega)
      have hg' : L.getD (k + 1) 0 = L[k + 1] := getD_lt (by omega)
      rw [hg] at hx
      rw [hg'] at hy
      have HG := Lib.hid hg
      have HG' := Lib.hid hg'
      clear hg hg' c0
      generalize L[k] = x at hc hx HG
      generalize L[k + 1] = y at hc' hy HG'
      obtain ⟨q, hq⟩ : ∃ q, x % 3 = q := ⟨_, rfl⟩
      have hq0 : x.tmod 3 = q := by rw [Int.tmod_eq_emod_of_nonneg hx.1]; exact hq
      have HQ := Lib.hid hq
      by_cases e1 : q = 0
      · have b1 : (q == 0) = true := by simp [e1]
        have HT : Hid ((if x % 3 = 0 then t else s) = t) := Lib.hid (by rw [hq, if_pos e1])
        clear e1
        by_cases e2 : x - y < t
        · have HF : Hid (kFall s t L = false) := Lib.hid (allTo_no hlt (by rw [HG.out, HG'.out, HT.out]; simpa using e2))
          go_wp2_with fail
          go_quiet (fail)
          go_wp2
          go_ret
          exact ⟨ret_bool HF.out.symm, hbel.trans ((hdr.trans (Dr.n _ _)).below _)⟩
        · have e3 : t ≤ x - y := by omega
          clear e2
          go_wp2_with fail
          go_quiet (fail)
          go_wp2
          go_roundw
          case rel => exact ⟨k + 1, by omega, by go_num, hdr.drewN _, Lib.hid (upto HP.out (by show decide (_ ≤ _) = true; rw [HG.out, HG'.out, HT.out]; simpa using e3))⟩
          case measure => simp [intOf]; omega
      · have b1 : (q == 0) = false := by simpa using e1
        have HT : Hid ((if x % 3 = 0 then t else s) = s) := Lib.hid (by rw [hq, if_neg e1])
        clear e1
        by_cases e2 : x - y < s
        · have HF : Hid (kFall s t L = false) := Lib.hid (allTo_no hlt (by rw [HG.out, HG'.out, HT.out]; simpa using e2))
          go_wp2_with fail
          go_quiet (fail)
          go_wp2
          go_ret
          exact ⟨ret_bool HF.out.symm, hbel.trans ((hdr.trans (Dr.n _ _)).below _)⟩
        · have e3 : s ≤ x - y := by omega
          clear e2
          go_wp2_with fail
          go_quiet (fail)
          go_wp2
          go_roundw
          case rel => exact ⟨k + 1, by omega, by go_num, hdr.drewN _, Lib.hid (upto HP.out (by show decide (_ ≤ _) = true; rw [HG.out, HG'.out, HT.out]; simpa using e3))⟩
          case measure => simp [intOf]; omega
    · have hge : ¬ (k : Int) < (L.length : Int) - 1 := by omega
      obtain rfl : k = L.length - 1 := by omega
      have HF : Hid (kFall s t L = true) := Lib.hid (allTo_yes HP.out)
      clear hlt
      go_wp2
      go_ret
      exact ⟨ret_bool HF.out.symm, hbel.trans (hdr.below _)⟩

set_option maxHeartbeats 1000000 in
theorem noOneK_any (L : List Int) (hv : valid L = true) (w : World) :
    Calls Tryd.prog 30 #[.agg (arr (pad L))] w fun e w' => e = .returned (.bool (kNoOne L)) ∧ Below w.heap.size w w' := by
  have hl16 := (valid_bd hv).2.2.2
  have HPL := Lib.hid (pad_len hl16)
  have HNN := Lib.hid (getD_nn hv)
  clear hv
  have hB0 := Blk.new w 68 (arr (pad L))
  have hiL : (Tryd.prog.info? 68).map (·.size) = some (arr (pad L)).size := by rw [arr_size, pad_len hl16]; exact T_info35
  go_enter Tryd.func30, Tryd.ntmps30
  go_wp2_with (refine wpList_load_row rfl 68 (.tmp 1) rfl w.heap.size rfl 68 (arr (pad L)) (0, 0) _ hB0 Tryd.underlying68 rfl hiL ?_)
  go_loop [4, 6] (fun _ vi => ∃ k : Nat, k ≤ 16 ∧ vi = .int .i64 k ∧ Hid (∀ j, j < k → (fun j => decide (L.getD j 0 ≠ 1)) j = true)) (fun _ vi => 16 - (intOf vi).toNat)
  case atStart => exact ⟨0, Nat.zero_le _, rfl, Lib.hid fun j hj => by omega⟩
  case round =>
    obtain ⟨k, hk, rfl, HP⟩ := hrel
    by_cases hlt : k < 16
    · have hlt' : (k : Int) < 16 := by omega
      have hkp : k < (pad L).length := by rw [HPL.out]; exact hlt
      have hidx := T_index (pad L) k hkp hlt
      have hg : (pad L)[k] = L.getD k 0 := by rw [← getD_lt hkp, pad_getD hl16]
      rw [hg] at hidx
      have hx := HNN.out k
      obtain ⟨x, hxx⟩ : ∃ x, x = L.getD k 0 := ⟨_, rfl⟩
      rw [← hxx] at hidx hx
      have HX := Lib.hid hxx
      clear hxx hg
      by_cases e1 : x = 1
      · have b1 : (x == 1) = true := by simp [e1]
        have hkl : k < L.length := by
          rcases Nat.lt_or_ge k L.length with h | h
          · exact h
          · rw [HX.out, getD_ge h] at e1; omega
        have HF : Hid (kNoOne L = false) := Lib.hid (allTo_no hkl (by rw [← HX.out, e1]; rfl))
        clear e1
        go_wp2
        go_ret
        exact ⟨ret_bool HF.out.symm, (Below.refl _ _).alloc (Nat.le_refl _) _⟩
      · have b1 : (x == 1) = false := by simpa using e1
        go_wp2
        go_round
        case rel => exact ⟨k + 1, by omega, by go_num, Lib.hid (upto HP.out (by show decide (_ ≠ _) = true; rw [← HX.out]; simpa using e1))⟩
        case measure => simp [intOf]; omega
    · obtain rfl : k = 16 := by omega
      have HF : Hid (kNoOne L = true) := Lib.hid (allTo_yes fun j hj => HP.out j (by omega))
      go_wp2
      go_ret
      exact ⟨ret_bool HF.out.symm, (Below.refl _ _).alloc (Nat.le_refl _) _⟩

theorem T_eqd (D E : List Int) (hD : D.length = 16) (hE : E.length = 16) (w : World) : (Op.equalIn 10000 68 (.agg (arr D)) (.agg (arr E))).run Tryd.prog w = .ok (decide (D = E)) w := by
  obtain ⟨i, hi⟩ := info_of_underlying Tryd.underlying3
  exact run_equal_arr Tryd.underlying68 Tryd.underlying3 (by kernel_rfl) hi (by kernel_rfl) D E hD hE w
theorem pad_inj {L M : List Int} (hL : valid L = true) (hM : valid M = true) (h : pad L = pad M) : L = M := by
  have h1 := cnt_pad hL
  have h2 := cnt_pad hM
  rw [h] at h1
  have e1 := pad_take (L := L)
  have e2 := pad_take (L := M)
  rw [h, ← h1, h2, e2] at e1
  exact e1.symm
set_option maxHeartbeats 2000000 in
theorem selfK_any (L : List Int) (hv : valid L = true) (w : World) :
    Calls Tryd.prog 27 #[.agg (arr (pad L))] w fun e w' => e = .returned (.bool (kSelf L)) ∧ Below w.heap.size w w' := by
  have hl16 := (valid_bd hv).2.2.2
  have HPL := Lib.hid (pad_len hl16)
  have HNP := Lib.hid (pad_nonneg hv)
  have hcv := valid_conj hv
  have hcl := (valid_bd hcv).2.2.2
  have hq : decide (pad L = pad (conj L)) = kSelf L := by
    unfold kSelf
    rw [decide_eq_decide]
    constructor
    · intro h; exact (pad_inj hv hcv h)
    · intro h; rw [← h]
  have HQ := Lib.hid hq
  have hca := (acc_end (pad L) (pad_len hl16)).trans (conj_pad hv)
  have HCA := Lib.hid hca
  have heq : ∀ w : World, (Op.equalIn 10000 68 (.agg (ints (pad L)).toArray) (.agg (arr (pad (conj L))))).run Tryd.prog w = .ok (decide (pad L = pad (conj L))) w := T_eqd (pad L) (pad (conj L)) (pad_len hl16) (pad_len hcl)
  have hgt : Tryd.prog.eqGuardType Tryd.prog.depth 68 = false := by kernel_rfl
  have hB0 := Blk.new w 68 (arr (pad L))
  have hiL : (Tryd.prog.info? 68).map (·.size) = some (arr (pad L)).size := by rw [arr_size, pad_len hl16]; exact T_info35
  have hbel0 : Below w.heap.size w (w.alloc (.cells (arr (pad L)) 68)) := (Below.refl _ _).alloc (Nat.le_refl _) _
  have hr0 : (w.alloc (.cells (arr (pad L)) 68)).rangeAt w.heap.size 0 (ints (pad L)) := Blk.range (vs := ints (pad L)) hB0
  have hu := Tryd.underlying68
  have hiL' : (Tryd.prog.info? 68).map (·.size) = some (ints (pad L)).length := by rw [List.length_map, pad_len hl16]; exact T_info35
  clear hv hq hca
  go_enter Tryd.func27, Tryd.ntmps27
  go_wp2_with fail
  refine wp_region_held_drew (S := fun w' => w'.rangeAt w.heap.size 0 (ints (pad L)) ∧ Below w.heap.size w w') (by kernel_rfl) ⟨hr0, hbel0.trans ((Dr.n _ 1).below _)⟩ (fun hHeld => ?_)
  refine wpAnyH_take (i := 0) (v := _) (by simp only [List.getElem?_toArray, List.getElem?_cons_succ, List.getElem?_cons_zero]; exact rfl) (by kernel_rfl) (by kernel_rfl) (by kernel_rfl) (by intro _ _ _ h; exact h) (yieldsIf_load_mid (by kernel_rfl) _ _ rfl w.heap.size 0 rfl (ints (pad L)) _ (fun _ hw => hw.1) hu rfl hiL') (by assumption) ?_
  simp only [Act.put, List.setIfInBounds_toArray, List.set_cons_zero, List.set_cons_succ, List.toList_toArray]
  refine wpAnyH_take (i := 1) (v := _) (by simp only [List.getElem?_toArray, List.getElem?_cons_succ, List.getElem?_cons_zero]; exact rfl) (by kernel_rfl) (by kernel_rfl) (by kernel_rfl) (by intro _ _ _ h; exact h) (yieldsIf_load_mid (by kernel_rfl) _ _ rfl w.heap.size 0 rfl (ints (pad L)) _ (fun _ hw => hw.1) hu rfl hiL') (by assumption) ?_
  simp only [Act.put, List.setIfInBounds_toArray, List.set_cons_zero, List.set_cons_succ, List.toList_toArray]
  refine wpAnyH_ready (rs := [2]) (by kernel_rfl) (by simp) ?_
  refine AllReadyH.cons (o := _) (by simp only [List.getElem?_toArray, List.getElem?_cons_succ, List.getElem?_cons_zero]; exact rfl) (fun K hK => ?_) AllReadyH.nil
  rw [if_pos (by rfl)]
  go_simp
  go_at_call 46
  refine (conjugate_any (pad L) HPL.out HNP.out _).mono ?_
  rintro e w1 ⟨rfl, hb1⟩
  rw [HCA.out]
  refine hK.out _ _ ⟨range_below hHeld.1 hb1, hHeld.2.trans (hb1.mono hHeld.2.size)⟩ (fun hH2 => ?_)
  clear hK K
  try simp only [Act.put, List.setIfInBounds_toArray, List.set_cons_zero, List.set_cons_succ, List.toList_toArray]
  refine wpAnyH_take (i := 3) (v := .bool (decide (pad L = pad (conj L)))) (by simp only [List.getElem?_toArray, List.getElem?_cons_succ, List.getElem?_cons_zero]; exact rfl) (by kernel_rfl) (by kernel_rfl) (by kernel_rfl) (by intro _ _ _ h; exact h) (Or.inl ⟨by kernel_rfl, by intro w hSw; go_simp⟩) (by assumption) ?_
  simp only [Act.put, List.setIfInBounds_toArray, List.set_cons_zero, List.set_cons_succ, List.toList_toArray]
  refine wpAnyH_take (i := 4) (v := .bool (decide (pad L = pad (conj L)))) (by simp only [List.getElem?_toArray, List.getElem?_cons_succ, List.getElem?_cons_zero]; exact rfl) (by kernel_rfl) (by kernel_rfl) (by kernel_rfl) (by intro _ _ _ h; exact h) (Or.inl ⟨by kernel_rfl, by intro w hSw; go_simp⟩) (by assumption) ?_
  simp only [Act.put, List.setIfInBounds_toArray, List.set_cons_zero, List.set_cons_succ, List.toList_toArray]
  refine wpAnyH_done (by kernel_rfl) ?_ _
  try simp only [Act.put, List.setIfInBounds_toArray, List.set_cons_zero, List.set_cons_succ]
  go_wp2_with fail
  go_ret
  exact ⟨ret_bool HQ.out, hH2.2⟩
end Go.Proofs.YtmlomapifldlpaaDoor
namespace Go.Proofs.YtmlomapifldlpaaDoor
open Go.RowKit NP
set_option maxRecDepth 8000
/-- a function value that tells of each diagram of parts whether K holds of them, in every later world -/
def IsK (w : World) (v : Value) (K : List Int → Bool) : Prop := ∃ (f : Nat) (p c : Array Value), v = .func (.func f) p c ∧ (∀ (args : Array Value) (w : World), (callFunc f args).run Tryd.prog w = .ok (.enter f args) w) ∧ ∀ w1, Below w.heap.size w w1 → ∀ L, valid L = true →
  Calls Tryd.prog f (p.push (.agg (arr (pad L))) ++ c) w1 fun e w2 => e = .returned (.bool (K L)) ∧ Below w1.heap.size w1 w2
end Go.Proofs.YtmlomapifldlpaaDoor
namespace Go.Proofs.YtmlomapifldlpaaDoor
open Go.RowKit
theorem wpList_load_row_g {P : Program} {ops : Array Oper} {rest : List Oper} {o : Oper} {a : Act} {w : World} {Q : Exit → Act → World → Prop} (hgd : Region.wanted o (yielded ops a.tmps) = true) (ty : TypeId) (x : Operand) (ho : o.op = .load ty x)
    (g : Nat) (hx : a.eval x = .pointer (some ⟨g, 0, none⟩)) (t : TypeId) (cs : Array Value) (fr : Nat × Nat) (d : TypeDesc) (hg : w.heap[g]? = some (.cells cs t fr))
    (hu : P.underlying ty = some d) (hd : (match d with | .struct _ | .array _ _ => true | _ => false) = true) (hi : (P.info? ty).map (·.size) = some cs.size)
    (h : wpList P ops Q rest (a.put o.dst (.agg cs)) w) : wpList P ops Q (o :: rest) a w :=
  wpList_step fun K hK => by
    rw [if_pos hgd]
    exact wp_load_row ty x ho g hx t cs fr d hg hu hd hi (hK _ _ h)
end Go.Proofs.YtmlomapifldlpaaDoor
namespace Go.Proofs.YtmlomapifldlpaaDoor
open Go.RowKit NP
set_option maxRecDepth 8000
set_option linter.unusedVariables false
set_option linter.unusedSimpArgs false

/-- a function value that leads each diagram of parts of which K holds to that of the parts F, in every later world -/
def IsWay (w : World) (v : Value) (K : List Int → Bool) (F : List Int → List Int) : Prop := ∃ (f : Nat) (p c : Array Value), v = .func (.func f) p c ∧ (∀ (args : Array Value) (w : World), (callFunc f args).run Tryd.prog w = .ok (.enter f args) w) ∧ ∀ w1, Below w.heap.size w w1 → ∀ L, valid L = true → K L = true →
  Calls Tryd.prog f (p.push (.agg (arr (pad L))) ++ c) w1 fun e w2 => e = .returned (.agg (arr (pad (F L)))) ∧ Below w1.heap.size w1 w2
theorem IsK.below {w w' : World} {v : Value} {K : List Int → Bool} (h : IsK w v K) (hb : Below w.heap.size w w') : IsK w' v K := by
  obtain ⟨f, p, c, rfl, he, hh⟩ := h
  exact ⟨f, p, c, rfl, he, fun w1 h1 => hh w1 (hb.trans (h1.mono hb.size))⟩
theorem IsWay.below {w w' : World} {v : Value} {K : List Int → Bool} {F : List Int → List Int} (h : IsWay w v K F) (hb : Below w.heap.size w w') : IsWay w' v K F := by
  obtain ⟨f, p, c, rfl, he, hh⟩ := h
  exact ⟨f, p, c, rfl, he, fun w1 h1 => hh w1 (hb.trans (h1.mono hb.size))⟩
theorem IsWay.at_ {w : World} {v : Value} {K : List Int → Bool} {F : List Int → List Int} (h : IsWay w v K F) (L : List Int) : IsWay w v (fun M => decide (M = L) && K M) F := by
  obtain ⟨f, p, c, rfl, he, hh⟩ := h
  exact ⟨f, p, c, rfl, he, fun w1 h1 M hv hk => hh w1 h1 M hv (by simp at hk; exact hk.2)⟩
def mpOk (K : List Int → Bool) (L : List Int) : Bool := valid L && K L
def mpF (K : List Int → Bool) (F : List Int → List Int) (L : List Int) : List Int := if mpOk K L then F L else []

end Go.Proofs.YtmlomapifldlpaaDoor
namespace Go.Proofs.YtmlomapifldlpaaDoor
open Go.RowKit NP
set_option maxRecDepth 8000
set_option linter.unusedVariables false
set_option linter.unusedSimpArgs false
theorem hiL_of {L : List Int} (h : L.length ≤ 16) : (Tryd.prog.info? 68).map (·.size) = some (arr (pad L)).size := by rw [arr_size, pad_len h]; exact T_info35
theorem ints_getD (D : List Int) (k : Nat) (h : k < D.length) : (ints D)[k]? = some (.int .i64 (D.getD k 0)) := by
  rw [List.getElem?_map, List.getElem?_eq_getElem h, List.getD_eq_getElem?_getD, List.getElem?_eq_getElem h]; rfl

set_option maxHeartbeats 2000000 in
theorem noneK_any (m : Nat) (hm : 2 ≤ m ∧ m ≤ 16) (g1 : Nat) (L : List Int) (hv : valid L = true) (w : World) (h1 : Blk w g1 3 #[.int .i64 (m : Int)]) :
    Calls Tryd.prog 48 #[.agg (arr (pad L)), .pointer (some ⟨g1, 0, none⟩)] w fun e w' => e = .returned (.bool (kNone m L)) ∧ Below w.heap.size w w' := by
  have hl16 := (valid_bd hv).2.2.2
  have HC := Lib.hid (cnt_pad hv)
  have HPL := Lib.hid (pad_len hl16)
  have HPG := Lib.hid (fun k => pad_getD hl16 k)
  have hB0 := Blk.new w 68 (arr (pad L))
  have hbel0 : Below w.heap.size w (w.alloc (.cells (arr (pad L)) 68)) := (Below.refl _ _).alloc (Nat.le_refl _) _
  have hr0 : (w.alloc (.cells (arr (pad L)) 68)).rangeAt w.heap.size 0 (ints (pad L)) := Blk.range (vs := ints (pad L)) hB0
  have hc0 := (h1.alloc (.cells (arr (pad L)) 68)).one
  have hu := Tryd.underlying68
  have hiL' : (Tryd.prog.info? 68).map (·.size) = some (ints (pad L)).length := by rw [List.length_map, pad_len hl16]; exact T_info35
  have hw1 : IntKind.i64.wrap ((m : Int) - 1) = (m : Int) - 1 := IntWalk.i64_in _ (by omega)
  have hw2 : IntKind.i64.wrap ((L.length : Int) - ((m : Int) - 1)) = (L.length : Int) - ((m : Int) - 1) := IntWalk.i64_in _ (by omega)
  clear hv
  go_enter Tryd.func48, Tryd.ntmps48
  go_wp2_with fail
  refine wp_region_held_drew (S := fun w' => w'.rangeAt w.heap.size 0 (ints (pad L)) ∧ w'.cell? ⟨g1, 0, none⟩ = some (.int .i64 (m : Int)) ∧ Below w.heap.size w w') (by kernel_rfl) ⟨hr0, hc0, hbel0.trans ((Dr.n _ 1).below _)⟩ (fun hHeld => ?_)
  refine wpAnyH_take (i := 0) (v := _) (by simp only [List.getElem?_toArray, List.getElem?_cons_succ, List.getElem?_cons_zero]; exact rfl) (by kernel_rfl) (by kernel_rfl) (by kernel_rfl) (by intro _ _ _ h; exact h) (yieldsIf_load_mid (by kernel_rfl) _ _ rfl w.heap.size 0 rfl (ints (pad L)) _ (fun _ hw => hw.1) hu rfl hiL') (by assumption) ?_
  simp only [Act.put, List.setIfInBounds_toArray, List.set_cons_zero, List.set_cons_succ, List.toList_toArray]
  refine wpAnyH_take (i := 2) (v := .int .i64 (m : Int)) (by simp only [List.getElem?_toArray, List.getElem?_cons_succ, List.getElem?_cons_zero]; exact rfl) (by kernel_rfl) (by kernel_rfl) (by kernel_rfl) (by intro _ _ _ h; exact h) (Or.inl ⟨by kernel_rfl, by intro w hSw; obtain ⟨hs1, hs2, hs3⟩ := hSw; go_simp⟩) (by assumption) ?_
  simp only [Act.put, List.setIfInBounds_toArray, List.set_cons_zero, List.set_cons_succ, List.toList_toArray]
  refine wpAnyH_take (i := 3) (v := .int .i64 ((m : Int) - 1)) (by simp only [List.getElem?_toArray, List.getElem?_cons_succ, List.getElem?_cons_zero]; exact rfl) (by kernel_rfl) (by kernel_rfl) (by kernel_rfl) (by intro _ _ _ h; exact h) (Or.inl ⟨by kernel_rfl, by intro w hSw; go_simp⟩) (by assumption) ?_
  simp only [Act.put, List.setIfInBounds_toArray, List.set_cons_zero, List.set_cons_succ, List.toList_toArray]
  refine wpAnyH_take (i := 5) (v := .int .i64 0) (by simp only [List.getElem?_toArray, List.getElem?_cons_succ, List.getElem?_cons_zero]; exact rfl) (by kernel_rfl) (by kernel_rfl) (by kernel_rfl) (by intro _ _ _ h; exact h) (Or.inl ⟨by kernel_rfl, by intro w hSw; go_simp⟩) (by assumption) ?_
  simp only [Act.put, List.setIfInBounds_toArray, List.set_cons_zero, List.set_cons_succ, List.toList_toArray]
  refine wpAnyH_ready (rs := [1]) (by kernel_rfl) (by simp) ?_
  refine AllReadyH.cons (o := _) (by simp only [List.getElem?_toArray, List.getElem?_cons_succ, List.getElem?_cons_zero]; exact rfl) (fun K hK => ?_) AllReadyH.nil
  rw [if_pos (by rfl)]
  go_simp
  go_at_call 45
  refine (count_any (pad L) HPL.out _).mono ?_
  rintro e w1 ⟨rfl, hb1⟩
  rw [HC.out]
  refine hK.out _ _ ⟨range_below hHeld.1 hb1, (hb1.cell (p := ⟨g1, 0, none⟩) (Nat.lt_of_lt_of_le h1.lt hHeld.2.2.size)).trans hHeld.2.1, hHeld.2.2.trans (hb1.mono hHeld.2.2.size)⟩ (fun hH2 => ?_)
  clear hK K
  try simp only [Act.put, List.setIfInBounds_toArray, List.set_cons_zero, List.set_cons_succ, List.toList_toArray]
  refine wpAnyH_take (i := 4) (v := .int .i64 ((L.length : Int) - ((m : Int) - 1))) (by simp only [List.getElem?_toArray, List.getElem?_cons_succ, List.getElem?_cons_zero]; exact rfl) (by kernel_rfl) (by kernel_rfl) (by kernel_rfl) (by intro _ _ _ h; exact h) (Or.inl ⟨by kernel_rfl, by intro w hSw; go_simp⟩) (by assumption) ?_
  simp only [Act.put, List.setIfInBounds_toArray, List.set_cons_zero, List.set_cons_succ, List.toList_toArray]
  refine wpAnyH_done (by kernel_rfl) ?_ _
  try simp only [Act.put, List.setIfInBounds_toArray, List.set_cons_zero, List.set_cons_succ]
  have hR1 := hH2.1
  have hK1 := hH2.2.1
  have hbel := hH2.2.2
  clear hH2 hHeld hb1 hr0 hc0 hbel0 hB0 hw1 hw2
  go_wp2_with fail
  go_loopw [4, 10] (fun _ vi wr => ∃ k : Nat, k ≤ L.length - (m - 1) ∧ vi = .int .i64 k ∧ Dr w1 wr ∧ Hid (∀ j, j < k → (fun j => decide (L.getD j 0 ≠ L.getD (j + (m - 1)) 0)) j = true)) (fun _ vi _ => L.length - (intOf vi).toNat)
  case atStart => exact ⟨0, Nat.zero_le _, rfl, Dr.refl _, Lib.hid fun j hj => by omega⟩
  case round =>
    obtain ⟨k, hk, rfl, hdr, HP⟩ := hrel
    obtain ⟨hm1, hm2⟩ := hm
    by_cases hlt : k < L.length - (m - 1)
    · have hlt' : (k : Int) < (L.length : Int) - ((m : Int) - 1) := by omega
      have hk16 : (k : Int) < 16 := by omega
      have hj16 : (k : Int) + (m : Int) - 1 < 16 := by omega
      have hj0 : 0 ≤ (k : Int) + (m : Int) - 1 := by omega
      have hej : ((k : Int) + (m : Int) - 1).toNat = k + (m - 1) := by omega
      have hrw := range_below hR1 (hdr.below _)
      have hkw : wr.cell? ⟨g1, 0, none⟩ = some (.int .i64 (m : Int)) := ((hdr.below w1.heap.size).cell (p := ⟨g1, 0, none⟩) (World.block_lt_of_cell? w1 _ hK1)).trans hK1
      have hx := hrw k (.int .i64 (L.getD k 0)) ((ints_getD (pad L) k (by rw [HPL.out]; omega)).trans (by rw [HPG.out k]))
      have hy := hrw (k + (m - 1)) (.int .i64 (L.getD (k + (m - 1)) 0)) ((ints_getD (pad L) (k + (m - 1)) (by rw [HPL.out]; omega)).trans (by rw [HPG.out (k + (m - 1))]))
      rw [Nat.zero_add] at hx hy
      clear hrw
      obtain ⟨x, hxx⟩ : ∃ x, x = L.getD k 0 := ⟨_, rfl⟩
      obtain ⟨y, hyy⟩ : ∃ y, y = L.getD (k + (m - 1)) 0 := ⟨_, rfl⟩
      rw [← hxx] at hx
      rw [← hyy] at hy
      have HX := Lib.hid hxx
      have HY := Lib.hid hyy
      clear hxx hyy
      obtain ⟨j, hjj⟩ : ∃ j, j = k + (m - 1) := ⟨_, rfl⟩
      have hje : (k : Int) + (m : Int) - 1 = (j : Int) := by omega
      have hjl : j < 16 := by omega
      rw [← hjj] at hy
      have HJ := Lib.hid hjj
      clear hjj hej
      by_cases e1 : x = y
      · have b1 : (x == y) = true := beq_iff_eq.2 e1
        have HF : Hid (kNone m L = false) := Lib.hid (allTo_no hlt (by rw [← HX.out, ← HY.out]; simp [e1]))
        clear e1
        go_wp2_with fail
        go_quiet (fail)
        go_wp2
        go_ret
        exact ⟨ret_bool HF.out.symm, hbel.trans ((hdr.trans (Dr.n _ _)).below _)⟩
      · have b1 : (x == y) = false := beq_eq_false_iff_ne.2 e1
        have HN : Hid (decide (x ≠ y) = true) := Lib.hid (decide_eq_true e1)
        clear e1
        go_wp2_with fail
        go_quiet (fail)
        go_wp2
        go_roundw
        case rel => exact ⟨k + 1, by omega, by go_num, hdr.drewN _, Lib.hid (upto HP.out (by show decide (_ ≠ _) = true; rw [← HX.out, ← HY.out]; exact HN.out))⟩
        case measure => simp [intOf]; omega
    · have hge : ¬ (k : Int) < (L.length : Int) - ((m : Int) - 1) := by omega
      obtain rfl : k = L.length - (m - 1) := by omega
      have HF : Hid (kNone m L = true) := Lib.hid (allTo_yes HP.out)
      clear hlt
      go_wp2
      go_ret
      exact ⟨ret_bool HF.out.symm, hbel.trans (hdr.below _)⟩

set_option maxHeartbeats 2000000 in
theorem bothK_any (g1 g2 : Nat) (v1 v2 : Value) (K1 K2 : List Int → Bool) (L : List Int) (hv : valid L = true) (w : World) (h1 : Blk w g1 38 #[v1]) (h2 : Blk w g2 38 #[v2]) (hK1 : IsK w v1 K1) (hK2 : IsK w v2 K2) :
    Calls Tryd.prog 47 #[.agg (arr (pad L)), .pointer (some ⟨g1, 0, none⟩), .pointer (some ⟨g2, 0, none⟩)] w fun e w' => e = .returned (.bool (K1 L && K2 L)) ∧ Below w.heap.size w w' := by
  obtain ⟨f1, p1, c1, rfl, he1, hc1⟩ := hK1
  obtain ⟨f2, p2, c2, rfl, he2, hc2⟩ := hK2
  have hiL := hiL_of (valid_bd hv).2.2.2
  have HV := Lib.hid hv
  have hB0 := Blk.new w 68 (arr (pad L))
  have hbel0 : Below w.heap.size w (w.alloc (.cells (arr (pad L)) 68)) := (Below.refl _ _).alloc (Nat.le_refl _) _
  have k1 := (h1.alloc (.cells (arr (pad L)) 68)).one
  have h2' := h2.alloc (.cells (arr (pad L)) 68)
  clear hv
  cases ha : K1 L with
  | false =>
    have HA := Lib.hid ha
    clear ha
    go_enter Tryd.func47, Tryd.ntmps47
    go_wp2_with (first
      | (refine wpList_load_row rfl 68 (.tmp 3) rfl w.heap.size rfl 68 (arr (pad L)) (0, 0) _ hB0 Tryd.underlying68 rfl hiL ?_)
      | (refine (hc1 _ hbel0 L HV.out).mono ?_; rintro e w3 ⟨rfl, hb3⟩; rw [HA.out]))
    go_ret
    exact ⟨rfl, hbel0.trans (hb3.mono (by simp))⟩
  | true =>
    have HA := Lib.hid ha
    clear ha
    go_enter Tryd.func47, Tryd.ntmps47
    go_wp2_with (first
      | (refine wpList_load_row rfl 68 (.tmp 3) rfl w.heap.size rfl 68 (arr (pad L)) (0, 0) _ hB0 Tryd.underlying68 rfl hiL ?_)
      | (refine wpList_load_row_g rfl 68 (.tmp 3) rfl w.heap.size rfl 68 (arr (pad L)) (0, 0) _ hB3 Tryd.underlying68 rfl hiL ?_)
      | (refine (hc1 _ hbel0 L HV.out).mono ?_; rintro e w3 ⟨rfl, hb3⟩; rw [HA.out]; have hbel3 := hbel0.trans (hb3.mono hbel0.size); have hB3 := hB0.below hb3 hB0.lt; have k2 := (h2'.below hb3 h2'.lt).one)
      | (refine (hc2 _ hbel3 L HV.out).mono ?_; rintro e w4 ⟨rfl, hb4⟩))
    go_ret
    exact ⟨by simp, hbel3.trans (hb4.mono hbel3.size)⟩
end Go.Proofs.YtmlomapifldlpaaDoor
namespace Go.Proofs.YtmlomapifldlpaaDoor
open Go.RowKit NP
open Go.Maps (Keyed has string_keyed)
open Go.WideMaps (keyOf_string_mk)
set_option maxRecDepth 20000
set_option linter.unusedVariables false
set_option linter.unusedSimpArgs false

/-- every block but b that stood stands as it did -/
def Kept (b : Nat) (w w' : World) : Prop := (∀ g, g < w.heap.size → g ≠ b → w'.heap[g]? = w.heap[g]?) ∧ w.heap.size ≤ w'.heap.size
theorem Kept.refl (b : Nat) (w : World) : Kept b w w := ⟨fun _ _ _ => rfl, Nat.le_refl _⟩
theorem Kept.trans {b : Nat} {w w' w'' : World} (h : Kept b w w') (k : Kept b w' w'') : Kept b w w'' := ⟨fun g hg hne => (k.1 g (Nat.lt_of_lt_of_le hg h.2) hne).trans (h.1 g hg hne), Nat.le_trans h.2 k.2⟩
theorem Kept.ofBelow {b : Nat} {w w' : World} (h : Below w.heap.size w w') : Kept b w w' := ⟨fun g hg _ => h.block g hg, h.size⟩
theorem Kept.ofGrown {b : Nat} {w w' : World} (h : w.grownBy w' (some b)) : Kept b w w' := ⟨fun g hg hne => h.block g hg (fun e => by injection e with e; exact hne e), h.size⟩
theorem below_chg {B : Nat} {b c w0 : World} {g : Nat} (hb : Below B w0 b) (hB : B ≤ w0.heap.size) (hg : B ≤ g) (h : b.grownBy c (some g)) : Below B w0 c := hb.grown h (by have := hb.size; omega) fun k hk => by injection hk with hk; omega

/-- a function value that tells of each diagram of parts whether K holds of them, wherever the blocks that it captured stand, of which b is none -/
def IsKb (b : Nat) (w : World) (v : Value) (K : List Int → Bool) : Prop := ∃ (f : Nat) (p c : Array Value) (S : Nat → Prop), v = .func (.func f) p c ∧ (∀ (args : Array Value) (w : World), (callFunc f args).run Tryd.prog w = .ok (.enter f args) w) ∧ ¬ S b ∧ (∀ g, S g → g < w.heap.size) ∧
  ∀ w1, (∀ g, S g → w1.heap[g]? = w.heap[g]?) → ∀ L, valid L = true → Calls Tryd.prog f (p.push (.agg (arr (pad L))) ++ c) w1 fun e w2 => e = .returned (.bool (K L)) ∧ Below w1.heap.size w1 w2
theorem IsKb.kept {b : Nat} {w w' : World} {v : Value} {K : List Int → Bool} (h : IsKb b w v K) (k : Kept b w w') : IsKb b w' v K := by
  obtain ⟨f, p, c, S, rfl, he, hb, hS, hh⟩ := h
  exact ⟨f, p, c, S, rfl, he, hb, fun g hg => Nat.lt_of_lt_of_le (hS g hg) k.2, fun w1 h1 => hh w1 fun g hg => (h1 g hg).trans (k.1 g (hS g hg) fun e => hb (e ▸ hg))⟩
theorem IsKb.isK {b : Nat} {w : World} {v : Value} {K : List Int → Bool} (h : IsKb b w v K) : IsK w v K := by
  obtain ⟨f, p, c, S, rfl, he, hb, hS, hh⟩ := h
  exact ⟨f, p, c, rfl, he, fun w1 h1 => hh w1 fun g hg => h1.block g (hS g hg)⟩

theorem eachLeaves_any (m r : Int) (hr : 1 ≤ r ∧ r < m) (hm : m ≤ 100) (w : World) :
    Calls Tryd.prog 25 #[.int .i64 m, .int .i64 r] w fun e w' => ∃ v, e = .returned v ∧ (∀ b, b < w.heap.size ∨ w'.heap.size ≤ b → IsKb b w' v (kRem m r)) ∧ Below w.heap.size w w' := by
  have hmf : ∀ (fn : Fn) (first cap : Array Value) (w : World), (Instr.makeFunc fn first cap).run Tryd.prog w = .ok (.func fn first cap) w := fun _ _ _ _ => rfl
  go_enter Tryd.func25, Tryd.ntmps25
  go_wp2
  go_ret
  refine ⟨_, rfl, fun b hb => ⟨_, _, _, fun g => g = w.heap.size ∨ g = w.heap.size + 1, rfl, enters_of Tryd.func42 (by kernel_rfl) rfl, by simp at hb; omega, fun g hg => by simp; omega, fun w1 h1 L hv => ?_⟩, ((Below.refl _ _).alloc (Nat.le_refl _) _).alloc (by simp) _⟩
  have k1 : Blk w1 w.heap.size 3 #[.int .i64 m] := (h1 _ (.inl rfl)).trans ((Blk.new w 3 #[.int .i64 m]).alloc (.cells #[.int .i64 r] 3))
  have k2 : Blk w1 (w.heap.size + 1) 3 #[.int .i64 r] := (h1 _ (.inr rfl)).trans (by have := Blk.new (w.alloc (.cells #[.int .i64 m] 3)) 3 #[.int .i64 r]; rw [World.size_alloc] at this; exact this)
  have := remK_any m r hr hm w.heap.size (w.heap.size + 1) L hv w1 k1 k2
  simpa using this

theorem eachFallsBy_any (m r : Int) (hr : 0 ≤ r ∧ r ≤ 100) (hm : 0 ≤ m ∧ m ≤ 100) (w : World) :
    Calls Tryd.prog 26 #[.int .i64 m, .int .i64 r] w fun e w' => ∃ v, e = .returned v ∧ (∀ b, b < w.heap.size ∨ w'.heap.size ≤ b → IsKb b w' v (kFall m r)) ∧ Below w.heap.size w w' := by
  have hmf : ∀ (fn : Fn) (first cap : Array Value) (w : World), (Instr.makeFunc fn first cap).run Tryd.prog w = .ok (.func fn first cap) w := fun _ _ _ _ => rfl
  go_enter Tryd.func26, Tryd.ntmps26
  go_wp2
  go_ret
  refine ⟨_, rfl, fun b hb => ⟨_, _, _, fun g => g = w.heap.size ∨ g = w.heap.size + 1, rfl, enters_of Tryd.func44 (by kernel_rfl) rfl, by simp at hb; omega, fun g hg => by simp; omega, fun w1 h1 L hv => ?_⟩, ((Below.refl _ _).alloc (Nat.le_refl _) _).alloc (by simp) _⟩
  have k1 : Blk w1 w.heap.size 3 #[.int .i64 m] := (h1 _ (.inl rfl)).trans ((Blk.new w 3 #[.int .i64 m]).alloc (.cells #[.int .i64 r] 3))
  have k2 : Blk w1 (w.heap.size + 1) 3 #[.int .i64 r] := (h1 _ (.inr rfl)).trans (by have := Blk.new (w.alloc (.cells #[.int .i64 m] 3)) 3 #[.int .i64 r]; rw [World.size_alloc] at this; exact this)
  have := fallK_any m r hm hr w.heap.size (w.heap.size + 1) L hv w1 k1 k2
  simpa using this

theorem noneComes_any (m : Nat) (hm : 2 ≤ m ∧ m ≤ 16) (w : World) :
    Calls Tryd.prog 29 #[.int .i64 (m : Int)] w fun e w' => ∃ v, e = .returned v ∧ (∀ b, b < w.heap.size ∨ w'.heap.size ≤ b → IsKb b w' v (kNone m)) ∧ Below w.heap.size w w' := by
  have hmf : ∀ (fn : Fn) (first cap : Array Value) (w : World), (Instr.makeFunc fn first cap).run Tryd.prog w = .ok (.func fn first cap) w := fun _ _ _ _ => rfl
  go_enter Tryd.func29, Tryd.ntmps29
  go_wp2
  go_ret
  refine ⟨_, rfl, fun b hb => ⟨_, _, _, fun g => g = w.heap.size, rfl, enters_of Tryd.func48 (by kernel_rfl) rfl, by simp at hb; omega, fun g hg => by simp; omega, fun w1 h1 L hv => ?_⟩, (Below.refl _ _).alloc (Nat.le_refl _) _⟩
  have k1 : Blk w1 w.heap.size 3 #[.int .i64 (m : Int)] := (h1 _ rfl).trans (Blk.new w 3 #[.int .i64 (m : Int)])
  have := noneK_any m hm w.heap.size L hv w1 k1
  simpa using this

theorem both_any (v1 v2 : Value) (K1 K2 : List Int → Bool) (b : Nat) (w : World) (hb : b < w.heap.size) (h1 : IsKb b w v1 K1) (h2 : IsKb b w v2 K2) :
    Calls Tryd.prog 28 #[v1, v2] w fun e w' => ∃ v, e = .returned v ∧ IsKb b w' v (fun L => K1 L && K2 L) ∧ Below w.heap.size w w' := by
  have hmf : ∀ (fn : Fn) (first cap : Array Value) (w : World), (Instr.makeFunc fn first cap).run Tryd.prog w = .ok (.func fn first cap) w := fun _ _ _ _ => rfl
  obtain ⟨f1, p1, c1, S1, rfl, he1, hb1, hS1, hh1⟩ := h1
  obtain ⟨f2, p2, c2, S2, rfl, he2, hb2, hS2, hh2⟩ := h2
  go_enter Tryd.func28, Tryd.ntmps28
  go_wp2
  go_ret
  refine ⟨_, rfl, ⟨_, _, _, fun g => g = w.heap.size ∨ g = w.heap.size + 1 ∨ S1 g ∨ S2 g, rfl, enters_of Tryd.func47 (by kernel_rfl) rfl, ?_, ?_, fun w1 h1 L hv => ?_⟩, ((Below.refl _ _).alloc (Nat.le_refl _) _).alloc (by simp) _⟩
  · rintro (h | h | h | h)
    · omega
    · omega
    · exact hb1 h
    · exact hb2 h
  · intro g hg
    simp
    rcases hg with h | h | h | h
    · omega
    · omega
    · have := hS1 g h; omega
    · have := hS2 g h; omega
  · have hst : ∀ g, g < w.heap.size → ((w.alloc (.cells #[.func (.func f1) p1 c1] 38)).alloc (.cells #[.func (.func f2) p2 c2] 38)).heap[g]? = w.heap[g]? := fun g hg =>
      (Below.heap_alloc _ _ g (by simp; omega)).trans (Below.heap_alloc _ _ g hg)
    have k1 : Blk w1 w.heap.size 38 #[.func (.func f1) p1 c1] := (h1 _ (.inl rfl)).trans ((Blk.new w 38 #[.func (.func f1) p1 c1]).alloc (.cells #[.func (.func f2) p2 c2] 38))
    have k2 : Blk w1 (w.heap.size + 1) 38 #[.func (.func f2) p2 c2] := (h1 _ (.inr (.inl rfl))).trans (by have := Blk.new (w.alloc (.cells #[.func (.func f1) p1 c1] 38)) 38 #[.func (.func f2) p2 c2]; rw [World.size_alloc] at this; exact this)
    have i1 : IsK w1 (.func (.func f1) p1 c1) K1 := ⟨f1, p1, c1, rfl, he1, fun w2 hw2 => hh1 w2 fun g hg => ((hw2.block g (by rcases Nat.lt_or_ge g w1.heap.size with h | h; exact h; exact absurd (h1 g (.inr (.inr (.inl hg)))) (by rw [Array.getElem?_eq_none h, hst g (hS1 g hg), Array.getElem?_eq_getElem (hS1 g hg)]; simp))).trans (h1 g (.inr (.inr (.inl hg))))).trans (hst g (hS1 g hg))⟩
    have i2 : IsK w1 (.func (.func f2) p2 c2) K2 := ⟨f2, p2, c2, rfl, he2, fun w2 hw2 => hh2 w2 fun g hg => ((hw2.block g (by rcases Nat.lt_or_ge g w1.heap.size with h | h; exact h; exact absurd (h1 g (.inr (.inr (.inr hg)))) (by rw [Array.getElem?_eq_none h, hst g (hS2 g hg), Array.getElem?_eq_getElem (hS2 g hg)]; simp))).trans (h1 g (.inr (.inr (.inr hg))))).trans (hst g (hS2 g hg))⟩
    have := bothK_any w.heap.size (w.heap.size + 1) _ _ K1 K2 L hv w1 k1 k2 i1 i2
    simpa using this
theorem selfKb (b : Nat) (w : World) : IsKb b w (.func (.func 27) #[] #[]) kSelf :=
  ⟨_, _, _, fun _ => False, rfl, enters_of Tryd.func27 (by kernel_rfl) rfl, id, fun _ h => h.elim, fun w1 _ L hv => by have := selfK_any L hv w1; simpa using this⟩
theorem noOneKb (b : Nat) (w : World) : IsKb b w (.func (.func 30) #[] #[]) kNoOne :=
  ⟨_, _, _, fun _ => False, rfl, enters_of Tryd.func30 (by kernel_rfl) rfl, id, fun _ h => h.elim, fun w1 _ L hv => by have := noOneK_any L hv w1; simpa using this⟩

/-- how a function's value reads: as itself -/
def rdF (v : Value) : Option (DataW Value × List MemPlace) := some (.held v, [])
/-- block b is a map of at most n entries by names: f tells what stands at a name -/
def KM (w : World) (b n : Nat) (f : List UInt8 → Option Value) : Prop := ∃ D : DataW Value, w.ownsMap Tryd.prog 9 rdF b n D ∧
  ∀ l : List UInt8, (f l = none → has D (.string l) = false) ∧ (∀ v, f l = some v → has D (.string l) = true ∧ ∀ z, D.atKey (.string l) z = .held v)
def upd (f : List UInt8 → Option Value) (k : List UInt8) (v : Value) (l : List UInt8) : Option Value := if l = k then some v else f l
theorem T_law : Keyed Tryd.prog 9 := string_keyed Tryd.underlying9
theorem KM.made (w : World) : KM (w.alloc (.map #[] 0)) w.heap.size 0 (fun _ => none) :=
  ⟨.map [], World.ownsMap_made w _ _ _, fun l => ⟨fun _ => rfl, fun v h => by cases h⟩⟩
theorem KM.below {w w' : World} {b n : Nat} {f : List UInt8 → Option Value} (h : KM w b n f) (hb : Below w.heap.size w w') : KM w' b n f := by
  obtain ⟨D, hD, hf⟩ := h
  exact ⟨D, hD.kept (row := none) ⟨hb.os, hb.tape, hb.output, hb.size, fun g hg _ => hb.block g hg⟩ (by simp), hf⟩
theorem KM.lt {w : World} {b n : Nat} {f : List UInt8 → Option Value} (h : KM w b n f) : b < w.heap.size := by
  obtain ⟨D, hD, hf⟩ := h
  exact hD.lt
theorem KM.put {w : World} {b n : Nat} {f : List UInt8 → Option Value} (h : KM w b n f) (hn : n < maxLen) (s : ByteArray) (hs : s.size ≤ maxLen) (u : Value) :
    ∃ w', (Instr.mapUpdate 40 (.map (some b)) (.string s) u).run Tryd.prog w = .ok () w' ∧ KM w' b (n + 1) (upd f s.data.toList u) ∧ w.grownBy w' (some b) := by
  obtain ⟨D, hD, hf⟩ := h
  have hk := keyOf_string_mk (P := Tryd.prog) Tryd.underlying9 hs
  obtain ⟨w', h1, h2, h3⟩ := hD.update T_law Tryd.underlying40 hn hk (d := .held u) (ps := []) rfl
  have hkl : WideAt.IsKeyLit (.string s.data.toList) := T_law.key hk
  refine ⟨w', h1, ⟨_, h2, fun l => ?_⟩, h3⟩
  unfold upd
  by_cases e : l = s.data.toList
  · subst e
    rw [if_pos rfl]
    refine ⟨fun h => (by cases h), fun v hv => ?_⟩
    injection hv with hv
    subst hv
    exact ⟨Maps.has_put_same hD.isMap hkl _, fun z => Maps.atKey_put_same hD.isMap hkl _ z⟩
  · have hne : (Lit.string l) ≠ (Lit.string s.data.toList) := fun h => e (by injection h)
    rw [if_neg e]
    exact ⟨fun h => (Maps.has_put_other hne _).trans ((hf l).1 h), fun v hv => ⟨(Maps.has_put_other hne _).trans ((hf l).2 v hv).1, fun z => (Maps.atKey_put_other hne _ z).trans (((hf l).2 v hv).2 z)⟩⟩
theorem wpList_insert_km (w : World) {ops : Array Oper} {rest : List Oper} {o : Oper} {a : Act} {Q : Exit → Act → World → Prop} (hg : o.guard = none) (m x v : Operand) (hop : o.op = Op.insert 40 m x v)
    (b n : Nat) (f : List UInt8 → Option Value) (hm : a.eval m = .map (some b)) (hkm : KM w b n f) (hn : n < maxLen) (s : ByteArray) (hs : s.size ≤ maxLen) (hx : a.eval x = .string s) (u : Value) (hv : a.eval v = u)
    (hK : ∀ w', KM w' b (n + 1) (upd f s.data.toList u) → w.grownBy w' (some b) → wpList Tryd.prog ops Q rest (a.put o.dst undef) w') : wpList Tryd.prog ops Q (o :: rest) a w := by
  refine wpList_plain hg fun K' hK' => ?_
  obtain ⟨w', hrun, r1, r2⟩ := hkm.put hn s hs u
  unfold Oper.wp
  simp [execOp, hop, hm, hx, hv, hrun, Result.andThen]
  exact hK' _ _ (hK w' r1 r2)
theorem T_zeroK (w : World) : (zeroValue 38).run Tryd.prog w = .ok .nilFunc w := by kernel_rfl
theorem KM.look {w : World} {b n : Nat} {f : List UInt8 → Option Value} (h : KM w b n f) (s : ByteArray) (hs : s.size ≤ maxLen) {v : Value} (hv : f s.data.toList = some v) :
    (Instr.lookup 40 (.map (some b)) (.string s) false).run Tryd.prog w = .ok v w := by
  obtain ⟨D, hD, hf⟩ := h
  obtain ⟨v', ps, hrun, hr⟩ := hD.lookup T_law Tryd.underlying40 (T_zeroK w) (zd := .held .nilFunc) (zp := []) rfl (keyOf_string_mk (P := Tryd.prog) Tryd.underlying9 hs)
  rw [((hf _).2 v hv).2 _] at hr
  unfold rdF at hr
  injection hr with hr
  injection hr with hr _
  injection hr with hr
  rw [hrun, hr]
theorem KM.look_ok {w : World} {b n : Nat} {f : List UInt8 → Option Value} (h : KM w b n f) (s : ByteArray) (hs : s.size ≤ maxLen) {v : Value} (hv : f s.data.toList = some v) :
    (Instr.lookup 40 (.map (some b)) (.string s) true).run Tryd.prog w = .ok (.tuple #[v, .bool true]) w := by
  obtain ⟨D, hD, hf⟩ := h
  obtain ⟨v', ps, hrun, hr⟩ := hD.look_ok T_law Tryd.underlying40 (T_zeroK w) (zd := .held .nilFunc) (zp := []) rfl (keyOf_string_mk (P := Tryd.prog) Tryd.underlying9 hs)
  rw [((hf _).2 v hv).2 _] at hr
  rw [((hf _).2 v hv).1] at hrun
  unfold rdF at hr
  injection hr with hr
  injection hr with hr _
  injection hr with hr
  rw [hrun, hr]
theorem KM.look_no {w : World} {b n : Nat} {f : List UInt8 → Option Value} (h : KM w b n f) (s : ByteArray) (hs : s.size ≤ maxLen) (hv : f s.data.toList = none) :
    (Instr.lookup 40 (.map (some b)) (.string s) true).run Tryd.prog w = .ok (.tuple #[.nilFunc, .bool false]) w := by
  obtain ⟨D, hD, hf⟩ := h
  obtain ⟨v', ps, hrun, hr⟩ := hD.look_ok T_law Tryd.underlying40 (T_zeroK w) (zd := .held .nilFunc) (zp := []) rfl (keyOf_string_mk (P := Tryd.prog) Tryd.underlying9 hs)
  rw [Maps.atKey_of_not_has ((hf _).1 hv)] at hr
  rw [(hf _).1 hv] at hrun
  unfold rdF at hr
  injection hr with hr
  injection hr with hr _
  injection hr with hr
  rw [hrun, hr]

/-- the kind of a name -/
def kindOf (l : List UInt8) : Option (List Int → Bool) :=
  if l = [115, 105, 120] then some (kRem 6 1)
  else if l = [115, 99, 104, 117, 114] then some (kFall 3 4)
  else if l = [102, 105, 118, 101, 116, 119, 111] then some (kRem 5 2)
  else if l = [103, 97, 112, 111, 110, 101] then some (fun L => kFall 2 2 L && kNoOne L)
  else if l = [102, 105, 118, 101] then some (kRem 5 1)
  else if l = [103, 97, 112] then some (kFall 2 2)
  else if l = [116, 119, 105, 99, 101] then some (kNone 3)
  else if l = [110, 111, 116, 116, 104, 114, 101, 101] then some (kRem 3 1)
  else if l = [100, 105, 115, 116, 105, 110, 99, 116, 111, 100, 100] then some (fun L => kRem 2 1 L && kFall 1 1 L)
  else if l = [115, 101, 108, 102] then some (kSelf)
  else if l = [100, 105, 115, 116, 105, 110, 99, 116] then some (kFall 1 1)
  else if l = [111, 100, 100] then some (kRem 2 1)
  else none
theorem kindOf_odd : kindOf [111, 100, 100] = some (kRem 2 1) := by unfold kindOf; simp
theorem kindOf_distinct : kindOf [100, 105, 115, 116, 105, 110, 99, 116] = some (kFall 1 1) := by unfold kindOf; simp
theorem kindOf_self : kindOf [115, 101, 108, 102] = some (kSelf) := by unfold kindOf; simp
theorem kindOf_distinctodd : kindOf [100, 105, 115, 116, 105, 110, 99, 116, 111, 100, 100] = some (fun L => kRem 2 1 L && kFall 1 1 L) := by unfold kindOf; simp
theorem kindOf_notthree : kindOf [110, 111, 116, 116, 104, 114, 101, 101] = some (kRem 3 1) := by unfold kindOf; simp
theorem kindOf_twice : kindOf [116, 119, 105, 99, 101] = some (kNone 3) := by unfold kindOf; simp
theorem kindOf_gap : kindOf [103, 97, 112] = some (kFall 2 2) := by unfold kindOf; simp
theorem kindOf_five : kindOf [102, 105, 118, 101] = some (kRem 5 1) := by unfold kindOf; simp
theorem kindOf_gapone : kindOf [103, 97, 112, 111, 110, 101] = some (fun L => kFall 2 2 L && kNoOne L) := by unfold kindOf; simp
theorem kindOf_fivetwo : kindOf [102, 105, 118, 101, 116, 119, 111] = some (kRem 5 2) := by unfold kindOf; simp
theorem kindOf_schur : kindOf [115, 99, 104, 117, 114] = some (kFall 3 4) := by unfold kindOf; simp
theorem kindOf_six : kindOf [115, 105, 120] = some (kRem 6 1) := by unfold kindOf; simp
/-- what stands in the map of kinds -/
def KTab (w : World) (b : Nat) (f : List UInt8 → Option Value) : Prop := ∀ l, match kindOf l with
  | some K => ∃ v, f l = some v ∧ IsKb b w v K
  | none => f l = none

set_option maxRecDepth 8000 in
set_option maxHeartbeats 8000000 in
theorem kindsByName_any (w : World) :
    Calls Tryd.prog 16 #[] w fun e w' => ∃ b n f, e = .returned (.map (some b)) ∧ KM w' b n f ∧ KTab w' b f ∧ Below w.heap.size w w' := by
  have hmm := fun w : World => run_makeMap (P := Tryd.prog) 40 w
  go_enter Tryd.func16, Tryd.ntmps16
  go_wp2_with (first
    | (refine wpList_insert_km _ rfl (.tmp 7) (.const (.string ⟨#[115, 105, 120]⟩)) (.tmp 21) rfl w3.heap.size 11 _ rfl km22 (by decide) ⟨#[115, 105, 120]⟩ (by decide) rfl v22 rfl ?_; intro w23 km23 hg23; have s22 : Kept w3.heap.size w22 w23 := .ofGrown hg23; have bl23 := below_chg bl22 (Nat.le_refl _) bl3.size hg23)
    | (go_at_call 25; refine (eachLeaves_any 6 1 (by omega) (by omega) _).mono ?_; rintro e w22 ⟨v22, rfl, ik22, hb22⟩; have s21 : Kept w3.heap.size w21 w22 := .ofBelow hb22; have bl22 := bl21.trans (hb22.mono bl21.size); have km22 := km21.below hb22; have k22 := ik22 w3.heap.size (.inl km21.lt))
    | (refine wpList_insert_km _ rfl (.tmp 7) (.const (.string ⟨#[115, 99, 104, 117, 114]⟩)) (.tmp 20) rfl w3.heap.size 10 _ rfl km20 (by decide) ⟨#[115, 99, 104, 117, 114]⟩ (by decide) rfl v20 rfl ?_; intro w21 km21 hg21; have s20 : Kept w3.heap.size w20 w21 := .ofGrown hg21; have bl21 := below_chg bl20 (Nat.le_refl _) bl3.size hg21)
    | (go_at_call 26; refine (eachFallsBy_any 3 4 (by omega) (by omega) _).mono ?_; rintro e w20 ⟨v20, rfl, ik20, hb20⟩; have s19 : Kept w3.heap.size w19 w20 := .ofBelow hb20; have bl20 := bl19.trans (hb20.mono bl19.size); have km20 := km19.below hb20; have k20 := ik20 w3.heap.size (.inl km19.lt))
    | (refine wpList_insert_km _ rfl (.tmp 7) (.const (.string ⟨#[102, 105, 118, 101, 116, 119, 111]⟩)) (.tmp 19) rfl w3.heap.size 9 _ rfl km18 (by decide) ⟨#[102, 105, 118, 101, 116, 119, 111]⟩ (by decide) rfl v18 rfl ?_; intro w19 km19 hg19; have s18 : Kept w3.heap.size w18 w19 := .ofGrown hg19; have bl19 := below_chg bl18 (Nat.le_refl _) bl3.size hg19)
    | (go_at_call 25; refine (eachLeaves_any 5 2 (by omega) (by omega) _).mono ?_; rintro e w18 ⟨v18, rfl, ik18, hb18⟩; have s17 : Kept w3.heap.size w17 w18 := .ofBelow hb18; have bl18 := bl17.trans (hb18.mono bl17.size); have km18 := km17.below hb18; have k18 := ik18 w3.heap.size (.inl km17.lt))
    | (refine wpList_insert_km _ rfl (.tmp 7) (.const (.string ⟨#[103, 97, 112, 111, 110, 101]⟩)) (.tmp 18) rfl w3.heap.size 8 _ rfl km16 (by decide) ⟨#[103, 97, 112, 111, 110, 101]⟩ (by decide) rfl v16 rfl ?_; intro w17 km17 hg17; have s16 : Kept w3.heap.size w16 w17 := .ofGrown hg17; have bl17 := below_chg bl16 (Nat.le_refl _) bl3.size hg17)
    | (go_at_call 28; refine (both_any v3 _ (kFall 2 2) kNoOne w3.heap.size _ km15.lt (k3.kept (s3.trans (s4.trans (s5.trans (s6.trans (s7.trans (s8.trans (s9.trans (s10.trans (s11.trans (s12.trans (s13.trans (s14))))))))))))) (noOneKb _ _)).mono ?_; rintro e w16 ⟨v16, rfl, ik16, hb16⟩; have s15 : Kept w3.heap.size w15 w16 := .ofBelow hb16; have bl16 := bl15.trans (hb16.mono bl15.size); have km16 := km15.below hb16; have k16 := ik16)
    | (refine wpList_insert_km _ rfl (.tmp 7) (.const (.string ⟨#[102, 105, 118, 101]⟩)) (.tmp 16) rfl w3.heap.size 7 _ rfl km14 (by decide) ⟨#[102, 105, 118, 101]⟩ (by decide) rfl v14 rfl ?_; intro w15 km15 hg15; have s14 : Kept w3.heap.size w14 w15 := .ofGrown hg15; have bl15 := below_chg bl14 (Nat.le_refl _) bl3.size hg15)
    | (go_at_call 25; refine (eachLeaves_any 5 1 (by omega) (by omega) _).mono ?_; rintro e w14 ⟨v14, rfl, ik14, hb14⟩; have s13 : Kept w3.heap.size w13 w14 := .ofBelow hb14; have bl14 := bl13.trans (hb14.mono bl13.size); have km14 := km13.below hb14; have k14 := ik14 w3.heap.size (.inl km13.lt))
    | (refine wpList_insert_km _ rfl (.tmp 7) (.const (.string ⟨#[103, 97, 112]⟩)) (.tmp 15) rfl w3.heap.size 6 _ rfl km12 (by decide) ⟨#[103, 97, 112]⟩ (by decide) rfl v3 rfl ?_; intro w13 km13 hg13; have s12 : Kept w3.heap.size w12 w13 := .ofGrown hg13; have bl13 := below_chg bl12 (Nat.le_refl _) bl3.size hg13)
    | (refine wpList_insert_km _ rfl (.tmp 7) (.const (.string ⟨#[116, 119, 105, 99, 101]⟩)) (.tmp 14) rfl w3.heap.size 5 _ rfl km11 (by decide) ⟨#[116, 119, 105, 99, 101]⟩ (by decide) rfl v11 rfl ?_; intro w12 km12 hg12; have s11 : Kept w3.heap.size w11 w12 := .ofGrown hg12; have bl12 := below_chg bl11 (Nat.le_refl _) bl3.size hg12)
    | (go_at_call 29; refine (noneComes_any 3 (by omega) _).mono ?_; rintro e w11 ⟨v11, rfl, ik11, hb11⟩; have s10 : Kept w3.heap.size w10 w11 := .ofBelow hb11; have bl11 := bl10.trans (hb11.mono bl10.size); have km11 := km10.below hb11; have k11 := ik11 w3.heap.size (.inl km10.lt))
    | (refine wpList_insert_km _ rfl (.tmp 7) (.const (.string ⟨#[110, 111, 116, 116, 104, 114, 101, 101]⟩)) (.tmp 13) rfl w3.heap.size 4 _ rfl km9 (by decide) ⟨#[110, 111, 116, 116, 104, 114, 101, 101]⟩ (by decide) rfl v9 rfl ?_; intro w10 km10 hg10; have s9 : Kept w3.heap.size w9 w10 := .ofGrown hg10; have bl10 := below_chg bl9 (Nat.le_refl _) bl3.size hg10)
    | (go_at_call 25; refine (eachLeaves_any 3 1 (by omega) (by omega) _).mono ?_; rintro e w9 ⟨v9, rfl, ik9, hb9⟩; have s8 : Kept w3.heap.size w8 w9 := .ofBelow hb9; have bl9 := bl8.trans (hb9.mono bl8.size); have km9 := km8.below hb9; have k9 := ik9 w3.heap.size (.inl km8.lt))
    | (refine wpList_insert_km _ rfl (.tmp 7) (.const (.string ⟨#[100, 105, 115, 116, 105, 110, 99, 116, 111, 100, 100]⟩)) (.tmp 12) rfl w3.heap.size 3 _ rfl km7 (by decide) ⟨#[100, 105, 115, 116, 105, 110, 99, 116, 111, 100, 100]⟩ (by decide) rfl v7 rfl ?_; intro w8 km8 hg8; have s7 : Kept w3.heap.size w7 w8 := .ofGrown hg8; have bl8 := below_chg bl7 (Nat.le_refl _) bl3.size hg8)
    | (go_at_call 28; refine (both_any v1 v2 (kRem 2 1) (kFall 1 1) w3.heap.size _ km6.lt (k1.kept (s1.trans (s2.trans (s3.trans (s4.trans (s5)))))) (k2.kept (s2.trans (s3.trans (s4.trans (s5)))))).mono ?_; rintro e w7 ⟨v7, rfl, ik7, hb7⟩; have s6 : Kept w3.heap.size w6 w7 := .ofBelow hb7; have bl7 := bl6.trans (hb7.mono bl6.size); have km7 := km6.below hb7; have k7 := ik7)
    | (refine wpList_insert_km _ rfl (.tmp 7) (.const (.string ⟨#[115, 101, 108, 102]⟩)) (.func 27) rfl w3.heap.size 2 _ rfl km5 (by decide) ⟨#[115, 101, 108, 102]⟩ (by decide) rfl (.func (.func 27) #[] #[]) rfl ?_; intro w6 km6 hg6; have s5 : Kept w3.heap.size w5 w6 := .ofGrown hg6; have bl6 := below_chg bl5 (Nat.le_refl _) bl3.size hg6)
    | (refine wpList_insert_km _ rfl (.tmp 7) (.const (.string ⟨#[100, 105, 115, 116, 105, 110, 99, 116]⟩)) (.tmp 9) rfl w3.heap.size 1 _ rfl km4 (by decide) ⟨#[100, 105, 115, 116, 105, 110, 99, 116]⟩ (by decide) rfl v2 rfl ?_; intro w5 km5 hg5; have s4 : Kept w3.heap.size w4 w5 := .ofGrown hg5; have bl5 := below_chg bl4 (Nat.le_refl _) bl3.size hg5)
    | (refine wpList_insert_km _ rfl (.tmp 7) (.const (.string ⟨#[111, 100, 100]⟩)) (.tmp 8) rfl w3.heap.size 0 _ rfl km3 (by decide) ⟨#[111, 100, 100]⟩ (by decide) rfl v1 rfl ?_; intro w4 km4 hg4; have s3 : Kept w3.heap.size (w3.alloc (.map #[] 0)) w4 := .ofGrown hg4; have bl4 := below_chg bl3a (Nat.le_refl _) bl3.size hg4)
    | (go_at_call 26; refine (eachFallsBy_any 2 2 (by omega) (by omega) _).mono ?_; rintro e w3 ⟨v3, rfl, ik3, hb3⟩; have bl3 := bl2.trans (hb3.mono bl2.size); have s1 : Kept w3.heap.size w1 w2 := .ofBelow hb2; have s3a : Kept w3.heap.size w3 (w3.alloc (.map #[] 0)) := .ofBelow ((Below.refl _ _).alloc (Nat.le_refl _) _); have s2 : Kept w3.heap.size w2 (w3.alloc (.map #[] 0)) := (Kept.ofBelow hb3).trans s3a; have km3 := KM.made w3; have bl3a := bl3.alloc bl3.size (.map #[] 0); have k1 := ik1 w3.heap.size (.inr (Nat.le_trans hb2.size hb3.size)); have k2 := ik2 w3.heap.size (.inr hb3.size); have k3 := (ik3 w3.heap.size (.inr (Nat.le_refl _))).kept s3a)
    | (go_at_call 26; refine (eachFallsBy_any 1 1 (by omega) (by omega) _).mono ?_; rintro e w2 ⟨v2, rfl, ik2, hb2⟩; have bl2 := bl1.trans (hb2.mono bl1.size))
    | (go_at_call 25; refine (eachLeaves_any 2 1 (by omega) (by omega) _).mono ?_; rintro e w1 ⟨v1, rfl, ik1, hb1⟩; have bl1 : Below w.heap.size w w1 := hb1))
  go_ret
  refine ⟨_, rfl, _, _, km23, fun l => ?_, bl23⟩
  by_cases e0 : l = [115, 105, 120]
  · subst e0
    rw [kindOf_six]
    exact ⟨_, by simp [upd], k22.kept (s22)⟩
  by_cases e1 : l = [115, 99, 104, 117, 114]
  · subst e1
    rw [kindOf_schur]
    exact ⟨_, by simp [upd], k20.kept (s20.trans (s21.trans (s22)))⟩
  by_cases e2 : l = [102, 105, 118, 101, 116, 119, 111]
  · subst e2
    rw [kindOf_fivetwo]
    exact ⟨_, by simp [upd], k18.kept (s18.trans (s19.trans (s20.trans (s21.trans (s22)))))⟩
  by_cases e3 : l = [103, 97, 112, 111, 110, 101]
  · subst e3
    rw [kindOf_gapone]
    exact ⟨_, by simp [upd], k16.kept (s16.trans (s17.trans (s18.trans (s19.trans (s20.trans (s21.trans (s22)))))))⟩
  by_cases e4 : l = [102, 105, 118, 101]
  · subst e4
    rw [kindOf_five]
    exact ⟨_, by simp [upd], k14.kept (s14.trans (s15.trans (s16.trans (s17.trans (s18.trans (s19.trans (s20.trans (s21.trans (s22)))))))))⟩
  by_cases e5 : l = [103, 97, 112]
  · subst e5
    rw [kindOf_gap]
    exact ⟨_, by simp [upd], k3.kept (s3.trans (s4.trans (s5.trans (s6.trans (s7.trans (s8.trans (s9.trans (s10.trans (s11.trans (s12.trans (s13.trans (s14.trans (s15.trans (s16.trans (s17.trans (s18.trans (s19.trans (s20.trans (s21.trans (s22))))))))))))))))))))⟩
  by_cases e6 : l = [116, 119, 105, 99, 101]
  · subst e6
    rw [kindOf_twice]
    exact ⟨_, by simp [upd], k11.kept (s11.trans (s12.trans (s13.trans (s14.trans (s15.trans (s16.trans (s17.trans (s18.trans (s19.trans (s20.trans (s21.trans (s22))))))))))))⟩
  by_cases e7 : l = [110, 111, 116, 116, 104, 114, 101, 101]
  · subst e7
    rw [kindOf_notthree]
    exact ⟨_, by simp [upd], k9.kept (s9.trans (s10.trans (s11.trans (s12.trans (s13.trans (s14.trans (s15.trans (s16.trans (s17.trans (s18.trans (s19.trans (s20.trans (s21.trans (s22))))))))))))))⟩
  by_cases e8 : l = [100, 105, 115, 116, 105, 110, 99, 116, 111, 100, 100]
  · subst e8
    rw [kindOf_distinctodd]
    exact ⟨_, by simp [upd], k7.kept (s7.trans (s8.trans (s9.trans (s10.trans (s11.trans (s12.trans (s13.trans (s14.trans (s15.trans (s16.trans (s17.trans (s18.trans (s19.trans (s20.trans (s21.trans (s22))))))))))))))))⟩
  by_cases e9 : l = [115, 101, 108, 102]
  · subst e9
    rw [kindOf_self]
    exact ⟨_, by simp [upd], selfKb (w3.heap.size) _⟩
  by_cases e10 : l = [100, 105, 115, 116, 105, 110, 99, 116]
  · subst e10
    rw [kindOf_distinct]
    exact ⟨_, by simp [upd], k2.kept (s2.trans (s3.trans (s4.trans (s5.trans (s6.trans (s7.trans (s8.trans (s9.trans (s10.trans (s11.trans (s12.trans (s13.trans (s14.trans (s15.trans (s16.trans (s17.trans (s18.trans (s19.trans (s20.trans (s21.trans (s22)))))))))))))))))))))⟩
  by_cases e11 : l = [111, 100, 100]
  · subst e11
    rw [kindOf_odd]
    exact ⟨_, by simp [upd], k1.kept (s1.trans (s2.trans (s3.trans (s4.trans (s5.trans (s6.trans (s7.trans (s8.trans (s9.trans (s10.trans (s11.trans (s12.trans (s13.trans (s14.trans (s15.trans (s16.trans (s17.trans (s18.trans (s19.trans (s20.trans (s21.trans (s22))))))))))))))))))))))⟩
  have hn : kindOf l = none := by unfold kindOf; simp [e0, e1, e2, e3, e4, e5, e6, e7, e8, e9, e10, e11]
  rw [hn]
  simp [upd, e0, e1, e2, e3, e4, e5, e6, e7, e8, e9, e10, e11]
end Go.Proofs.YtmlomapifldlpaaDoor
namespace Go.Proofs.YtmlomapifldlpaaDoor
open Go.RowKit NP
set_option maxRecDepth 8000
set_option linter.unusedVariables false
set_option linter.unusedSimpArgs false
/-- parts of the kind of this name -/
def kindF (s : List UInt8) (L : List Int) : Bool := valid L && (match kindOf s with | some K => K L | none => false)
theorem kindF_none {s : List UInt8} (h : kindOf s = none) (L : List Int) : kindF s L = false := by unfold kindF; rw [h]; simp
theorem kindF_some {s : List UInt8} {K : List Int → Bool} (h : kindOf s = some K) (L : List Int) : kindF s L = (valid L && K L) := by unfold kindF; rw [h]

end Go.Proofs.YtmlomapifldlpaaDoor
