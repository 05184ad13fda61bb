/-
  Plain mathematics of orders: rows trimmed of zeros, meets, dominance and conjugates, ranks and cranks.
-/
import Derived.Test.YthafbdpeignccaaM17
namespace Go.Proofs.Ythafbdpeignccaa
namespace NP
set_option linter.unusedVariables false
/-- the first n values that are above 0 -/
def tr (f : Nat → Int) (n : Nat) : List Int := ((List.range n).map f).filter fun x => decide (0 < x)
def sf (f : Nat → Int) : Nat → Int
  | 0 => 0
  | n + 1 => sf f n + f n
theorem tr_succ (f : Nat → Int) (n : Nat) : tr f (n + 1) = tr f n ++ if 0 < f n then [f n] else [] := by
  unfold tr
  rw [List.range_succ, List.map_append, List.filter_append]
  congr 1
  simp only [List.map_cons, List.map_nil, List.filter_cons, List.filter_nil, decide_eq_true_eq]
theorem tr_len (f : Nat → Int) (n : Nat) : (tr f n).length ≤ n := by
  have h := List.length_filter_le (fun x => decide (0 < x)) ((List.range n).map f)
  simpa [tr] using h
theorem tr_full {f : Nat → Int} {n : Nat} (h : ∀ i, i < n → 0 < f i) : tr f n = (List.range n).map f := by
  unfold tr
  rw [List.filter_eq_self]
  intro x hx
  simp only [List.mem_map, List.mem_range] at hx
  obtain ⟨i, hi, rfl⟩ := hx
  simpa using h i hi
theorem map_getD (f : Nat → Int) (n j : Nat) : ((List.range n).map f).getD j 0 = if j < n then f j else 0 := by
  by_cases h : j < n
  · rw [if_pos h, List.getD_eq_getElem?_getD, List.getElem?_eq_getElem (by simpa using h)]
    simp
  · rw [if_neg h, List.getD_eq_getElem?_getD, List.getElem?_eq_none (by simp; omega)]
    rfl
theorem fall_le {f : Nat → Int} (hf : ∀ i, f (i + 1) ≤ f i) {i j : Nat} (h : i ≤ j) : f j ≤ f i := by
  induction j with
  | zero => obtain rfl : i = 0 := by omega
            exact Int.le_refl _
  | succ j ih =>
    by_cases e : i = j + 1
    · rw [e]; exact Int.le_refl _
    · exact Int.le_trans (hf j) (ih (by omega))
theorem tr_getD {f : Nat → Int} (hf : ∀ i, f (i + 1) ≤ f i) (h0 : ∀ i, 0 ≤ f i) (n j : Nat) : (tr f n).getD j 0 = if j < n then f j else 0 := by
  induction n with
  | zero => rfl
  | succ n ih =>
    by_cases h : 0 < f n
    · rw [tr_full (fun i hi => Int.lt_of_lt_of_le h (fall_le hf (by omega))), map_getD]
    · rw [tr_succ, if_neg h, List.append_nil, ih]
      have := h0 n
      by_cases h1 : j < n
      · rw [if_pos h1, if_pos (by omega)]
      · rw [if_neg h1]
        by_cases h2 : j = n
        · subst h2; rw [if_pos (by omega)]; omega
        · rw [if_neg (by omega)]
theorem tr_pos {f : Nat → Int} {n : Nat} {x : Int} (h : x ∈ tr f n) : 0 < x := by
  unfold tr at h
  rw [List.mem_filter] at h
  simpa using h.2
theorem sum_tr {f : Nat → Int} (h0 : ∀ i, 0 ≤ f i) (n : Nat) : sumL (tr f n) = sf f n := by
  induction n with
  | zero => rfl
  | succ n ih =>
    rw [tr_succ, sumL_append, ih, sf]
    have := h0 n
    by_cases h : 0 < f n
    · rw [if_pos h]; simp [sumL]
    · rw [if_neg h]; simp [sumL]; omega
theorem sf_le {f : Nat → Int} (h0 : ∀ i, 0 ≤ f i) {i n : Nat} (h : i < n) : f i ≤ sf f n ∧ 0 ≤ sf f n := by
  induction n with
  | zero => omega
  | succ n ih =>
    have h1 := h0 n
    have hn : 0 ≤ sf f n := by
      clear ih h h1
      induction n with
      | zero => exact Int.le_refl _
      | succ n ih => have := h0 n; rw [sf]; omega
    rw [sf]
    by_cases e : i = n
    · subst e; omega
    · have := ih (by omega); omega
theorem valid_tr {f : Nat → Int} (hf : ∀ i, f (i + 1) ≤ f i) (h0 : ∀ i, 0 ≤ f i) {n : Nat} (hs : sf f n ≤ 16) : valid (tr f n) = true := by
  apply valid_of_preS
  · intro j hj _
    have e := tr_getD hf h0 n j
    have hp := tr_pos (List.getElem_mem hj)
    rw [getD_lt hj] at e
    have hjn : j < n := by have := tr_len f n; omega
    rw [if_pos hjn] at e
    have hb := sf_le h0 hjn
    refine ⟨by omega, by omega, fun h1 => ?_⟩
    have e2 := tr_getD hf h0 n (j - 1)
    rw [getD_lt (by omega), if_pos (by omega)] at e2
    have := hf (j - 1)
    rw [show j - 1 + 1 = j by omega] at this
    omega
  · rw [sum_tr h0]; exact hs
theorem pad_tr {f : Nat → Int} (hf : ∀ i, f (i + 1) ≤ f i) (h0 : ∀ i, 0 ≤ f i) : pad (tr f 16) = (List.range 16).map f := by
  have hl := tr_len f 16
  apply List.ext_getElem
  · rw [pad_len hl]; simp
  · intro j h1 h2
    have e := pad_getD hl j
    rw [getD_lt h1, tr_getD hf h0] at e
    simp at h2
    rw [e, if_pos h2]
    simp
theorem tr_more {f : Nat → Int} {n m : Nat} (h : n ≤ m) (hz : ∀ i, n ≤ i → f i = 0) : tr f m = tr f n := by
  induction m with
  | zero => obtain rfl : n = 0 := by omega
            rfl
  | succ m ih =>
    by_cases e : n = m + 1
    · rw [e]
    · rw [tr_succ, ih (by omega), hz m (by omega), if_neg (by omega), List.append_nil]
theorem tr_self {L : List Int} (hv : valid L = true) {n : Nat} (h : L.length ≤ n) : tr (fun i => L.getD i 0) n = L := by
  rw [tr_more h (fun i hi => getD_ge hi), tr_full (fun i hi => by have := getD_pos hv hi; omega)]
  apply List.ext_getElem
  · simp
  · intro j h1 h2
    rw [List.getElem_map, List.getElem_range, getD_lt h2]
theorem tr_congr {f g : Nat → Int} {n : Nat} (h : ∀ i, i < n → f i = g i) : tr f n = tr g n := by
  unfold tr
  rw [List.map_congr_left fun i hi => h i (by simpa using hi)]
theorem getD_fall' {L : List Int} (hv : valid L = true) (i : Nat) : L.getD (i + 1) 0 ≤ L.getD i 0 := getD_fall hv (i + 1) (by omega)

/-! what both have, and what has both -/
def lo2 (P Q : List Int) (i : Nat) : Int := min (P.getD i 0) (Q.getD i 0)
def hi2 (P Q : List Int) (i : Nat) : Int := max (P.getD i 0) (Q.getD i 0)
def cutL (P Q : List Int) : List Int := tr (lo2 P Q) 16
def cutH (P Q : List Int) : List Int := tr (hi2 P Q) 16
section
variable {P Q : List Int}
theorem lo2_fall (hp : valid P = true) (hq : valid Q = true) (i : Nat) : lo2 P Q (i + 1) ≤ lo2 P Q i := by
  have := getD_fall' hp i; have := getD_fall' hq i; unfold lo2; omega
theorem hi2_fall (hp : valid P = true) (hq : valid Q = true) (i : Nat) : hi2 P Q (i + 1) ≤ hi2 P Q i := by
  have := getD_fall' hp i; have := getD_fall' hq i; unfold hi2; omega
theorem lo2_nn (hp : valid P = true) (hq : valid Q = true) (i : Nat) : 0 ≤ lo2 P Q i := by
  have := getD_nn hp i; have := getD_nn hq i; unfold lo2; omega
theorem hi2_nn (hp : valid P = true) (hq : valid Q = true) (i : Nat) : 0 ≤ hi2 P Q i := by
  have := getD_nn hp i; have := getD_nn hq i; unfold hi2; omega
theorem sf_sumTo (L : List Int) (n : Nat) : sf (fun i => L.getD i 0) n = sumTo L n := by
  induction n with
  | zero => rfl
  | succ n ih => rw [sf, sumTo, ih]
theorem sf_cut (P Q : List Int) (n : Nat) : sf (lo2 P Q) n + sf (hi2 P Q) n = sumTo P n + sumTo Q n := by
  induction n with
  | zero => rfl
  | succ n ih => rw [sf, sf, sumTo, sumTo]; unfold lo2 hi2 at *; omega
theorem sf_lo_le (hp : valid P = true) (hq : valid Q = true) (n : Nat) : sf (lo2 P Q) n ≤ sumTo P n := by
  induction n with
  | zero => exact Int.le_refl _
  | succ n ih => rw [sf, sumTo]; have : lo2 P Q n ≤ P.getD n 0 := by unfold lo2; omega
                 omega
end
/-- the cut rows fit -/
def cutOk (P Q : List Int) : Bool := valid P && valid Q && decide (sf (hi2 P Q) 16 ≤ 16)
def cutLF (P Q : List Int) : List Int := if cutOk P Q then cutL P Q else []
def cutHF (P Q : List Int) : List Int := if cutOk P Q then cutH P Q else []
theorem cutOk_out {P Q : List Int} (h : cutOk P Q = true) : valid P = true ∧ valid Q = true ∧ sf (hi2 P Q) 16 ≤ 16 := by
  unfold cutOk at h
  simp only [Bool.and_eq_true, decide_eq_true_eq] at h
  exact ⟨h.1.1, h.1.2, h.2⟩
theorem valid_cutL {P Q : List Int} (hp : valid P = true) (hq : valid Q = true) : valid (cutL P Q) = true := by
  have h1 := sf_lo_le hp hq 16
  rw [sumTo_all P 16 (valid_bd hp).2.2.2] at h1
  exact valid_tr (lo2_fall hp hq) (lo2_nn hp hq) (by have := (valid_bd hp).2.1; omega)
theorem valid_cutH {P Q : List Int} (h : cutOk P Q = true) : valid (cutH P Q) = true := by
  obtain ⟨hp, hq, hs⟩ := cutOk_out h
  exact valid_tr (hi2_fall hp hq) (hi2_nn hp hq) hs

/-- are the rows of Q inside of those of P -/
def ins (P Q : List Int) : Bool := valid P && valid Q && (List.range 16).all fun i => decide (Q.getD i 0 ≤ P.getD i 0)
theorem ins_iff {P Q : List Int} : ins P Q = true ↔ valid P = true ∧ valid Q = true ∧ ∀ i, Q.getD i 0 ≤ P.getD i 0 := by
  unfold ins
  simp only [Bool.and_eq_true, List.all_eq_true, List.mem_range, decide_eq_true_eq]
  constructor
  · rintro ⟨⟨hp, hq⟩, h⟩
    refine ⟨hp, hq, fun i => ?_⟩
    rcases Nat.lt_or_ge i 16 with hi | hi
    · exact h i hi
    · rw [getD_ge (Nat.le_trans (valid_bd hq).2.2.2 hi)]; exact (getD_nn hp i).1
  · rintro ⟨hp, hq, h⟩
    exact ⟨⟨hp, hq⟩, fun i _ => h i⟩

/-! first sums -/
def mf (P Q : List Int) (k : Nat) : Int := min (sumTo P k) (sumTo Q k)
def mi (P Q : List Int) (i : Nat) : Int := mf P Q (i + 1) - mf P Q i
def mt (P Q : List Int) : List Int := tr (mi P Q) 16
theorem sf_mi (P Q : List Int) (n : Nat) : sf (mi P Q) n = mf P Q n := by
  induction n with
  | zero => simp [sf, mf, sumTo]
  | succ n ih => rw [sf, ih]; unfold mi; omega
section
variable {P Q : List Int}
theorem mi_fall (hp : valid P = true) (hq : valid Q = true) (i : Nat) : mi P Q (i + 1) ≤ mi P Q i := by
  have := getD_fall' hp i; have := getD_fall' hq i; unfold mi mf; simp only [sumTo]; omega
theorem mi_nn (hp : valid P = true) (hq : valid Q = true) (i : Nat) : 0 ≤ mi P Q i := by
  have := getD_nn hp i; have := getD_nn hq i; unfold mi mf; simp only [sumTo]; omega
theorem mf_end (hp : valid P = true) (hq : valid Q = true) : mf P Q 16 = min (sumL P) (sumL Q) := by
  unfold mf; rw [sumTo_all P 16 (valid_bd hp).2.2.2, sumTo_all Q 16 (valid_bd hq).2.2.2]
theorem valid_mt (hp : valid P = true) (hq : valid Q = true) : valid (mt P Q) = true := by
  refine valid_tr (mi_fall hp hq) (mi_nn hp hq) ?_
  rw [sf_mi, mf_end hp hq]
  have := (valid_bd hp).2.1
  omega
theorem pad_mt (hp : valid P = true) (hq : valid Q = true) : pad (mt P Q) = (List.range 16).map (mi P Q) := pad_tr (mi_fall hp hq) (mi_nn hp hq)
theorem sum_mt (hp : valid P = true) (hq : valid Q = true) : sumL (mt P Q) = min (sumL P) (sumL Q) := by
  unfold mt
  rw [sum_tr (mi_nn hp hq), sf_mi, mf_end hp hq]
theorem sumTo_mt (hp : valid P = true) (hq : valid Q = true) {k : Nat} (hk : k ≤ 16) : sumTo (mt P Q) k = mf P Q k := by
  induction k with
  | zero => simp [sumTo, mf]
  | succ k ih =>
    rw [sumTo, ih (by omega)]
    unfold mt
    rw [tr_getD (mi_fall hp hq) (mi_nn hp hq), if_pos (by omega)]
    unfold mi
    omega
theorem eq_of_sumTo (hp : valid P = true) (hq : valid Q = true) (h : ∀ k, k ≤ 16 → sumTo P k = sumTo Q k) : P = Q := by
  refine valid_ext hp hq fun j => ?_
  rcases Nat.lt_or_ge j 16 with hj | hj
  · have h1 := h j (by omega)
    have h2 := h (j + 1) (by omega)
    simp only [sumTo] at h2
    omega
  · rw [getD_ge (Nat.le_trans (valid_bd hp).2.2.2 hj), getD_ge (Nat.le_trans (valid_bd hq).2.2.2 hj)]
theorem mt_right (hp : valid P = true) (hq : valid Q = true) : mt P Q = Q ↔ ∀ k, k ≤ 16 → sumTo Q k ≤ sumTo P k := by
  constructor
  · intro h k hk
    have := sumTo_mt hp hq hk
    rw [h] at this
    unfold mf at this
    omega
  · intro h
    refine eq_of_sumTo (valid_mt hp hq) hq fun k hk => ?_
    rw [sumTo_mt hp hq hk]
    have := h k hk
    unfold mf
    omega
theorem mt_comm (P Q : List Int) : mt P Q = mt Q P := by
  unfold mt
  refine tr_congr fun i _ => ?_
  unfold mi mf
  omega
end
/-- P dominates Q -/
def dom (P Q : List Int) : Bool := valid P && valid Q && decide (sumL P = sumL Q) && (List.range 17).all fun k => decide (sumTo Q k ≤ sumTo P k)
theorem dom_iff {P Q : List Int} : dom P Q = true ↔ valid P = true ∧ valid Q = true ∧ sumL P = sumL Q ∧ ∀ k, k ≤ 16 → sumTo Q k ≤ sumTo P k := by
  unfold dom
  simp only [Bool.and_eq_true, List.all_eq_true, List.mem_range, decide_eq_true_eq]
  constructor
  · rintro ⟨⟨⟨hp, hq⟩, hs⟩, h⟩; exact ⟨hp, hq, hs, fun k hk => h k (by omega)⟩
  · rintro ⟨hp, hq, hs, h⟩; exact ⟨⟨⟨hp, hq⟩, hs⟩, fun k hk => h k (by omega)⟩

/-! the other way round -/
def csum (j : Nat) (L : List Int) : Int := sumL ((List.range j).map fun (t : Nat) => cnt ((t : Int) + 1) L)
theorem csum_cons (j : Nat) (x : Int) (r : List Int) : csum j (x :: r) = tsum j x + csum j r := by
  unfold csum
  induction j with
  | zero => rfl
  | succ j ih =>
    have e2 : tsum (j + 1) x = tsum j x + if (j : Int) + 1 ≤ x then 1 else 0 := by
      simp [tsum, List.range_succ, sumL_append, sumL]
    rw [List.range_succ, List.map_append, sumL_append, ih, List.map_append, sumL_append, e2]
    simp [cnt, sumL]; omega
theorem csum_nil (j : Nat) : csum j [] = 0 := by
  unfold csum
  induction j with
  | zero => rfl
  | succ j ih => rw [List.range_succ, List.map_append, sumL_append, ih]; simp [cnt, sumL]
theorem sumTo_conj {L : List Int} (hv : valid L = true) (j : Nat) : sumTo (conj L) j = csum j L := by
  unfold csum
  induction j with
  | zero => rfl
  | succ j ih => rw [sumTo, ih, conj_getD hv, List.range_succ, List.map_append, sumL_append]; simp [sumL]
theorem tsum_full (n : Nat) (x : Int) (h : (n : Int) ≤ x) : tsum n x = n := by
  induction n with
  | zero => simp [tsum, sumL]
  | succ n ih =>
    have e2 : tsum (n + 1) x = tsum n x + if (n : Int) + 1 ≤ x then 1 else 0 := by
      simp [tsum, List.range_succ, sumL_append, sumL]
    rw [e2, ih (by omega), if_pos (by omega)]
    omega
theorem cells_le (j : Nat) : ∀ (L : List Int) (k : Nat), (∀ x ∈ L, 0 ≤ x) → sumL (L.take k) + csum j L ≤ sumL L + (k : Int) * (j : Int)
  | [], k, _ => by
    rw [csum_nil]
    have : (0 : Int) ≤ (k : Int) * (j : Int) := Int.mul_nonneg (by omega) (by omega)
    simp [sumL]; exact this
  | x :: r, 0, h => by
    have ih := cells_le j r 0 fun y hy => h y (by simp [hy])
    have h1 := (tsum_le j x (h x (by simp))).1
    rw [csum_cons]
    simp [sumL] at ih ⊢
    omega
  | x :: r, k + 1, h => by
    have ih := cells_le j r k fun y hy => h y (by simp [hy])
    have h1 := (tsum_le j x (h x (by simp))).2
    rw [csum_cons]
    have e : ((k + 1 : Nat) : Int) * (j : Int) = (k : Int) * (j : Int) + (j : Int) := by rw [Int.natCast_add, Int.add_mul]; simp
    rw [e]
    simp only [List.take_succ_cons, sumL]
    omega
theorem cells_eq (j : Nat) : ∀ (L : List Int), mono L → (∀ x ∈ L, 0 ≤ x) → sumL (L.take (cnt ((j : Int) + 1) L).toNat) + csum j L = sumL L + cnt ((j : Int) + 1) L * (j : Int)
  | [], _, _ => by simp [csum_nil, cnt, sumL]
  | x :: r, hm, h => by
    by_cases hx : (j : Int) + 1 ≤ x
    · have ih := cells_eq j r hm.2 fun y hy => h y (by simp [hy])
      have hc := cnt_bd ((j : Int) + 1) r
      have e : cnt ((j : Int) + 1) (x :: r) = cnt ((j : Int) + 1) r + 1 := by rw [cnt, if_pos hx]; omega
      rw [e, csum_cons, tsum_full j x (by omega), show (cnt ((j : Int) + 1) r + 1).toNat = (cnt ((j : Int) + 1) r).toNat + 1 by omega, List.take_succ_cons, Int.add_mul]
      simp only [sumL]
      omega
    · have e : cnt ((j : Int) + 1) (x :: r) = 0 := cnt_none fun y hy => by
        rcases List.mem_cons.1 hy with rfl | hy
        · omega
        · have := hm.1 y hy; omega
      rw [e]
      have h2 : csum j (x :: r) = sumL (x :: r) := csum_eq j _ fun y hy => ⟨h y hy, by
        rcases List.mem_cons.1 hy with rfl | hy
        · omega
        · have := hm.1 y hy; omega⟩
      rw [h2]
      simp [sumL]
theorem dual {P Q : List Int} (hp : valid P = true) (hq : valid Q = true) (hs : sumL P = sumL Q) (h : ∀ k, k ≤ 16 → sumTo Q k ≤ sumTo P k) (j : Nat) : sumTo (conj P) j ≤ sumTo (conj Q) j := by
  rw [sumTo_conj hp, sumTo_conj hq]
  have hc := cnt_bd ((j : Int) + 1) Q
  have h1 := cells_eq j Q (mono_valid hq) (valid_nonneg hq)
  have h2 := cells_le j P (cnt ((j : Int) + 1) Q).toNat (valid_nonneg hp)
  have h3 := h (cnt ((j : Int) + 1) Q).toNat (by have := (valid_bd hq).2.2.2; omega)
  rw [sumTo_take, sumTo_take] at h3
  rw [show (((cnt ((j : Int) + 1) Q).toNat : Nat) : Int) = cnt ((j : Int) + 1) Q by omega] at h2
  omega
theorem dom_conj {P Q : List Int} (hp : valid P = true) (hq : valid Q = true) : dom (conj Q) (conj P) = dom P Q := by
  have key : ∀ {P Q : List Int}, dom P Q = true → dom (conj Q) (conj P) = true := by
    intro P Q h
    obtain ⟨hp, hq, hs, hk⟩ := dom_iff.1 h
    exact dom_iff.2 ⟨valid_conj hq, valid_conj hp, by rw [sumL_conj hp, sumL_conj hq, hs], fun k _ => dual hp hq hs hk k⟩
  rw [Bool.eq_iff_iff]
  refine ⟨fun h => ?_, key⟩
  have := key h
  rwa [conj_conj hp, conj_conj hq] at this
theorem conj_inj {P Q : List Int} (hp : valid P = true) (hq : valid Q = true) : conj P = conj Q ↔ P = Q :=
  ⟨fun h => by rw [← conj_conj hp, h, conj_conj hq], fun h => by rw [h]⟩
theorem pad_inj {P Q : List Int} (hp : valid P = true) (hq : valid Q = true) : pad P = pad Q ↔ P = Q :=
  ⟨fun h => valid_ext hp hq fun j => by rw [← pad_getD (valid_bd hp).2.2.2, h, pad_getD (valid_bd hq).2.2.2], fun h => by rw [h]⟩
/-- what is above both -/
def jn (P Q : List Int) : List Int := conj (mt (conj P) (conj Q))
theorem valid_jn {P Q : List Int} (hp : valid P = true) (hq : valid Q = true) : valid (jn P Q) = true := valid_conj (valid_mt (valid_conj hp) (valid_conj hq))
/-- the program's question: they are their own bounds -/
theorem dom_bounds {P Q : List Int} (hp : valid P = true) (hq : valid Q = true) : dom P Q = (decide (mt P Q = Q) && decide (jn P Q = P)) := by
  have h2 : jn P Q = P ↔ ∀ k, k ≤ 16 → sumTo (conj P) k ≤ sumTo (conj Q) k := by
    rw [← mt_right (valid_conj hq) (valid_conj hp), mt_comm, ← conj_inj (valid_jn hp hq) hp]
    unfold jn
    rw [conj_conj (valid_mt (valid_conj hp) (valid_conj hq))]
  rw [Bool.eq_iff_iff, Bool.and_eq_true, decide_eq_true_eq, decide_eq_true_eq, dom_iff, mt_right hp hq, h2]
  constructor
  · rintro ⟨_, _, hs, h⟩; exact ⟨h, fun k _ => dual hp hq hs h k⟩
  · rintro ⟨h, h'⟩
    refine ⟨hp, hq, ?_, h⟩
    have a1 := h 16 (by omega)
    have a2 := h' 16 (by omega)
    rw [sumTo_all _ 16 (valid_bd hp).2.2.2, sumTo_all _ 16 (valid_bd hq).2.2.2] at a1
    rw [sumTo_all _ 16 (valid_bd (valid_conj hp)).2.2.2, sumTo_all _ 16 (valid_bd (valid_conj hq)).2.2.2, sumL_conj hp, sumL_conj hq] at a2
    omega
theorem ins_bounds {P Q : List Int} (hp : valid P = true) (hq : valid Q = true) : ins P Q = (decide ((List.range 16).map (lo2 P Q) = pad Q) && decide ((List.range 16).map (hi2 P Q) = pad P)) := by
  rw [Bool.eq_iff_iff, Bool.and_eq_true, decide_eq_true_eq, decide_eq_true_eq, ins_iff]
  have hpl := (valid_bd hp).2.2.2
  have hql := (valid_bd hq).2.2.2
  constructor
  · rintro ⟨_, _, h⟩
    constructor
    · apply List.ext_getElem
      · rw [pad_len hql]; simp
      · intro j h1 h2
        rw [← getD_lt h2, pad_getD hql]
        simp only [List.getElem_map, List.getElem_range]
        have := h j
        unfold lo2; omega
    · apply List.ext_getElem
      · rw [pad_len hpl]; simp
      · intro j h1 h2
        rw [← getD_lt h2, pad_getD hpl]
        simp only [List.getElem_map, List.getElem_range]
        have := h j
        unfold hi2; omega
  · rintro ⟨h, _⟩
    refine ⟨hp, hq, fun i => ?_⟩
    rcases Nat.lt_or_ge i 16 with hi | hi
    · have e := congrArg (fun l => l.getD i 0) h
      rw [map_getD, if_pos hi, pad_getD hql] at e
      unfold lo2 at e
      omega
    · rw [getD_ge (by omega)]; exact (getD_nn hp i).1

/-! ranks and cranks -/
def rnk (L : List Int) : Int := if valid L then L.headD 0 - L.length else 0
def crk (L : List Int) : Int := if valid L then (if eqc 1 L = 0 then L.headD 0 else cnt (eqc 1 L + 1) L - eqc 1 L) else 0
theorem rnk_yes {L : List Int} (h : valid L = true) : rnk L = L.headD 0 - L.length := by simp [rnk, h]
theorem rnk_no {L : List Int} (h : valid L = false) : rnk L = 0 := by simp [rnk, h]
theorem crk_yes {L : List Int} (h : valid L = true) : crk L = if eqc 1 L = 0 then L.headD 0 else cnt (eqc 1 L + 1) L - eqc 1 L := by simp [crk, h]
theorem crk_no {L : List Int} (h : valid L = false) : crk L = 0 := by simp [crk, h]
end NP
end Go.Proofs.Ythafbdpeignccaa
namespace Go.Proofs.Ythafbdpeignccaa
namespace NP
theorem head_le_sum {L : List Int} (h : valid L = true) : 0 ≤ L.headD 0 ∧ L.headD 0 ≤ sumL L ∧ (0 < L.length → 1 ≤ L.headD 0) := by
  cases L with
  | nil => simp [sumL]
  | cons x r =>
    have h0 := valid_nonneg h
    have h1 := (elem_le_sum h0 (q := 0) (by simp)).1
    have h2 := valid_ge1 h x (by simp)
    simp at h1 ⊢
    omega
theorem rnk_facts {P : List Int} (h : valid P = true) : rnk (conj P) = -rnk P ∧ rnk P < max (sumL P) 1 ∧ -rnk P < max (sumL P) 1 ∧ -16 ≤ rnk P ∧ rnk P ≤ 16 := by
  have hb := valid_bd h
  have h1 := head_le_sum h
  have hc := head_conj h
  have hcb := headD_bd (valid_conj h)
  rw [rnk_yes h, rnk_yes (valid_conj h), conj_len]
  by_cases h0 : 0 < P.length
  · have := h1.2.2 h0
    omega
  · obtain rfl : P = [] := List.eq_nil_of_length_eq_zero (by omega)
    simp [conj, sumL]
    omega
end NP
end Go.Proofs.Ythafbdpeignccaa
namespace Go.Proofs.Ythafbdpeignccaa
namespace NP
theorem cnt_le_sum {L : List Int} (h : ∀ x ∈ L, 1 ≤ x) (t : Int) : cnt t L ≤ sumL L ∧ 0 ≤ sumL L := by
  induction L with
  | nil => simp [cnt, sumL]
  | cons x r ih =>
    have h1 := ih fun y hy => h y (by simp [hy])
    have h2 := h x (by simp)
    rw [cnt, sumL]
    split <;> omega
theorem eqc_le_sum {L : List Int} (h : ∀ x ∈ L, 1 ≤ x) (t : Int) : eqc t L ≤ sumL L := by
  induction L with
  | nil => simp [eqc, sumL]
  | cons x r ih =>
    have h1 := ih fun y hy => h y (by simp [hy])
    have h2 := h x (by simp)
    rw [eqc_cons, sumL]
    split <;> omega
theorem crk_facts {P : List Int} (h : valid P = true) (h0 : 0 < P.length) : crk P ≤ sumL P ∧ -crk P ≤ sumL P ∧ (P[P.length - 1]'(by omega) = 1 ∨ crk P = P[0]) ∧ -16 ≤ crk P ∧ crk P ≤ 16 ∧ 1 ≤ P[P.length - 1]'(by omega) ∧ P[P.length - 1]'(by omega) ≤ 16 := by
  have hb := valid_bd h
  have h1 := head_le_sum h
  have hg := valid_ge1 h
  have hc := cnt_le_sum hg (eqc 1 P + 1)
  have hcb := cnt_bd (eqc 1 P + 1) P
  have he := eqc_le_sum hg 1
  have heb := eqc_bd 1 P
  have hl := hg _ (List.getElem_mem (show P.length - 1 < P.length by omega))
  have hl2 := preS_of_valid h (P.length - 1) (by omega) (by omega)
  have h0' : P.headD 0 = P[0] := headD_get P h0
  rw [crk_yes h]
  by_cases hz : eqc 1 P = 0
  · rw [if_pos hz]
    refine ⟨h1.2.1, by omega, .inr h0', by omega, by omega, hl, hl2.2.1⟩
  · rw [if_neg hz]
    have hm : (1 : Int) ∈ P := eqc_mem (by omega)
    obtain ⟨q, hq, e⟩ := List.mem_iff_getElem.1 hm
    have hf := falls_all h (P.length - 1) q (by omega) (by omega)
    refine ⟨by omega, by omega, .inl (by omega), by omega, by omega, hl, hl2.2.1⟩
end NP
end Go.Proofs.Ythafbdpeignccaa
