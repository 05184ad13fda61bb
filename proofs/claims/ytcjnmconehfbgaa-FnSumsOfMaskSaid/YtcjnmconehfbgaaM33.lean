/-
  Plain mathematics of summands: they are bits (an end or not behind each but the last), turned, linked, opposite. No Go text.
-/
import Derived.Test.YtcjnmconehfbgaaMath
namespace Go.Proofs.Ytcjnmconehfbgaa
namespace NP
/-- the bits of summands: whether one ends -/
def toB : List Int → List Bool
  | [] => []
  | [x] => List.replicate (x - 1).toNat false
  | x :: y :: r => List.replicate (x - 1).toNat false ++ true :: toB (y :: r)
/-- 1 more for the first -/
def bump : List Int → List Int
  | [] => []
  | x :: r => (x + 1) :: r
/-- the summands of bits -/
def ofB : List Bool → List Int
  | [] => [1]
  | true :: b => 1 :: ofB b
  | false :: b => bump (ofB b)
def addHd (r : Int) : List Int → List Int
  | [] => [r]
  | x :: t => (r + x) :: t
def bval : List Bool → Nat
  | [] => 0
  | b :: r => (if b then 1 else 0) + 2 * bval r
def bitsN (m : Nat) : Nat → List Bool
  | 0 => []
  | k + 1 => bitsN m k ++ [decide (m / 2 ^ k % 2 = 1)]

theorem ofB_ne (b : List Bool) : ∃ x r, ofB b = x :: r := by
  induction b with
  | nil => exact ⟨1, [], rfl⟩
  | cons c b ih =>
    obtain ⟨x, r, h⟩ := ih
    cases c with
    | true => exact ⟨1, ofB b, rfl⟩
    | false => exact ⟨x + 1, r, by simp [ofB, h, bump]⟩
theorem ofB_sum (b : List Bool) : sumL (ofB b) = b.length + 1 := by
  induction b with
  | nil => rfl
  | cons c b ih =>
    cases c with
    | true => simp [ofB, sumL, ih]; omega
    | false =>
      obtain ⟨x, r, h⟩ := ofB_ne b
      simp [ofB, h, bump, sumL] at ih ⊢
      omega
theorem ofB_pos (b : List Bool) : ∀ x ∈ ofB b, 1 ≤ x := by
  induction b with
  | nil => intro x hx; simp [ofB] at hx; omega
  | cons c b ih =>
    intro x hx
    cases c with
    | true =>
      simp [ofB] at hx
      rcases hx with hx | hx
      · omega
      · exact ih x hx
    | false =>
      obtain ⟨y, r, h⟩ := ofB_ne b
      rw [h] at ih
      simp [ofB, h, bump] at hx
      rcases hx with hx | hx
      · have := ih y (by simp); omega
      · exact ih x (by simp [hx])
theorem ofB_zeros (k : Nat) (b : List Bool) : ofB (List.replicate k false ++ b) = addHd k (ofB b) := by
  induction k with
  | zero => obtain ⟨x, r, h⟩ := ofB_ne b; simp [h, addHd]
  | succ k ih =>
    rw [List.replicate_succ, List.cons_append]
    show bump (ofB _) = _
    rw [ih]
    obtain ⟨x, r, h⟩ := ofB_ne b
    simp [h, addHd, bump]; omega
theorem ofB_toB : ∀ (L : List Int), L ≠ [] → (∀ x ∈ L, 1 ≤ x) → ofB (toB L) = L
  | [], h, _ => absurd rfl h
  | [x], _, hp => by
    have := ofB_zeros (x - 1).toNat []
    have h1 := hp x (by simp)
    rw [List.append_nil] at this
    simp only [toB, this, ofB, addHd]
    congr 1; omega
  | x :: y :: r, _, hp => by
    have h1 := hp x (by simp)
    have ih := ofB_toB (y :: r) (by simp) (fun z hz => hp z (List.mem_cons_of_mem _ hz))
    simp only [toB, ofB_zeros, ofB, ih, addHd]
    congr 1; omega
theorem toB_bump (x : Int) (r : List Int) (h : 1 ≤ x) : toB ((x + 1) :: r) = false :: toB (x :: r) := by
  have e : (x + 1 - 1).toNat = (x - 1).toNat + 1 := by omega
  cases r with
  | nil => simp only [toB, e, List.replicate_succ]
  | cons y t => simp only [toB, e, List.replicate_succ, List.cons_append]
theorem toB_ofB (b : List Bool) : toB (ofB b) = b := by
  induction b with
  | nil => rfl
  | cons c b ih =>
    obtain ⟨x, r, h⟩ := ofB_ne b
    have hp := ofB_pos b
    rw [h] at ih hp
    cases c with
    | true => simp [ofB, h, toB, ih]
    | false => simp only [ofB, h, bump]; rw [toB_bump x r (hp x (by simp)), ih]
theorem ofB_true (a b : List Bool) : ofB (a ++ true :: b) = ofB a ++ ofB b := by
  induction a with
  | nil => rfl
  | cons c a ih =>
    cases c with
    | true => simp [ofB, ih]
    | false =>
      obtain ⟨x, r, h⟩ := ofB_ne a
      simp [ofB, ih, h, bump]
theorem ofB_false (a b : List Bool) : ∀ (out : List Int) (run : Int), ofB a = out ++ [run] → ofB (a ++ false :: b) = out ++ addHd run (ofB b) := by
  induction a with
  | nil =>
    intro out run h
    obtain ⟨x, r, hb⟩ := ofB_ne b
    cases out with
    | nil => simp [ofB] at h; subst h; simp [ofB, hb, bump, addHd] <;> omega
    | cons y t => simp [ofB] at h
  | cons c a ih =>
    intro out run h
    obtain ⟨x, r, ha⟩ := ofB_ne a
    cases c with
    | true =>
      cases out with
      | nil => simp [ofB, ha] at h
      | cons y t =>
        simp [ofB] at h
        obtain ⟨h1, h2⟩ := h
        simp [ofB, ih t run h2, h1]
    | false =>
      cases out with
      | nil =>
        simp [ofB, ha, bump] at h
        obtain ⟨h1, h2⟩ := h
        have := ih [] x (by simp [ha, h2])
        obtain ⟨z, q, hb⟩ := ofB_ne b
        simp [hb, addHd] at this ⊢
        simp [ofB, this, bump]; omega
      | cons y t =>
        simp [ofB, ha, bump] at h
        obtain ⟨h1, h2⟩ := h
        have := ih (x :: t) run (by simp [ha, h2])
        simp at this
        simp [ofB, this, bump, h1]
theorem ofB_rev (b : List Bool) : ofB b.reverse = (ofB b).reverse := by
  induction b with
  | nil => rfl
  | cons c b ih =>
    rw [List.reverse_cons]
    cases c with
    | true => rw [ofB_true, ih]; simp [ofB]
    | false =>
      obtain ⟨x, r, h⟩ := ofB_ne b
      have := ofB_false b.reverse [] r.reverse x (by rw [ih, h]; simp)
      rw [this]
      simp [ofB, h, bump, addHd]
theorem ofB_len (b : List Bool) : (ofB b).length = b.count true + 1 := by
  induction b with
  | nil => rfl
  | cons c b ih =>
    cases c with
    | true => simp [ofB, ih]
    | false =>
      obtain ⟨x, r, h⟩ := ofB_ne b
      simp [ofB, h, bump] at ih ⊢
      omega
theorem count_not (b : List Bool) : (b.map (!·)).count true + b.count true = b.length := by
  induction b with
  | nil => rfl
  | cons c b ih => cases c <;> simp <;> omega
theorem bval_append (a b : List Bool) : bval (a ++ b) = bval a + 2 ^ a.length * bval b := by
  induction a with
  | nil => simp [bval]
  | cons c a ih =>
    simp only [List.cons_append, bval, ih, List.length_cons, Nat.pow_succ]
    have : 2 ^ a.length * 2 * bval b = 2 * (2 ^ a.length * bval b) := by rw [Nat.mul_comm (2 ^ a.length) 2, Nat.mul_assoc]
    rw [this]; omega
theorem bval_lt (b : List Bool) : bval b < 2 ^ b.length := by
  induction b with
  | nil => simp [bval]
  | cons c b ih => simp only [bval, List.length_cons, Nat.pow_succ]; split <;> omega
theorem bval_zeros (k : Nat) : bval (List.replicate k false) = 0 := by
  induction k with
  | zero => rfl
  | succ k ih => simp [List.replicate_succ, bval, ih]
theorem bval_not (b : List Bool) : bval (b.map (!·)) + bval b + 1 = 2 ^ b.length := by
  induction b with
  | nil => rfl
  | cons c b ih =>
    simp only [List.map_cons, bval, List.length_cons, Nat.pow_succ]
    cases c <;> simp <;> omega
theorem bitsN_len (m k : Nat) : (bitsN m k).length = k := by
  induction k with
  | zero => rfl
  | succ k ih => simp [bitsN, ih]
theorem bitsN_cons (m k : Nat) : bitsN m (k + 1) = decide (m % 2 = 1) :: bitsN (m / 2) k := by
  induction k with
  | zero => simp [bitsN]
  | succ k ih =>
    rw [bitsN, ih]
    conv => rhs; rw [bitsN]
    rw [List.cons_append, Nat.div_div_eq_div_mul]
    congr 6
    rw [Nat.pow_succ, Nat.mul_comm]
theorem bitsN_bval' (b : List Bool) : bitsN (bval b) b.length = b := by
  induction b with
  | nil => rfl
  | cons c b ih =>
    rw [List.length_cons, bitsN_cons]
    simp only [bval]
    have e : ((if c = true then 1 else 0) + 2 * bval b) / 2 = bval b := by split <;> omega
    rw [e, ih]
    cases c <;> simp <;> omega
theorem bval_bitsN_mod (m k : Nat) : bval (bitsN m k) = m % 2 ^ k := by
  induction k with
  | zero => simp [bitsN, bval, Nat.mod_one]
  | succ k ih =>
    simp only [bitsN, bval_append, bitsN_len, ih, bval]
    rw [Nat.pow_succ, Nat.mod_mul]
    congr 2
    by_cases h : m / 2 ^ k % 2 = 1
    · simp [h]
    · simp [h]; omega
theorem bval_bitsN {m k : Nat} (h : m < 2 ^ k) : bval (bitsN m k) = m := by rw [bval_bitsN_mod, Nat.mod_eq_of_lt h]
theorem bval_inj {a b : List Bool} (hl : a.length = b.length) (h : bval a = bval b) : a = b := by
  rw [← bitsN_bval' a, ← bitsN_bval' b, h, hl]

/-- whether numbers are summands -/
def vsm (L : List Int) : Bool := L.all (fun x => decide (1 ≤ x)) && decide (sumL L ≤ 16)
theorem vsm_iff {L : List Int} : vsm L = true ↔ (∀ x ∈ L, 1 ≤ x) ∧ sumL L ≤ 16 := by simp [vsm]
theorem sum_len {L : List Int} (h : ∀ x ∈ L, 1 ≤ x) : (L.length : Int) ≤ sumL L := by
  induction L with
  | nil => simp [sumL]
  | cons x r ih =>
    have h1 := h x (by simp)
    have h2 := ih (fun y hy => h y (by simp [hy]))
    simp [sumL]; omega
theorem vsm_bd {L : List Int} (h : vsm L = true) : 0 ≤ sumL L ∧ sumL L ≤ 16 ∧ (L.length : Int) ≤ sumL L ∧ L.length ≤ 16 := by
  rw [vsm_iff] at h
  have := sum_len h.1
  omega
theorem vsm_take {L : List Int} (h : vsm L = true) (k : Nat) : vsm (L.take k) = true := by
  rw [vsm_iff] at *
  have e := congrArg sumL (List.take_append_drop k L)
  rw [sumL_append] at e
  have := sum_len (L := L.drop k) (fun x hx => h.1 x (List.mem_of_mem_drop hx))
  exact ⟨fun x hx => h.1 x (List.mem_of_mem_take hx), by omega⟩
theorem vsm_next {L : List Int} {k : Nat} (hk : k < L.length) (h : vsm (L.take k) = true) (h1 : 1 ≤ L[k]) (h2 : L[k] ≤ 16 - sumL (L.take k)) : vsm (L.take (k + 1)) = true := by
  rw [vsm_iff] at *
  rw [sumL_take_succ L k hk]
  refine ⟨fun x hx => ?_, by omega⟩
  rw [List.take_succ_eq_append_getElem hk, List.mem_append] at hx
  rcases hx with hx | hx
  · exact h.1 x hx
  · simp at hx; omega
theorem vsm_stop {L : List Int} {k : Nat} (hk : k < L.length) (hn : ¬ (1 ≤ L[k] ∧ L[k] ≤ 16 - sumL (L.take k))) : vsm L = false := by
  cases hv : vsm L with
  | false => rfl
  | true =>
    have h1 := vsm_take hv (k + 1)
    rw [vsm_iff] at h1 hv
    rw [sumL_take_succ L k hk] at h1
    exact absurd ⟨hv.1 _ (List.getElem_mem hk), by omega⟩ hn
theorem toB_len : ∀ (L : List Int), (∀ x ∈ L, 1 ≤ x) → (toB L).length = (sumL L - 1).toNat
  | [], _ => rfl
  | [x], h => by simp [toB, sumL]
  | x :: y :: r, h => by
    have h1 := h x (by simp)
    have hy := h y (by simp)
    have hr : ∀ z ∈ y :: r, 1 ≤ z := fun z hz => h z (List.mem_cons_of_mem _ hz)
    have ih := toB_len (y :: r) hr
    have h2 := sum_len hr
    simp only [toB, List.length_append, List.length_replicate, List.length_cons, ih, sumL] at *
    omega
theorem toB_append : ∀ (a b : List Int), a ≠ [] → b ≠ [] → toB (a ++ b) = toB a ++ true :: toB b
  | [], _, h, _ => absurd rfl h
  | [x], [], _, h => absurd rfl h
  | [x], y :: t, _, _ => by simp [toB]
  | x :: y :: r, b, _, hb => by
    have ih := toB_append (y :: r) b (by simp) hb
    simp only [List.cons_append, toB] at ih ⊢
    rw [ih, List.append_assoc, List.cons_append]
/-- the bits of summands as a number -/
def mkN (L : List Int) : Nat := bval (toB L)
/-- the summands of a sum and bits -/
def smk (n m : Nat) : List Int := if n = 0 then [] else ofB (bitsN m (n - 1))
def sgN (L : List Int) : Nat := (sumL L).toNat
theorem mkN_lt {L : List Int} (h : ∀ x ∈ L, 1 ≤ x) : mkN L < 2 ^ (sgN L - 1) := by
  have h1 := bval_lt (toB L)
  rw [toB_len L h] at h1
  unfold mkN sgN
  rwa [show (sumL L).toNat - 1 = (sumL L - 1).toNat by omega]
theorem mkN_next {L : List Int} {k : Nat} (hk : k < L.length) (h0 : 0 < k) (hp : ∀ x ∈ L, 1 ≤ x) : mkN (L.take (k + 1)) = mkN (L.take k) + 2 ^ (sgN (L.take k) - 1) := by
  unfold mkN
  have hpt : ∀ x ∈ L.take k, 1 ≤ x := fun x hx => hp x (List.mem_of_mem_take hx)
  have hne : L.take k ≠ [] := by intro e; have := congrArg List.length e; rw [List.length_take, List.length_nil] at this; omega
  rw [List.take_succ_eq_append_getElem hk, toB_append _ _ hne (by simp), bval_append, toB_len _ hpt]
  simp only [toB, bval, bval_zeros]
  rw [show (sumL (L.take k) - 1).toNat = sgN (L.take k) - 1 by unfold sgN; omega]; simp
theorem smk_mkN {L : List Int} (h : ∀ x ∈ L, 1 ≤ x) : smk (sgN L) (mkN L) = L := by
  unfold smk
  have hs := sum_len h
  by_cases h0 : L = []
  · subst h0; simp [sgN, sumL]
  · have hl : 0 < L.length := List.length_pos_iff.2 h0
    rw [if_neg (by unfold sgN; omega)]
    have e : sgN L - 1 = (toB L).length := by rw [toB_len L h]; unfold sgN; omega
    rw [e, mkN, bitsN_bval' (toB L), ofB_toB L h0 h]
theorem smk_sum (n m : Nat) : sumL (smk n m) = n := by
  unfold smk
  split
  · subst_vars; rfl
  · rw [ofB_sum, bitsN_len]; omega
theorem smk_pos (n m : Nat) : ∀ x ∈ smk n m, 1 ≤ x := by
  unfold smk
  split
  · simp
  · exact ofB_pos _
theorem smk_ok {n : Nat} (m : Nat) (h : n ≤ 16) : vsm (smk n m) = true := vsm_iff.2 ⟨smk_pos n m, by rw [smk_sum]; omega⟩
theorem smk_len (n m : Nat) : (smk n m).length ≤ n := by
  have := sum_len (smk_pos n m)
  rw [smk_sum] at this
  omega
theorem mkN_smk {n m : Nat} (h : m < 2 ^ (n - 1)) : mkN (smk n m) = m := by
  unfold smk mkN
  split
  · subst_vars; simp at h; subst h; rfl
  · rw [toB_ofB, bval_bitsN h]
theorem sgN_smk (n m : Nat) : sgN (smk n m) = n := by unfold sgN; rw [smk_sum]; omega
/-- the sum and the bits that the program tells summands by -/
def smS (L : List Int) : Nat := if vsm L = true then sgN L else 0
def smM (L : List Int) : Nat := if vsm L = true then mkN L else 0
theorem smS_yes {L : List Int} (h : vsm L = true) : smS L = sgN L := by unfold smS; rw [if_pos h]
theorem smM_yes {L : List Int} (h : vsm L = true) : smM L = mkN L := by unfold smM; rw [if_pos h]
theorem smS_no {L : List Int} (h : vsm L = false) : smS L = 0 := by unfold smS; rw [if_neg (by rw [h]; decide)]
theorem smM_no {L : List Int} (h : vsm L = false) : smM L = 0 := by unfold smM; rw [if_neg (by rw [h]; decide)]
theorem smS_le (L : List Int) : smS L ≤ 16 := by
  unfold smS
  split
  · have := vsm_bd (by assumption); unfold sgN; omega
  · omega
theorem smM_lt (L : List Int) : smM L < 2 ^ (smS L - 1) := by
  cases h : vsm L with
  | true => rw [smS_yes h, smM_yes h]; exact mkN_lt (vsm_iff.1 h).1
  | false => rw [smS_no h, smM_no h]; decide
theorem sgN_next {L : List Int} {k : Nat} (hk : k < L.length) (hp : vsm L = true ∨ vsm (L.take (k + 1)) = true) {x : Nat} (hx : L[k] = x) : sgN (L.take (k + 1)) = sgN (L.take k) + x := by
  have hq : vsm (L.take (k + 1)) = true := hp.elim (fun h => vsm_take h _) id
  have h1 := vsm_bd (vsm_take hq k)
  rw [List.take_take, Nat.min_eq_left (by omega)] at h1
  unfold sgN
  rw [sumL_take_succ L k hk, hx]; omega
theorem mkN_step {L : List Int} {k : Nat} (hk : k < L.length) (hp : vsm (L.take (k + 1)) = true) : mkN (L.take (k + 1)) = mkN (L.take k) + if sgN (L.take k) = 0 then 0 else 2 ^ (sgN (L.take k) - 1) := by
  have hpos := (vsm_iff.1 hp).1
  rcases Nat.eq_zero_or_pos k with h0 | h0
  · subst h0
    have e : L.take (0 + 1) = [L[0]] := by rw [List.take_succ_eq_append_getElem hk]; rfl
    rw [e]
    simp [mkN, toB, bval_zeros, bval, sgN, sumL]
  · have h2 : ∀ x ∈ L.take k, 1 ≤ x := fun x hx => hpos x (by rw [List.take_succ_eq_append_getElem hk]; exact List.mem_append_left _ hx)
    have h3 := sum_len h2
    rw [List.length_take_of_le (by omega)] at h3
    rw [if_neg (by unfold sgN; omega)]
    have := mkN_next (L := L.take (k + 1)) (k := k) (by simp; omega) h0 hpos
    rw [List.take_take, List.take_take, Nat.min_self, Nat.min_eq_left (by omega)] at this
    exact this
/-- the opposite bits -/
def opN (L : List Int) : Nat := 2 ^ (sgN L - 1) - 1 - mkN L
def opp (L : List Int) : List Int := smk (sgN L) (opN L)
theorem opN_lt (L : List Int) : opN L < 2 ^ (sgN L - 1) := by unfold opN; have := Nat.two_pow_pos (sgN L - 1); omega
theorem opp_nil : opp [] = [] := by simp [opp, smk, sgN, sumL]
theorem bval_not' (b : List Bool) : bval (b.map (!·)) = 2 ^ b.length - 1 - bval b := by have := bval_not b; omega
theorem opp_bits {L : List Int} (h : ∀ x ∈ L, 1 ≤ x) (h0 : L ≠ []) : opp L = ofB ((toB L).map (!·)) := by
  have hs := sum_len h
  have hl : 0 < L.length := List.length_pos_iff.2 h0
  unfold opp smk
  rw [if_neg (by unfold sgN; omega)]
  have e : sgN L - 1 = (toB L).length := by rw [toB_len L h]; unfold sgN; omega
  have e2 : opN L = bval ((toB L).map (!·)) := by unfold opN mkN; rw [bval_not', e]
  rw [e2, e]
  have := bitsN_bval' ((toB L).map (!·))
  rw [List.length_map] at this
  rw [this]
theorem opp_opp {L : List Int} (h : ∀ x ∈ L, 1 ≤ x) : opp (opp L) = L := by
  by_cases h0 : L = []
  · subst h0; rw [opp_nil, opp_nil]
  · have e := opp_bits h h0
    obtain ⟨x, r, hx⟩ := ofB_ne ((toB L).map (!·))
    have := opp_bits (L := opp L) (by rw [e]; exact ofB_pos _) (by rw [e, hx]; simp)
    rw [this, e, toB_ofB, List.map_map]
    have e3 : (toB L).map ((fun x => !x) ∘ fun x => !x) = toB L := by
      conv => rhs; rw [← List.map_id (toB L)]
      apply List.map_congr_left; intro b _; simp
    rw [e3, ofB_toB L h0 h]
theorem opp_sum (L : List Int) (h : 0 ≤ sumL L) : sumL (opp L) = sumL L := by unfold opp; rw [smk_sum]; unfold sgN; omega
theorem opp_ok {L : List Int} (h : vsm L = true) : vsm (opp L) = true := smk_ok _ (by have := vsm_bd h; unfold sgN; omega)
theorem opp_len {L : List Int} (h : ∀ x ∈ L, 1 ≤ x) (h0 : L ≠ []) : (L.length : Int) + (opp L).length = sumL L + 1 := by
  have e := opp_bits h h0
  have e2 := ofB_toB L h0 h
  have l1 := ofB_len ((toB L).map (!·))
  have l2 := ofB_len (toB L)
  rw [e2] at l2
  have hc := count_not (toB L)
  rw [toB_len L h] at hc
  have hs := sum_len h
  have hl : 0 < L.length := List.length_pos_iff.2 h0
  rw [e, l1]
  omega
theorem sumL_rev (L : List Int) : sumL L.reverse = sumL L := by
  induction L with
  | nil => rfl
  | cons x r ih => rw [List.reverse_cons, sumL_append, ih]; simp [sumL]; omega
theorem vsm_rev {L : List Int} (h : vsm L = true) : vsm L.reverse = true := by
  rw [vsm_iff] at *
  exact ⟨fun x hx => h.1 x (by simpa using hx), by rw [sumL_rev]; exact h.2⟩
theorem opp_rev {L : List Int} (h : ∀ x ∈ L, 1 ≤ x) : opp L.reverse = (opp L).reverse := by
  by_cases h0 : L = []
  · subst h0; simp [opp_nil]
  · have hr : ∀ x ∈ L.reverse, 1 ≤ x := fun x hx => h x (by simpa using hx)
    have e : toB L.reverse = (toB L).reverse := by
      rw [← toB_ofB (toB L).reverse, ofB_rev, ofB_toB L h0 h]
    rw [opp_bits h h0, opp_bits hr (by simpa using h0), e, List.map_reverse, ofB_rev]
/-- summands behind others -/
def lnk (c d : List Int) (near : Bool) : List Int :=
  if near = true ∧ c ≠ [] ∧ d ≠ [] then c.dropLast ++ addHd (c.getLastD 0) d else c ++ d
theorem lnk_bits {c d : List Int} (hc : ∀ x ∈ c, 1 ≤ x) (hd : ∀ x ∈ d, 1 ≤ x) (c0 : c ≠ []) (d0 : d ≠ []) (near : Bool) : lnk c d near = ofB (toB c ++ (!near) :: toB d) := by
  unfold lnk
  cases near with
  | true =>
    rw [if_pos ⟨rfl, c0, d0⟩]
    have hl : c.dropLast ++ [c.getLastD 0] = c := by
      rw [List.getLastD_eq_getLast?, List.getLast?_eq_some_getLast c0]
      exact List.dropLast_concat_getLast c0
    have := ofB_false (toB c) (toB d) c.dropLast (c.getLastD 0) (by rw [ofB_toB c c0 hc, hl])
    rw [ofB_toB d d0 hd] at this
    exact this.symm
  | false =>
    rw [if_neg (by simp)]
    show _ = ofB (toB c ++ true :: toB d)
    rw [ofB_true, ofB_toB c c0 hc, ofB_toB d d0 hd]
theorem lnk_nil_left (d : List Int) (near : Bool) : lnk [] d near = d := by simp [lnk]
theorem lnk_nil_right (c : List Int) (near : Bool) : lnk c [] near = c := by simp [lnk]
theorem lnk_pos {c d : List Int} (hc : ∀ x ∈ c, 1 ≤ x) (hd : ∀ x ∈ d, 1 ≤ x) (near : Bool) : ∀ x ∈ lnk c d near, 1 ≤ x := by
  by_cases c0 : c = []
  · subst c0; rw [lnk_nil_left]; exact hd
  · by_cases d0 : d = []
    · subst d0; rw [lnk_nil_right]; exact hc
    · rw [lnk_bits hc hd c0 d0]; exact ofB_pos _
theorem addHd_sum (r : Int) (L : List Int) : sumL (addHd r L) = r + sumL L := by
  cases L <;> simp [addHd, sumL]; omega
theorem lnk_sum (c d : List Int) (near : Bool) : sumL (lnk c d near) = sumL c + sumL d := by
  unfold lnk
  split
  · rename_i h
    have hl : c.dropLast ++ [c.getLastD 0] = c := by
      rw [List.getLastD_eq_getLast?, List.getLast?_eq_some_getLast h.2.1]
      exact List.dropLast_concat_getLast h.2.1
    have := congrArg sumL hl
    rw [sumL_append] at this
    simp only [sumL] at this
    rw [sumL_append, addHd_sum]; omega
  · rw [sumL_append]
theorem opp_lnk {c d : List Int} (hc : ∀ x ∈ c, 1 ≤ x) (hd : ∀ x ∈ d, 1 ≤ x) (near : Bool) : opp (lnk c d near) = lnk (opp c) (opp d) (!near) := by
  by_cases c0 : c = []
  · subst c0; rw [lnk_nil_left, opp_nil, lnk_nil_left]
  · by_cases d0 : d = []
    · subst d0; rw [lnk_nil_right, opp_nil, lnk_nil_right]
    · have hp := lnk_pos hc hd near
      have e := lnk_bits hc hd c0 d0 near
      obtain ⟨x, r, hx⟩ := ofB_ne (toB c ++ (!near) :: toB d)
      have hne : lnk c d near ≠ [] := by rw [e, hx]; simp
      have ec := opp_bits hc c0
      have ed := opp_bits hd d0
      have hc' : ∀ x ∈ opp c, 1 ≤ x := by rw [ec]; exact ofB_pos _
      have hd' : ∀ x ∈ opp d, 1 ≤ x := by rw [ed]; exact ofB_pos _
      obtain ⟨_, _, h1⟩ := ofB_ne ((toB c).map (!·))
      obtain ⟨_, _, h2⟩ := ofB_ne ((toB d).map (!·))
      rw [opp_bits hp hne, e, toB_ofB, lnk_bits hc' hd' (by rw [ec, h1]; simp) (by rw [ed, h2]; simp), ec, ed, toB_ofB, toB_ofB]
      simp
/-- the summands that a sum and bits of a link are -/
theorem smk_lnk {c d : List Int} (hc : ∀ x ∈ c, 1 ≤ x) (hd : ∀ x ∈ d, 1 ≤ x) (c0 : c ≠ []) (d0 : d ≠ []) (near : Bool) :
    smk (sgN c + sgN d) (mkN c + 2 ^ (sgN c - 1) * (if near = true then 0 else 1) + 2 ^ sgN c * mkN d) = lnk c d near := by
  have hs := sum_len hc
  have hs2 := sum_len hd
  have hl : 0 < c.length := List.length_pos_iff.2 c0
  have hl2 : 0 < d.length := List.length_pos_iff.2 d0
  have e1 : (toB c).length = sgN c - 1 := by rw [toB_len c hc]; unfold sgN; omega
  have e2 : (toB d).length = sgN d - 1 := by rw [toB_len d hd]; unfold sgN; omega
  have hg : 0 < sgN c := by unfold sgN; omega
  have hg2 : 0 < sgN d := by unfold sgN; omega
  rw [lnk_bits hc hd c0 d0]
  have hlen : (toB c ++ (!near) :: toB d).length = sgN c + sgN d - 1 := by simp [e1, e2]; omega
  have hval : bval (toB c ++ (!near) :: toB d) = mkN c + 2 ^ (sgN c - 1) * (if near = true then 0 else 1) + 2 ^ sgN c * mkN d := by
    rw [bval_append, e1]
    simp only [bval]
    have hp : 2 ^ sgN c = 2 ^ (sgN c - 1) * 2 := by rw [← Nat.pow_succ]; congr 1; omega
    rw [hp, Nat.mul_add, ← Nat.mul_assoc, ← Nat.add_assoc]
    unfold mkN
    cases near <;> simp
  unfold smk
  rw [if_neg (by omega), ← hval, ← hlen, bitsN_bval']
end NP
end Go.Proofs.Ytcjnmconehfbgaa
