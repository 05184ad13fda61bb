/-
  Plain mathematics of summands: they are bits (an end or not behind each but the last), turned, linked, opposite. No Go text. Plain mathematics of summands: the answers of the functions as closed forms. No Go text. Plain mathematics: falling numbers are told by how often each comes; parts written from a tally. No Go text. Plain mathematics: marked parts split and put together again, and the other way round. Walks: a bent list of parts: what it leaves alone.
-/
import Derived.Test.YtbbbfaollcklkaaZp1
import Derived.Test.YtbbbfaollcklkaaZp2
import Derived.Test.YtbbbfaollcklkaaZp3
import Derived.Test.YtbbbfaollcklkaaZp4
import Derived.Test.YtbbbfaollcklkaaZp5
import Derived.Test.YtbbbfaollcklkaaZp6
import Derived.Test.YtbbbfaollcklkaaZp7
import Derived.Test.YtbbbfaollcklkaaZp8
import Derived.Test.YtbbbfaollcklkaaZp9
import Derived.Test.YtbbbfaollcklkaaZp10
import Derived.Test.YtbbbfaollcklkaaZp11
import Derived.Test.YtbbbfaollcklkaaZp12
namespace Go.Proofs.Ytbbbfaollcklkaa
namespace NP
/-- the bits of summands: whether one ends -/
def toB : List Int → List Bool
  | [] => []
  | [x] => List.replicate (x - 1).toNat false
  | x :: y :: r => List.replicate (x - 1).toNat false ++ true :: toB (y :: r)
/-- 1 more for the first -/
def bump : List Int → List Int
  | [] => []
  | x :: r => (x + 1) :: r
/-- the summands of bits -/
def ofB : List Bool → List Int
  | [] => [1]
  | true :: b => 1 :: ofB b
  | false :: b => bump (ofB b)
def addHd (r : Int) : List Int → List Int
  | [] => [r]
  | x :: t => (r + x) :: t
def bval : List Bool → Nat
  | [] => 0
  | b :: r => (if b then 1 else 0) + 2 * bval r
def bitsN (m : Nat) : Nat → List Bool
  | 0 => []
  | k + 1 => bitsN m k ++ [decide (m / 2 ^ k % 2 = 1)]

theorem ofB_ne (b : List Bool) : ∃ x r, ofB b = x :: r := by
  induction b with
  | nil => exact ⟨1, [], rfl⟩
  | cons c b ih =>
    obtain ⟨x, r, h⟩ := ih
    cases c with
    | true => exact ⟨1, ofB b, rfl⟩
    | false => exact ⟨x + 1, r, by simp [ofB, h, bump]⟩
theorem ofB_sum (b : List Bool) : sumL (ofB b) = b.length + 1 := by
  induction b with
  | nil => rfl
  | cons c b ih =>
    cases c with
    | true => simp [ofB, sumL, ih]; omega
    | false =>
      obtain ⟨x, r, h⟩ := ofB_ne b
      simp [ofB, h, bump, sumL] at ih ⊢
      omega
theorem ofB_pos (b : List Bool) : ∀ x ∈ ofB b, 1 ≤ x := by
  induction b with
  | nil => intro x hx; simp [ofB] at hx; omega
  | cons c b ih =>
    intro x hx
    cases c with
    | true =>
      simp [ofB] at hx
      rcases hx with hx | hx
      · omega
      · exact ih x hx
    | false =>
      obtain ⟨y, r, h⟩ := ofB_ne b
      rw [h] at ih
      simp [ofB, h, bump] at hx
      rcases hx with hx | hx
      · have := ih y (by simp); omega
      · exact ih x (by simp [hx])
theorem ofB_zeros (k : Nat) (b : List Bool) : ofB (List.replicate k false ++ b) = addHd k (ofB b) := by
  induction k with
  | zero => obtain ⟨x, r, h⟩ := ofB_ne b; simp [h, addHd]
  | succ k ih =>
    rw [List.replicate_succ, List.cons_append]
    show bump (ofB _) = _
    rw [ih]
    obtain ⟨x, r, h⟩ := ofB_ne b
    simp [h, addHd, bump]; omega
theorem ofB_toB : ∀ (L : List Int), L ≠ [] → (∀ x ∈ L, 1 ≤ x) → ofB (toB L) = L
  | [], h, _ => absurd rfl h
  | [x], _, hp => by
    have := ofB_zeros (x - 1).toNat []
    have h1 := hp x (by simp)
    rw [List.append_nil] at this
    simp only [toB, this, ofB, addHd]
    congr 1; omega
  | x :: y :: r, _, hp => by
    have h1 := hp x (by simp)
    have ih := ofB_toB (y :: r) (by simp) (fun z hz => hp z (List.mem_cons_of_mem _ hz))
    simp only [toB, ofB_zeros, ofB, ih, addHd]
    congr 1; omega
theorem toB_bump (x : Int) (r : List Int) (h : 1 ≤ x) : toB ((x + 1) :: r) = false :: toB (x :: r) := by
  have e : (x + 1 - 1).toNat = (x - 1).toNat + 1 := by omega
  cases r with
  | nil => simp only [toB, e, List.replicate_succ]
  | cons y t => simp only [toB, e, List.replicate_succ, List.cons_append]
theorem toB_ofB (b : List Bool) : toB (ofB b) = b := by
  induction b with
  | nil => rfl
  | cons c b ih =>
    obtain ⟨x, r, h⟩ := ofB_ne b
    have hp := ofB_pos b
    rw [h] at ih hp
    cases c with
    | true => simp [ofB, h, toB, ih]
    | false => simp only [ofB, h, bump]; rw [toB_bump x r (hp x (by simp)), ih]
theorem ofB_true (a b : List Bool) : ofB (a ++ true :: b) = ofB a ++ ofB b := by
  induction a with
  | nil => rfl
  | cons c a ih =>
    cases c with
    | true => simp [ofB, ih]
    | false =>
      obtain ⟨x, r, h⟩ := ofB_ne a
      simp [ofB, ih, h, bump]
theorem ofB_false (a b : List Bool) : ∀ (out : List Int) (run : Int), ofB a = out ++ [run] → ofB (a ++ false :: b) = out ++ addHd run (ofB b) := by
  induction a with
  | nil =>
    intro out run h
    obtain ⟨x, r, hb⟩ := ofB_ne b
    cases out with
    | nil => simp [ofB] at h; subst h; simp [ofB, hb, bump, addHd] <;> omega
    | cons y t => simp [ofB] at h
  | cons c a ih =>
    intro out run h
    obtain ⟨x, r, ha⟩ := ofB_ne a
    cases c with
    | true =>
      cases out with
      | nil => simp [ofB, ha] at h
      | cons y t =>
        simp [ofB] at h
        obtain ⟨h1, h2⟩ := h
        simp [ofB, ih t run h2, h1]
    | false =>
      cases out with
      | nil =>
        simp [ofB, ha, bump] at h
        obtain ⟨h1, h2⟩ := h
        have := ih [] x (by simp [ha, h2])
        obtain ⟨z, q, hb⟩ := ofB_ne b
        simp [hb, addHd] at this ⊢
        simp [ofB, this, bump]; omega
      | cons y t =>
        simp [ofB, ha, bump] at h
        obtain ⟨h1, h2⟩ := h
        have := ih (x :: t) run (by simp [ha, h2])
        simp at this
        simp [ofB, this, bump, h1]
theorem ofB_rev (b : List Bool) : ofB b.reverse = (ofB b).reverse := by
  induction b with
  | nil => rfl
  | cons c b ih =>
    rw [List.reverse_cons]
    cases c with
    | true => rw [ofB_true, ih]; simp [ofB]
    | false =>
      obtain ⟨x, r, h⟩ := ofB_ne b
      have := ofB_false b.reverse [] r.reverse x (by rw [ih, h]; simp)
      rw [this]
      simp [ofB, h, bump, addHd]
theorem ofB_len (b : List Bool) : (ofB b).length = b.count true + 1 := by
  induction b with
  | nil => rfl
  | cons c b ih =>
    cases c with
    | true => simp [ofB, ih]
    | false =>
      obtain ⟨x, r, h⟩ := ofB_ne b
      simp [ofB, h, bump] at ih ⊢
      omega
theorem count_not (b : List Bool) : (b.map (!·)).count true + b.count true = b.length := by
  induction b with
  | nil => rfl
  | cons c b ih => cases c <;> simp <;> omega
theorem bval_append (a b : List Bool) : bval (a ++ b) = bval a + 2 ^ a.length * bval b := by
  induction a with
  | nil => simp [bval]
  | cons c a ih =>
    simp only [List.cons_append, bval, ih, List.length_cons, Nat.pow_succ]
    have : 2 ^ a.length * 2 * bval b = 2 * (2 ^ a.length * bval b) := by rw [Nat.mul_comm (2 ^ a.length) 2, Nat.mul_assoc]
    rw [this]; omega
theorem bval_lt (b : List Bool) : bval b < 2 ^ b.length := by
  induction b with
  | nil => simp [bval]
  | cons c b ih => simp only [bval, List.length_cons, Nat.pow_succ]; split <;> omega
theorem bval_zeros (k : Nat) : bval (List.replicate k false) = 0 := by
  induction k with
  | zero => rfl
  | succ k ih => simp [List.replicate_succ, bval, ih]
theorem bval_not (b : List Bool) : bval (b.map (!·)) + bval b + 1 = 2 ^ b.length := by
  induction b with
  | nil => rfl
  | cons c b ih =>
    simp only [List.map_cons, bval, List.length_cons, Nat.pow_succ]
    cases c <;> simp <;> omega
theorem bitsN_len (m k : Nat) : (bitsN m k).length = k := by
  induction k with
  | zero => rfl
  | succ k ih => simp [bitsN, ih]
theorem bitsN_cons (m k : Nat) : bitsN m (k + 1) = decide (m % 2 = 1) :: bitsN (m / 2) k := by
  induction k with
  | zero => simp [bitsN]
  | succ k ih =>
    rw [bitsN, ih]
    conv => rhs; rw [bitsN]
    rw [List.cons_append, Nat.div_div_eq_div_mul]
    congr 6
    rw [Nat.pow_succ, Nat.mul_comm]
theorem bitsN_bval' (b : List Bool) : bitsN (bval b) b.length = b := by
  induction b with
  | nil => rfl
  | cons c b ih =>
    rw [List.length_cons, bitsN_cons]
    simp only [bval]
    have e : ((if c = true then 1 else 0) + 2 * bval b) / 2 = bval b := by split <;> omega
    rw [e, ih]
    cases c <;> simp <;> omega
theorem bval_bitsN_mod (m k : Nat) : bval (bitsN m k) = m % 2 ^ k := by
  induction k with
  | zero => simp [bitsN, bval, Nat.mod_one]
  | succ k ih =>
    simp only [bitsN, bval_append, bitsN_len, ih, bval]
    rw [Nat.pow_succ, Nat.mod_mul]
    congr 2
    by_cases h : m / 2 ^ k % 2 = 1
    · simp [h]
    · simp [h]; omega
theorem bval_bitsN {m k : Nat} (h : m < 2 ^ k) : bval (bitsN m k) = m := by rw [bval_bitsN_mod, Nat.mod_eq_of_lt h]
theorem bval_inj {a b : List Bool} (hl : a.length = b.length) (h : bval a = bval b) : a = b := by
  rw [← bitsN_bval' a, ← bitsN_bval' b, h, hl]

/-- whether numbers are summands -/
def vsm (L : List Int) : Bool := L.all (fun x => decide (1 ≤ x)) && decide (sumL L ≤ 16)
theorem vsm_iff {L : List Int} : vsm L = true ↔ (∀ x ∈ L, 1 ≤ x) ∧ sumL L ≤ 16 := by simp [vsm]
theorem sum_len {L : List Int} (h : ∀ x ∈ L, 1 ≤ x) : (L.length : Int) ≤ sumL L := by
  induction L with
  | nil => simp [sumL]
  | cons x r ih =>
    have h1 := h x (by simp)
    have h2 := ih (fun y hy => h y (by simp [hy]))
    simp [sumL]; omega
theorem vsm_bd {L : List Int} (h : vsm L = true) : 0 ≤ sumL L ∧ sumL L ≤ 16 ∧ (L.length : Int) ≤ sumL L ∧ L.length ≤ 16 := by
  rw [vsm_iff] at h
  have := sum_len h.1
  omega
theorem vsm_take {L : List Int} (h : vsm L = true) (k : Nat) : vsm (L.take k) = true := by
  rw [vsm_iff] at *
  have e := congrArg sumL (List.take_append_drop k L)
  rw [sumL_append] at e
  have := sum_len (L := L.drop k) (fun x hx => h.1 x (List.mem_of_mem_drop hx))
  exact ⟨fun x hx => h.1 x (List.mem_of_mem_take hx), by omega⟩
theorem vsm_next {L : List Int} {k : Nat} (hk : k < L.length) (h : vsm (L.take k) = true) (h1 : 1 ≤ L[k]) (h2 : L[k] ≤ 16 - sumL (L.take k)) : vsm (L.take (k + 1)) = true := by
  rw [vsm_iff] at *
  rw [sumL_take_succ L k hk]
  refine ⟨fun x hx => ?_, by omega⟩
  rw [List.take_succ_eq_append_getElem hk, List.mem_append] at hx
  rcases hx with hx | hx
  · exact h.1 x hx
  · simp at hx; omega
theorem vsm_stop {L : List Int} {k : Nat} (hk : k < L.length) (hn : ¬ (1 ≤ L[k] ∧ L[k] ≤ 16 - sumL (L.take k))) : vsm L = false := by
  cases hv : vsm L with
  | false => rfl
  | true =>
    have h1 := vsm_take hv (k + 1)
    rw [vsm_iff] at h1 hv
    rw [sumL_take_succ L k hk] at h1
    exact absurd ⟨hv.1 _ (List.getElem_mem hk), by omega⟩ hn
theorem toB_len : ∀ (L : List Int), (∀ x ∈ L, 1 ≤ x) → (toB L).length = (sumL L - 1).toNat
  | [], _ => rfl
  | [x], h => by simp [toB, sumL]
  | x :: y :: r, h => by
    have h1 := h x (by simp)
    have hy := h y (by simp)
    have hr : ∀ z ∈ y :: r, 1 ≤ z := fun z hz => h z (List.mem_cons_of_mem _ hz)
    have ih := toB_len (y :: r) hr
    have h2 := sum_len hr
    simp only [toB, List.length_append, List.length_replicate, List.length_cons, ih, sumL] at *
    omega
theorem toB_append : ∀ (a b : List Int), a ≠ [] → b ≠ [] → toB (a ++ b) = toB a ++ true :: toB b
  | [], _, h, _ => absurd rfl h
  | [x], [], _, h => absurd rfl h
  | [x], y :: t, _, _ => by simp [toB]
  | x :: y :: r, b, _, hb => by
    have ih := toB_append (y :: r) b (by simp) hb
    simp only [List.cons_append, toB] at ih ⊢
    rw [ih, List.append_assoc, List.cons_append]
/-- the bits of summands as a number -/
def mkN (L : List Int) : Nat := bval (toB L)
/-- the summands of a sum and bits -/
def smk (n m : Nat) : List Int := if n = 0 then [] else ofB (bitsN m (n - 1))
def sgN (L : List Int) : Nat := (sumL L).toNat
theorem mkN_lt {L : List Int} (h : ∀ x ∈ L, 1 ≤ x) : mkN L < 2 ^ (sgN L - 1) := by
  have h1 := bval_lt (toB L)
  rw [toB_len L h] at h1
  unfold mkN sgN
  rwa [show (sumL L).toNat - 1 = (sumL L - 1).toNat by omega]
theorem mkN_next {L : List Int} {k : Nat} (hk : k < L.length) (h0 : 0 < k) (hp : ∀ x ∈ L, 1 ≤ x) : mkN (L.take (k + 1)) = mkN (L.take k) + 2 ^ (sgN (L.take k) - 1) := by
  unfold mkN
  have hpt : ∀ x ∈ L.take k, 1 ≤ x := fun x hx => hp x (List.mem_of_mem_take hx)
  have hne : L.take k ≠ [] := by intro e; have := congrArg List.length e; rw [List.length_take, List.length_nil] at this; omega
  rw [List.take_succ_eq_append_getElem hk, toB_append _ _ hne (by simp), bval_append, toB_len _ hpt]
  simp only [toB, bval, bval_zeros]
  rw [show (sumL (L.take k) - 1).toNat = sgN (L.take k) - 1 by unfold sgN; omega]; simp
theorem smk_mkN {L : List Int} (h : ∀ x ∈ L, 1 ≤ x) : smk (sgN L) (mkN L) = L := by
  unfold smk
  have hs := sum_len h
  by_cases h0 : L = []
  · subst h0; simp [sgN, sumL]
  · have hl : 0 < L.length := List.length_pos_iff.2 h0
    rw [if_neg (by unfold sgN; omega)]
    have e : sgN L - 1 = (toB L).length := by rw [toB_len L h]; unfold sgN; omega
    rw [e, mkN, bitsN_bval' (toB L), ofB_toB L h0 h]
theorem smk_sum (n m : Nat) : sumL (smk n m) = n := by
  unfold smk
  split
  · subst_vars; rfl
  · rw [ofB_sum, bitsN_len]; omega
theorem smk_pos (n m : Nat) : ∀ x ∈ smk n m, 1 ≤ x := by
  unfold smk
  split
  · simp
  · exact ofB_pos _
theorem smk_ok {n : Nat} (m : Nat) (h : n ≤ 16) : vsm (smk n m) = true := vsm_iff.2 ⟨smk_pos n m, by rw [smk_sum]; omega⟩
theorem smk_len (n m : Nat) : (smk n m).length ≤ n := by
  have := sum_len (smk_pos n m)
  rw [smk_sum] at this
  omega
theorem mkN_smk {n m : Nat} (h : m < 2 ^ (n - 1)) : mkN (smk n m) = m := by
  unfold smk mkN
  split
  · subst_vars; simp at h; subst h; rfl
  · rw [toB_ofB, bval_bitsN h]
theorem sgN_smk (n m : Nat) : sgN (smk n m) = n := by unfold sgN; rw [smk_sum]; omega
/-- the sum and the bits that the program tells summands by -/
def smS (L : List Int) : Nat := if vsm L = true then sgN L else 0
def smM (L : List Int) : Nat := if vsm L = true then mkN L else 0
theorem smS_yes {L : List Int} (h : vsm L = true) : smS L = sgN L := by unfold smS; rw [if_pos h]
theorem smM_yes {L : List Int} (h : vsm L = true) : smM L = mkN L := by unfold smM; rw [if_pos h]
theorem smS_no {L : List Int} (h : vsm L = false) : smS L = 0 := by unfold smS; rw [if_neg (by rw [h]; decide)]
theorem smM_no {L : List Int} (h : vsm L = false) : smM L = 0 := by unfold smM; rw [if_neg (by rw [h]; decide)]
theorem smS_le (L : List Int) : smS L ≤ 16 := by
  unfold smS
  split
  · have := vsm_bd (by assumption); unfold sgN; omega
  · omega
theorem smM_lt (L : List Int) : smM L < 2 ^ (smS L - 1) := by
  cases h : vsm L with
  | true => rw [smS_yes h, smM_yes h]; exact mkN_lt (vsm_iff.1 h).1
  | false => rw [smS_no h, smM_no h]; decide
theorem sgN_next {L : List Int} {k : Nat} (hk : k < L.length) (hp : vsm L = true ∨ vsm (L.take (k + 1)) = true) {x : Nat} (hx : L[k] = x) : sgN (L.take (k + 1)) = sgN (L.take k) + x := by
  have hq : vsm (L.take (k + 1)) = true := hp.elim (fun h => vsm_take h _) id
  have h1 := vsm_bd (vsm_take hq k)
  rw [List.take_take, Nat.min_eq_left (by omega)] at h1
  unfold sgN
  rw [sumL_take_succ L k hk, hx]; omega
theorem mkN_step {L : List Int} {k : Nat} (hk : k < L.length) (hp : vsm (L.take (k + 1)) = true) : mkN (L.take (k + 1)) = mkN (L.take k) + if sgN (L.take k) = 0 then 0 else 2 ^ (sgN (L.take k) - 1) := by
  have hpos := (vsm_iff.1 hp).1
  rcases Nat.eq_zero_or_pos k with h0 | h0
  · subst h0
    have e : L.take (0 + 1) = [L[0]] := by rw [List.take_succ_eq_append_getElem hk]; rfl
    rw [e]
    simp [mkN, toB, bval_zeros, bval, sgN, sumL]
  · have h2 : ∀ x ∈ L.take k, 1 ≤ x := fun x hx => hpos x (by rw [List.take_succ_eq_append_getElem hk]; exact List.mem_append_left _ hx)
    have h3 := sum_len h2
    rw [List.length_take_of_le (by omega)] at h3
    rw [if_neg (by unfold sgN; omega)]
    have := mkN_next (L := L.take (k + 1)) (k := k) (by simp; omega) h0 hpos
    rw [List.take_take, List.take_take, Nat.min_self, Nat.min_eq_left (by omega)] at this
    exact this
/-- the opposite bits -/
def opN (L : List Int) : Nat := 2 ^ (sgN L - 1) - 1 - mkN L
def opp (L : List Int) : List Int := smk (sgN L) (opN L)
theorem opN_lt (L : List Int) : opN L < 2 ^ (sgN L - 1) := by unfold opN; have := Nat.two_pow_pos (sgN L - 1); omega
theorem opp_nil : opp [] = [] := by simp [opp, smk, sgN, sumL]
theorem bval_not' (b : List Bool) : bval (b.map (!·)) = 2 ^ b.length - 1 - bval b := by have := bval_not b; omega
theorem opp_bits {L : List Int} (h : ∀ x ∈ L, 1 ≤ x) (h0 : L ≠ []) : opp L = ofB ((toB L).map (!·)) := by
  have hs := sum_len h
  have hl : 0 < L.length := List.length_pos_iff.2 h0
  unfold opp smk
  rw [if_neg (by unfold sgN; omega)]
  have e : sgN L - 1 = (toB L).length := by rw [toB_len L h]; unfold sgN; omega
  have e2 : opN L = bval ((toB L).map (!·)) := by unfold opN mkN; rw [bval_not', e]
  rw [e2, e]
  have := bitsN_bval' ((toB L).map (!·))
  rw [List.length_map] at this
  rw [this]
theorem opp_opp {L : List Int} (h : ∀ x ∈ L, 1 ≤ x) : opp (opp L) = L := by
  by_cases h0 : L = []
  · subst h0; rw [opp_nil, opp_nil]
  · have e := opp_bits h h0
    obtain ⟨x, r, hx⟩ := ofB_ne ((toB L).map (!·))
    have := opp_bits (L := opp L) (by rw [e]; exact ofB_pos _) (by rw [e, hx]; simp)
    rw [this, e, toB_ofB, List.map_map]
    have e3 : (toB L).map ((fun x => !x) ∘ fun x => !x) = toB L := by
      conv => rhs; rw [← List.map_id (toB L)]
      apply List.map_congr_left; intro b _; simp
    rw [e3, ofB_toB L h0 h]
theorem opp_sum (L : List Int) (h : 0 ≤ sumL L) : sumL (opp L) = sumL L := by unfold opp; rw [smk_sum]; unfold sgN; omega
theorem opp_ok {L : List Int} (h : vsm L = true) : vsm (opp L) = true := smk_ok _ (by have := vsm_bd h; unfold sgN; omega)
theorem opp_len {L : List Int} (h : ∀ x ∈ L, 1 ≤ x) (h0 : L ≠ []) : (L.length : Int) + (opp L).length = sumL L + 1 := by
  have e := opp_bits h h0
  have e2 := ofB_toB L h0 h
  have l1 := ofB_len ((toB L).map (!·))
  have l2 := ofB_len (toB L)
  rw [e2] at l2
  have hc := count_not (toB L)
  rw [toB_len L h] at hc
  have hs := sum_len h
  have hl : 0 < L.length := List.length_pos_iff.2 h0
  rw [e, l1]
  omega
theorem sumL_rev (L : List Int) : sumL L.reverse = sumL L := by
  induction L with
  | nil => rfl
  | cons x r ih => rw [List.reverse_cons, sumL_append, ih]; simp [sumL]; omega
theorem vsm_rev {L : List Int} (h : vsm L = true) : vsm L.reverse = true := by
  rw [vsm_iff] at *
  exact ⟨fun x hx => h.1 x (by simpa using hx), by rw [sumL_rev]; exact h.2⟩
theorem opp_rev {L : List Int} (h : ∀ x ∈ L, 1 ≤ x) : opp L.reverse = (opp L).reverse := by
  by_cases h0 : L = []
  · subst h0; simp [opp_nil]
  · have hr : ∀ x ∈ L.reverse, 1 ≤ x := fun x hx => h x (by simpa using hx)
    have e : toB L.reverse = (toB L).reverse := by
      rw [← toB_ofB (toB L).reverse, ofB_rev, ofB_toB L h0 h]
    rw [opp_bits h h0, opp_bits hr (by simpa using h0), e, List.map_reverse, ofB_rev]
/-- summands behind others -/
def lnk (c d : List Int) (near : Bool) : List Int :=
  if near = true ∧ c ≠ [] ∧ d ≠ [] then c.dropLast ++ addHd (c.getLastD 0) d else c ++ d
theorem lnk_bits {c d : List Int} (hc : ∀ x ∈ c, 1 ≤ x) (hd : ∀ x ∈ d, 1 ≤ x) (c0 : c ≠ []) (d0 : d ≠ []) (near : Bool) : lnk c d near = ofB (toB c ++ (!near) :: toB d) := by
  unfold lnk
  cases near with
  | true =>
    rw [if_pos ⟨rfl, c0, d0⟩]
    have hl : c.dropLast ++ [c.getLastD 0] = c := by
      rw [List.getLastD_eq_getLast?, List.getLast?_eq_some_getLast c0]
      exact List.dropLast_concat_getLast c0
    have := ofB_false (toB c) (toB d) c.dropLast (c.getLastD 0) (by rw [ofB_toB c c0 hc, hl])
    rw [ofB_toB d d0 hd] at this
    exact this.symm
  | false =>
    rw [if_neg (by simp)]
    show _ = ofB (toB c ++ true :: toB d)
    rw [ofB_true, ofB_toB c c0 hc, ofB_toB d d0 hd]
theorem lnk_nil_left (d : List Int) (near : Bool) : lnk [] d near = d := by simp [lnk]
theorem lnk_nil_right (c : List Int) (near : Bool) : lnk c [] near = c := by simp [lnk]
theorem lnk_pos {c d : List Int} (hc : ∀ x ∈ c, 1 ≤ x) (hd : ∀ x ∈ d, 1 ≤ x) (near : Bool) : ∀ x ∈ lnk c d near, 1 ≤ x := by
  by_cases c0 : c = []
  · subst c0; rw [lnk_nil_left]; exact hd
  · by_cases d0 : d = []
    · subst d0; rw [lnk_nil_right]; exact hc
    · rw [lnk_bits hc hd c0 d0]; exact ofB_pos _
theorem addHd_sum (r : Int) (L : List Int) : sumL (addHd r L) = r + sumL L := by
  cases L <;> simp [addHd, sumL]; omega
theorem lnk_sum (c d : List Int) (near : Bool) : sumL (lnk c d near) = sumL c + sumL d := by
  unfold lnk
  split
  · rename_i h
    have hl : c.dropLast ++ [c.getLastD 0] = c := by
      rw [List.getLastD_eq_getLast?, List.getLast?_eq_some_getLast h.2.1]
      exact List.dropLast_concat_getLast h.2.1
    have := congrArg sumL hl
    rw [sumL_append] at this
    simp only [sumL] at this
    rw [sumL_append, addHd_sum]; omega
  · rw [sumL_append]
theorem opp_lnk {c d : List Int} (hc : ∀ x ∈ c, 1 ≤ x) (hd : ∀ x ∈ d, 1 ≤ x) (near : Bool) : opp (lnk c d near) = lnk (opp c) (opp d) (!near) := by
  by_cases c0 : c = []
  · subst c0; rw [lnk_nil_left, opp_nil, lnk_nil_left]
  · by_cases d0 : d = []
    · subst d0; rw [lnk_nil_right, opp_nil, lnk_nil_right]
    · have hp := lnk_pos hc hd near
      have e := lnk_bits hc hd c0 d0 near
      obtain ⟨x, r, hx⟩ := ofB_ne (toB c ++ (!near) :: toB d)
      have hne : lnk c d near ≠ [] := by rw [e, hx]; simp
      have ec := opp_bits hc c0
      have ed := opp_bits hd d0
      have hc' : ∀ x ∈ opp c, 1 ≤ x := by rw [ec]; exact ofB_pos _
      have hd' : ∀ x ∈ opp d, 1 ≤ x := by rw [ed]; exact ofB_pos _
      obtain ⟨_, _, h1⟩ := ofB_ne ((toB c).map (!·))
      obtain ⟨_, _, h2⟩ := ofB_ne ((toB d).map (!·))
      rw [opp_bits hp hne, e, toB_ofB, lnk_bits hc' hd' (by rw [ec, h1]; simp) (by rw [ed, h2]; simp), ec, ed, toB_ofB, toB_ofB]
      simp
/-- the summands that a sum and bits of a link are -/
theorem smk_lnk {c d : List Int} (hc : ∀ x ∈ c, 1 ≤ x) (hd : ∀ x ∈ d, 1 ≤ x) (c0 : c ≠ []) (d0 : d ≠ []) (near : Bool) :
    smk (sgN c + sgN d) (mkN c + 2 ^ (sgN c - 1) * (if near = true then 0 else 1) + 2 ^ sgN c * mkN d) = lnk c d near := by
  have hs := sum_len hc
  have hs2 := sum_len hd
  have hl : 0 < c.length := List.length_pos_iff.2 c0
  have hl2 : 0 < d.length := List.length_pos_iff.2 d0
  have e1 : (toB c).length = sgN c - 1 := by rw [toB_len c hc]; unfold sgN; omega
  have e2 : (toB d).length = sgN d - 1 := by rw [toB_len d hd]; unfold sgN; omega
  have hg : 0 < sgN c := by unfold sgN; omega
  have hg2 : 0 < sgN d := by unfold sgN; omega
  rw [lnk_bits hc hd c0 d0]
  have hlen : (toB c ++ (!near) :: toB d).length = sgN c + sgN d - 1 := by simp [e1, e2]; omega
  have hval : bval (toB c ++ (!near) :: toB d) = mkN c + 2 ^ (sgN c - 1) * (if near = true then 0 else 1) + 2 ^ sgN c * mkN d := by
    rw [bval_append, e1]
    simp only [bval]
    have hp : 2 ^ sgN c = 2 ^ (sgN c - 1) * 2 := by rw [← Nat.pow_succ]; congr 1; omega
    rw [hp, Nat.mul_add, ← Nat.mul_assoc, ← Nat.add_assoc]
    unfold mkN
    cases near <;> simp
  unfold smk
  rw [if_neg (by omega), ← hval, ← hlen, bitsN_bval']
end NP
end Go.Proofs.Ytbbbfaollcklkaa
namespace Go.Proofs.Ytbbbfaollcklkaa
namespace NP
def mkF (L : List Int) : Int := if vsm L = true then (mkN L : Int) else -1
theorem mkF_yes {L : List Int} (h : vsm L = true) : mkF L = (mkN L : Int) := by unfold mkF; rw [if_pos h]
theorem mkF_no {L : List Int} (h : vsm L = false) : mkF L = -1 := by unfold mkF; rw [if_neg (by rw [h]; decide)]
/-- whether a sum has the bits -/
def smOk (n m : Int) : Bool := decide (0 ≤ n) && decide (n ≤ 16) && decide (0 ≤ m) && decide (m < ((2 ^ (n.toNat - 1) : Nat) : Int))
def smkF (n m : Int) : List Int := if smOk n m = true then smk n.toNat m.toNat else []
theorem smOk_iff {n m : Int} : smOk n m = true ↔ 0 ≤ n ∧ n ≤ 16 ∧ 0 ≤ m ∧ m < ((2 ^ (n.toNat - 1) : Nat) : Int) := by simp only [smOk, Bool.and_eq_true, decide_eq_true_eq]; omega
theorem smkF_yes {n m : Int} (h : smOk n m = true) : smkF n m = smk n.toNat m.toNat := by unfold smkF; rw [if_pos h]
theorem smkF_no {n m : Int} (h : smOk n m = false) : smkF n m = [] := by unfold smkF; rw [if_neg (by rw [h]; decide)]
theorem smk_len16 {n : Nat} (m : Nat) (h : n ≤ 16) : (smk n m).length ≤ 16 := by have := smk_len n m; omega
theorem smkF_len (n m : Int) : (smkF n m).length ≤ 16 := by
  cases h : smOk n m with
  | true => rw [smkF_yes h]; rw [smOk_iff] at h; exact smk_len16 _ (by omega)
  | false => rw [smkF_no h]; simp
def oppF (L : List Int) : List Int := if vsm L = true then opp L else []
theorem oppF_yes {L : List Int} (h : vsm L = true) : oppF L = opp L := by unfold oppF; rw [if_pos h]
theorem oppF_no {L : List Int} (h : vsm L = false) : oppF L = [] := by unfold oppF; rw [if_neg (by rw [h]; decide)]
theorem oppF_len (L : List Int) : (oppF L).length ≤ 16 := by
  cases h : vsm L with
  | true => rw [oppF_yes h]; exact (vsm_bd (opp_ok h)).2.2.2
  | false => rw [oppF_no h]; simp
def trnF (L : List Int) : List Int := if vsm L = true then L.reverse else []
theorem trnF_yes {L : List Int} (h : vsm L = true) : trnF L = L.reverse := by unfold trnF; rw [if_pos h]
theorem trnF_no {L : List Int} (h : vsm L = false) : trnF L = [] := by unfold trnF; rw [if_neg (by rw [h]; decide)]
theorem trnF_len (L : List Int) : (trnF L).length ≤ 16 := by
  cases h : vsm L with
  | true => rw [trnF_yes h, List.length_reverse]; exact (vsm_bd h).2.2.2
  | false => rw [trnF_no h]; simp
def lnkOk (c d : List Int) : Bool := vsm c && vsm d && decide (sumL c + sumL d ≤ 16)
def lnkF (c d : List Int) (near : Bool) : List Int := if lnkOk c d = true then lnk c d near else []
theorem lnkOk_iff {c d : List Int} : lnkOk c d = true ↔ vsm c = true ∧ vsm d = true ∧ sumL c + sumL d ≤ 16 := by simp [lnkOk, and_assoc]
theorem lnkF_yes {c d : List Int} (h : lnkOk c d = true) (near : Bool) : lnkF c d near = lnk c d near := by unfold lnkF; rw [if_pos h]
theorem lnkF_no {c d : List Int} (h : lnkOk c d = false) (near : Bool) : lnkF c d near = [] := by unfold lnkF; rw [if_neg (by rw [h]; decide)]
theorem lnk_ok {c d : List Int} (h : lnkOk c d = true) (near : Bool) : vsm (lnk c d near) = true := by
  rw [lnkOk_iff] at h
  rw [vsm_iff, lnk_sum]
  exact ⟨lnk_pos (vsm_iff.1 h.1).1 (vsm_iff.1 h.2.1).1 near, h.2.2⟩
theorem lnkF_len (c d : List Int) (near : Bool) : (lnkF c d near).length ≤ 16 := by
  cases h : lnkOk c d with
  | true => rw [lnkF_yes h]; exact (vsm_bd (lnk_ok h near)).2.2.2
  | false => rw [lnkF_no h]; simp
theorem lnkOk_opp {c d : List Int} (h : lnkOk c d = true) : lnkOk (opp c) (opp d) = true := by
  rw [lnkOk_iff] at *
  have h1 := vsm_bd h.1
  have h2 := vsm_bd h.2.1
  exact ⟨opp_ok h.1, opp_ok h.2.1, by rw [opp_sum _ h1.1, opp_sum _ h2.1]; exact h.2.2⟩
/-- the sum and bits of a link are the link -/
theorem smk_link {c d : List Int} (hc : ∀ x ∈ c, 1 ≤ x) (hd : ∀ x ∈ d, 1 ≤ x) (near : Bool) :
    smk (sgN c + sgN d) (mkN c + 2 ^ (sgN c - 1) * (if near = true ∨ sgN c = 0 ∨ sgN d = 0 then 0 else 1) + 2 ^ sgN c * mkN d) = lnk c d near := by
  have e0 : sgN [] = 0 := rfl
  have m0 : mkN [] = 0 := rfl
  by_cases c0 : c = []
  · subst c0
    rw [lnk_nil_left, e0, m0]
    simp [smk_mkN hd]
  · by_cases d0 : d = []
    · subst d0
      rw [lnk_nil_right, e0, m0]
      simp [smk_mkN hc]
    · have := smk_lnk hc hd c0 d0 near
      have h1 := sum_len hc
      have h2 := sum_len hd
      have l1 : 0 < c.length := List.length_pos_iff.2 c0
      have l2 : 0 < d.length := List.length_pos_iff.2 d0
      have g1 : ¬ sgN c = 0 := by unfold sgN; omega
      have g2 : ¬ sgN d = 0 := by unfold sgN; omega
      simp only [g1, g2, or_false]
      exact this
def finF (c d : List Int) : Bool := vsm c && vsm d && (decide (sgN c = sgN d) && decide (mkN c &&& mkN d = mkN d))
theorem finF_no {c d : List Int} (h : (vsm c && vsm d) = false) : finF c d = false := by unfold finF; rw [h]; rfl
theorem finF_yes {c d : List Int} (h : vsm c = true) (h2 : vsm d = true) : finF c d = (decide (sgN c = sgN d) && decide (mkN c &&& mkN d = mkN d)) := by unfold finF; rw [h, h2]; rfl
theorem pow16 {n : Nat} (h : n ≤ 16) : 2 ^ (n - 1) ≤ 32768 := by
  have : (2 : Nat) ^ (n - 1) ≤ 2 ^ 15 := Nat.pow_le_pow_right (by omega) (by omega)
  omega
theorem mkN_16 {L : List Int} (h : vsm L = true) : mkN L < 32768 := by
  have h1 := mkN_lt (vsm_iff.1 h).1
  have h2 := vsm_bd h
  have := pow16 (n := sgN L) (by unfold sgN; omega)
  omega
theorem smM_16 (L : List Int) : smM L < 32768 := by
  have h1 := smM_lt L
  have := pow16 (smS_le L)
  omega
end NP
end Go.Proofs.Ytbbbfaollcklkaa
namespace Go.Proofs.Ytbbbfaollcklkaa
namespace NP
set_option linter.unusedVariables false
theorem mono_uniq {A B : List Int} (hA : mono A) (hB : mono B) (h : ∀ k, eqc k A = eqc k B) (hl : A.length = B.length) : A = B := by
  induction A generalizing B with
  | nil => exact (List.eq_nil_of_length_eq_zero (by simp at hl; omega)).symm
  | cons x r ih =>
    cases B with
    | nil => simp at hl
    | cons y s =>
      have hx : x ∈ y :: s := eqc_mem (by rw [← h x]; exact eqc_pos (by simp))
      have hy : y ∈ x :: r := eqc_mem (by rw [h y]; exact eqc_pos (by simp))
      have e : x = y := by
        rcases List.mem_cons.1 hx with e | e
        · exact e
        · rcases List.mem_cons.1 hy with e2 | e2
          · exact e2.symm
          · have := hB.1 x e; have := hA.1 y e2; omega
      subst e
      congr 1
      exact ih hA.2 hB.2 (fun k => by have := h k; rw [eqc_cons, eqc_cons] at this; omega) (by simpa using hl)
/-- parts from 16 down, m numbers of them, each as often as it comes in L -/
def dscA (L : List Int) : Nat → List Int
  | 0 => []
  | m + 1 => dscA L m ++ List.replicate (eqc ((16 : Int) - m) L).toNat ((16 : Int) - m)
theorem dscA_low (L : List Int) (m : Nat) : ∀ x ∈ dscA L m, (16 : Int) - m < x := by
  induction m with
  | zero => intro x hx; simp [dscA] at hx
  | succ m ih =>
    intro x hx
    rcases List.mem_append.1 hx with hx | hx
    · have := ih x hx; omega
    · have := (List.mem_replicate.1 hx).2; omega
theorem mono_rep (n : Nat) (x : Int) : mono (List.replicate n x) := by
  induction n with
  | zero => exact trivial
  | succ n ih => exact ⟨fun y hy => by have := (List.mem_replicate.1 hy).2; omega, ih⟩
theorem dscA_mono (L : List Int) (m : Nat) : mono (dscA L m) := by
  induction m with
  | zero => exact trivial
  | succ m ih =>
    refine mono_append ih (mono_rep _ _) fun a ha b hb => ?_
    have h1 := dscA_low L m a ha
    have h2 := (List.mem_replicate.1 hb).2
    omega
theorem eqc_out {L : List Int} {k : Int} (h : k ∉ L) : eqc k L = 0 := by
  have h1 := eqc_bd k L
  rcases Int.lt_or_le 0 (eqc k L) with h2 | h2
  · exact absurd (eqc_mem h2) h
  · omega
theorem dscA_eqc (L : List Int) (m : Nat) (k : Int) : eqc k (dscA L m) = if (16 : Int) - m < k ∧ k ≤ 16 then eqc k L else 0 := by
  induction m with
  | zero => simp [dscA, eqc]; omega
  | succ m ih =>
    have hb := eqc_bd ((16 : Int) - m) L
    rw [dscA, eqc_append, ih, eqc_replicate]
    by_cases h1 : (16 : Int) - m = k
    · subst h1
      rw [if_neg (by omega), if_pos rfl, if_pos (by omega)]
      omega
    · rw [if_neg h1]
      by_cases h2 : (16 : Int) - m < k ∧ k ≤ 16
      · rw [if_pos h2, if_pos (by omega)]; omega
      · rw [if_neg h2, if_neg (by omega)]; omega
theorem eqc_len {A B : List Int} (h : ∀ k, eqc k A = eqc k B) : A.length = B.length := by
  induction A generalizing B with
  | nil =>
    cases B with
    | nil => rfl
    | cons y s => have := h y; rw [eqc_cons] at this; have := (eqc_bd y s).1; simp [eqc] at *; omega
  | cons x r ih =>
    have hx : x ∈ B := eqc_mem (by rw [← h x]; exact eqc_pos (by simp))
    obtain ⟨b1, b2, rfl⟩ := List.append_of_mem hx
    have := ih (B := b1 ++ b2) (fun k => by
      have := h k
      rw [eqc_cons, eqc_append, eqc_cons] at this
      rw [eqc_append]; omega)
    simp at this ⊢; omega
theorem dscA_all' {L : List Int} (h : ∀ x ∈ L, 1 ≤ x ∧ x ≤ 16) (m : Nat) (hm : m = 16) : dscA L m = mrg L := by
  have hq : ∀ k, eqc k (dscA L m) = eqc k (mrg L) := fun k => by
    rw [dscA_eqc, mrg_eqc]
    by_cases hk : (16 : Int) - (m : Int) < k ∧ k ≤ 16
    · rw [if_pos hk]
    · rw [if_neg hk]
      exact (eqc_out (fun hx => hk (by have := h k hx; omega))).symm
  exact mono_uniq (dscA_mono L m) (mrg_mono L) hq (eqc_len hq)
theorem dscA_all {L : List Int} (h : ∀ x ∈ L, 1 ≤ x ∧ x ≤ 16) : dscA L 16 = mrg L := dscA_all' h 16 rfl
theorem dscA_le (L : List Int) {j m : Nat} (h : j ≤ m) : (dscA L j).length ≤ (dscA L m).length := by
  induction m with
  | zero => obtain rfl : j = 0 := by omega
            exact Nat.le_refl _
  | succ m ih =>
    rcases Nat.lt_or_ge j (m + 1) with h1 | h1
    · have := ih (by omega); rw [dscA, List.length_append]; omega
    · obtain rfl : j = m + 1 := by omega
      exact Nat.le_refl _
theorem vsm_each {L : List Int} (h : vsm L = true) : ∀ x ∈ L, 1 ≤ x ∧ x ≤ 16 := by
  intro x hx
  obtain ⟨k, hk, rfl⟩ := List.getElem_of_mem hx
  have h1 := vsm_bd (vsm_take h k)
  have h2 := vsm_bd (vsm_take h (k + 1))
  rw [sumL_take_succ L k hk] at h2
  exact ⟨(vsm_iff.1 h).1 _ (List.getElem_mem hk), by omega⟩
theorem mrg_ok {L : List Int} (h : vsm L = true) : valid (mrg L) = true :=
  valid_mono (mrg_mono L) (fun x hx => ((vsm_each h) x (mrg_mem hx)).1) (by rw [mrg_sum]; exact (vsm_iff.1 h).2)
theorem dscA_len {L : List Int} (h : vsm L = true) {m : Nat} (hm : m ≤ 16) : (dscA L m).length ≤ 16 := by
  have h1 := dscA_le L hm
  rw [dscA_all (vsm_each h), mrg_len] at h1
  have := (vsm_bd h).2.2.2
  omega
/-- the parts of summands -/
def posF (L : List Int) : List Int := if vsm L = true then mrg L else []
theorem posF_yes {L : List Int} (h : vsm L = true) : posF L = mrg L := by unfold posF; rw [if_pos h]
theorem posF_no {L : List Int} (h : vsm L = false) : posF L = [] := by unfold posF; rw [if_neg (by rw [h]; decide)]
theorem posF_len (L : List Int) : (posF L).length ≤ 16 := by
  cases h : vsm L with
  | true => rw [posF_yes h, mrg_len]; exact (vsm_bd h).2.2.2
  | false => rw [posF_no h]; simp
theorem posF_valid (L : List Int) : valid (posF L) = true := by
  cases h : vsm L with
  | true => rw [posF_yes h]; exact mrg_ok h
  | false => rw [posF_no h]; rfl
theorem vsm_of_valid {L : List Int} (h : valid L = true) : vsm L = true := vsm_iff.2 ⟨valid_ge1 h, (valid_bd h).2.1⟩
theorem mrg_of_mono {L : List Int} (h : mono L) : mrg L = L := mono_uniq (mrg_mono L) h (fun k => mrg_eqc L k) (mrg_len L)
theorem mono_of_valid {L : List Int} (h : valid L = true) : mono L := by
  have hp := preS_of_valid h
  have hstep : ∀ k (hk : k + 1 < L.length), L[k + 1] ≤ L[k] := fun k hk => by
    have := (hp (k + 1) hk hk).2.2 (by omega)
    simpa using this
  clear h hp
  induction L with
  | nil => exact trivial
  | cons x r ih =>
    refine ⟨fun y hy => ?_, ih (fun k hk => by have := hstep (k + 1) (by simpa using hk); simpa using this)⟩
    obtain ⟨j, hj, rfl⟩ := List.getElem_of_mem hy
    have : ∀ j (hj : j < (x :: r).length), (x :: r)[j] ≤ x := by
      intro j
      induction j with
      | zero => intro _; exact Int.le_refl _
      | succ j ihj =>
        intro hj
        have h1 := hstep j hj
        have h2 := ihj (by omega)
        omega
    have := this (j + 1) (by simpa using hj)
    simpa using this
theorem eqc_rev (k : Int) (L : List Int) : eqc k L.reverse = eqc k L := by
  induction L with
  | nil => rfl
  | cons x r ih => rw [List.reverse_cons, eqc_append, ih, eqc_cons, eqc_cons]; simp [eqc]; omega
theorem mrg_rev (L : List Int) : mrg L.reverse = mrg L :=
  mono_uniq (mrg_mono _) (mrg_mono _) (fun k => by rw [mrg_eqc, mrg_eqc, eqc_rev]) (by rw [mrg_len, mrg_len, List.length_reverse])
/-- how often each number from 0 to 16 comes -/
def tlyL (L : List Int) : List Int := (List.range 17).map fun (v : Nat) => eqc v L
theorem tlyL_len (L : List Int) : (tlyL L).length = 17 := by simp [tlyL]
theorem tlyL_at (L : List Int) {v : Nat} (h : v < 17) : (tlyL L)[v]'(by rw [tlyL_len]; exact h) = eqc v L := by simp [tlyL]
theorem tlyL_next (L : List Int) {x : Nat} (hx : x < 17) : (tlyL L).set x (eqc x L + 1) = tlyL (L ++ [(x : Int)]) := by
  apply List.ext_getElem
  · simp [tlyL]
  · intro v h1 h2
    have hv : v < 17 := by simpa [tlyL] using h2
    rw [List.getElem_set]
    by_cases e : x = v
    · subst e
      rw [if_pos rfl, tlyL_at _ hv, eqc_append]
      simp [eqc]
    · rw [if_neg e, tlyL_at _ hv, tlyL_at _ hv, eqc_append]
      have : ¬ (x : Int) = (v : Int) := by omega
      simp [eqc, this]
end NP
end Go.Proofs.Ytbbbfaollcklkaa
namespace Go.Proofs.Ytbbbfaollcklkaa
namespace NP
set_option linter.unusedVariables false
theorem sel_eqc (k : Int) (L : List Int) (bs : List Bool) : ∀ m, m ≤ L.length → eqc k (sel true L bs m) + eqc k (sel false L bs m) = eqc k (L.take m) := by
  intro m
  induction m with
  | zero => intro _; simp [sel, eqc]
  | succ m ih =>
    intro hm
    have h1 := ih (by omega)
    rw [sel_succ, sel_succ, List.take_succ_eq_append_getElem (by omega : m < L.length), eqc_append, eqc_append, eqc_append]
    have hg : L.getD m 0 = L[m] := getD_lt (by omega)
    cases hb : bs.getD m false with
    | true => simp [eqc] at *; omega
    | false => simp [eqc] at *; omega
theorem sel_sub (b : Bool) (L : List Int) (bs : List Bool) : ∀ m, m ≤ L.length → (sel b L bs m).Sublist (L.take m) := by
  intro m
  induction m with
  | zero => intro _; simp [sel]
  | succ m ih =>
    intro hm
    rw [sel_succ, List.take_succ_eq_append_getElem (by omega : m < L.length)]
    refine (ih (by omega)).append ?_
    have hg : L.getD m 0 = L[m] := getD_lt (by omega)
    split
    · rw [hg]; exact List.Sublist.refl _
    · exact List.nil_sublist _
theorem mono_sub : ∀ {A B : List Int}, A.Sublist B → mono B → mono A := by
  intro A B h
  induction h with
  | slnil => exact id
  | cons x _ ih => exact fun hm => ih hm.2
  | cons_cons x hs ih => exact fun hm => ⟨fun y hy => hm.1 y (hs.subset hy), ih hm.2⟩
theorem sum_sub : ∀ {A B : List Int}, A.Sublist B → (∀ x ∈ B, 1 ≤ x) → 0 ≤ sumL A ∧ sumL A ≤ sumL B := by
  intro A B h
  induction h with
  | slnil => simp [sumL]
  | cons x _ ih =>
    intro hB
    have h1 := ih fun y hy => hB y (List.mem_cons_of_mem _ hy)
    have h2 := hB x List.mem_cons_self
    simp only [sumL]
    omega
  | cons_cons x _ ih =>
    intro hB
    have h1 := ih fun y hy => hB y (List.mem_cons_of_mem _ hy)
    have h2 := hB x List.mem_cons_self
    simp only [sumL]
    omega
theorem valid_sub {A B : List Int} (h : A.Sublist B) (hv : valid B = true) : valid A = true := by
  have h1 := valid_ge1 hv
  exact valid_mono (mono_sub h (mono_of_valid hv)) (fun x hx => h1 x (h.subset hx)) (by have := (sum_sub h h1).2; have := (valid_bd hv).2.1; omega)
theorem sel_sum (L : List Int) (bs : List Bool) : ∀ m, m ≤ L.length → sumL (sel true L bs m) + sumL (sel false L bs m) = sumL (L.take m) := by
  intro m
  induction m with
  | zero => intro _; simp [sel, sumL]
  | succ m ih =>
    intro hm
    have h1 := ih (by omega)
    rw [sel_succ, sel_succ, sumL_take_succ L m (by omega), sumL_append, sumL_append]
    have hg : L.getD m 0 = L[m] := getD_lt (by omega)
    cases hb : bs.getD m false with
    | true => simp [sumL] at *; omega
    | false => simp [sumL] at *; omega
theorem sel_lensum (L : List Int) (bs : List Bool) : ∀ m, (sel true L bs m).length + (sel false L bs m).length = m := by
  intro m
  induction m with
  | zero => simp [sel]
  | succ m ih =>
    rw [sel_succ, sel_succ, List.length_append, List.length_append]
    cases hb : bs.getD m false with
    | true => simp; omega
    | false => simp; omega
theorem mono_getD {L : List Int} (hv : valid L = true) : ∀ i j, i ≤ j → j < L.length → L.getD j 0 ≤ L.getD i 0 := by
  intro i j hij
  induction j with
  | zero => intro _; obtain rfl : i = 0 := by omega
            exact Int.le_refl _
  | succ j ih =>
    intro hj
    rcases Nat.lt_or_ge j i with h1 | h1
    · obtain rfl : i = j + 1 := by omega
      exact Int.le_refl _
    · have h2 := ih h1 (by omega)
      have h3 := mono_get (mono_of_valid hv) j hj
      rw [getD_lt hj]
      rw [getD_lt (by omega : j < L.length)] at h2
      omega
/-- later parts are less behind a corner -/
theorem after_corner {L : List Int} (hv : valid L = true) {i j : Nat} (hi : isC L i = true) (hij : i < j) (hj : j < L.length) : L.getD j 0 < L.getD i 0 := by
  unfold isC at hi
  rw [decide_eq_false (by omega), Bool.false_or, decide_eq_true_eq] at hi
  have := mono_getD hv (i + 1) j (by omega) hj
  omega
theorem last_corner {L : List Int} (hv : valid L = true) : ∀ d i, i + d + 1 = L.length → ∃ j, j < L.length ∧ isC L j = true ∧ L.getD j 0 = L.getD i 0 := by
  intro d
  induction d with
  | zero => intro i hi; exact ⟨i, by omega, by unfold isC; rw [decide_eq_true (by omega)]; rfl, rfl⟩
  | succ d ih =>
    intro i hi
    cases h : isC L i with
    | true => exact ⟨i, by omega, h, rfl⟩
    | false =>
      obtain ⟨j, h1, h2, h3⟩ := ih (i + 1) (by omega)
      refine ⟨j, h1, h2, ?_⟩
      unfold isC at h
      rw [decide_eq_false (by omega), Bool.false_or, decide_eq_false_iff_not] at h
      have := mono_getD hv i (i + 1) (by omega) (by omega)
      omega
theorem sel_mem {b : Bool} {L : List Int} {bs : List Bool} {n : Nat} {x : Int} : x ∈ sel b L bs n ↔ ∃ i, i < n ∧ bs.getD i false = b ∧ L.getD i 0 = x := by
  unfold sel
  simp only [List.mem_map, List.mem_filter, List.mem_range, beq_iff_eq]
  constructor
  · rintro ⟨i, ⟨h1, h2⟩, h3⟩; exact ⟨i, h1, h2, h3⟩
  · rintro ⟨i, h1, h2, h3⟩; exact ⟨i, ⟨h1, h2⟩, h3⟩
theorem sel_strict {L : List Int} {bs : List Bool} (h : vmk L bs = true) : (sel true L bs L.length).Pairwise fun a b => b < a := by
  obtain ⟨hv, hl, hc⟩ := vmk_iff.1 h
  unfold sel
  rw [List.pairwise_map]
  refine List.Pairwise.imp_of_mem ?_ (List.pairwise_lt_range.filter _)
  intro i j hi hj hij
  simp only [List.mem_filter, List.mem_range, beq_iff_eq] at hi hj
  have hci := hc i hi.1
  unfold mkC at hci
  rw [hi.2] at hci
  exact after_corner hv (by simpa using hci) hij hj.1
theorem kFall_strict {A : List Int} (h : A.Pairwise fun a b => b < a) : kFall 1 1 A = true := by
  unfold kFall
  refine allTo_yes fun j hj => decide_eq_true ?_
  have hj2 : j + 1 < A.length := by omega
  have := (List.pairwise_iff_getElem.1 h) j (j + 1) (by omega) hj2 (by omega)
  rw [getD_lt hj2, getD_lt (by omega : j < A.length)]
  split <;> omega
theorem strict_kFall {A : List Int} (h : kFall 1 1 A = true) : ∀ j, (hj : j + 1 < A.length) → A[j + 1] < A[j]'(by omega) := by
  intro j hj
  unfold kFall at h
  have h1 := (allTo_iff _ _).1 h j (by omega)
  rw [getD_lt hj, getD_lt (by omega : j < A.length)] at h1
  have h2 := of_decide_eq_true h1
  split at h2 <;> omega
theorem pw_strict : ∀ {A : List Int}, (∀ j, (hj : j + 1 < A.length) → A[j + 1] < A[j]'(by omega)) → A.Pairwise fun a b => b < a
  | [], _ => List.Pairwise.nil
  | [x], _ => by simp
  | x :: y :: r, h => by
    have h1 := pw_strict (A := y :: r) (fun j hj => h (j + 1) (by simpa using hj))
    have h2 := h 0 (by simp)
    refine List.Pairwise.cons (fun z hz => ?_) h1
    rcases List.mem_cons.1 hz with rfl | hz
    · simpa using h2
    · have := (List.pairwise_cons.1 h1).1 z hz
      simp at h2
      omega
theorem eqc_strict : ∀ {A : List Int} (k : Int), A.Pairwise (fun a b => b < a) → eqc k A = if k ∈ A then 1 else 0
  | [], k, _ => by simp [eqc]
  | x :: r, k, h => by
    obtain ⟨h1, h2⟩ := List.pairwise_cons.1 h
    have ih := eqc_strict k h2
    rw [eqc_cons, ih]
    by_cases e : x = k
    · subst e
      have hn : x ∉ r := fun hm => by have := h1 x hm; omega
      simp [hn]
    · have e' : k ≠ x := fun h => e h.symm
      simp [e, e']
theorem eqc_nn (k : Int) : ∀ A : List Int, 0 ≤ eqc k A
  | [] => by simp [eqc]
  | x :: r => by have := eqc_nn k r; rw [eqc_cons]; split <;> omega
theorem split_two {L : List Int} {bs : List Bool} (h : vmk L bs = true) : pmOk (sel true L bs L.length) (sel false L bs L.length) = true ∧ uni (sel true L bs L.length) (sel false L bs L.length) = L := by
  obtain ⟨hv, hl, hc⟩ := vmk_iff.1 h
  have ht : L.take L.length = L := List.take_of_length_le (Nat.le_refl _)
  have s1 := sel_sub true L bs L.length (Nat.le_refl _)
  have s2 := sel_sub false L bs L.length (Nat.le_refl _)
  have s3 := sel_sum L bs L.length (Nat.le_refl _)
  rw [ht] at s1 s2 s3
  have v1 := valid_sub s1 hv
  have v2 := valid_sub s2 hv
  refine ⟨?_, ?_⟩
  · unfold pmOk two
    rw [v1, v2, decide_eq_true (by rw [s3]; exact (valid_bd hv).2.1), kFall_strict (sel_strict h)]
    rfl
  · refine mono_eq (mrg_mono _) (mono_of_valid hv) (fun k => ?_)
    have h3 := sel_eqc k L bs L.length (Nat.le_refl _)
    rw [ht] at h3
    unfold uni
    rw [mrg_eqc, eqc_append, h3]
theorem split_marks {L : List Int} {bs : List Bool} (h : vmk L bs = true) : mkOf L (fun i => hasI (sel true L bs L.length) (L.getD i 0)) = bs := by
  obtain ⟨hv, hl, hc⟩ := vmk_iff.1 h
  refine List.ext_getElem (by rw [mkOf_len, hl]) (fun i h1 h2 => ?_)
  have hiL : i < L.length := by rw [mkOf_len] at h1; exact h1
  have e := mkOf_getD L (fun i => hasI (sel true L bs L.length) (L.getD i 0)) i
  rw [decide_eq_true hiL, Bool.true_and, List.getD_eq_getElem?_getD, List.getElem?_eq_getElem h1, Option.getD_some] at e
  rw [e]
  have hbi : bs.getD i false = bs[i] := by rw [List.getD_eq_getElem?_getD, List.getElem?_eq_getElem h2]; rfl
  have hci := hc i hiL
  unfold mkC at hci
  rw [hbi] at hci
  unfold hasI
  cases hb : bs[i] with
  | true =>
    rw [hb] at hci hbi
    have h5 : isC L i = true := by simpa using hci
    rw [h5, Bool.true_and]
    exact decide_eq_true (sel_mem.2 ⟨i, hiL, hbi, rfl⟩)
  | false =>
    rw [hb] at hbi
    cases h5 : isC L i with
    | false => rfl
    | true =>
      rw [Bool.true_and]
      refine decide_eq_false fun hm => ?_
      obtain ⟨j, hj, hbj, hLj⟩ := sel_mem.1 hm
      have hcj := hc j hj
      unfold mkC at hcj
      rw [hbj] at hcj
      have h6 : isC L j = true := by simpa using hcj
      rcases Nat.lt_trichotomy i j with h9 | h9 | h9
      · have := after_corner hv h5 h9 hj; omega
      · subst h9; rw [hbi] at hbj; cases hbj
      · have := after_corner hv h6 h9 hiL; omega
theorem split_put {L : List Int} {bs : List Bool} (h : vmk L bs = true) : pmOk (selF true L bs) (selF false L bs) = true ∧ pmL (selF true L bs) (selF false L bs) = L ∧ pmB (selF true L bs) (selF false L bs) = bs := by
  rw [selF_yes h, selF_yes h]
  obtain ⟨h1, h2⟩ := split_two h
  refine ⟨h1, by rw [(pm_yes h1).1, h2], ?_⟩
  rw [(pm_yes h1).2]
  unfold pmT
  rw [h2]
  exact split_marks h
theorem put_split {A B : List Int} (h : pmOk A B = true) : vmk (pmL A B) (pmB A B) = true ∧ selF true (pmL A B) (pmB A B) = A ∧ selF false (pmL A B) (pmB A B) = B := by
  have h' := h
  unfold pmOk at h'
  rw [Bool.and_eq_true] at h'
  obtain ⟨ht, hk⟩ := h'
  obtain ⟨hA, hB, _⟩ := two_out ht
  have hvu := valid_uni ht
  have hvm : vmk (uni A B) (pmT A B) = true := vmk_mkOf hvu _
  rw [(pm_yes h).1, (pm_yes h).2]
  refine ⟨hvm, ?_⟩
  rw [selF_yes hvm, selF_yes hvm]
  obtain ⟨L, hL⟩ : ∃ L, L = uni A B := ⟨_, rfl⟩
  have hT : pmT A B = mkOf L (fun i => hasI A (L.getD i 0)) := by rw [hL]; rfl
  have hTi : ∀ i, i < L.length → (pmT A B).getD i false = (isC L i && hasI A (L.getD i 0)) := fun i hi => by rw [hT, mkOf_getD, decide_eq_true hi, Bool.true_and]
  have hst := sel_strict hvm
  have hAs := pw_strict (strict_kFall hk)
  have heq : ∀ k, eqc k L = eqc k A + eqc k B := fun k => by rw [hL]; unfold uni; rw [mrg_eqc, eqc_append]
  rw [← hL] at hvm hvu hst ⊢
  have hmem : ∀ x, x ∈ sel true L (pmT A B) L.length ↔ x ∈ A := fun x => by
    rw [sel_mem]
    constructor
    · rintro ⟨i, hi, hb, rfl⟩
      rw [hTi i hi, Bool.and_eq_true] at hb
      exact of_decide_eq_true hb.2
    · intro hx
      have h1 : 0 < eqc x L := by rw [heq]; have := eqc_pos hx; have := eqc_nn x B; omega
      have hxL := eqc_mem h1
      obtain ⟨i, hi, rfl⟩ := List.getElem_of_mem hxL
      obtain ⟨j, hj, hcj, hLj⟩ := last_corner hvu (L.length - 1 - i) i (by omega)
      rw [getD_lt hi] at hLj
      refine ⟨j, hj, ?_, hLj⟩
      rw [hTi j hj, hcj, Bool.true_and, hLj]
      exact decide_eq_true hx
  have hsA : sel true L (pmT A B) L.length = A := by
    have ht2 : L.take L.length = L := List.take_of_length_le (Nat.le_refl _)
    have s1 := sel_sub true L (pmT A B) L.length (Nat.le_refl _)
    rw [ht2] at s1
    refine mono_eq (mono_of_valid (valid_sub s1 hvu)) (mono_of_valid hA) (fun k => ?_)
    rw [eqc_strict k hst, eqc_strict k hAs]
    simp only [hmem k]
  refine ⟨hsA, ?_⟩
  have ht2 : L.take L.length = L := List.take_of_length_le (Nat.le_refl _)
  have s2 := sel_sub false L (pmT A B) L.length (Nat.le_refl _)
  rw [ht2] at s2
  refine mono_eq (mono_of_valid (valid_sub s2 hvu)) (mono_of_valid hB) (fun k => ?_)
  have h3 := sel_eqc k L (pmT A B) L.length (Nat.le_refl _)
  rw [ht2, hsA, heq] at h3
  omega
end NP
end Go.Proofs.Ytbbbfaollcklkaa
namespace Go.Proofs.Ytbbbfaollcklkaa
open Go.RowKit NP
set_option maxRecDepth 8000
set_option linter.unusedVariables false
/-- but for block g and those from lo to hi, nothing has turned -/
structure Chg2 (g lo hi : Nat) (w w' : World) : Prop where
  os : w'.os = w.os
  tape : w'.tape = w.tape
  output : w'.output = w.output
  size : w.heap.size ≤ w'.heap.size
  block : ∀ k, k < w.heap.size → k ≠ g → (k < lo ∨ hi ≤ k) → w'.heap[k]? = w.heap[k]?
theorem Chg2.trans {g lo hi : Nat} {a b c : World} (h : Chg2 g lo hi a b) (k : Chg2 g lo hi b c) : Chg2 g lo hi a c :=
  ⟨k.os.trans h.os, k.tape.trans h.tape, k.output.trans h.output, Nat.le_trans h.size k.size, fun i hi hne hd => (k.block i (by have := h.size; omega) hne hd).trans (h.block i hi hne hd)⟩
theorem Chg2.of {g lo hi : Nat} {w w' : World} (h : w.grownBy w' (some g)) : Chg2 g lo hi w w' :=
  ⟨h.os, h.tape, h.output, h.size, fun k hk hne _ => h.block k hk (fun e => by injection e with e; exact hne e)⟩
theorem Chg2.ofBelow {g lo hi : Nat} {w w' : World} (h : Below w.heap.size w w') : Chg2 g lo hi w w' := ⟨h.os, h.tape, h.output, h.size, fun k hk _ _ => h.block k hk⟩
theorem Chg2.set {g lo hi : Nat} {w : World} {p : Addr} (v : Value) (h1 : lo ≤ p.block) (h2 : p.block < hi) : Chg2 g lo hi w (w.setCell p v) :=
  ⟨rfl, rfl, rfl, by simp [World.setCell], fun k _ _ hd => Below.heap_setCell w p v k (by rintro rfl; omega)⟩
theorem Chg2.push {g lo hi : Nat} {w0 w w1 : World} {o : Obj} {row : Option Nat} (h : Chg2 g lo hi w0 w) (hg : (w.alloc o).grownBy w1 row) (hr : ∀ k, row = some k → lo ≤ k ∧ k < hi) : Chg2 g lo hi w0 w1 :=
  (h.trans (.ofBelow ((Below.refl _ w).alloc (Nat.le_refl _) o))).trans ⟨hg.os, hg.tape, hg.output, hg.size, fun k hk hne hd => hg.block k hk (fun e => by have := hr k e.symm; omega)⟩
set_option maxHeartbeats 400000 in
theorem bent_at (g q lo hi : Nat) (a : Option Addr) (c : Nat) (M : List Int) (bs : List Int) (w : World) (hq : q ≤ 900000) (h : Rdr w g bs q) (hs : SmallParts M) (hhi : hi ≤ w.heap.size) (ho : Own w lo hi 3 (.slice a M.length c) (ints M)) (hlo : g < lo) (hloW : lo ≤ w.heap.size) :
    Calls Try.prog 68 #[.pointer (some ⟨g, 0, none⟩), .slice a M.length c] w fun e w' => ∃ a' c' M', e = .returned (.slice a' M'.length c') ∧ Own w' lo w'.heap.size 3 (.slice a' M'.length c') (ints M') ∧ Small M' ∧ (∃ q', q' ≤ q + 4 ∧ Rdr w' g bs q') ∧ Chg2 g lo hi w w' := by
  obtain ⟨i0, hib, hz0, hz1, hz2⟩ := T_int'
  have hlt := h.lt
  have hM16 := hs.1
  have HSM : Hid (Small M) := Lib.hid ⟨by omega, fun x hx => by have := hs.2 x hx; omega⟩
  have HS := Lib.hid hs
  clear hs
  have HO := Lib.hid ho
  clear ho
  go_enter Try.func68, Try.ntmps68
  go_wp2_with fail
  refine (pick_any g _ _ bs _ (by omega) (by omega) h).mono ?_
  rintro e w1 ⟨y, rfl, hy0, hy1, h1, hg1, -⟩
  clear hy1
  have hb1 : Chg2 g lo hi w w1 := .of hg1
  have hz1' := hb1.size
  have hown1 := HO.out.chg hg1 hlo
  clear HO hg1
  have hlt1 := h1.lt
  by_cases h0 : y = 0
  · subst h0
    by_cases hM0 : 0 < M.length
    · have hM0' : (0 : Int) < (M.length : Int) := by omega
      have HO1 := Lib.hid hown1
      clear hown1
      go_wp2_with fail
      refine (pick_any g _ _ bs _ (by omega) (by omega) h1).mono ?_
      rintro e w2 ⟨y2, rfl, hy20, hy21, h2, hg2, -⟩
      obtain ⟨y2, rfl⟩ := Int.eq_ofNat_of_zero_le hy20
      have hyM : y2 < M.length := by have := hy21 (by omega); omega
      clear hy21
      have HO2 := Lib.hid (HO1.out.chg hg2 hlo)
      have hlt2 := h2.lt
      have hb2 : Chg2 g lo hi w w2 := hb1.trans (.of hg2)
      clear HO1 hg2
      go_wp2_with fail
      refine (one_any g _ _ _ _ [0, -1, 17, 9] bs _ (by simp) (by simp) (by omega) (h2.below ((Below.refl _ _).alloc hlt2 _)) (rd_new w2 _ _) (by intro b o e; injection e with e; injection e with e; omega)).mono ?_
      rintro e w3 ⟨k, hk, rfl, h3, hg3, -⟩
      have hx : ∀ x ∈ ([0, -1, 17, 9] : List Int), -1 ≤ x ∧ x ≤ 17 := by decide
      have hx1 := hx _ (List.getElem_mem hk)
      obtain ⟨x, hxx⟩ : ∃ x, x = ([0, -1, 17, 9] : List Int)[k] := ⟨_, rfl⟩
      rw [← hxx] at hx1 ⊢
      clear hx hxx hk
      have hown3 := (HO2.out.alloc (.cells (ints [0, -1, 17, 9]).toArray 3)).chg hg3 hlo
      have hsz2 := hb2.size
      have hb3 : Chg2 g lo hi w w3 := (hb2.trans (.ofBelow ((Below.refl _ w2).alloc (Nat.le_refl _) _))).trans (.of hg3)
      clear HO2 hg3
      obtain ⟨g2, u, rfl, hlo2, hhi2, hc2, hf2⟩ := hown3.spot (k := y2) (by simpa using hyM)
      have HO3 := Lib.hid hown3
      clear hown3
      have hcs : ∀ v, Chg2 g lo hi w (w3.setCell ⟨g2, y2, none⟩ v) := fun v => hb3.trans (.set _ hlo2 hhi2)
      have HCS := Lib.hid hcs
      clear hcs
      have HRS : Hid (∀ v, Rdr (w3.setCell ⟨g2, y2, none⟩ v) g bs (q + 1 + 1 + 1)) := Lib.hid fun v => h3.below ((Below.refl _ _).setCell (by show g + 1 ≤ g2; omega) v)
      go_wp2_with fail
      go_ret
      have e := HO3.out.set y2 (.int .i64 x)
      have hset : (ints M).set y2 (.int .i64 x) = ints (M.set y2 x) := by simp [ints, List.map_set]
      rw [hset] at e
      refine ⟨some ⟨g2, 0, none⟩, c, M.set y2 x, by simp, by simpa using e.more, ⟨by simpa using HSM.out.1, fun z hz => ?_⟩, ⟨_, by omega, HRS.out _⟩, HCS.out _⟩
      rcases List.mem_or_eq_of_mem_set hz with hz | rfl
      · exact HSM.out.2 z hz
      · exact hx1
    · have hM0' : (M.length : Int) ≤ 0 := by omega
      have hd0 : decide (0 < M.length) = false := decide_eq_false hM0
      have HO1 := Lib.hid hown1
      clear hown1
      go_wp2_with fail
      go_ret
      exact ⟨a, c, M, rfl, HO1.out.more, HSM.out, ⟨q + 1, by omega, h1⟩, hb1⟩
  · have e0 : (y == 0) = false := by simp; omega
    by_cases h1' : y = 1
    · subst h1'
      have hlo1 : lo ≤ w1.heap.size := by
        rcases hown1.row.2 with ⟨_, h⟩ | ⟨g2, cap, cur, _, hb, hg, _⟩
        · exact Nat.le_trans hloW hb1.size
        · have := (Array.getElem?_eq_some_iff.1 hg).1; omega
      have hlen2 : (ints M).length = M.length := by simp
      go_wp2_with (at_builtin; refine wpList_append_o _ rfl (.tmp 23) (.tmp 24) 22 rfl lo hi 3 i0 (.int .i64 0) 8 Try.underlying22 hib hz0 hz1 hz2 rfl _ (ints M) rfl (hown1.alloc _) (w1.heap.size + 1) (some ⟨w1.heap.size, 0, none⟩) 1 1 (ints [9]) rfl (rd_new w1 _ _) rfl (ints_one _) (by rw [hlen2]; unfold maxLen; omega) (by rw [hlen2]; omega) (by simp; omega) ?_; intro v' w3 ho3 hg3 hat3)
      go_ret
      have e : ints M ++ ints [9] = ints (M ++ [9]) := by simp [ints]
      rw [e] at ho3
      obtain ⟨a', c', rfl⟩ := ho3.form
      have hl3 : (ints (M ++ [9])).length = (M ++ [9]).length := by simp
      rw [hl3] at ho3 ⊢
      refine ⟨a', c', M ++ [9], rfl, ho3, ⟨by simp; omega, fun x hx => ?_⟩, ⟨q + 1, by omega, (h1.row (World.grownBy_alloc w1 _ none) (by simp)).row hg3 (fun k hk => by have := hown1.base k hk; omega)⟩, hb1.push hg3 (fun k hk => ⟨hown1.base k hk, hown1.lt k hk⟩)⟩
      rcases List.mem_append.1 hx with hx | hx
      · exact HSM.out.2 x hx
      · have : ∀ x ∈ ([9] : List Int), -1 ≤ x ∧ x ≤ 17 := by decide
        exact this x hx
    · have e1 : (y == 1) = false := by simp; omega
      by_cases h2' : y = 2
      · subst h2'
        have hlo1 : lo ≤ w1.heap.size := by
          rcases hown1.row.2 with ⟨_, h⟩ | ⟨g2, cap, cur, _, hb, hg, _⟩
          · exact Nat.le_trans hloW hb1.size
          · have := (Array.getElem?_eq_some_iff.1 hg).1; omega
        have hlen2 : (ints M).length = M.length := by simp
        go_wp2_with (at_builtin; refine wpList_append_o _ rfl (.tmp 28) (.tmp 29) 22 rfl lo hi 3 i0 (.int .i64 0) 8 Try.underlying22 hib hz0 hz1 hz2 rfl _ (ints M) rfl (hown1.alloc _) (w1.heap.size + 1) (some ⟨w1.heap.size, 0, none⟩) 16 16 (ints [1, 1, 1, 1, 1, 1, 1, 1, 1, 1, 1, 1, 1, 1, 1, 1]) rfl (rd_new w1 _ _) rfl (ints_one _) (by rw [hlen2]; unfold maxLen; omega) (by rw [hlen2]; omega) (by simp; omega) ?_; intro v' w3 ho3 hg3 hat3)
        go_ret
        have e : ints M ++ ints [1, 1, 1, 1, 1, 1, 1, 1, 1, 1, 1, 1, 1, 1, 1, 1] = ints (M ++ [1, 1, 1, 1, 1, 1, 1, 1, 1, 1, 1, 1, 1, 1, 1, 1]) := by simp [ints]
        rw [e] at ho3
        obtain ⟨a', c', rfl⟩ := ho3.form
        have hl3 : (ints (M ++ [1, 1, 1, 1, 1, 1, 1, 1, 1, 1, 1, 1, 1, 1, 1, 1])).length = (M ++ [1, 1, 1, 1, 1, 1, 1, 1, 1, 1, 1, 1, 1, 1, 1, 1]).length := by simp
        rw [hl3] at ho3 ⊢
        refine ⟨a', c', M ++ [1, 1, 1, 1, 1, 1, 1, 1, 1, 1, 1, 1, 1, 1, 1, 1], rfl, ho3, ⟨by simp; omega, fun x hx => ?_⟩, ⟨q + 1, by omega, (h1.row (World.grownBy_alloc w1 _ none) (by simp)).row hg3 (fun k hk => by have := hown1.base k hk; omega)⟩, hb1.push hg3 (fun k hk => ⟨hown1.base k hk, hown1.lt k hk⟩)⟩
        rcases List.mem_append.1 hx with hx | hx
        · exact HSM.out.2 x hx
        · have : ∀ x ∈ ([1, 1, 1, 1, 1, 1, 1, 1, 1, 1, 1, 1, 1, 1, 1, 1] : List Int), -1 ≤ x ∧ x ≤ 17 := by decide
          exact this x hx
      · have e2 : (y == 2) = false := by simp; omega
        have HO1 := Lib.hid hown1
        clear hown1
        go_wp2_with fail
        go_ret
        exact ⟨a, c, M, rfl, HO1.out.more, HSM.out, ⟨q + 1, by omega, h1⟩, hb1⟩
end Go.Proofs.Ytbbbfaollcklkaa
