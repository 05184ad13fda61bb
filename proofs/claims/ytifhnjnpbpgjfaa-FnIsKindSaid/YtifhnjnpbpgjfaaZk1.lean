/-
  Plain mathematics of parts: valid lists, their enumeration, prefixes. No Go text. Plain mathematics of times and corners. Plain mathematics of corners, diagonals, cells taken away and put. Plain mathematics of counts: how many parts have a sum, none greater than a number. Plain mathematics of counts, over whole numbers. Plain mathematics of sums over squares and divisors. Plain mathematics of counts with signs. Plain mathematics: tables of counts, signs and divisors up to 40, and what the promises say of them. Plain mathematics of cells taken away and put. Plain mathematics of places: how many parts come ahead, and the parts at a place. Plain mathematics of parts of a set. Plain mathematics of parts of a set: the last one; all numbers; odd ones. Plain mathematics: sums over squares against counts of sets, by tables up to 40; no Go text.
-/
import Derived.KernelRfl
namespace Go.Proofs.Ytifhnjnpbpgjfaa
namespace NP
/-- parts below most with at most left together -/
def vb : Int → Int → List Int → Bool
  | _, _, [] => true
  | m, l, x :: r => decide (1 ≤ x) && decide (x ≤ l) && decide (x ≤ m) && vb x (l - x) r
def valid (L : List Int) : Bool := vb 16 16 L

/-- all parts: greatest at most m, together at most l; f: fuel -/
def enum : Nat → Nat → Nat → List (List Nat)
  | 0, _, _ => [[]]
  | f + 1, m, l => [] :: ((List.range (min m l)).flatMap fun k => (enum f (k + 1) (l - (k + 1))).map ((k + 1) :: ·))

theorem mem_enum : ∀ (f : Nat) (m l : Nat) (L : List Int), l ≤ f → vb m l L = true → ∃ N ∈ enum f m l, L = N.map Int.ofNat := by
  intro f
  induction f with
  | zero =>
    intro m l L hl h
    cases L with
    | nil => exact ⟨[], by simp [enum], rfl⟩
    | cons x r => simp [vb] at h; omega
  | succ f ih =>
    intro m l L hl h
    cases L with
    | nil => exact ⟨[], by simp [enum], rfl⟩
    | cons x r =>
      simp only [vb, Bool.and_eq_true, decide_eq_true_eq] at h
      obtain ⟨⟨⟨h1, h2⟩, h3⟩, h4⟩ := h
      obtain ⟨n, rfl⟩ := Int.eq_ofNat_of_zero_le (show 0 ≤ x by omega)
      have e : ((l : Int) - (n : Int)) = ((l - n : Nat) : Int) := by omega
      rw [e] at h4
      obtain ⟨N, hN, hr⟩ := ih n (l - n) r (by omega) h4
      refine ⟨n :: N, ?_, by simp [hr]⟩
      simp only [enum, List.mem_cons, List.mem_flatMap, List.mem_range, List.mem_map]
      right
      refine ⟨n - 1, by omega, N, ?_, ?_⟩
      · rw [show n - 1 + 1 = n by omega]; exact hN
      · rw [show n - 1 + 1 = n by omega]

def all16 : List (List Nat) := enum 16 16 16
theorem mem_all16 {L : List Int} (h : valid L = true) : ∃ N ∈ all16, L = N.map Int.ofNat := mem_enum 16 16 16 L (by omega) h

/-- what is true of each of the 915 -/
theorem of_all {p : List Nat → Bool} (hp : all16.all p = true) {L : List Int} (h : valid L = true) : ∃ N, p N = true ∧ L = N.map Int.ofNat := by
  obtain ⟨N, hN, e⟩ := mem_all16 h
  exact ⟨N, List.all_eq_true.1 hp N hN, e⟩
end NP
namespace NP
def sumL : List Int → Int | [] => 0 | x :: r => x + sumL r
theorem sumL_append (a b : List Int) : sumL (a ++ b) = sumL a + sumL b := by
  induction a with
  | nil => simp [sumL]
  | cons x r ih => simp [sumL, ih]; omega
theorem sumL_take_succ (L : List Int) (k : Nat) (h : k < L.length) : sumL (L.take (k + 1)) = sumL (L.take k) + L[k] := by
  rw [List.take_succ_eq_append_getElem h, sumL_append]; simp [sumL]
def lastOr (m : Int) (L : List Int) : Int := L.getLastD m
theorem vb_append (m l : Int) (a b : List Int) : vb m l (a ++ b) = (vb m l a && vb (a.getLastD m) (l - sumL a) b) := by
  induction a generalizing m l with
  | nil => simp [vb, sumL]
  | cons x r ih =>
    simp only [List.cons_append, vb, ih, sumL]
    have e : (x :: r).getLastD m = r.getLastD x := by cases r <;> simp [List.getLastD]
    rw [e, show l - x - sumL r = l - (x + sumL r) by omega]
    simp [Bool.and_assoc]
theorem vb_nonneg {m l : Int} {a : List Int} (hl : 0 ≤ l) (h : vb m l a = true) : 0 ≤ sumL a ∧ sumL a ≤ l ∧ (a.length : Int) ≤ sumL a := by
  induction a generalizing m l with
  | nil => simp [sumL]; omega
  | cons x r ih =>
    simp only [vb, Bool.and_eq_true, decide_eq_true_eq] at h
    have := ih (by omega) h.2
    simp only [sumL, List.length_cons]
    omega
theorem valid_bd {L : List Int} (h : valid L = true) : 0 ≤ sumL L ∧ sumL L ≤ 16 ∧ (L.length : Int) ≤ sumL L ∧ L.length ≤ 16 := by
  have := vb_nonneg (by omega) h
  omega
theorem valid_take {L : List Int} (h : valid L = true) (k : Nat) : valid (L.take k) = true := by
  have e := List.take_append_drop k L
  unfold valid at *
  rw [← e, vb_append] at h
  simp at h
  exact h.1
theorem valid_of_take {L : List Int} {k : Nat} (h : valid (L.take k) = false) : valid L = false := by
  cases hv : valid L with
  | false => rfl
  | true => rw [valid_take hv k] at h; cases h
/-- a step of the prefix -/
theorem valid_step {L : List Int} {k : Nat} (hk : k < L.length) (h : valid (L.take k) = true) :
    valid (L.take (k + 1)) = (decide (1 ≤ L[k]) && decide (L[k] ≤ 16 - sumL (L.take k)) && decide (L[k] ≤ (L.take k).getLastD 16)) := by
  rw [List.take_succ_eq_append_getElem hk]
  unfold valid at *
  rw [vb_append, h]
  simp [vb]
theorem last_take {L : List Int} {k : Nat} (hk : k < L.length) : (L.take (k + 1)).getLastD 16 = L[k] := by
  rw [List.take_succ_eq_append_getElem hk, List.getLastD_eq_getLast?, List.getLast?_append]; simp
theorem vb_iff (m l : Int) (L : List Int) : vb m l L = true ↔ (∀ k (h : k < L.length), 1 ≤ L[k] ∧ L[k] ≤ m ∧ (∀ h' : k + 1 < L.length, L[k+1] ≤ L[k])) ∧ (0 < L.length → sumL L ≤ l) := by
  induction L generalizing m l with
  | nil => simp [vb]
  | cons x r ih =>
    simp only [vb, Bool.and_eq_true, decide_eq_true_eq, ih, List.length_cons, sumL]
    constructor
    · rintro ⟨⟨⟨h1, h2⟩, h3⟩, h4, h5⟩
      refine ⟨fun k hk => ?_, fun _ => ?_⟩
      · match k, hk with
        | 0, hk => exact ⟨h1, h3, fun h' => (h4 0 (by omega)).2.1⟩
        | k + 1, hk =>
          have := h4 k (by omega)
          have hx : r[k] ≤ x := by
            clear h5
            exact this.2.1
          exact ⟨this.1, by simp; omega, fun h' => this.2.2 (by omega)⟩
      · rcases Nat.eq_zero_or_pos r.length with h0 | h0
        · have : r = [] := List.eq_nil_of_length_eq_zero h0
          subst this; simp [sumL]; omega
        · have := h5 h0; omega
    · rintro ⟨h4, h5⟩
      have h0 := h4 0 (by omega)
      simp at h0
      have hs : ∀ (r : List Int) (x : Int), (∀ k (h : k < (x :: r).length), 1 ≤ (x :: r)[k]) → 0 ≤ sumL r := by
        intro r
        induction r with
        | nil => intro x _; simp [sumL]
        | cons y s ih => 
          intro x h
          have h1 := h 1 (by simp)
          have := ih y (fun k hk => h (k + 1) (by simpa using hk))
          simp [sumL] at *; omega
      have hr := hs r x (fun k hk => (h4 k (by simpa using hk)).1)
      have h6 := h5 (by omega)
      refine ⟨⟨⟨h0.1, by omega⟩, by omega⟩, fun k hk => ?_, fun _ => by omega⟩
      have h7 := h4 (k + 1) (by omega)
      have mono : ∀ k (hk : k < (x :: r).length), (x :: r)[k] ≤ x := by
        intro k
        induction k with
        | zero => intro _; simp
        | succ k ihk =>
          intro hk
          have := (h4 k (by simp at hk ⊢; omega)).2.2 (by simpa using hk)
          have := ihk (by omega)
          omega
      exact ⟨h7.1, mono (k + 1) (by simpa using hk), fun h' => h7.2.2 (by omega)⟩
end NP
namespace NP
/-- the spec's own prefix condition -/
def preS (L : List Int) (k : Nat) : Prop := ∀ j (h : j < L.length), j < k → 1 ≤ L[j] ∧ L[j] ≤ 16 ∧ (0 < j → L[j] ≤ L[j - 1]'(by omega))
theorem valid_of_preS {L : List Int} (h : preS L L.length) (hs : sumL L ≤ 16) : valid L = true := by
  unfold valid
  rw [vb_iff]
  refine ⟨fun k hk => ?_, fun _ => hs⟩
  have h1 := h k hk hk
  refine ⟨h1.1, h1.2.1, fun h' => ?_⟩
  have h2 := (h (k + 1) h' h').2.2 (by omega)
  simpa using h2
theorem preS_of_valid {L : List Int} (h : valid L = true) : preS L L.length := by
  unfold valid at h
  rw [vb_iff] at h
  intro j hj _
  have h1 := h.1 j hj
  refine ⟨h1.1, h1.2.1, fun h0 => ?_⟩
  have h2 := (h.1 (j - 1) (by omega)).2.2 (by omega)
  have e : j - 1 + 1 = j := by omega
  simp only [e] at h2
  exact h2
theorem preS_succ {L : List Int} {k : Nat} (hk : k < L.length) (h : preS L k) (h1 : 1 ≤ L[k]) (h2 : L[k] ≤ 16) (h3 : 0 < k → L[k] ≤ L[k - 1]'(by omega)) : preS L (k + 1) := by
  intro j hj hjk
  rcases Nat.lt_or_ge j k with hlt | hge
  · exact h j hj hlt
  · obtain rfl : j = k := by omega
    exact ⟨h1, h2, h3⟩
theorem not_valid_at {L : List Int} {k : Nat} (hk : k < L.length) (h : ¬ (1 ≤ L[k] ∧ L[k] ≤ 16 ∧ (0 < k → L[k] ≤ L[k - 1]'(by omega)))) : valid L = false := by
  cases hv : valid L with
  | false => rfl
  | true => exact absurd (preS_of_valid hv k hk hk) h
theorem preS_sum {L : List Int} (h : preS L L.length) : ∀ k, k ≤ L.length → (k : Int) ≤ sumL (L.take k) ∧ sumL (L.take k) ≤ 16 * k := by
  intro k
  induction k with
  | zero => intro _; simp [sumL]
  | succ k ih =>
    intro hk
    have := ih (by omega)
    have h1 := h k (by omega) (by omega)
    rw [sumL_take_succ L k (by omega)]
    omega
end NP
namespace NP
theorem last_take' {L : List Int} {k : Nat} (hk : k < L.length) (h0 : 0 < k) : (L.take k).getLastD 16 = L[k - 1]'(by omega) := by
  have := last_take (L := L) (k := k - 1) (by omega)
  rw [show k - 1 + 1 = k by omega] at this
  exact this
theorem valid_next {L : List Int} {k : Nat} (hk : k < L.length) (h : valid (L.take k) = true) (h1 : 1 ≤ L[k]) (h2 : L[k] ≤ 16 - sumL (L.take k)) (h3 : 0 < k → L[k] ≤ L[k - 1]'(by omega)) : valid (L.take (k + 1)) = true := by
  rw [valid_step hk h]
  have hb := valid_bd h
  rcases Nat.eq_zero_or_pos k with h0 | h0
  · subst h0
    simp at h2 ⊢
    simp [sumL] at h2 ⊢
    omega
  · rw [last_take' hk h0]
    have := h3 h0
    simp; omega
theorem valid_stop {L : List Int} {k : Nat} (hk : k < L.length) (h : valid (L.take k) = true) (hn : ¬ (1 ≤ L[k] ∧ L[k] ≤ 16 - sumL (L.take k) ∧ (0 < k → L[k] ≤ L[k - 1]'(by omega)))) : valid L = false := by
  cases hv : valid L with
  | false => rfl
  | true =>
    have h1 := valid_take hv (k + 1)
    rw [valid_step hk h] at h1
    simp at h1
    exact absurd ⟨h1.1.1, h1.1.2, fun h0 => by rw [← last_take' hk h0]; simpa using h1.2⟩ hn
end NP
namespace NP
/-- the parts and 0 behind them -/
def pad (L : List Int) : List Int := L ++ List.replicate (16 - L.length) 0
theorem pad_len {L : List Int} (h : L.length ≤ 16) : (pad L).length = 16 := by simp [pad]; omega
theorem pad_set {L : List Int} {k : Nat} (hk : k < L.length) (h : k < 16) : (pad (L.take k)).set k L[k] = pad (L.take (k + 1)) := by
  unfold pad
  have e1 : (L.take k).length = k := by simp; omega
  have e2 : (L.take (k + 1)).length = k + 1 := by simp; omega
  rw [e1, e2, show 16 - k = (16 - (k + 1)) + 1 by omega, List.replicate_succ, List.set_append_right _ _ (by omega), e1, Nat.sub_self, List.set_cons_zero, List.take_succ_eq_append_getElem hk, List.append_assoc]
  simp
/-- the array that diagramOf returns -/
def dg (L : List Int) : List Int := if valid L then pad L else List.replicate 16 0
theorem dg_yes {L : List Int} (h : valid L = true) : dg L = pad L := by simp [dg, h]
theorem dg_no {L : List Int} (h : valid L = false) : dg L = List.replicate 16 0 := by simp [dg, h]

/-- how far a test holds from k on, f places at most -/
def ffrom (p : Nat → Bool) : Nat → Nat → Nat
  | 0, k => k
  | f + 1, k => if p k then ffrom p f (k + 1) else k
def ff (p : Nat → Bool) (n : Nat) : Nat := ffrom p n 0
theorem ffrom_eq (p : Nat → Bool) : ∀ (f k0 k : Nat), (∀ j, k0 ≤ j → j < k → p j = true) → k0 ≤ k → k ≤ k0 + f → (k = k0 + f ∨ p k = false) → ffrom p f k0 = k := by
  intro f
  induction f with
  | zero => intro k0 k _ h1 h2 _; simp only [ffrom]; omega
  | succ f ih =>
    intro k0 k h h1 h2 h3
    simp only [ffrom]
    by_cases hk : k = k0
    · subst hk
      rcases h3 with h3 | h3
      · omega
      · simp [h3]
    · rw [if_pos (h k0 (Nat.le_refl _) (by omega))]
      exact ih (k0 + 1) k (fun j hj hjk => h j (by omega) hjk) (by omega) (by omega) (h3.imp (by omega) id)
theorem ff_eq {p : Nat → Bool} {n k : Nat} (h : ∀ j, j < k → p j = true) (h2 : k ≤ n) (h3 : k = n ∨ p k = false) : ff p n = k :=
  ffrom_eq p n 0 k (fun j _ hj => h j hj) (Nat.zero_le _) (by omega) (by simpa using h3)

theorem pad_get {L : List Int} {k : Nat} (h : L.length ≤ 16) (hk : k < L.length) : (pad L)[k]'(by rw [pad_len h]; omega) = L[k] := by simp [pad, List.getElem_append_left hk]
theorem pad_get0 {L : List Int} {k : Nat} (h : L.length ≤ 16) (hk : L.length ≤ k) (h16 : k < 16) : (pad L)[k]'(by rw [pad_len h]; omega) = 0 := by simp [pad, List.getElem_append_right hk]
theorem pad_take {L : List Int} : (pad L).take L.length = L := by simp [pad]

/-- how many are at least k -/
def cnt (k : Int) : List Int → Int
  | [] => 0
  | x :: r => (if k ≤ x then 1 else 0) + cnt k r
theorem cnt_append (k : Int) (a b : List Int) : cnt k (a ++ b) = cnt k a + cnt k b := by
  induction a with
  | nil => simp [cnt]
  | cons x r ih => simp [cnt, ih]; omega
theorem cnt_take_succ (k : Int) (L : List Int) (i : Nat) (h : i < L.length) : cnt k (L.take (i + 1)) = cnt k (L.take i) + (if k ≤ L[i] then 1 else 0) := by
  rw [List.take_succ_eq_append_getElem h, cnt_append]; simp [cnt]
theorem cnt_bd (k : Int) (L : List Int) : 0 ≤ cnt k L ∧ cnt k L ≤ L.length := by
  induction L with
  | nil => simp [cnt]
  | cons x r ih => simp only [cnt, List.length_cons]; split <;> omega
theorem cnt_anti {k l : Int} (h : k ≤ l) (L : List Int) : cnt l L ≤ cnt k L := by
  induction L with
  | nil => simp [cnt]
  | cons x r ih => simp only [cnt]; (repeat' split) <;> omega
theorem cnt_zero {k : Int} (hk : 1 ≤ k) (n : Nat) : cnt k (List.replicate n 0) = 0 := by
  induction n with
  | zero => rfl
  | succ n ih => rw [List.replicate_succ, cnt, ih]; split <;> omega
theorem cnt_pad {k : Int} (hk : 1 ≤ k) (L : List Int) : cnt k (pad L) = cnt k L := by unfold pad; rw [cnt_append, cnt_zero hk]; omega
theorem cnt_none {k : Int} {L : List Int} (h : ∀ x ∈ L, x < k) : cnt k L = 0 := by
  induction L with
  | nil => rfl
  | cons x r ih =>
    rw [cnt, ih (fun y hy => h y (by simp [hy]))]
    have := h x (by simp)
    split <;> omega
def conj (L : List Int) : List Int := (List.range (L.headD 0).toNat).map fun (j : Nat) => cnt ((j : Int) + 1) L
theorem conj_len (L : List Int) : (conj L).length = (L.headD 0).toNat := by simp [conj]
theorem conj_get (L : List Int) (k : Nat) (h : k < (conj L).length) : (conj L)[k] = cnt ((k : Int) + 1) L := by simp [conj]
theorem head_ge {L : List Int} (h : valid L = true) : ∀ x ∈ L, x ≤ L.headD 0 := by
  have hp := preS_of_valid h
  have key : ∀ k (hk : k < L.length), L[k] ≤ L.headD 0 := by
    intro k
    induction k with
    | zero => intro hk; cases L <;> simp at hk ⊢
    | succ k ih =>
      intro hk
      have h1 := (hp (k + 1) hk hk).2.2 (by omega)
      have h2 := ih (by omega)
      simp at h1
      omega
  intro x hx
  obtain ⟨k, hk, rfl⟩ := List.getElem_of_mem hx
  exact key k hk
theorem headD_bd {L : List Int} (h : valid L = true) : 0 ≤ L.headD 0 ∧ L.headD 0 ≤ 16 := by
  have hp := preS_of_valid h
  cases L with
  | nil => simp
  | cons x r => have := hp 0 (by simp) (by simp); simp at this ⊢; omega
def tsum (n : Nat) (x : Int) : Int := sumL ((List.range n).map fun (j : Nat) => if (j : Int) + 1 ≤ x then 1 else 0)
theorem tsum_le (n : Nat) (x : Int) (hx : 0 ≤ x) : tsum n x ≤ x ∧ tsum n x ≤ n := by
  induction n with
  | zero => simp [tsum, sumL]; exact hx
  | succ n ih =>
    have e : tsum (n + 1) x = tsum n x + if (n : Int) + 1 ≤ x then 1 else 0 := by
      simp [tsum, List.range_succ, sumL_append, sumL]
    rw [e]
    split <;> omega
theorem csum_le (n : Nat) (L : List Int) (h : ∀ x ∈ L, 0 ≤ x) : sumL ((List.range n).map fun (j : Nat) => cnt ((j : Int) + 1) L) ≤ sumL L := by
  induction L with
  | nil =>
    have : ∀ n : Nat, sumL ((List.range n).map fun (j : Nat) => cnt ((j : Int) + 1) []) = 0 := by
      intro n
      induction n with
      | zero => rfl
      | succ n ih => rw [List.range_succ, List.map_append, sumL_append, ih]; simp [cnt, sumL]
    rw [this]; simp [sumL]
  | cons x r ih =>
    have e : ∀ n : Nat, sumL ((List.range n).map fun (j : Nat) => cnt ((j : Int) + 1) (x :: r)) = tsum n x + sumL ((List.range n).map fun (j : Nat) => cnt ((j : Int) + 1) r) := by
      intro n
      induction n with
      | zero => rfl
      | succ n ih => 
        have e2 : tsum (n + 1) x = tsum n x + if (n : Int) + 1 ≤ x then 1 else 0 := by
          simp [tsum, List.range_succ, sumL_append, sumL]
        rw [List.range_succ, List.map_append, sumL_append, ih, List.map_append, sumL_append, e2]
        simp [cnt, sumL]; omega
    rw [e, sumL]
    have h1 := (tsum_le n x (h x (by simp))).1
    have h2 := ih (fun y hy => h y (by simp [hy]))
    omega
theorem valid_nonneg {L : List Int} (h : valid L = true) : ∀ x ∈ L, 0 ≤ x := by
  intro x hx
  obtain ⟨k, hk, rfl⟩ := List.getElem_of_mem hx
  have := preS_of_valid h k hk hk
  omega
theorem valid_conj {L : List Int} (h : valid L = true) : valid (conj L) = true := by
  have hb := valid_bd h
  have hc : ∀ k : Nat, cnt k L ≤ 16 := fun k => by have := (cnt_bd k L).2; omega
  unfold valid
  rw [vb_iff]
  refine ⟨fun k hk => ?_, fun _ => ?_⟩
  · rw [conj_get]
    rw [conj_len] at hk
    refine ⟨?_, by have := (cnt_bd ((k : Int) + 1) L).2; omega, fun h' => ?_⟩
    · cases L with
      | nil => simp at hk
      | cons x r =>
        simp at hk
        have := (cnt_bd ((k : Int) + 1) r).1
        rw [cnt, if_pos (by omega)]
        omega
    · rw [conj_get]
      exact cnt_anti (by omega) L
  · have := csum_le (L.headD 0).toNat L (valid_nonneg h)
    unfold conj
    omega
theorem conj_pad {L : List Int} (h : valid L = true) : ((List.range 16).map fun (j : Nat) => cnt ((j : Int) + 1) (pad L)) = pad (conj L) := by
  have hb := headD_bd h
  have hlen : (conj L).length ≤ 16 := by rw [conj_len]; omega
  apply List.ext_getElem
  · rw [pad_len hlen]; simp
  · intro k h1 h2
    simp at h1
    rw [List.getElem_map, List.getElem_range, cnt_pad (by omega)]
    by_cases hk : k < (conj L).length
    · rw [pad_get hlen hk, conj_get]
    · rw [pad_get0 hlen (by omega) h1]
      rw [conj_len] at hk
      exact cnt_none fun x hx => by have := head_ge h x hx; omega
end NP
namespace NP
theorem tsum_eq (n : Nat) (x : Int) (hx : 0 ≤ x) (hn : x ≤ n) : tsum n x = x := by
  have key : ∀ k : Nat, tsum k x = if (k : Int) ≤ x then (k : Int) else x := by
    intro k
    induction k with
    | zero => simp [tsum, sumL]; omega
    | succ k ih =>
      have e : tsum (k + 1) x = tsum k x + if (k : Int) + 1 ≤ x then 1 else 0 := by
        simp [tsum, List.range_succ, sumL_append, sumL]
      rw [e, ih]
      (repeat' split) <;> omega
  rw [key]
  split <;> omega
theorem csum_eq (n : Nat) (L : List Int) (h : ∀ x ∈ L, 0 ≤ x ∧ x ≤ n) : sumL ((List.range n).map fun (j : Nat) => cnt ((j : Int) + 1) L) = sumL L := by
  induction L with
  | nil =>
    have : ∀ n : Nat, sumL ((List.range n).map fun (j : Nat) => cnt ((j : Int) + 1) []) = 0 := by
      intro n
      induction n with
      | zero => rfl
      | succ n ih => rw [List.range_succ, List.map_append, sumL_append, ih]; simp [cnt, sumL]
    rw [this]; simp [sumL]
  | cons x r ih =>
    have e : ∀ n : Nat, sumL ((List.range n).map fun (j : Nat) => cnt ((j : Int) + 1) (x :: r)) = tsum n x + sumL ((List.range n).map fun (j : Nat) => cnt ((j : Int) + 1) r) := by
      intro n
      induction n with
      | zero => rfl
      | succ n ih =>
        have e2 : tsum (n + 1) x = tsum n x + if (n : Int) + 1 ≤ x then 1 else 0 := by
          simp [tsum, List.range_succ, sumL_append, sumL]
        rw [List.range_succ, List.map_append, sumL_append, ih, List.map_append, sumL_append, e2]
        simp [cnt, sumL]; omega
    have hx := h x (by simp)
    rw [e, tsum_eq n x hx.1 hx.2, sumL, ih (fun y hy => h y (by simp [hy]))]
theorem sumL_conj {L : List Int} (h : valid L = true) : sumL (conj L) = sumL L := by
  unfold conj
  refine csum_eq _ _ fun x hx => ?_
  have h1 := valid_nonneg h x hx
  have h2 := head_ge h x hx
  omega
end NP
namespace NP
theorem falls_all {L : List Int} (h : valid L = true) : ∀ i j (hi : i < L.length) (_ : j ≤ i), L[i] ≤ L[j]'(by omega) := by
  have hp := preS_of_valid h
  intro i
  induction i with
  | zero => intro j hi hj; obtain rfl : j = 0 := (by omega); exact Int.le_refl _
  | succ i ih =>
    intro j hi hj
    rcases Nat.lt_or_ge j (i + 1) with h1 | h1
    · have h2 := (hp (i + 1) hi hi).2.2 (by omega)
      simp at h2
      have := ih j (by omega) (by omega)
      omega
    · obtain rfl : j = i + 1 := by omega
      omega
theorem cnt_all {t : Int} {L : List Int} (h : ∀ x ∈ L, t ≤ x) : cnt t L = L.length := by
  induction L with
  | nil => rfl
  | cons x r ih =>
    rw [cnt, ih (fun y hy => h y (by simp [hy])), if_pos (h x (by simp))]
    simp; omega
theorem cnt_ge_iff {L : List Int} (h : valid L = true) {k : Nat} (hk : k < L.length) (t : Int) : ((k : Int) + 1 ≤ cnt t L) ↔ t ≤ L[k] := by
  have hf := falls_all h
  constructor
  · intro h1
    rcases Int.lt_or_le L[k] t with h2 | h2
    · have e : L = L.take k ++ L.drop k := (List.take_append_drop k L).symm
      rw [e, cnt_append] at h1
      have e2 : cnt t (L.drop k) = 0 := cnt_none fun x hx => by
        obtain ⟨i, hi, rfl⟩ := List.getElem_of_mem hx
        simp at hi ⊢
        have := hf (k + i) k (by omega) (by omega)
        omega
      have := (cnt_bd t (L.take k)).2
      simp at this
      omega
    · exact h2
  · intro h1
    have e : L = L.take (k + 1) ++ L.drop (k + 1) := (List.take_append_drop (k + 1) L).symm
    rw [e, cnt_append]
    have e2 : cnt t (L.take (k + 1)) = (L.take (k + 1)).length := cnt_all fun x hx => by
      obtain ⟨i, hi, rfl⟩ := List.getElem_of_mem hx
      simp at hi ⊢
      have := hf k i hk (by omega)
      omega
    have := (cnt_bd t (L.drop (k + 1))).1
    rw [e2]
    simp
    omega
theorem cnt_range (n : Nat) (f : Nat → Int) (t m : Int) (hm : 0 ≤ m) (hf : ∀ j : Nat, j < n → (t ≤ f j ↔ (j : Int) + 1 ≤ m)) : cnt t ((List.range n).map f) = if (n : Int) ≤ m then (n : Int) else m := by
  induction n with
  | zero => simp [cnt]; omega
  | succ n ih =>
    rw [List.range_succ, List.map_append, cnt_append, ih (fun j hj => hf j (by omega))]
    have h1 := hf n (by omega)
    simp only [List.map_cons, List.map_nil, cnt]
    by_cases h2 : (n : Int) + 1 ≤ m
    · rw [if_pos (h1.2 h2)]; (repeat' split) <;> omega
    · rw [if_neg (fun h3 => h2 (h1.1 h3))]; (repeat' split) <;> omega
theorem cnt_one {L : List Int} (h : valid L = true) : cnt 1 L = L.length := cnt_all fun x hx => by
  obtain ⟨k, hk, rfl⟩ := List.getElem_of_mem hx
  exact (preS_of_valid h k hk hk).1
theorem headD_get (M : List Int) (h : 0 < M.length) : M.headD 0 = M[0] := by cases M <;> simp at h ⊢
theorem head_conj {L : List Int} (h : valid L = true) : ((conj L).headD 0).toNat = L.length := by
  cases L with
  | nil => rfl
  | cons x r =>
    have hp := preS_of_valid h 0 (by simp) (by simp)
    simp at hp
    have h1 : 0 < (conj (x :: r)).length := by rw [conj_len]; simp; omega
    rw [headD_get _ h1, conj_get]
    simp only [Int.ofNat_zero, Int.zero_add]
    have := cnt_one h
    simp at this ⊢
    rw [this]
    omega
theorem conj_conj {L : List Int} (h : valid L = true) : conj (conj L) = L := by
  apply List.ext_getElem
  · rw [conj_len, head_conj h]
  · intro k h1 h2
    rw [conj_get]
    have hb := preS_of_valid h k h2 h2
    have hh := head_ge h L[k] (List.getElem_mem h2)
    have hd := headD_bd h
    have e : cnt ((k : Int) + 1) (conj L) = if (((L.headD 0).toNat : Nat) : Int) ≤ L[k] then (((L.headD 0).toNat : Nat) : Int) else L[k] :=
      cnt_range _ _ _ _ (by omega) fun j hj => cnt_ge_iff h h2 ((j : Int) + 1)
    rw [e]
    split <;> omega
theorem conj_nil_iff {L : List Int} (h : valid L = true) : (conj L).length = 0 ↔ L.length = 0 := by
  rw [conj_len]
  cases L with
  | nil => simp
  | cons x r =>
    have hp := preS_of_valid h 0 (by simp) (by simp)
    simp at hp ⊢
    omega
end NP
namespace NP
theorem ffrom_spec (p : Nat → Bool) : ∀ (f k : Nat), k ≤ ffrom p f k ∧ ffrom p f k ≤ k + f ∧ (∀ j, k ≤ j → j < ffrom p f k → p j = true) ∧ (ffrom p f k = k + f ∨ p (ffrom p f k) = false) := by
  intro f
  induction f with
  | zero => intro k; simp only [ffrom]; exact ⟨Nat.le_refl _, Nat.le_refl _, fun j h1 h2 => by omega, .inl rfl⟩
  | succ f ih =>
    intro k
    simp only [ffrom]
    cases hp : p k with
    | true =>
      rw [if_pos rfl]
      have h := ih (k + 1)
      refine ⟨by omega, by omega, fun j h1 h2 => ?_, h.2.2.2.imp (by omega) id⟩
      rcases Nat.lt_or_ge k j with h3 | h3
      · exact h.2.2.1 j (by omega) h2
      · obtain rfl : j = k := by omega
        exact hp
    | false => rw [if_neg (by simp)]; exact ⟨Nat.le_refl _, by omega, fun j h1 h2 => by omega, .inr hp⟩
theorem ff_spec (p : Nat → Bool) (n : Nat) : ff p n ≤ n ∧ (∀ j, j < ff p n → p j = true) ∧ (ff p n = n ∨ p (ff p n) = false) := by
  have h := ffrom_spec p n 0
  exact ⟨by have := h.2.1; unfold ff; omega, fun j hj => h.2.2.1 j (Nat.zero_le _) hj, by have := h.2.2.2; unfold ff; rw [Nat.zero_add] at this; exact this⟩
def durS (L : List Int) : Nat := ff (fun (k : Nat) => decide ((k : Int) < L.getD k 0)) L.length
theorem durS_spec (L : List Int) : durS L ≤ L.length ∧ (∀ j : Nat, j < durS L → (j : Int) < L.getD j 0) ∧ ¬ ((durS L : Nat) : Int) < L.getD (durS L) 0 := by
  have h := ff_spec (fun (k : Nat) => decide ((k : Int) < L.getD k 0)) L.length
  refine ⟨h.1, fun j hj => by simpa using h.2.1 j hj, ?_⟩
  rcases h.2.2 with h1 | h1
  · unfold durS
    rw [h1, List.getD_eq_getElem?_getD, List.getElem?_eq_none (Nat.le_refl _)]
    simp
  · unfold durS
    exact of_decide_eq_false h1
theorem durS_unique {L : List Int} {d : Nat} (h1 : ∀ j : Nat, j < d → (j : Int) < L.getD j 0) (h2 : ¬ (d : Int) < L.getD d 0) : durS L = d := by
  have h := durS_spec L
  rcases Nat.lt_trichotomy (durS L) d with h3 | h3 | h3
  · exact absurd (h1 _ h3) h.2.2
  · exact h3
  · exact absurd (h.2.1 _ h3) h2
theorem getD_lt {L : List Int} {j : Nat} (h : j < L.length) : L.getD j 0 = L[j] := by rw [List.getD_eq_getElem?_getD, List.getElem?_eq_getElem h]; rfl
theorem getD_ge {L : List Int} {j : Nat} (h : L.length ≤ j) : L.getD j 0 = 0 := by rw [List.getD_eq_getElem?_getD, List.getElem?_eq_none h]; rfl
theorem conj_diag {L : List Int} (h : valid L = true) (j : Nat) : ((j : Int) < (conj L).getD j 0) ↔ (j : Int) < L.getD j 0 := by
  have hd := headD_bd h
  by_cases h1 : j < (conj L).length
  · rw [getD_lt h1, conj_get]
    by_cases h2 : j < L.length
    · rw [getD_lt h2]
      have := cnt_ge_iff h h2 ((j : Int) + 1)
      omega
    · rw [getD_ge (by omega)]
      have := (cnt_bd ((j : Int) + 1) L).2
      omega
  · rw [getD_ge (L := conj L) (by omega)]
    rw [conj_len] at h1
    by_cases h2 : j < L.length
    · rw [getD_lt h2]
      have := head_ge h L[j] (List.getElem_mem h2)
      omega
    · rw [getD_ge (by omega)]
theorem durS_conj {L : List Int} (h : valid L = true) : durS (conj L) = durS L := by
  have hs := durS_spec L
  exact durS_unique (fun j hj => (conj_diag h j).2 (hs.2.1 j hj)) (fun h1 => hs.2.2 ((conj_diag h _).1 h1))
theorem sum_ge (c : Int) (L : List Int) (h : ∀ x ∈ L, c ≤ x) : c * L.length ≤ sumL L := by
  induction L with
  | nil => simp [sumL]
  | cons x r ih =>
    have h1 := ih (fun y hy => h y (by simp [hy]))
    have h2 := h x (by simp)
    simp only [sumL, List.length_cons]
    have e : c * ((r.length + 1 : Nat) : Int) = c * (r.length : Int) + c := by rw [Int.natCast_add]; simp [Int.mul_add]
    omega
theorem durS_sq {L : List Int} (h : valid L = true) : ((durS L : Nat) : Int) * ((durS L : Nat) : Int) ≤ sumL L := by
  have hs := durS_spec L
  have hf := falls_all h
  have h1 := sum_ge ((durS L : Nat) : Int) (L.take (durS L)) fun x hx => by
    obtain ⟨i, hi, rfl⟩ := List.getElem_of_mem hx
    simp at hi ⊢
    have h2 := hs.2.1 (durS L - 1) (by omega)
    rw [getD_lt (by omega)] at h2
    have := hf (durS L - 1) i (by omega) (by omega)
    omega
  have h2 := sum_ge 0 (L.drop (durS L)) fun x hx => valid_nonneg h x (List.mem_of_mem_drop hx)
  have e : sumL L = sumL (L.take (durS L)) + sumL (L.drop (durS L)) := by rw [← sumL_append, List.take_append_drop]
  rw [List.length_take_of_le hs.1] at h1
  omega
theorem durS_pos {L : List Int} (h : valid L = true) : 0 < durS L ↔ 0 < L.length := by
  have hs := durS_spec L
  constructor
  · intro h1; omega
  · intro h1
    rcases Nat.eq_zero_or_pos (durS L) with h2 | h2
    · have h3 := hs.2.2
      rw [h2, getD_lt h1] at h3
      have := preS_of_valid h 0 h1 h1
      omega
    · exact h2
end NP
end Go.Proofs.Ytifhnjnpbpgjfaa
namespace Go.Proofs.Ytifhnjnpbpgjfaa
namespace NP
/-- how many are k -/
def eqc (k : Int) : List Int → Int
  | [] => 0
  | x :: r => (if x = k then 1 else 0) + eqc k r
theorem eqc_append (k : Int) (a b : List Int) : eqc k (a ++ b) = eqc k a + eqc k b := by
  induction a with
  | nil => simp [eqc]
  | cons x r ih => simp [eqc, ih]; omega
theorem eqc_take_succ (k : Int) (L : List Int) (i : Nat) (h : i < L.length) : eqc k (L.take (i + 1)) = eqc k (L.take i) + (if L[i] = k then 1 else 0) := by
  rw [List.take_succ_eq_append_getElem h, eqc_append]; simp [eqc]
theorem eqc_bd (k : Int) (L : List Int) : 0 ≤ eqc k L ∧ eqc k L ≤ L.length := by
  induction L with
  | nil => simp [eqc]
  | cons x r ih => simp only [eqc, List.length_cons]; split <;> omega
theorem eqc_cnt (k : Int) (L : List Int) : eqc k L = cnt k L - cnt (k + 1) L := by
  induction L with
  | nil => simp [eqc, cnt]
  | cons x r ih => simp only [eqc, cnt, ih]; (repeat' split) <;> omega
def tim (L : List Int) : List Int := (List.range (L.headD 0).toNat).map fun (j : Nat) => eqc ((j : Int) + 1) L
theorem tim_len (L : List Int) : (tim L).length = (L.headD 0).toNat := by simp [tim]
theorem tim_get (L : List Int) (k : Nat) (h : k < (tim L).length) : (tim L)[k] = eqc ((k : Int) + 1) L := by simp [tim]
def timF (L : List Int) : List Int := if valid L then tim L else []
theorem timF_yes {L : List Int} (h : valid L = true) : timF L = tim L := by simp [timF, h]
theorem timF_no {L : List Int} (h : valid L = false) : timF L = [] := by simp [timF, h]
theorem timF_len (L : List Int) : (timF L).length ≤ 16 := by
  unfold timF
  split
  · rename_i h
    rw [tim_len]
    have := headD_bd h
    omega
  · simp
def tacc (L : List Int) (H k : Nat) : List Int := (List.range H).map fun (j : Nat) => eqc ((j : Int) + 1) (L.take k)
theorem tacc_len (L : List Int) (H k : Nat) : (tacc L H k).length = H := by simp [tacc]
theorem tacc_get (L : List Int) (H k j : Nat) (h : j < (tacc L H k).length) : (tacc L H k)[j] = eqc ((j : Int) + 1) (L.take k) := by simp [tacc]
theorem tacc_zero (L : List Int) (H : Nat) : tacc L H 0 = List.replicate H 0 := by
  apply List.ext_getElem
  · simp [tacc]
  · intro j h1 h2
    rw [tacc_get]
    simp [eqc]
theorem tacc_set (L : List Int) (H k m : Nat) (hk : k < L.length) (hm : L[k] = (m : Int) + 1) : (tacc L H k).set m (eqc ((m : Int) + 1) (L.take k) + 1) = tacc L H (k + 1) := by
  apply List.ext_getElem
  · simp [tacc]
  · intro j h1 h2
    rw [tacc_get, eqc_take_succ _ L k hk]
    by_cases hj : m = j
    · subst hj
      rw [List.getElem_set_self, if_pos hm]
    · rw [List.getElem_set_ne hj, tacc_get, if_neg (by omega)]
      omega
theorem tacc_end (L : List Int) : tacc L (L.headD 0).toNat L.length = tim L := by
  unfold tacc tim
  rw [List.take_of_length_le (Nat.le_refl _)]
/-- the indices of the corners -/
def isC (L : List Int) (i : Nat) : Bool := decide (i + 1 = L.length) || decide (L.getD (i + 1) 0 < L.getD i 0)
def crnTo (L : List Int) (n : Nat) : List Int := ((List.range n).filter (isC L)).map Int.ofNat
def crn (L : List Int) : List Int := crnTo L L.length
theorem crnTo_succ (L : List Int) (n : Nat) : crnTo L (n + 1) = crnTo L n ++ if isC L n then [(n : Int)] else [] := by
  unfold crnTo
  rw [List.range_succ, List.filter_append, List.map_append]
  congr 1
  cases h : isC L n <;> simp [h]
theorem crnTo_len (L : List Int) (n : Nat) : (crnTo L n).length ≤ n := by
  unfold crnTo
  rw [List.length_map]
  exact Nat.le_trans (List.length_filter_le _ _) (by simp)
def crnF (L : List Int) : List Int := if valid L then crn L else []
theorem crnF_yes {L : List Int} (h : valid L = true) : crnF L = crn L := by simp [crnF, h]
theorem crnF_no {L : List Int} (h : valid L = false) : crnF L = [] := by simp [crnF, h]
theorem crnF_len (L : List Int) : (crnF L).length ≤ 16 := by
  unfold crnF
  split
  · rename_i h
    exact Nat.le_trans (crnTo_len L _) (valid_bd h).2.2.2
  · simp
end NP
end Go.Proofs.Ytifhnjnpbpgjfaa
namespace Go.Proofs.Ytifhnjnpbpgjfaa
namespace NP
/-- corners of a padded row -/
def isCD (D : List Int) (i : Nat) : Bool := decide (0 < D.getD i 0) && (decide (i = 15) || decide (D.getD (i + 1) 0 < D.getD i 0))
def fl (p : Nat → Bool) (n : Nat) : List Int := ((List.range n).filter p).map Int.ofNat
theorem fl_succ (p : Nat → Bool) (n : Nat) : fl p (n + 1) = fl p n ++ if p n then [(n : Int)] else [] := by
  unfold fl
  rw [List.range_succ, List.filter_append, List.map_append]
  congr 1
  cases h : p n <;> simp [h]
theorem fl_len (p : Nat → Bool) (n : Nat) : (fl p n).length ≤ n := by
  unfold fl
  rw [List.length_map]
  exact Nat.le_trans (List.length_filter_le _ _) (by simp)
theorem fl_congr (p q : Nat → Bool) (n : Nat) (h : ∀ i, i < n → p i = q i) : fl p n = fl q n := by
  induction n with
  | zero => rfl
  | succ n ih => rw [fl_succ, fl_succ, ih (fun i hi => h i (by omega)), h n (by omega)]
theorem fl_no (p : Nat → Bool) (n m : Nat) (hm : n ≤ m) (h : ∀ i, n ≤ i → i < m → p i = false) : fl p m = fl p n := by
  induction m with
  | zero => obtain rfl : n = 0 := by omega
            rfl
  | succ m ih =>
    rcases Nat.lt_or_ge m n with h1 | h1
    · obtain rfl : n = m + 1 := by omega
      rfl
    · rw [fl_succ, h m h1 (by omega), ih h1 (fun i hi hi2 => h i hi (by omega))]
      simp
theorem crnTo_fl (L : List Int) (n : Nat) : crnTo L n = fl (isC L) n := rfl
theorem pad_getD {M : List Int} (h : M.length ≤ 16) (k : Nat) : (pad M).getD k 0 = M.getD k 0 := by
  rcases Nat.lt_or_ge k 16 with h1 | h1
  · rcases Nat.lt_or_ge k M.length with h2 | h2
    · rw [List.getD_eq_getElem?_getD, List.getElem?_eq_getElem (by rw [pad_len h]; omega), Option.getD_some, pad_get h h2, List.getD_eq_getElem?_getD, List.getElem?_eq_getElem h2]
      rfl
    · rw [List.getD_eq_getElem?_getD, List.getElem?_eq_getElem (by rw [pad_len h]; omega), Option.getD_some, pad_get0 h h2 h1, List.getD_eq_getElem?_getD, List.getElem?_eq_none h2]
      rfl
  · rw [List.getD_eq_getElem?_getD, List.getElem?_eq_none (by rw [pad_len h]; omega), List.getD_eq_getElem?_getD, List.getElem?_eq_none (by omega)]
theorem getD_pos {L : List Int} (hv : valid L = true) {i : Nat} (h : i < L.length) : 1 ≤ L.getD i 0 := by
  rw [List.getD_eq_getElem?_getD, List.getElem?_eq_getElem h, Option.getD_some]
  exact (preS_of_valid hv i h h).1
theorem getD_out {L : List Int} {i : Nat} (h : L.length ≤ i) : L.getD i 0 = 0 := by
  rw [List.getD_eq_getElem?_getD, List.getElem?_eq_none h]
  rfl
theorem isCD_pad {L : List Int} (hv : valid L = true) (i : Nat) : isCD (pad L) i = if i < L.length then isC L i else false := by
  have hl := (valid_bd hv).2.2.2
  unfold isCD isC
  rw [pad_getD hl, pad_getD hl]
  split
  · rename_i h
    have h1 := getD_pos hv h
    have e1 : decide (0 < L.getD i 0) = true := decide_eq_true (by omega)
    rw [e1, Bool.true_and]
    by_cases h15 : i = 15
    · have e2 : decide (i = 15) = true := decide_eq_true h15
      have e3 : decide (i + 1 = L.length) = true := decide_eq_true (by omega)
      rw [e2, e3]
    · have e2 : decide (i = 15) = false := decide_eq_false h15
      rw [e2, Bool.false_or]
      by_cases h3 : i + 1 = L.length
      · have e3 : decide (i + 1 = L.length) = true := decide_eq_true h3
        rw [e3, Bool.true_or, getD_out (by omega)]
        exact decide_eq_true (by omega)
      · have e3 : decide (i + 1 = L.length) = false := decide_eq_false h3
        rw [e3, Bool.false_or]
  · rename_i h
    rw [getD_out (by omega)]
    rfl
theorem crn_pad {L : List Int} (hv : valid L = true) : fl (isCD (pad L)) 16 = crn L := by
  have hl := (valid_bd hv).2.2.2
  rw [fl_no _ L.length 16 hl (fun i h1 _ => by rw [isCD_pad hv, if_neg (by omega)])]
  exact fl_congr _ _ _ fun i hi => by rw [isCD_pad hv, if_pos hi]
end NP
end Go.Proofs.Ytifhnjnpbpgjfaa
namespace Go.Proofs.Ytifhnjnpbpgjfaa
namespace NP
set_option linter.unusedVariables false
/-- how many parts of n, none greater than k -/
def ct : Nat → Nat → Nat
  | 0, _ => 1
  | _ + 1, 0 => 0
  | n + 1, k + 1 => ct (n + 1) k + (if k ≤ n then ct (n - k) (k + 1) else 0)
termination_by n k => n + k
decreasing_by all_goals omega
theorem ct_zero (k : Nat) : ct 0 k = 1 := by unfold ct; rfl
theorem ct_none (n : Nat) (h : 0 < n) : ct n 0 = 0 := by
  cases n with
  | zero => omega
  | succ n => unfold ct; rfl
theorem ct_rec (n k : Nat) (hk : 1 ≤ k) (h : k ≤ n) : ct n k = ct n (k - 1) + ct (n - k) k := by
  cases n with
  | zero => omega
  | succ n =>
    cases k with
    | zero => omega
    | succ k =>
      rw [ct, if_pos (by omega)]
      simp
theorem ct_big (n k : Nat) (hk : 1 ≤ k) (h : n < k) : ct n k = ct n (k - 1) := by
  cases n with
  | zero => rw [ct_zero, ct_zero]
  | succ n =>
    cases k with
    | zero => omega
    | succ k =>
      rw [ct, if_neg (by omega)]
      simp
theorem ct_pow (m : Nat) : ∀ n k, n + k = m → 1 ≤ n → ct n k + 2 ^ (n - k) ≤ 2 ^ n := by
  induction m using Nat.strongRecOn with
  | _ m ih =>
    intro n k hm hn
    cases k with
    | zero => rw [ct_none n hn]; simp
    | succ k =>
      have i1 := ih (n + k) (by omega) n k rfl hn
      rcases Nat.lt_or_ge n (k + 1) with h | h
      · rw [ct_big n (k + 1) (by omega) h, Nat.add_sub_cancel]
        have e : n - (k + 1) = n - k := by omega
        rw [e]; exact i1
      · rw [ct_rec n (k + 1) (by omega) h, Nat.add_sub_cancel]
        have e1 : n - k = n - (k + 1) + 1 := by omega
        rw [e1, Nat.pow_succ] at i1
        rcases Nat.eq_zero_or_pos (n - (k + 1)) with h0 | h0
        · rw [h0, ct_zero]
          rw [h0] at i1
          omega
        · have i2 := ih (n - (k + 1) + (k + 1)) (by omega) (n - (k + 1)) (k + 1) rfl h0
          have := Nat.two_pow_pos (n - (k + 1) - (k + 1))
          omega
theorem ct_le (n k : Nat) (h : n ≤ 40) : ct n k ≤ 1099511627776 := by
  rcases Nat.eq_zero_or_pos n with rfl | h0
  · rw [ct_zero]; decide
  · have h1 := ct_pow _ n k rfl h0
    have h2 : 2 ^ n ≤ 2 ^ 40 := Nat.pow_le_pow_right (by decide) h
    have h3 : (2 : Nat) ^ 40 = 1099511627776 := by decide
    have h4 := Nat.two_pow_pos (n - k)
    omega
/-- counts when a further number may come -/
def wv (D : List Int) (p : Nat) (s : Nat) : Int := if h : p = 0 ∨ s < p then D.getD s 0 else D.getD s 0 + wv D p (s - p)
termination_by s
decreasing_by have := h; omega
theorem wv_low (D : List Int) (p s : Nat) (h : s < p) : wv D p s = D.getD s 0 := by rw [wv, dif_pos (.inr h)]
theorem wv_high (D : List Int) (p s : Nat) (hp : 1 ≤ p) (h : p ≤ s) : wv D p s = D.getD s 0 + wv D p (s - p) := by rw [wv, dif_neg (by omega)]
def wrow (D : List Int) (p : Nat) : List Int := (List.range 41).map (wv D p)
def wmid (D : List Int) (p l : Nat) : List Int := (List.range 41).map fun s => if s < p + l then wv D p s else D.getD s 0
theorem wrow_len (D : List Int) (p : Nat) : (wrow D p).length = 41 := by simp [wrow]
theorem wmid_len (D : List Int) (p l : Nat) : (wmid D p l).length = 41 := by simp [wmid]
theorem wmid_zero {D : List Int} (hD : D.length = 41) (p : Nat) : wmid D p 0 = D := by
  apply List.ext_getElem
  · rw [wmid_len, hD]
  · intro j h1 h2
    simp only [wmid, List.getElem_map, List.getElem_range]
    rw [← getD_lt h2]
    split
    · exact wv_low D p j (by omega)
    · rfl
theorem wmid_end (D : List Int) (p l : Nat) (h : 41 ≤ p + l) : wmid D p l = wrow D p := by
  apply List.map_congr_left
  intro s hs
  rw [List.mem_range] at hs
  rw [if_pos (by omega)]
theorem wmid_lo (D : List Int) (p l : Nat) (hp : 1 ≤ p) (h : l < 41) : (wmid D p l)[l]'(by rw [wmid_len]; exact h) = wv D p l := by
  simp only [wmid, List.getElem_map, List.getElem_range]
  rw [if_pos (by omega)]
theorem wmid_hi (D : List Int) (p l : Nat) (h : l + p < 41) : (wmid D p l)[l + p]'(by rw [wmid_len]; exact h) = D.getD (l + p) 0 := by
  simp only [wmid, List.getElem_map, List.getElem_range]
  rw [if_neg (by omega)]
theorem wmid_set (D : List Int) (p l : Nat) (hp : 1 ≤ p) (h : l + p < 41) : (wmid D p l).set (l + p) (D.getD (l + p) 0 + wv D p l) = wmid D p (l + 1) := by
  apply List.ext_getElem
  · rw [List.length_set, wmid_len, wmid_len]
  · intro j h1 h2
    by_cases hj : l + p = j
    · subst hj
      rw [List.getElem_set_self]
      simp only [wmid, List.getElem_map, List.getElem_range]
      rw [if_pos (by omega), wv_high D p (l + p) hp (by omega), Nat.add_sub_cancel]
    · rw [List.getElem_set_ne hj]
      simp only [wmid, List.getElem_map, List.getElem_range]
      split <;> split <;> first | rfl | omega
/-- the counts of all parts, none greater than k -/
def crow (k : Nat) : List Int := (List.range 41).map fun s => (ct s k : Int)
theorem crow_len (k : Nat) : (crow k).length = 41 := by simp [crow]
theorem crow_getD (k s : Nat) (h : s < 41) : (crow k).getD s 0 = ct s k := by rw [getD_lt (by rw [crow_len]; exact h)]; simp [crow]
theorem crow_get (k s : Nat) (h : s < (crow k).length) : (crow k)[s] = ct s k := by simp [crow]
theorem wv_crow (k : Nat) (s : Nat) (h : s < 41) : wv (crow k) (k + 1) s = ct s (k + 1) := by
  induction s using Nat.strongRecOn with
  | _ s ih =>
    rcases Nat.lt_or_ge s (k + 1) with h1 | h1
    · rw [wv_low _ _ _ h1, crow_getD _ _ h, ct_big s (k + 1) (by omega) h1]; rfl
    · rw [wv_high _ _ _ (by omega) h1, crow_getD _ _ h, ih (s - (k + 1)) (by omega) (by omega), ct_rec s (k + 1) (by omega) h1]
      simp
theorem wrow_crow (k : Nat) : wrow (crow k) (k + 1) = crow (k + 1) := by
  apply List.map_congr_left
  intro s hs
  rw [List.mem_range] at hs
  exact wv_crow k s hs
theorem crow_zero : crow 0 = 1 :: List.replicate 40 0 := by
  have e : ∀ n, (List.range (n + 1)).map (fun s => ((ct s 0 : Nat) : Int)) = 1 :: List.replicate n 0 := by
    intro n
    induction n with
    | zero => simp [ct_zero]
    | succ n ih => rw [List.range_succ, List.map_append, ih, List.replicate_succ', List.map_cons, List.map_nil, ct_none _ (by omega)]; rfl
  exact e 40
end NP
end Go.Proofs.Ytifhnjnpbpgjfaa
namespace Go.Proofs.Ytifhnjnpbpgjfaa
namespace NP
set_option linter.unusedVariables false
def ctZ (n k : Int) : Int := if n < 0 then 0 else (ct n.toNat k.toNat : Int)
theorem ctZ_zero (k : Int) : ctZ 0 k = 1 := by unfold ctZ; rw [if_neg (by omega)]; simp [ct_zero]
theorem ctZ_neg (n k : Int) (h : n < 0) : ctZ n k = 0 := by unfold ctZ; rw [if_pos h]
theorem ctZ_none (n : Int) (h : 0 < n) : ctZ n 0 = 0 := by unfold ctZ; rw [if_neg (by omega), Int.toNat_zero, ct_none _ (by omega)]; rfl
theorem ctZ_nat (n k : Nat) : ctZ n k = ct n k := by unfold ctZ; rw [if_neg (by omega)]; simp
theorem ctZ_rec (n k : Int) (hn : 1 ≤ n) (hk : 1 ≤ k) : ctZ n k = ctZ n (k - 1) + ctZ (n - k) k := by
  obtain ⟨n, rfl⟩ := Int.eq_ofNat_of_zero_le (by omega : 0 ≤ n)
  obtain ⟨k, rfl⟩ := Int.eq_ofNat_of_zero_le (by omega : 0 ≤ k)
  have e : (k : Int) - 1 = ((k - 1 : Nat) : Int) := by omega
  rw [e, ctZ_nat, ctZ_nat]
  rcases Nat.lt_or_ge n k with h | h
  · rw [ctZ_neg _ _ (by omega), ct_big n k (by omega) h]; omega
  · have e2 : (n : Int) - k = ((n - k : Nat) : Int) := by omega
    rw [e2, ctZ_nat, ct_rec n k (by omega) h]; omega
theorem ctZ_bd (n k : Int) (h : n ≤ 40) : 0 ≤ ctZ n k ∧ ctZ n k ≤ 1099511627776 := by
  unfold ctZ
  split
  · omega
  · have := ct_le n.toNat k.toNat (by omega)
    omega
theorem ctZ_crow (n k : Int) (h0 : 0 ≤ n) (h : n ≤ 40) : (crow k.toNat).getD n.toNat 0 = ctZ n k := by
  rw [crow_getD _ _ (by omega)]
  unfold ctZ
  rw [if_neg (by omega)]
/-- how many parts have a sum -/
def cpF (n : Int) : Int := if 0 ≤ n ∧ n ≤ 40 then ctZ n n else -1
/-- at most so many -/
def amF (n k : Int) : Int := if (0 ≤ n ∧ n ≤ 40) ∧ (0 ≤ k ∧ k ≤ 40) then ctZ n k else -1
/-- just so many -/
def jpF (n k : Int) : Int := if (0 ≤ n ∧ n ≤ 40) ∧ (0 ≤ k ∧ k ≤ 40) then ctZ (n - k) k else -1
theorem jp_spec (n k : Int) (hn : 0 ≤ n) (hk : 0 < k) : ctZ n k - ctZ n (k - 1) = ctZ (n - k) k := by
  rcases Int.lt_or_le 0 n with h | h
  · rw [ctZ_rec n k (by omega) (by omega)]; omega
  · obtain rfl : n = 0 := by omega
    rw [ctZ_zero, ctZ_zero, ctZ_neg _ _ (by omega)]; rfl
end NP
end Go.Proofs.Ytifhnjnpbpgjfaa
namespace Go.Proofs.Ytifhnjnpbpgjfaa
namespace NP
set_option linter.unusedVariables false
def sqn (n : Int) : Nat → Int
  | 0 => 0
  | m + 1 => sqn n m + ctZ (n - (m : Int) * m) m
def scs (n : Int) : Nat → Int
  | 0 => 0
  | m + 1 => scs n m + (if (n - (m : Int) * m) % 2 = 0 then ctZ ((n - (m : Int) * m) / 2) m else 0)
def isq (n : Int) : Nat := ff (fun k => decide ((k : Int) * k ≤ n)) 7
def sqF (n : Int) : Int := if 0 ≤ n ∧ n ≤ 40 then sqn n (isq n) else -1
def scF (n : Int) : Int := if 0 ≤ n ∧ n ≤ 40 then scs n (isq n) else -1
theorem sq_nn (m : Nat) : 0 ≤ (m : Int) * m := Int.mul_nonneg (by omega) (by omega)
theorem sqn_bd (n : Int) (hn : n ≤ 40) (m : Nat) : 0 ≤ sqn n m ∧ sqn n m ≤ 1099511627776 * m := by
  induction m with
  | zero => simp [sqn]
  | succ m ih =>
    have := sq_nn m
    have := ctZ_bd (n - (m : Int) * m) m (by omega)
    simp only [sqn]
    omega
theorem scs_bd (n : Int) (hn : n ≤ 40) (m : Nat) : 0 ≤ scs n m ∧ scs n m ≤ 1099511627776 * m := by
  induction m with
  | zero => simp [scs]
  | succ m ih =>
    have := sq_nn m
    have := ctZ_bd ((n - (m : Int) * m) / 2) m (by omega)
    simp only [scs]
    split <;> omega
theorem sq_lt (k : Nat) (hk : k < 7) : (k : Int) * k ≤ 36 := by
  have : ∀ k : Nat, k < 7 → (k : Int) * k ≤ 36 := by decide
  exact this k hk
theorem isq_eq {n : Int} (hn : n ≤ 40) {k : Nat} (hk : k ≤ 7) (h : ∀ j, j < k → (j : Int) * j ≤ n) (h2 : k = 7 ∨ n < (k : Int) * k) : isq n = k := by
  unfold isq
  refine ff_eq (fun j hj => decide_eq_true (h j hj)) hk ?_
  rcases h2 with h2 | h2
  · exact .inl h2
  · exact .inr (decide_eq_false (by omega))
/-- the sum of the divisors, up to m -/
def dvs (n : Int) : Nat → Int
  | 0 => 0
  | m + 1 => dvs n m + (if n % ((m : Int) + 1) = 0 then (m : Int) + 1 else 0)
def dvF (n : Int) : Int := if 1 ≤ n ∧ n ≤ 40 then dvs n n.toNat else -1
theorem dvs_bd (n : Int) (m : Nat) (hm : m ≤ 41) : 0 ≤ dvs n m ∧ dvs n m ≤ 50 * m := by
  induction m with
  | zero => simp [dvs]
  | succ m ih =>
    have := ih (by omega)
    simp only [dvs]
    split <;> omega
def pnF (k : Int) : Int := if -100 ≤ k ∧ k ≤ 100 then k * (3 * k - 1) / 2 else -1
theorem pn_bd (k : Int) (h1 : -100 ≤ k) (h2 : k ≤ 100) : 0 ≤ k * (3 * k - 1) ∧ k * (3 * k - 1) ≤ 30100 := by
  rcases Int.lt_or_le k 1 with h | h
  · have e : k * (3 * k - 1) = (-k) * (3 * (-k) + 1) := by rw [Int.mul_add, Int.mul_sub, Int.mul_one, Int.mul_one, Int.mul_neg, Int.mul_neg, Int.neg_mul]; omega
    rw [e]
    have a := Int.mul_nonneg (a := -k) (b := 3 * (-k) + 1) (by omega) (by omega)
    have b := Int.mul_le_mul (a := -k) (b := 3 * (-k) + 1) (c := 100) (d := 301) (by omega) (by omega) (by omega) (by omega)
    omega
  · have a := Int.mul_nonneg (a := k) (b := 3 * k - 1) (by omega) (by omega)
    have b := Int.mul_le_mul (a := k) (b := 3 * k - 1) (c := 100) (d := 299) (by omega) (by omega) (by omega) (by omega)
    omega
end NP
end Go.Proofs.Ytifhnjnpbpgjfaa
namespace Go.Proofs.Ytifhnjnpbpgjfaa
namespace NP
set_option linter.unusedVariables false
/-- counts when a further number may come once -/
def wo (D : List Int) (p : Nat) (sg : Int) (s : Nat) : Int := if s < p then D.getD s 0 else D.getD s 0 + sg * D.getD (s - p) 0
def worow (D : List Int) (p : Nat) (sg : Int) : List Int := (List.range 41).map (wo D p sg)
def womid (D : List Int) (p : Nat) (sg : Int) (l : Nat) : List Int := (List.range 41).map fun s => if s < p + l then wo D p sg s else D.getD s 0
theorem worow_len (D : List Int) (p : Nat) (sg : Int) : (worow D p sg).length = 41 := by simp [worow]
theorem womid_len (D : List Int) (p : Nat) (sg : Int) (l : Nat) : (womid D p sg l).length = 41 := by simp [womid]
theorem womid_zero {D : List Int} (hD : D.length = 41) (p : Nat) (sg : Int) : womid D p sg 0 = D := by
  apply List.ext_getElem
  · rw [womid_len, hD]
  · intro j h1 h2
    simp only [womid, List.getElem_map, List.getElem_range]
    rw [← getD_lt h2]
    split
    · unfold wo; rw [if_pos (by omega)]
    · rfl
theorem womid_end (D : List Int) (p : Nat) (sg : Int) (l : Nat) (h : 41 ≤ p + l) : womid D p sg l = worow D p sg := by
  apply List.map_congr_left
  intro s hs
  rw [List.mem_range] at hs
  rw [if_pos (by omega)]
theorem womid_hi (D : List Int) (p : Nat) (sg : Int) (l : Nat) (h : l + p < 41) : (womid D p sg l)[l + p]'(by rw [womid_len]; exact h) = D.getD (l + p) 0 := by
  simp only [womid, List.getElem_map, List.getElem_range]
  rw [if_neg (by omega)]
theorem womid_set (D : List Int) (p : Nat) (sg : Int) (l : Nat) (hp : 1 ≤ p) (h : l + p < 41) : (womid D p sg l).set (l + p) (D.getD (l + p) 0 + sg * D.getD l 0) = womid D p sg (l + 1) := by
  apply List.ext_getElem
  · rw [List.length_set, womid_len, womid_len]
  · intro j h1 h2
    by_cases hj : l + p = j
    · subst hj
      rw [List.getElem_set_self]
      simp only [womid, List.getElem_map, List.getElem_range]
      rw [if_pos (by omega)]
      unfold wo
      rw [if_neg (by omega), Nat.add_sub_cancel]
    · rw [List.getElem_set_ne hj]
      simp only [womid, List.getElem_map, List.getElem_range]
      split <;> split <;> first | rfl | omega
theorem worow_getD (D : List Int) (p : Nat) (sg : Int) (s : Nat) (h : s < 41) : (worow D p sg).getD s 0 = wo D p sg s := by
  rw [getD_lt (by rw [worow_len]; exact h)]
  simp [worow]
/-- the different parts, none greater than d, with signs -/
def srow : Nat → List Int
  | 0 => 1 :: List.replicate 40 0
  | d + 1 => worow (srow d) (d + 1) (-1)
theorem srow_len (d : Nat) : (srow d).length = 41 := by
  cases d with
  | zero => rfl
  | succ d => exact worow_len _ _ _
theorem srow_bd (d : Nat) : ∀ s, -(2 ^ d : Int) ≤ (srow d).getD s 0 ∧ (srow d).getD s 0 ≤ 2 ^ d := by
  induction d with
  | zero =>
    intro s
    rcases Nat.lt_or_ge s 41 with h | h
    · have : ∀ s, s < 41 → -(2 ^ 0 : Int) ≤ (srow 0).getD s 0 ∧ (srow 0).getD s 0 ≤ 2 ^ 0 := by decide
      exact this s h
    · rw [getD_ge (by rw [srow_len]; exact h)]; decide
  | succ d ih =>
    intro s
    have hp : (2 : Int) ^ (d + 1) = 2 * 2 ^ d := by rw [Int.pow_succ]; omega
    have h0 : (0 : Int) < 2 ^ d := Int.pow_pos (by decide)
    rw [hp]
    rcases Nat.lt_or_ge s 41 with h | h
    · show -(2 * 2 ^ d : Int) ≤ (worow (srow d) (d + 1) (-1)).getD s 0 ∧ _
      rw [show srow (d + 1) = worow (srow d) (d + 1) (-1) from rfl, worow_getD _ _ _ _ h]
      unfold wo
      have a := ih s
      have b := ih (s - (d + 1))
      split <;> omega
    · rw [getD_ge (by rw [srow_len]; exact h)]; omega
theorem pow40 (d : Nat) (h : d ≤ 40) : (2 : Int) ^ d ≤ 1099511627776 := by
  have : ∀ d : Nat, d < 41 → (2 : Int) ^ d ≤ 1099511627776 := by decide
  exact this d (by omega)
theorem srow_bd40 (d : Nat) (h : d ≤ 40) (s : Nat) : -1099511627776 ≤ (srow d).getD s 0 ∧ (srow d).getD s 0 ≤ 1099511627776 := by
  have := srow_bd d s
  have := pow40 d h
  omega
def sdF (n : Int) : Int := if 0 ≤ n ∧ n ≤ 40 then (srow n.toNat).getD n.toNat 0 else 0
/-- what stands in the model's table of n+1 numbers when those from x up have been done -/
def smid (D : List Int) (n d x : Nat) : List Int := (List.range (n + 1)).map fun s => if x ≤ s then wo D d (-1) s else D.getD s 0
theorem smid_len (D : List Int) (n d x : Nat) : (smid D n d x).length = n + 1 := by simp [smid]
theorem smid_get (D : List Int) (n d x k : Nat) (h : k < (smid D n d x).length) : (smid D n d x)[k] = if x ≤ k then wo D d (-1) k else D.getD k 0 := by simp [smid]
theorem smid_set (D : List Int) (n d x : Nat) (hd : 1 ≤ d) (hx : d ≤ x) (hn : x ≤ n) : (smid D n d (x + 1)).set x (D.getD x 0 - D.getD (x - d) 0) = smid D n d x := by
  apply List.ext_getElem
  · rw [List.length_set, smid_len, smid_len]
  · intro j h1 h2
    by_cases hj : x = j
    · subst hj
      rw [List.getElem_set_self, smid_get, if_pos (Nat.le_refl _)]
      unfold wo
      rw [if_neg (by omega)]
      omega
    · rw [List.getElem_set_ne hj, smid_get, smid_get]
      split <;> split <;> first | rfl | omega
theorem smid_next (D : List Int) (hD : D.length = 41) (n d : Nat) (hn : n ≤ 40) : smid D n d d = smid (worow D d (-1)) n (d + 1) (n + 1) := by
  apply List.ext_getElem
  · rw [smid_len, smid_len]
  · intro j h1 h2
    rw [smid_len] at h1
    rw [smid_get, smid_get, if_neg (by omega : ¬ n + 1 ≤ j), worow_getD _ _ _ _ (by omega)]
    split
    · rfl
    · unfold wo; rw [if_pos (by omega)]
theorem smid_start (n : Nat) (hn : n ≤ 40) : (List.replicate (n + 1) (0 : Int)).set 0 1 = smid (srow 0) n 1 (n + 1) := by
  apply List.ext_getElem
  · rw [List.length_set, List.length_replicate, smid_len]
  · intro j h1 h2
    rw [smid_len] at h2
    rw [smid_get, if_neg (by omega)]
    cases j with
    | zero => rfl
    | succ j =>
      rw [List.getElem_set_ne (by omega), List.getElem_replicate]
      have : ∀ j, j < 40 → (0 : Int) = (srow 0).getD (j + 1) 0 := by decide
      exact this j (by omega)
end NP
end Go.Proofs.Ytifhnjnpbpgjfaa
namespace Go.Proofs.Ytifhnjnpbpgjfaa
namespace NP
set_option linter.unusedVariables false
theorem ct_ge (n k : Nat) (h : n ≤ k) : ct n k = ct n n := by
  induction k with
  | zero => obtain rfl : n = 0 := by omega
            rfl
  | succ k ih =>
    rcases Nat.lt_or_ge k n with h1 | h1
    · obtain rfl : n = k + 1 := by omega
      rfl
    · rw [ct_big n (k + 1) (by omega) (by omega), Nat.add_sub_cancel]
      exact ih h1
theorem ctZ_ge (n k : Int) (h0 : 0 ≤ n) (h : n ≤ k) : ctZ n k = ctZ n n := by
  obtain ⟨a, rfl⟩ := Int.eq_ofNat_of_zero_le h0
  obtain ⟨b, rfl⟩ := Int.eq_ofNat_of_zero_le (by omega : 0 ≤ k)
  rw [ctZ_nat, ctZ_nat, ct_ge a b (by omega)]
/-- a row of counts out of the one ahead -/
def nrow (p : Nat) (old : List Nat) (n : Nat) : List Nat := (List.range n).foldl (fun acc s => acc ++ [old.getD s 0 + (if s < p then 0 else acc.getD (s - p) 0)]) []
theorem nrow_succ (p : Nat) (old : List Nat) (n : Nat) : nrow p old (n + 1) = nrow p old n ++ [old.getD n 0 + (if n < p then 0 else (nrow p old n).getD (n - p) 0)] := by
  unfold nrow
  rw [List.range_succ, List.foldl_append]
  rfl
def crowN (k : Nat) : List Nat := (List.range 41).map fun s => ct s k
theorem crowN_getD (k s : Nat) (h : s < 41) : (crowN k).getD s 0 = ct s k := by
  rw [List.getD_eq_getElem?_getD, List.getElem?_eq_getElem (by simp [crowN]; exact h), Option.getD_some]
  simp [crowN]
theorem nrow_crow (k : Nat) (n : Nat) (hn : n ≤ 41) : nrow (k + 1) (crowN k) n = (List.range n).map fun s => ct s (k + 1) := by
  induction n with
  | zero => rfl
  | succ n ih =>
    rw [nrow_succ, ih (by omega), List.range_succ, List.map_append]
    congr 1
    rw [crowN_getD k n (by omega)]
    simp only [List.map_cons, List.map_nil]
    congr 1
    split
    · rename_i h
      rw [ct_big n (k + 1) (by omega) h]; rfl
    · rename_i h
      rw [List.getD_eq_getElem?_getD, List.getElem?_eq_getElem (by simp; omega), Option.getD_some, ct_rec n (k + 1) (by omega) (by omega)]
      simp
def rowc : Nat → List Nat
  | 0 => 1 :: List.replicate 40 0
  | k + 1 => nrow (k + 1) (rowc k) 41
theorem rowc_eq (k : Nat) : rowc k = crowN k := by
  induction k with
  | zero =>
    have e : ∀ n, (List.range (n + 1)).map (fun s => ct s 0) = 1 :: List.replicate n 0 := by
      intro n
      induction n with
      | zero => simp [ct_zero]
      | succ n ih => rw [List.range_succ, List.map_append, ih, List.replicate_succ', List.map_cons, List.map_nil, ct_none _ (by omega)]; rfl
    exact (e 40).symm
  | succ k ih =>
    show nrow (k + 1) (rowc k) 41 = _
    rw [ih, nrow_crow k 41 (Nat.le_refl _)]
    rfl
def ptab : List Nat := [1, 1, 2, 3, 5, 7, 11, 15, 22, 30, 42, 56, 77, 101, 135, 176, 231, 297, 385, 490, 627, 792, 1002, 1255, 1575, 1958, 2436, 3010, 3718, 4565, 5604, 6842, 8349, 10143, 12310, 14883, 17977, 21637, 26015, 31185, 37338]
theorem ptab_ok : rowc 40 = ptab := by decide +kernel
theorem cp_tab (n : Nat) (h : n ≤ 40) : cpF n = ((ptab.getD n 0 : Nat) : Int) := by
  unfold cpF
  rw [if_pos (by omega), ctZ_nat, ← ct_ge n 40 h, ← ptab_ok, rowc_eq, crowN_getD 40 n (by omega)]
def stab : List Int := [1, -1, -1, 0, 0, 1, 0, 1, 0, 0, 0, 0, -1, 0, 0, -1, 0, 0, 0, 0, 0, 0, 1, 0, 0, 0, 1, 0, 0, 0, 0, 0, 0, 0, 0, -1, 0, 0, 0, 0, -1]
theorem srow_keep (s d : Nat) (h : s ≤ d) (h41 : s < 41) : (srow d).getD s 0 = (srow s).getD s 0 := by
  induction d with
  | zero => obtain rfl : s = 0 := by omega
            rfl
  | succ d ih =>
    rcases Nat.lt_or_ge d s with h1 | h1
    · obtain rfl : s = d + 1 := by omega
      rfl
    · rw [show srow (d + 1) = worow (srow d) (d + 1) (-1) from rfl, worow_getD _ _ _ _ h41]
      unfold wo
      rw [if_pos (by omega)]
      exact ih h1
theorem stab_ok : srow 40 = stab := by decide +kernel
theorem sd_tab (n : Nat) (h : n ≤ 40) : sdF n = stab.getD n 0 := by
  unfold sdF
  rw [if_pos (by omega), Int.toNat_natCast, ← srow_keep n 40 h (by omega), stab_ok]
end NP
end Go.Proofs.Ytifhnjnpbpgjfaa
namespace Go.Proofs.Ytifhnjnpbpgjfaa
namespace NP
set_option linter.unusedVariables false
def hasI (M : List Int) (n : Int) : Bool := decide (n ∈ M)
theorem hasI_fl (p : Nat → Bool) (n : Nat) (i : Int) : hasI (fl p n) i = (decide (0 ≤ i) && decide (i < n) && p i.toNat) := by
  unfold hasI fl
  by_cases h0 : 0 ≤ i
  · obtain ⟨k, rfl⟩ := Int.eq_ofNat_of_zero_le h0
    have e : ((k : Int) ∈ ((List.range n).filter p).map Int.ofNat) ↔ (k < n ∧ p k = true) := by
      simp only [List.mem_map, List.mem_filter, List.mem_range]
      constructor
      · rintro ⟨a, ha, e⟩
        have : (a : Int) = (k : Int) := e
        obtain rfl : a = k := by omega
        exact ha
      · intro h
        exact ⟨k, h, rfl⟩
    simp only [e, Int.toNat_natCast]
    cases hp : p k <;> simp
  · have e : ¬ (i ∈ ((List.range n).filter p).map Int.ofNat) := by
      simp only [List.mem_map]
      rintro ⟨a, _, e⟩
      have : (a : Int) = i := e
      omega
    simp [e, h0]
theorem hasI_cons (x : Int) (M : List Int) (n : Int) : hasI (x :: M) n = (decide (n = x) || hasI M n) := by
  unfold hasI
  simp
theorem sumL_set (L : List Int) (k : Nat) (h : k < L.length) (x : Int) : sumL (L.set k x) = sumL L - L[k] + x := by
  induction L generalizing k with
  | nil => simp at h
  | cons y r ih =>
    cases k with
    | zero => simp [sumL]; omega
    | succ k =>
      simp only [List.set_cons_succ, sumL, List.getElem_cons_succ]
      rw [ih k (by simpa using h)]
      omega
theorem elem_le_sum {L : List Int} (h : ∀ x ∈ L, 0 ≤ x) {q : Nat} (hq : q < L.length) : L[q] ≤ sumL L ∧ 0 ≤ sumL L := by
  induction L generalizing q with
  | nil => simp at hq
  | cons x r ih =>
    have hx := h x (by simp)
    have hr : 0 ≤ sumL r := by
      cases r with
      | nil => simp [sumL]
      | cons y t => exact (ih (fun z hz => h z (by simp [hz])) (q := 0) (by simp)).2
    cases q with
    | zero => simp [sumL]; omega
    | succ q =>
      have := (ih (fun z hz => h z (by simp [hz])) (q := q) (by simpa using hq)).1
      simp only [List.getElem_cons_succ, sumL]
      omega
/-- a cell less -/
def lessL (L : List Int) (k : Nat) : List Int := if L.getD k 0 - 1 = 0 then (L.set k (L.getD k 0 - 1)).take k else L.set k (L.getD k 0 - 1)
def rmvOk (L : List Int) (i : Int) : Bool := valid L && (decide (0 ≤ i) && decide (i < L.length) && isC L i.toNat)
def rmv (L : List Int) (i : Int) : List Int := if rmvOk L i then lessL L i.toNat else []
theorem isC_next {L : List Int} {k : Nat} (hk : k + 1 < L.length) (h : isC L k = true) : L.getD (k + 1) 0 < L.getD k 0 := by
  unfold isC at h
  rw [decide_eq_false (by omega), Bool.false_or] at h
  exact of_decide_eq_true h
theorem valid_set_less {L : List Int} (hv : valid L = true) {k : Nat} (hk : k < L.length) (hc : isC L k = true) (h1 : L.getD k 0 - 1 ≠ 0) : valid (L.set k (L.getD k 0 - 1)) = true := by
  have hp := preS_of_valid hv
  have hb := valid_bd hv
  have hg : L.getD k 0 = L[k] := getD_lt hk
  apply valid_of_preS
  · intro j hj _
    rw [List.length_set] at hj
    have hpj := hp j hj hj
    have hpk := hp k hk hk
    by_cases hjk : k = j
    · subst hjk
      rw [List.getElem_set_self]
      refine ⟨by omega, by omega, fun h0 => ?_⟩
      rw [List.getElem_set_ne (by omega)]
      have := hpk.2.2 h0
      omega
    · rw [List.getElem_set_ne hjk]
      refine ⟨hpj.1, hpj.2.1, fun h0 => ?_⟩
      by_cases hj1 : k = j - 1
      · subst hj1
        rw [List.getElem_set_self]
        have hn := isC_next (L := L) (k := j - 1) (by omega) hc
        rw [getD_lt (by omega), getD_lt (by omega)] at hn
        have e : L[j - 1 + 1]'(by omega) = L[j] := by congr 1; omega
        rw [e] at hn
        omega
      · rw [List.getElem_set_ne hj1]
        exact hpj.2.2 h0
  · rw [sumL_set _ _ hk]; omega
theorem less_last {L : List Int} (hv : valid L = true) {k : Nat} (hk : k < L.length) (hc : isC L k = true) (h1 : L.getD k 0 - 1 = 0) : k + 1 = L.length := by
  rcases Nat.lt_or_ge (k + 1) L.length with h | h
  · have := isC_next h hc
    have := getD_pos hv h
    omega
  · omega
theorem valid_less {L : List Int} (hv : valid L = true) {k : Nat} (hk : k < L.length) (hc : isC L k = true) : valid (lessL L k) = true := by
  unfold lessL
  split
  · rename_i h1
    rw [List.take_set_of_le (Nat.le_refl _)]
    exact valid_take hv k
  · rename_i h1
    exact valid_set_less hv hk hc h1
theorem pad_ext {A B : List Int} (hA : A.length ≤ 16) (hB : B.length ≤ 16) (h : ∀ j, j < 16 → A.getD j 0 = B.getD j 0) : pad A = pad B := by
  apply List.ext_getElem
  · rw [pad_len hA, pad_len hB]
  · intro j h1 h2
    have e1 := pad_getD hA j
    have e2 := pad_getD hB j
    rw [getD_lt h1] at e1
    rw [getD_lt h2] at e2
    rw [e1, e2, h j (by rw [pad_len hA] at h1; omega)]
theorem getD_set (L : List Int) (k j : Nat) (hk : k < L.length) (x : Int) : (L.set k x).getD j 0 = if k = j then x else L.getD j 0 := by
  split
  · rename_i h
    subst h
    rw [getD_lt (by simpa using hk), List.getElem_set_self]
  · rename_i h
    rcases Nat.lt_or_ge j L.length with h1 | h1
    · rw [getD_lt (by simpa using h1), List.getElem_set_ne h, getD_lt h1]
    · rw [getD_ge (by simpa using h1), getD_ge h1]
theorem getD_take (L : List Int) (k j : Nat) : (L.take k).getD j 0 = if j < k then L.getD j 0 else 0 := by
  split
  · rename_i h
    rcases Nat.lt_or_ge j L.length with h1 | h1
    · rw [getD_lt (by simp; omega), getD_lt h1]; simp
    · rw [getD_ge (by simp; omega), getD_ge h1]
  · rename_i h
    rw [getD_ge (by simp; omega)]
theorem pad_setG {L : List Int} (hL : L.length ≤ 16) {k : Nat} (hk : k < 16) (x : Int) {M : List Int} (hM : M.length ≤ 16) (h : ∀ j, j < 16 → M.getD j 0 = if k = j then x else L.getD j 0) : (pad L).set k x = pad M := by
  apply List.ext_getElem
  · rw [List.length_set, pad_len hL, pad_len hM]
  · intro j h1 h2
    have e1 := getD_set (pad L) k j (by rw [pad_len hL]; exact hk) x
    have e2 := pad_getD hM j
    rw [getD_lt h1] at e1
    rw [getD_lt h2] at e2
    rw [e1, e2, h j (by rw [pad_len hM] at h2; omega), pad_getD hL]
theorem less_len (L : List Int) (k : Nat) : (lessL L k).length ≤ L.length := by
  unfold lessL
  split
  · rw [List.length_take, List.length_set]; omega
  · rw [List.length_set]; omega
theorem pad_less {L : List Int} (hv : valid L = true) {k : Nat} (hk : k < L.length) (hc : isC L k = true) : (pad L).set k (L.getD k 0 - 1) = pad (lessL L k) := by
  have hl := (valid_bd hv).2.2.2
  refine pad_setG hl (by omega) _ (Nat.le_trans (less_len L k) hl) fun j _ => ?_
  unfold lessL
  split
  · rename_i h1
    have := less_last hv hk hc h1
    rw [getD_take, getD_set _ _ _ hk]
    by_cases hjk : j < k
    · rw [if_pos hjk, if_neg (by omega)]
    · rw [if_neg hjk]
      split
      · omega
      · rw [getD_ge (by omega)]
  · rw [getD_set _ _ _ hk]
theorem rmv_len (L : List Int) (i : Int) : (rmv L i).length ≤ 16 := by
  unfold rmv
  split
  · rename_i h
    unfold rmvOk at h
    simp only [Bool.and_eq_true] at h
    exact Nat.le_trans (less_len L _) (valid_bd h.1).2.2.2
  · simp
/-- a cell more -/
def addL (L : List Int) (k : Nat) : List Int := if k = L.length then L ++ [1] else L.set k (L.getD k 0 + 1)
def addOk (L : List Int) (i : Int) : Bool := valid L && (decide (0 ≤ i) && decide (i ≤ L.length) && valid (addL L i.toNat))
def addC (L : List Int) (i : Int) : List Int := if addOk L i then addL L i.toNat else []
theorem addC_len (L : List Int) (i : Int) : (addC L i).length ≤ 16 := by
  unfold addC
  split
  · rename_i h
    unfold addOk at h
    simp only [Bool.and_eq_true] at h
    exact (valid_bd h.2.2).2.2.2
  · simp
theorem addL_len (L : List Int) (k : Nat) : (addL L k).length ≤ L.length + 1 := by
  unfold addL; split <;> simp
theorem addL_getD (L : List Int) {k : Nat} (hk : k ≤ L.length) (j : Nat) : (addL L k).getD j 0 = if k = j then L.getD k 0 + 1 else L.getD j 0 := by
  unfold addL
  split
  · rename_i h
    subst h
    split
    · rename_i h
      subst h
      rw [getD_lt (by simp), getD_ge (Nat.le_refl _)]
      simp
    · rename_i h
      rcases Nat.lt_or_ge j L.length with h1 | h1
      · rw [getD_lt (by simp; omega), getD_lt h1, List.getElem_append_left h1]
      · rw [getD_ge (by simp; omega), getD_ge h1]
  · rw [getD_set _ _ _ (by omega)]
theorem sumL_add (L : List Int) {k : Nat} (hk : k ≤ L.length) : sumL (addL L k) = sumL L + 1 := by
  unfold addL
  split
  · rw [sumL_append]; simp [sumL]
  · rw [sumL_set _ _ (by omega), getD_lt (by omega)]; omega
theorem valid_add {L : List Int} (hv : valid L = true) {k : Nat} (hk : k ≤ L.length) : valid (addL L k) = (decide (sumL L ≠ 16) && (decide (k = 0) || decide (L.getD k 0 + 1 ≤ L.getD (k - 1) 0))) := by
  have hp := preS_of_valid hv
  have hb := valid_bd hv
  have hs := sumL_add L hk
  apply Bool.eq_iff_iff.2
  simp only [Bool.and_eq_true, Bool.or_eq_true, decide_eq_true_eq]
  constructor
  · intro h
    have hb2 := valid_bd h
    refine ⟨by omega, ?_⟩
    by_cases h0 : k = 0
    · exact .inl h0
    · right
      have hkl : k < (addL L k).length := by unfold addL; split <;> simp <;> omega
      have := (preS_of_valid h k hkl hkl).2.2 (by omega)
      rw [← getD_lt hkl, ← getD_lt (by omega), addL_getD L hk, addL_getD L hk, if_pos rfl, if_neg (by omega)] at this
      exact this
  · rintro ⟨h1, h2⟩
    apply valid_of_preS
    · intro j hj _
      have hjl : j ≤ L.length := by have := addL_len L k; omega
      have e1 := addL_getD L hk j
      rw [getD_lt hj] at e1
      have hs16 := hb.2.1
      have hle : ∀ q, 0 ≤ L.getD q 0 ∧ L.getD q 0 ≤ 15 := by
        intro q
        rcases Nat.lt_or_ge q L.length with hq | hq
        · have a1 := hp q hq hq
          rw [getD_lt hq]
          have a2 := elem_le_sum (fun x hx => by obtain ⟨n, hn, e⟩ := List.mem_iff_getElem.1 hx; have := hp n hn hn; omega) hq
          omega
        · rw [getD_ge hq]; omega
      have hlek := hle k
      have hlej := hle j
      have hge : k ≠ j → 1 ≤ L.getD j 0 := by
        intro hne
        have : j < L.length := by
          by_cases hkl : k = L.length
          · omega
          · have : (addL L k).length = L.length := by unfold addL; rw [if_neg hkl]; simp
            omega
        exact getD_pos hv this
      refine ⟨by rw [e1]; split <;> omega, by rw [e1]; split <;> omega, fun h0 => ?_⟩
      have e2 := addL_getD L hk (j - 1)
      rw [getD_lt (by omega)] at e2
      rw [e1, e2]
      have hmono : L.getD j 0 ≤ L.getD (j - 1) 0 := by
        rcases Nat.lt_or_ge j L.length with hq | hq
        · rw [getD_lt hq, getD_lt (by omega)]
          exact (hp j hq hq).2.2 h0
        · rw [getD_ge hq]; exact (hle _).1
      by_cases hkj : k = j
      · subst hkj
        rw [if_pos rfl, if_neg (by omega)]
        omega
      · rw [if_neg hkj]
        split
        · rename_i hkj1
          subst hkj1
          omega
        · exact hmono
    · omega
theorem pad_add {L : List Int} (hl : L.length ≤ 16) {k : Nat} (hk : k ≤ L.length) (hk16 : k < 16) (hl2 : (addL L k).length ≤ 16) : (pad L).set k (L.getD k 0 + 1) = pad (addL L k) := pad_setG hl hk16 _ hl2 fun j _ => addL_getD L hk j
end NP
end Go.Proofs.Ytifhnjnpbpgjfaa
namespace Go.Proofs.Ytifhnjnpbpgjfaa
namespace NP
set_option linter.unusedVariables false
theorem ctZ_mono1 (n k : Int) (hk : 1 ≤ k) (hn40 : n ≤ 40) : ctZ n (k - 1) ≤ ctZ n k := by
  rcases Int.lt_or_le n 1 with h | h
  · rcases Int.lt_or_le n 0 with h2 | h2
    · rw [ctZ_neg n _ h2, ctZ_neg n _ h2]; exact Int.le_refl _
    · obtain rfl : n = 0 := by omega
      rw [ctZ_zero, ctZ_zero]; exact Int.le_refl _
  · rw [ctZ_rec n k h hk]
    have := (ctZ_bd (n - k) k (by omega)).1
    omega
theorem ctZ_mono (n : Int) (hn40 : n ≤ 40) (d : Nat) : ∀ k : Int, 0 ≤ k → ctZ n k ≤ ctZ n (k + d) := by
  induction d with
  | zero => intro k _; simp
  | succ d ih =>
    intro k hk
    have h1 := ih k hk
    have h2 := ctZ_mono1 n (k + (d + 1 : Nat)) (by omega) hn40
    have e : k + ((d + 1 : Nat) : Int) - 1 = k + d := by omega
    rw [e] at h2
    omega
theorem ctZ_le {n j k : Int} (hn40 : n ≤ 40) (hj : 0 ≤ j) (h : j ≤ k) : ctZ n j ≤ ctZ n k := by
  have := ctZ_mono n hn40 (k - j).toNat j hj
  have e : j + ((k - j).toNat : Int) = k := by omega
  rwa [e] at this
theorem ctZ_cap {n m : Int} (hn : 0 ≤ n) (h : n ≤ m) : ctZ n m = ctZ n n := by
  have key : ∀ d : Nat, ctZ n (n + d) = ctZ n n := by
    intro d
    induction d with
    | zero => simp
    | succ d ih =>
      rcases Int.lt_or_le n 1 with h1 | h1
      · obtain rfl : n = 0 := by omega
        rw [ctZ_zero, ctZ_zero]
      · rw [ctZ_rec n _ h1 (by omega), ctZ_neg (n - (n + ((d + 1 : Nat) : Int))) _ (by omega)]
        have e : n + ((d + 1 : Nat) : Int) - 1 = n + d := by omega
        rw [e, ih]; omega
  have := key (m - n).toNat
  have e : n + ((m - n).toNat : Int) = m := by omega
  rwa [e] at this
theorem ctZ_min {n m : Int} (hn : 0 ≤ n) : ctZ n (min n m) = ctZ n m := by
  rcases Int.le_total n m with h | h
  · rw [Int.min_eq_left h, ctZ_cap hn h]
  · rw [Int.min_eq_right h]
def plc : Int → Int → List Int → Int
  | _, _, [] => 0
  | n, m, x :: r => ctZ n m - ctZ n x + plc (n - x) x r
theorem plc_append (n m : Int) (A : List Int) (x : Int) : plc n m (A ++ [x]) = plc n m A + (ctZ (n - sumL A) (A.getLastD m) - ctZ (n - sumL A) x) := by
  induction A generalizing n m with
  | nil => simp [plc, sumL]
  | cons y r ih =>
    rw [List.cons_append, plc, ih, plc, sumL]
    have e : (y :: r).getLastD m = r.getLastD y := by cases r <;> simp [List.getLastD]
    rw [e, show n - y - sumL r = n - (y + sumL r) by omega]
    omega
/-- parts, none greater than m, with the sum n -/
def ex (n m : Int) (L : List Int) : Prop := vb m n L = true ∧ sumL L = n
theorem ex_nil {n m : Int} (h : ex n m []) : n = 0 := by have := h.2; simp [sumL] at this; omega
theorem ex_cons {n m x : Int} {r : List Int} (h : ex n m (x :: r)) : 1 ≤ x ∧ x ≤ n ∧ x ≤ m ∧ ex (n - x) x r := by
  obtain ⟨h1, h2⟩ := h
  simp only [vb, Bool.and_eq_true, decide_eq_true_eq] at h1
  simp only [sumL] at h2
  exact ⟨h1.1.1.1, h1.1.1.2, h1.1.2, h1.2, by omega⟩
theorem ex_mk {n m x : Int} {r : List Int} (h1 : 1 ≤ x) (h2 : x ≤ n) (h3 : x ≤ m) (h4 : ex (n - x) x r) : ex n m (x :: r) := by
  refine ⟨?_, ?_⟩
  · simp only [vb, Bool.and_eq_true, decide_eq_true_eq]
    exact ⟨⟨⟨h1, h2⟩, h3⟩, h4.1⟩
  · simp only [sumL]
    have := h4.2
    omega
theorem ex_valid {L : List Int} (h : valid L = true) : ex (sumL L) (sumL L) L := by
  refine ⟨?_, rfl⟩
  rw [vb_iff]
  have h2 := h
  unfold valid at h2
  rw [vb_iff] at h2
  refine ⟨fun k hk => ⟨(h2.1 k hk).1, ?_, (h2.1 k hk).2.2⟩, fun _ => Int.le_refl _⟩
  exact (elem_le_sum (valid_nonneg h) hk).1
theorem valid_ex {n m : Int} {L : List Int} (hn : n ≤ 16) (h : ex n m L) : valid L = true := by
  obtain ⟨h1, h2⟩ := h
  unfold valid
  rw [vb_iff] at h1 ⊢
  have hnn : ∀ x ∈ L, 0 ≤ x := fun x hx => by
    obtain ⟨k, hk, rfl⟩ := List.getElem_of_mem hx
    have := (h1.1 k hk).1
    omega
  refine ⟨fun k hk => ⟨(h1.1 k hk).1, ?_, (h1.1 k hk).2.2⟩, fun _ => by omega⟩
  have := (elem_le_sum hnn hk).1
  omega
theorem plc_bd {n m : Int} {L : List Int} (hn : n ≤ 40) (hm : 0 ≤ m) (h : ex n m L) : 0 ≤ plc n m L ∧ plc n m L < ctZ n m := by
  induction L generalizing n m with
  | nil =>
    obtain rfl := ex_nil h
    rw [ctZ_zero]; simp [plc]
  | cons x r ih =>
    obtain ⟨h1, h2, h3, h4⟩ := ex_cons h
    have := ih (by omega) (by omega) h4
    have e := ctZ_rec n x (by omega) h1
    have l1 := ctZ_le (n := n) hn (by omega) h3
    have l2 := (ctZ_bd n (x - 1) hn).1
    simp only [plc]
    omega
/-- from x on, the first part down from which the place k is within -/
def fx : Nat → Int → Int → Int → Int × Int
  | 0, _, x, k => (x, k)
  | f + 1, n, x, k => if ctZ (n - x) x ≤ k then fx f n (x - 1) (k - ctZ (n - x) x) else (x, k)
theorem fx_eq (n y k' : Int) (hn : n ≤ 40) (hy : 1 ≤ y) (hk' : 0 ≤ k' ∧ k' < ctZ (n - y) y) : ∀ (f d : Nat), d < f → y + d ≤ n → fx f n (y + d) (ctZ n (y + d) - ctZ n y + k') = (y, k') := by
  intro f
  induction f with
  | zero => intro d h; omega
  | succ f ih =>
    intro d hd hdn
    cases d with
    | zero =>
      have e : y + ((0 : Nat) : Int) = y := by omega
      rw [e, fx, if_neg (by omega)]
      congr 1; omega
    | succ d =>
      have e1 := ctZ_rec n (y + ((d + 1 : Nat) : Int)) (by omega) (by omega)
      have e2 : y + ((d + 1 : Nat) : Int) - 1 = y + d := by omega
      rw [e2] at e1
      have l1 := ctZ_le (n := n) (j := y) (k := y + d) hn (by omega) (by omega)
      rw [fx, if_pos (by omega), e2]
      have e3 : ctZ n (y + ((d + 1 : Nat) : Int)) - ctZ n y + k' - ctZ (n - (y + ((d + 1 : Nat) : Int))) (y + ((d + 1 : Nat) : Int)) = ctZ n (y + d) - ctZ n y + k' := by omega
      rw [e3]
      exact ih d (by omega) (by omega)
theorem fx_ex (n : Int) (hn : n ≤ 40) : ∀ (x : Nat) (k : Int), 1 ≤ n → (x : Int) ≤ n → 0 ≤ k → k < ctZ n x → ∃ y k' : Int, 1 ≤ y ∧ y ≤ x ∧ 0 ≤ k' ∧ k' < ctZ (n - y) y ∧ k = ctZ n x - ctZ n y + k' := by
  intro x
  induction x with
  | zero =>
    intro k h1 _ h3 h4
    have e : ((0 : Nat) : Int) = 0 := rfl
    rw [e, ctZ_none n (by omega)] at h4
    omega
  | succ x ih =>
    intro k h1 h2 h3 h4
    have e1 := ctZ_rec n ((x + 1 : Nat) : Int) h1 (by omega)
    have e2 : ((x + 1 : Nat) : Int) - 1 = x := by omega
    rw [e2] at e1
    rcases Int.lt_or_le k (ctZ (n - ((x + 1 : Nat) : Int)) ((x + 1 : Nat) : Int)) with h5 | h5
    · exact ⟨_, k, by omega, Int.le_refl _, h3, h5, by omega⟩
    · obtain ⟨y, k', a1, a2, a3, a4, a5⟩ := ih (k - ctZ (n - ((x + 1 : Nat) : Int)) ((x + 1 : Nat) : Int)) h1 (by omega) (by omega) (by omega)
      exact ⟨y, k', a1, by omega, a3, a4, by omega⟩
/-- the parts at place k among those with the sum n, none greater than m -/
def pat : Nat → Int → Int → Int → List Int
  | 0, _, _, _ => []
  | f + 1, n, m, k => if n ≤ 0 then [] else (fx 41 n (min n m) k).1 :: pat f (n - (fx 41 n (min n m) k).1) (fx 41 n (min n m) k).1 (fx 41 n (min n m) k).2
theorem pat_step {n m k : Int} (hn1 : 1 ≤ n) (hn : n ≤ 40) (hm : 1 ≤ m) (hk : 0 ≤ k) (hk2 : k < ctZ n m) : ∃ y k' : Int, fx 41 n (min n m) k = (y, k') ∧ 1 ≤ y ∧ y ≤ n ∧ y ≤ m ∧ 0 ≤ k' ∧ k' < ctZ (n - y) y ∧ k = ctZ n m - ctZ n y + k' := by
  have hc := ctZ_min (n := n) (m := m) (by omega)
  obtain ⟨X, hX⟩ : ∃ X : Nat, (X : Int) = min n m := ⟨(min n m).toNat, by omega⟩
  rw [← hX] at hc ⊢
  obtain ⟨y, k', a1, a2, a3, a4, a5⟩ := fx_ex n hn X k hn1 (by omega) hk (by omega)
  refine ⟨y, k', ?_, a1, by omega, by omega, a3, a4, by omega⟩
  have := fx_eq n y k' hn a1 ⟨a3, a4⟩ 41 ((X : Int) - y).toNat (by omega) (by omega)
  have e : y + (((X : Int) - y).toNat : Int) = X := by omega
  rw [e] at this
  rw [a5, this]
theorem pat_ex : ∀ (f : Nat) (n m k : Int), n ≤ f → 0 ≤ n → n ≤ 40 → 0 ≤ m → 0 ≤ k → k < ctZ n m → ex n m (pat f n m k) ∧ plc n m (pat f n m k) = k := by
  intro f
  induction f with
  | zero =>
    intro n m k h1 h2 h3 hm h4 h5
    obtain rfl : n = 0 := by omega
    rw [ctZ_zero] at h5
    exact ⟨⟨rfl, rfl⟩, by show (0 : Int) = k; omega⟩
  | succ f ih =>
    intro n m k h1 h2 h3 hm h4 h5
    rcases Int.lt_or_le n 1 with h6 | h6
    · obtain rfl : n = 0 := by omega
      rw [ctZ_zero] at h5
      rw [pat, if_pos (Int.le_refl _)]
      exact ⟨⟨rfl, rfl⟩, by show (0 : Int) = k; omega⟩
    · have hm1 : 1 ≤ m := by
        rcases Int.lt_or_le m 1 with h7 | h7
        · obtain rfl : m = 0 := by omega
          rw [ctZ_none n (by omega)] at h5
          omega
        · exact h7
      obtain ⟨y, k', he, a1, a2, a3, a4, a5, a6⟩ := pat_step h6 h3 hm1 h4 h5
      rw [pat, if_neg (by omega), he]
      have := ih (n - y) y k' (by omega) (by omega) (by omega) (by omega) a4 a5
      refine ⟨ex_mk a1 a2 a3 this.1, ?_⟩
      show ctZ n m - ctZ n y + plc (n - y) y (pat f (n - y) y k') = k
      rw [this.2]
      omega
theorem pat_plc : ∀ (f : Nat) (n m : Int) (L : List Int), n ≤ f → n ≤ 40 → 0 ≤ m → ex n m L → pat f n m (plc n m L) = L := by
  intro f
  induction f with
  | zero =>
    intro n m L h1 h2 hm h
    cases L with
    | nil => rfl
    | cons x r => have := ex_cons h; omega
  | succ f ih =>
    intro n m L h1 h2 hm h
    cases L with
    | nil =>
      obtain rfl := ex_nil h
      rw [pat, if_pos (Int.le_refl _)]
    | cons x r =>
      obtain ⟨a1, a2, a3, a4⟩ := ex_cons h
      have hb := plc_bd (by omega) (by omega) a4
      have hc := ctZ_min (n := n) (m := m) (by omega)
      have hfx := fx_eq n x (plc (n - x) x r) h2 a1 hb 41 (min n m - x).toNat (by omega) (by omega)
      have e : x + ((min n m - x).toNat : Int) = min n m := by omega
      rw [e, hc] at hfx
      rw [pat, if_neg (by omega), plc, hfx, ih (n - x) x r (by omega) (by omega) (by omega) a4]
def plcF (L : List Int) : Int := if valid L then plc (sumL L) (sumL L) L else -1
theorem plcF_yes {L : List Int} (h : valid L = true) : plcF L = plc (sumL L) (sumL L) L := by simp [plcF, h]
theorem plcF_no {L : List Int} (h : valid L = false) : plcF L = -1 := by simp [plcF, h]
def patOk (n k : Int) : Bool := decide (0 ≤ n) && decide (n ≤ 16) && decide (0 ≤ k) && decide (k < ctZ n n)
def patF (n k : Int) : List Int := if patOk n k then pat 16 n n k else []
theorem patOk_out {n k : Int} (h : patOk n k = true) : 0 ≤ n ∧ n ≤ 16 ∧ 0 ≤ k ∧ k < ctZ n n := by
  unfold patOk at h
  simp only [Bool.and_eq_true, decide_eq_true_eq] at h
  exact ⟨h.1.1.1, h.1.1.2, h.1.2, h.2⟩
theorem patOk_no {n k : Int} (h : ¬ (0 ≤ n ∧ n ≤ 16 ∧ 0 ≤ k ∧ k < ctZ n n)) : patOk n k = false := by
  cases hk : patOk n k with
  | false => rfl
  | true => exact absurd (patOk_out hk) h
theorem patOk_yes {n k : Int} (h : 0 ≤ n ∧ n ≤ 16 ∧ 0 ≤ k ∧ k < ctZ n n) : patOk n k = true := by
  unfold patOk
  rw [decide_eq_true h.1, decide_eq_true h.2.1, decide_eq_true h.2.2.1, decide_eq_true h.2.2.2]; rfl
theorem patF_yes {n k : Int} (h : patOk n k = true) : patF n k = pat 16 n n k := by simp [patF, h]
theorem patF_no {n k : Int} (h : patOk n k = false) : patF n k = [] := by simp [patF, h]
theorem pat_valid {n k : Int} (h : patOk n k = true) : valid (pat 16 n n k) = true ∧ sumL (pat 16 n n k) = n ∧ plc n n (pat 16 n n k) = k := by
  obtain ⟨h1, h2, h3, h4⟩ := patOk_out h
  obtain ⟨e1, e2⟩ := pat_ex 16 n n k (by omega) h1 (by omega) h1 h3 h4
  exact ⟨valid_ex h2 e1, e1.2, e2⟩
theorem plcF_patF {n k : Int} (h : patOk n k = true) : plcF (patF n k) = k := by
  obtain ⟨h1, h2, h3⟩ := pat_valid h
  rw [patF_yes h, plcF_yes h1, h2, h3]
theorem patF_plcF {L : List Int} (h : valid L = true) : patOk (sumL L) (plcF L) = true ∧ patF (sumL L) (plcF L) = L := by
  have hb := valid_bd h
  have he := ex_valid h
  have hp := plc_bd (by omega) hb.1 he
  have hok : patOk (sumL L) (plcF L) = true := by rw [plcF_yes h]; exact patOk_yes ⟨hb.1, hb.2.1, hp.1, hp.2⟩
  refine ⟨hok, ?_⟩
  rw [patF_yes hok, plcF_yes h]
  exact pat_plc 16 _ _ L (by omega) (by omega) hb.1 he
theorem patF_len (n k : Int) : (patF n k).length ≤ 16 := by
  cases h : patOk n k with
  | true => rw [patF_yes h]; exact (valid_bd (pat_valid h).1).2.2.2
  | false => rw [patF_no h]; simp
end NP
end Go.Proofs.Ytifhnjnpbpgjfaa
namespace Go.Proofs.Ytifhnjnpbpgjfaa
namespace NP
set_option linter.unusedVariables false
/-- D is at least 0 and at most E -/
def leR (D E : List Int) : Prop := ∀ s, s < 41 → 0 ≤ D.getD s 0 ∧ D.getD s 0 ≤ E.getD s 0
theorem wv_leR {D E : List Int} (h : leR D E) {p : Nat} (hp : 1 ≤ p) (s : Nat) (hs : s < 41) : 0 ≤ wv D p s ∧ wv D p s ≤ wv E p s := by
  induction s using Nat.strongRecOn with
  | _ s ih =>
    have h0 := h s hs
    rcases Nat.lt_or_ge s p with h1 | h1
    · rw [wv_low _ _ _ h1, wv_low _ _ _ h1]; exact h0
    · rw [wv_high _ _ _ hp h1, wv_high _ _ _ hp h1]
      have := ih (s - p) (by omega) (by omega)
      omega
theorem wv_ge {D E : List Int} (h : leR D E) {p : Nat} (hp : 1 ≤ p) (s : Nat) (hs : s < 41) : D.getD s 0 ≤ wv D p s := by
  rcases Nat.lt_or_ge s p with h1 | h1
  · rw [wv_low _ _ _ h1]; exact Int.le_refl _
  · rw [wv_high _ _ _ hp h1]
    have := (wv_leR h hp (s - p) (by omega)).1
    omega
/-- what a further number p makes of the counts: once, or again and again -/
def nv (once : Bool) (D : List Int) (p s : Nat) : Int := if once then wo D p 1 s else wv D p s
def mrow (once : Bool) (D : List Int) (p : Nat) : List Int := (List.range 41).map (nv once D p)
theorem mrow_len (once : Bool) (D : List Int) (p : Nat) : (mrow once D p).length = 41 := by simp [mrow]
theorem mrow_getD (once : Bool) (D : List Int) (p s : Nat) (h : s < 41) : (mrow once D p).getD s 0 = nv once D p s := by
  rw [getD_lt (by rw [mrow_len]; exact h)]; simp [mrow]
theorem mrow_many (D : List Int) (p : Nat) : mrow false D p = wrow D p := rfl
theorem mrow_once (D : List Int) (p : Nat) : mrow true D p = worow D p 1 := rfl
theorem nv_bd {D E : List Int} (h : leR D E) {p : Nat} (hp : 1 ≤ p) (once : Bool) (s : Nat) (hs : s < 41) : 0 ≤ nv once D p s ∧ nv once D p s ≤ wv D p s := by
  have h1 := wv_leR h hp s hs
  unfold nv
  cases once with
  | false => exact ⟨h1.1, Int.le_refl _⟩
  | true =>
    simp only [if_true]
    unfold wo
    have h2 := h s hs
    split
    · rename_i h3
      rw [wv_low _ _ _ h3]
      exact ⟨h2.1, Int.le_refl _⟩
    · rename_i h3
      have h4 := h (s - p) (by omega)
      have h5 := wv_ge h hp (s - p) (by omega)
      rw [wv_high _ _ _ hp (by omega)]
      omega
theorem crow_leR {j k : Nat} (h : j ≤ k) : leR (crow j) (crow k) := fun s hs => by
  rw [crow_getD _ _ hs, crow_getD _ _ hs, ← ctZ_nat, ← ctZ_nat]
  exact ⟨(ctZ_bd _ _ (by omega)).1, ctZ_le (by omega) (by omega) (by omega)⟩
theorem leR_trans {A B C : List Int} (h : leR A B) (k : leR B C) : leR A C := fun s hs => ⟨(h s hs).1, Int.le_trans (h s hs).2 (k s hs).2⟩
theorem mrow_leR {D : List Int} {p : Nat} (h : leR D (crow p)) (once : Bool) : leR (mrow once D (p + 1)) (crow (p + 1)) := fun s hs => by
  rw [mrow_getD _ _ _ _ hs, crow_getD _ _ hs]
  have h1 := nv_bd h (p := p + 1) (by omega) once s hs
  have h2 := (wv_leR h (p := p + 1) (by omega) s hs).2
  rw [wv_crow _ _ hs] at h2
  omega
/-- ascending numbers in 1..40 -/
def stB (S : List Int) : Bool := decide (∀ i, i < S.length → (1 ≤ S.getD i 0 ∧ S.getD i 0 ≤ 40 ∧ (0 < i → S.getD (i - 1) 0 < S.getD i 0)))
theorem stB_iff (S : List Int) : stB S = true ↔ ∀ i, i < S.length → (1 ≤ S.getD i 0 ∧ S.getD i 0 ≤ 40 ∧ (0 < i → S.getD (i - 1) 0 < S.getD i 0)) := by simp [stB]
theorem stB_at {S : List Int} {i : Nat} (hi : i < S.length) (h : ¬ (1 ≤ S.getD i 0 ∧ S.getD i 0 ≤ 40 ∧ (0 < i → S.getD (i - 1) 0 < S.getD i 0))) : stB S = false := by
  cases hd : stB S with
  | false => rfl
  | true => exact absurd ((stB_iff S).1 hd i hi) h
theorem stB_ge {S : List Int} (h : stB S = true) : ∀ i, i < S.length → ((i : Int) + 1 ≤ S.getD i 0) := by
  intro i
  induction i with
  | zero => intro hi; have := ((stB_iff S).1 h 0 hi).1; omega
  | succ i ih =>
    intro hi
    have h1 := ih (by omega)
    have h2 := ((stB_iff S).1 h (i + 1) hi).2.2 (by omega)
    simp only [Nat.add_sub_cancel] at h2
    omega
theorem stB_len {S : List Int} (h : stB S = true) : S.length ≤ 40 := by
  rcases Nat.eq_zero_or_pos S.length with h0 | h0
  · omega
  · have h1 := stB_ge h (S.length - 1) (by omega)
    have h2 := ((stB_iff S).1 h (S.length - 1) (by omega)).2.1
    omega
def setRows (once : Bool) (S : List Int) : List Int := S.foldl (fun D x => mrow once D x.toNat) (crow 0)
theorem setRows_succ (once : Bool) {S : List Int} {i : Nat} (h : i < S.length) : setRows once (S.take (i + 1)) = mrow once (setRows once (S.take i)) S[i].toNat := by
  unfold setRows
  rw [List.take_succ_eq_append_getElem h, List.foldl_append]; rfl
theorem setRows_len (once : Bool) (S : List Int) : (setRows once S).length = 41 := by
  unfold setRows
  have : ∀ (S D : List Int), D.length = 41 → (S.foldl (fun D x => mrow once D x.toNat) D).length = 41 := by
    intro S
    induction S with
    | nil => intro D h; exact h
    | cons x r ih => intro D h; exact ih _ (mrow_len _ _ _)
  exact this S _ (crow_len 0)
/-- the last one of the first i -/
def lastOf (S : List Int) (i : Nat) : Nat := if i = 0 then 0 else (S.getD (i - 1) 0).toNat
theorem setRows_bd {S : List Int} (h : stB S = true) (once : Bool) : ∀ i, i ≤ S.length → leR (setRows once (S.take i)) (crow (lastOf S i)) := by
  intro i
  induction i with
  | zero => intro _; exact crow_leR (Nat.le_refl _)
  | succ i ih =>
    intro hi
    have h1 := (stB_iff S).1 h i (by omega)
    have h2 := ih (by omega)
    have h3 : lastOf S i ≤ S[i].toNat - 1 := by
      unfold lastOf
      rw [getD_lt (by omega)] at h1
      split
      · omega
      · have := h1.2.2 (by omega); omega
    have h4 := mrow_leR (leR_trans h2 (crow_leR h3)) once
    rw [getD_lt (by omega)] at h1
    have e : S[i].toNat - 1 + 1 = S[i].toNat := by omega
    rw [e] at h4
    rw [setRows_succ once (by omega)]
    have e2 : lastOf S (i + 1) = S[i].toNat := by unfold lastOf; rw [if_neg (by omega), Nat.add_sub_cancel, getD_lt (by omega)]
    rw [e2]
    exact h4
theorem crow_bd40 (k s : Nat) (hs : s < 41) : (crow k).getD s 0 ≤ 1099511627776 := by
  rw [crow_getD _ _ hs, ← ctZ_nat]; exact (ctZ_bd _ _ (by omega)).2
/-- the bounds that a step wants -/
theorem setRows_step {S : List Int} (h : stB S = true) (once : Bool) {i : Nat} (hi : i < S.length) : ∀ s, s < 41 → (0 ≤ (setRows once (S.take i)).getD s 0 ∧ (setRows once (S.take i)).getD s 0 ≤ 1099511627776) ∧ 0 ≤ wv (setRows once (S.take i)) S[i].toNat s ∧ wv (setRows once (S.take i)) S[i].toNat s ≤ 1099511627776 := fun s hs => by
  have h1 := (stB_iff S).1 h i hi
  rw [getD_lt hi] at h1
  have h2 := setRows_bd h once i (by omega)
  have h3 : lastOf S i ≤ S[i].toNat - 1 := by
    unfold lastOf
    split
    · omega
    · have := h1.2.2 (by omega); omega
  have h4 := leR_trans h2 (crow_leR h3)
  have h5 := wv_leR h4 (p := S[i].toNat) (by omega) s hs
  have h6 := wv_crow (S[i].toNat - 1) s hs
  have e : S[i].toNat - 1 + 1 = S[i].toNat := by omega
  rw [e] at h6
  have h7 := h4 s hs
  have h8 := crow_bd40 (S[i].toNat - 1) s hs
  have h9 := crow_bd40 S[i].toNat s hs
  rw [crow_getD _ _ hs] at h9
  omega
def cntF (once : Bool) (S : List Int) (n : Int) : Int := if stB S = true ∧ 0 ≤ n ∧ n ≤ 40 then (setRows once S).getD n.toNat 0 else -1
theorem cntF_in (once : Bool) {S : List Int} {n : Int} (h : stB S = true) (h0 : 0 ≤ n) (h1 : n ≤ 40) : cntF once S n = (setRows once S).getD n.toNat 0 := by unfold cntF; rw [if_pos ⟨h, h0, h1⟩]
theorem cntF_out (once : Bool) {S : List Int} {n : Int} (h : ¬ (stB S = true ∧ 0 ≤ n ∧ n ≤ 40)) : cntF once S n = -1 := by unfold cntF; rw [if_neg h]
/-- the model's table: which places are new -/
def prD (once : Bool) (n k s : Nat) : Bool := if once then decide (n < s + k) else decide (s < k)
def tmD (once : Bool) (D : List Int) (n p k : Nat) : List Int := (List.range (n + 1)).map fun s => if prD once n k s then nv once D p s else D.getD s 0
theorem tmD_len (once : Bool) (D : List Int) (n p k : Nat) : (tmD once D n p k).length = n + 1 := by simp [tmD]
theorem tmD_get (once : Bool) (D : List Int) (n p k s : Nat) (h : s < (tmD once D n p k).length) : (tmD once D n p k)[s] = if prD once n k s then nv once D p s else D.getD s 0 := by simp [tmD]
def xD (once : Bool) (n k : Nat) : Nat := if once then n - k else k
theorem prD_next (once : Bool) {n k s : Nat} (hk : k ≤ n) (hs : s ≤ n) : prD once n (k + 1) s = (prD once n k s || decide (s = xD once n k)) := by
  unfold prD xD
  cases once with
  | false =>
    simp only [Bool.false_eq_true, if_false]
    rw [← Bool.decide_or]
    exact decide_eq_decide.2 (by omega)
  | true =>
    simp only [if_true]
    rw [← Bool.decide_or]
    exact decide_eq_decide.2 (by omega)
theorem prD_at (once : Bool) {n k : Nat} (hk : k ≤ n) : prD once n k (xD once n k) = false := by
  unfold prD xD
  cases once with
  | false => simp
  | true => simp only [if_true]; exact decide_eq_false (by omega)
theorem xD_le (once : Bool) {n k : Nat} (hk : k ≤ n) : xD once n k ≤ n := by unfold xD; split <;> omega
/-- the number is put in -/
theorem tmD_set (once : Bool) (D : List Int) {n p k : Nat} (hk : k ≤ n) : (tmD once D n p k).set (xD once n k) (nv once D p (xD once n k)) = tmD once D n p (k + 1) := by
  apply List.ext_getElem
  · rw [List.length_set, tmD_len, tmD_len]
  · intro s h1 h2
    have hs : s ≤ n := by rw [tmD_len] at h2; omega
    by_cases hx : xD once n k = s
    · subst hx
      rw [List.getElem_set_self, tmD_get, prD_next once hk hs, decide_eq_true rfl, Bool.or_true, if_pos rfl]
    · rw [List.getElem_set_ne hx, tmD_get, tmD_get, prD_next once hk hs, decide_eq_false (fun e => hx e.symm), Bool.or_false]
theorem tmD_same (once : Bool) (D : List Int) {n p k : Nat} (hk : k ≤ n) (hp : xD once n k < p) : tmD once D n p k = tmD once D n p (k + 1) := by
  rw [← tmD_set once D hk]
  have hx := xD_le once hk
  have hl : xD once n k < (tmD once D n p k).length := by rw [tmD_len]; omega
  have e : (tmD once D n p k)[xD once n k] = nv once D p (xD once n k) := by
    rw [tmD_get, prD_at once hk]
    unfold nv
    cases once with
    | false => simp only [Bool.false_eq_true, if_false]; rw [wv_low _ _ _ hp]
    | true => simp only [Bool.false_eq_true, if_false, if_true]; unfold wo; rw [if_pos hp]
  rw [← e, List.set_getElem_self]
theorem tmD_val (once : Bool) (D : List Int) {n p k : Nat} (hk : k ≤ n) (hp1 : 1 ≤ p) (hp : p ≤ xD once n k) : nv once D p (xD once n k) = D.getD (xD once n k) 0 + (if prD once n k (xD once n k - p) then nv once D p (xD once n k - p) else D.getD (xD once n k - p) 0) := by
  unfold nv prD xD at *
  cases once with
  | false =>
    simp only [Bool.false_eq_true, if_false] at *
    rw [decide_eq_true (by omega), wv_high _ _ _ hp1 hp]
    simp
  | true =>
    simp only [if_true] at *
    rw [decide_eq_false (by omega)]
    conv => lhs; unfold wo
    rw [if_neg (by omega)]
    simp
theorem tmD_zero (once : Bool) {D : List Int} (n p : Nat) : tmD once D n p 0 = (List.range (n + 1)).map fun s => D.getD s 0 := by
  unfold tmD
  apply List.map_congr_left
  intro s hs
  rw [List.mem_range] at hs
  have : prD once n 0 s = false := by
    unfold prD
    cases once with
    | false => simp
    | true => simp only [if_true]; exact decide_eq_false (by omega)
  rw [this]
  simp
theorem tmD_end (once : Bool) {D : List Int} (n p : Nat) (hn : n ≤ 40) : tmD once D n p (n + 1) = (List.range (n + 1)).map fun s => (mrow once D p).getD s 0 := by
  unfold tmD
  apply List.map_congr_left
  intro s hs
  rw [List.mem_range] at hs
  have : prD once n (n + 1) s = true := by
    unfold prD
    cases once with
    | false => simp only [Bool.false_eq_true, if_false]; exact decide_eq_true hs
    | true => simp only [if_true]; exact decide_eq_true (by omega)
  rw [this, mrow_getD _ _ _ _ (by omega)]
  simp
def cutR (D : List Int) (n : Nat) : List Int := (List.range (n + 1)).map fun s => D.getD s 0
theorem cutR_len (D : List Int) (n : Nat) : (cutR D n).length = n + 1 := by simp [cutR]
theorem cutR_get (D : List Int) (n s : Nat) (h : s < (cutR D n).length) : (cutR D n)[s] = D.getD s 0 := by simp [cutR]
theorem rep_getD (m t : Nat) : (List.replicate m (0 : Int)).getD t 0 = 0 := by
  rw [List.getD_eq_getElem?_getD, List.getElem?_replicate]
  split <;> rfl
theorem cutR_start (n : Nat) (hn : n ≤ 40) : (List.replicate (n + 1) (0 : Int)).set 0 1 = cutR (crow 0) n := by
  apply List.ext_getElem
  · rw [cutR_len]; simp
  · intro s h1 h2
    have hs : s < 41 := by rw [cutR_len] at h2; omega
    rw [cutR_get, crow_zero]
    rcases Nat.eq_zero_or_pos s with h0 | h0
    · subst h0; simp
    · rw [List.getElem_set_ne (by omega), List.getElem_replicate]
      obtain ⟨t, rfl⟩ : ∃ t, s = t + 1 := ⟨s - 1, by omega⟩
      rw [List.getD_cons_succ, rep_getD]
end NP
end Go.Proofs.Ytifhnjnpbpgjfaa
namespace Go.Proofs.Ytifhnjnpbpgjfaa
namespace NP
set_option linter.unusedVariables false
/-- from 1 on by steps -/
def rsL (st k : Nat) : List Int := (List.range k).map fun (i : Nat) => (1 : Int) + (st : Int) * (i : Int)
theorem rsL_len (st k : Nat) : (rsL st k).length = k := by simp [rsL]
theorem rsL_succ (st k : Nat) : rsL st (k + 1) = rsL st k ++ [(1 : Int) + (st : Int) * (k : Int)] := by unfold rsL; rw [List.range_succ, List.map_append]; rfl
theorem rsL_getD (st k i : Nat) (h : i < k) : (rsL st k).getD i 0 = 1 + (st : Int) * (i : Int) := by rw [getD_lt (by rw [rsL_len]; exact h)]; simp [rsL]
theorem setRows_append (once : Bool) (A : List Int) (x : Int) : setRows once (A ++ [x]) = mrow once (setRows once A) x.toNat := by
  unfold setRows; rw [List.foldl_append]; rfl
theorem stB_all (k : Nat) (hk : k ≤ 40) : stB (rsL 1 k) = true := (stB_iff _).2 fun i hi => by
  rw [rsL_len] at hi
  rw [rsL_getD 1 k i hi]
  refine ⟨by omega, by omega, fun h0 => ?_⟩
  rw [rsL_getD 1 k (i - 1) (by omega)]
  omega
theorem stB_odd (k : Nat) (hk : 2 * k ≤ 41) : stB (rsL 2 k) = true := (stB_iff _).2 fun i hi => by
  rw [rsL_len] at hi
  rw [rsL_getD 2 k i hi]
  refine ⟨by omega, by omega, fun h0 => ?_⟩
  rw [rsL_getD 2 k (i - 1) (by omega)]
  omega
theorem rows_all (k : Nat) : setRows false (rsL 1 k) = crow k := by
  induction k with
  | zero => rfl
  | succ k ih =>
    rw [rsL_succ, setRows_append, ih]
    have e : ((1 : Int) + ((1 : Nat) : Int) * (k : Int)).toNat = k + 1 := by omega
    rw [e, mrow_many, wrow_crow]
theorem cntS_all (n : Nat) (h : n ≤ 40) : cntF false (rsL 1 n) n = cpF n := by
  rw [cntF_in false (stB_all n h) (by omega) (by omega), rows_all, Int.toNat_natCast, crow_getD _ _ (by omega), ← ctZ_nat]
  unfold cpF
  rw [if_pos (by omega)]
/-- a row of counts, reckoned place by place -/
def irow (p : Nat) (D : List Int) (n : Nat) : List Int := (List.range n).foldl (fun acc s => acc ++ [D.getD s 0 + (if s < p then 0 else acc.getD (s - p) 0)]) []
theorem irow_succ (p : Nat) (D : List Int) (n : Nat) : irow p D (n + 1) = irow p D n ++ [D.getD n 0 + (if n < p then 0 else (irow p D n).getD (n - p) 0)] := by
  unfold irow
  rw [List.range_succ, List.foldl_append]
  rfl
theorem irow_eq (p : Nat) (hp : 1 ≤ p) (D : List Int) (n : Nat) : irow p D n = (List.range n).map (wv D p) := by
  induction n with
  | zero => rfl
  | succ n ih =>
    rw [irow_succ, ih, List.range_succ, List.map_append]
    congr 1
    simp only [List.map_cons, List.map_nil]
    congr 1
    split
    · rename_i h
      rw [wv_low _ _ _ h]; omega
    · rename_i h
      have e : ((List.range n).map (wv D p)).getD (n - p) 0 = wv D p (n - p) := by
        rw [List.getD_eq_getElem?_getD, List.getElem?_eq_getElem (by simp; omega), Option.getD_some]; simp
      rw [wv_high _ _ _ hp (by omega), e]
def erow : Nat → List Int
  | 0 => 1 :: List.replicate 40 0
  | k + 1 => worow (erow k) (k + 1) 1
def orow : Nat → List Int
  | 0 => 1 :: List.replicate 40 0
  | k + 1 => irow (2 * k + 1) (orow k) 41
theorem rows_once (k : Nat) : setRows true (rsL 1 k) = erow k := by
  induction k with
  | zero => exact crow_zero
  | succ k ih =>
    rw [rsL_succ, setRows_append, ih]
    have e : ((1 : Int) + ((1 : Nat) : Int) * (k : Int)).toNat = k + 1 := by omega
    rw [e, mrow_once]
    rfl
theorem rows_odd (k : Nat) : setRows false (rsL 2 k) = orow k := by
  induction k with
  | zero => exact crow_zero
  | succ k ih =>
    rw [rsL_succ, setRows_append, ih]
    have e : ((1 : Int) + ((2 : Nat) : Int) * (k : Int)).toNat = 2 * k + 1 := by omega
    rw [e, mrow_many, orow, irow_eq _ (by omega)]
    rfl
theorem erow_keep (s d : Nat) (h : s ≤ d) (h41 : s < 41) : (erow d).getD s 0 = (erow s).getD s 0 := by
  induction d with
  | zero => obtain rfl : s = 0 := by omega
            rfl
  | succ d ih =>
    rcases Nat.lt_or_ge d s with h1 | h1
    · obtain rfl : s = d + 1 := by omega
      rfl
    · rw [show erow (d + 1) = worow (erow d) (d + 1) 1 from rfl, worow_getD _ _ _ _ h41]
      unfold wo
      rw [if_pos (by omega)]
      exact ih h1
theorem orow_keep (s : Nat) (h41 : s < 41) (d : Nat) : ∀ j, s < 2 * j + 1 → (orow (j + d)).getD s 0 = (orow j).getD s 0 := by
  induction d with
  | zero => intro j _; rfl
  | succ d ih =>
    intro j hj
    rw [show j + (d + 1) = (j + d) + 1 by omega, orow, irow_eq _ (by omega)]
    have e : ((List.range 41).map (wv (orow (j + d)) (2 * (j + d) + 1))).getD s 0 = wv (orow (j + d)) (2 * (j + d) + 1) s := by
      rw [getD_lt (by simp; exact h41)]; simp
    rw [e, wv_low _ _ _ (by omega)]
    exact ih j hj
theorem euler_tab : erow 40 = orow 20 := by decide +kernel
theorem euler (n : Nat) (h : n ≤ 40) : cntF true (rsL 1 n) n = cntF false (rsL 2 ((n + 1) / 2)) n := by
  rw [cntF_in true (stB_all n h) (by omega) (by omega), cntF_in false (stB_odd _ (by omega)) (by omega) (by omega), rows_once, rows_odd, Int.toNat_natCast, ← erow_keep n 40 h (by omega), euler_tab]
  have := orow_keep n (by omega) (20 - (n + 1) / 2) ((n + 1) / 2) (by omega)
  rw [← this]
  congr 2
  omega
/-- the last number of the set comes or not -/
theorem cnt_last (once : Bool) {S : List Int} (hs : stB S = true) (h0 : 0 < S.length) {n : Int} (hn : 0 ≤ n) (hn40 : n ≤ 40) :
    cntF once S n = cntF once (S.take (S.length - 1)) n + max (cntF once (if once then S.take (S.length - 1) else S) (n - S[S.length - 1]'(by omega))) 0 := by
  have hl : S.length - 1 < S.length := by omega
  have hst : stB (S.take (S.length - 1)) = true := (stB_iff _).2 fun i hi => by
    have hi2 : i < S.length - 1 := by simp at hi; omega
    have h1 := (stB_iff S).1 hs i (by omega)
    rw [getD_take, getD_take, if_pos hi2, if_pos (by omega)]
    exact h1
  have hx := (stB_iff S).1 hs (S.length - 1) hl
  rw [getD_lt hl] at hx
  have hbd := setRows_step hs once hl
  have hsu := setRows_succ once hl
  rw [show S.length - 1 + 1 = S.length by omega, List.take_of_length_le (Nat.le_refl _)] at hsu
  obtain ⟨N, rfl⟩ := Int.eq_ofNat_of_zero_le hn
  obtain ⟨p, hp⟩ : ∃ p : Nat, S[S.length - 1] = (p : Int) := ⟨S[S.length - 1].toNat, by omega⟩
  rw [hp] at hx hsu ⊢
  rw [hp] at hbd
  have e1 : ((p : Int)).toNat = p := by omega
  rw [e1] at hsu hbd
  have hA := cntF_in once hs (n := (N : Int)) hn hn40
  have hB := cntF_in once hst (n := (N : Int)) hn hn40
  rw [Int.toNat_natCast] at hA hB
  rw [hA, hB, hsu, mrow_getD _ _ _ _ (by omega)]
  rcases Nat.lt_or_ge N p with h1 | h1
  · have hz : ∀ X, cntF once X ((N : Int) - (p : Int)) = -1 := fun X => cntF_out once (fun h => by omega)
    rw [hz]
    unfold nv
    cases once with
    | false => simp only [Bool.false_eq_true, if_false]; rw [wv_low _ _ _ h1]; omega
    | true => simp only [if_true]; unfold wo; rw [if_pos h1]; omega
  · have eq : ((N : Int) - (p : Int)) = ((N - p : Nat) : Int) := by omega
    rw [eq]
    have hb2 := hbd (N - p) (by omega)
    cases once with
    | false =>
      simp only [Bool.false_eq_true, if_false]
      rw [cntF_in false hs (by omega) (by omega), Int.toNat_natCast, hsu, mrow_getD _ _ _ _ (by omega)]
      unfold nv
      simp only [Bool.false_eq_true, if_false]
      rw [wv_high _ _ _ (by omega) h1]
      omega
    | true =>
      simp only [if_true]
      rw [cntF_in true hst (by omega) (by omega), Int.toNat_natCast]
      unfold nv
      simp only [if_true]
      unfold wo
      rw [if_neg (by omega)]
      omega
theorem cnt_empty (once : Bool) {n : Int} (hn : 0 ≤ n) (hn40 : n ≤ 40) : cntF once [] n = if n = 0 then 1 else 0 := by
  rw [cntF_in once (S := []) (by decide) hn hn40]
  obtain ⟨N, rfl⟩ := Int.eq_ofNat_of_zero_le hn
  rw [Int.toNat_natCast]
  show (crow 0).getD N 0 = _
  rw [crow_getD _ _ (by omega)]
  rcases Nat.eq_zero_or_pos N with h0 | h0
  · subst h0; rw [ct_zero]; rfl
  · rw [ct_none _ h0, if_neg (by omega)]; rfl
theorem cntF_bd (once : Bool) (S : List Int) (n : Int) : -1 ≤ cntF once S n ∧ cntF once S n ≤ 1099511627776 := by
  unfold cntF
  split
  · rename_i h
    have h1 := setRows_bd h.1 once S.length (Nat.le_refl _)
    rw [List.take_of_length_le (Nat.le_refl _)] at h1
    have h2 := h1 n.toNat (by omega)
    have h3 := crow_bd40 (lastOf S S.length) n.toNat (by omega)
    omega
  · omega
end NP
end Go.Proofs.Ytifhnjnpbpgjfaa
namespace Go.Proofs.Ytifhnjnpbpgjfaa
namespace NP
set_option linter.unusedVariables false
/-- the numbers up to k that leave 1 or 4 when divided by 5 -/
def in5 (x : Nat) : Bool := x % 5 == 1 || x % 5 == 4
def sq5 (k : Nat) : List Int := ((List.range k).filter fun i => in5 (i + 1)).map fun (i : Nat) => ((i + 1 : Nat) : Int)
theorem sq5_succ (k : Nat) : sq5 (k + 1) = sq5 k ++ if in5 (k + 1) then [((k + 1 : Nat) : Int)] else [] := by
  unfold sq5
  rw [List.range_succ, List.filter_append, List.map_append]
  congr 1
  cases h : in5 (k + 1) <;> simp [h]
theorem sq5_len (k : Nat) : (sq5 k).length ≤ k := by
  unfold sq5
  rw [List.length_map]
  exact Nat.le_trans (List.length_filter_le _ _) (by simp)
def qrow : Nat → List Int
  | 0 => 1 :: List.replicate 40 0
  | k + 1 => if in5 (k + 1) then irow (k + 1) (qrow k) 41 else qrow k
theorem rows_q (k : Nat) : setRows false (sq5 k) = qrow k := by
  induction k with
  | zero => exact crow_zero
  | succ k ih =>
    rw [sq5_succ, qrow]
    cases h : in5 (k + 1) with
    | true =>
      rw [if_pos rfl, if_pos rfl, setRows_append, ih, mrow_many, irow_eq _ (by omega)]
      rfl
    | false =>
      rw [if_neg (by simp), if_neg (by simp), List.append_nil, ih]
/-- the sum over squares, out of rows of counts -/
def sqsT (n : Nat) : Nat → Nat
  | 0 => 0
  | m + 1 => sqsT n m + (if m * m ≤ n then (rowc m).getD (n - m * m) 0 else 0)
theorem ctZ_row (n m : Nat) (hn : n ≤ 40) : ctZ ((n : Int) - (m : Int) * m) m = ((if m * m ≤ n then (rowc m).getD (n - m * m) 0 else 0 : Nat) : Int) := by
  have e : ((m * m : Nat) : Int) = (m : Int) * m := by simp
  rw [← e]
  split
  · rename_i h
    rw [show ((n : Int) - ((m * m : Nat) : Int)) = ((n - m * m : Nat) : Int) by omega, ctZ_nat, rowc_eq, crowN_getD _ _ (by omega)]
  · rename_i h
    unfold ctZ
    rw [if_pos (by omega)]
    rfl
theorem sqn_T (n : Nat) (hn : n ≤ 40) (m : Nat) : sqn n m = (sqsT n m : Int) := by
  induction m with
  | zero => rfl
  | succ m ih => rw [sqn, sqsT, ih, ctZ_row n m hn]; simp
theorem sqT_tab : ((List.range 41).all fun n => decide ((qrow n).getD n 0 = (sqsT n (isq n) : Int)) && stB (sq5 n)) = true := by decide +kernel
theorem sqF_T (n : Nat) (hn : n ≤ 40) : sqF n = (sqsT n (isq n) : Int) := by unfold sqF; rw [if_pos (by omega), sqn_T n hn]
theorem sq_cnt (n : Nat) (hn : n ≤ 40) : cntF false (sq5 n) n = sqF n := by
  have h := List.all_eq_true.1 sqT_tab n (by simp; omega)
  rw [Bool.and_eq_true] at h
  rw [cntF_in false h.2 (by omega) (by omega), rows_q, sqF_T n hn, Int.toNat_natCast]
  exact of_decide_eq_true h.1
def drow : Nat → List Int
  | 0 => 1 :: List.replicate 40 0
  | k + 1 => worow (drow k) (2 * k + 1) 1
theorem rows_d (k : Nat) : setRows true (rsL 2 k) = drow k := by
  induction k with
  | zero => exact crow_zero
  | succ k ih =>
    rw [rsL_succ, setRows_append, ih]
    have e : ((1 : Int) + ((2 : Nat) : Int) * (k : Int)).toNat = 2 * k + 1 := by omega
    rw [e, mrow_once]
    rfl
def scsT (n : Nat) : Nat → Nat
  | 0 => 0
  | m + 1 => scsT n m + (if m * m ≤ n ∧ (n - m * m) % 2 = 0 then (rowc m).getD ((n - m * m) / 2) 0 else 0)
theorem scs_T (n : Nat) (hn : n ≤ 40) (m : Nat) : scs n m = (scsT n m : Int) := by
  induction m with
  | zero => rfl
  | succ m ih =>
    rw [scs, scsT, ih]
    have e : ((m * m : Nat) : Int) = (m : Int) * m := by simp
    rw [← e]
    by_cases h1 : m * m ≤ n
    · by_cases h2 : (n - m * m) % 2 = 0
      · rw [if_pos (by omega), if_pos ⟨h1, h2⟩, show ((n : Int) - ((m * m : Nat) : Int)) / 2 = (((n - m * m) / 2 : Nat) : Int) by omega, ctZ_nat, rowc_eq, crowN_getD _ _ (by omega)]
        simp
      · rw [if_neg (by omega), if_neg (fun h => h2 h.2)]
        simp
    · rw [if_neg (c := m * m ≤ n ∧ (n - m * m) % 2 = 0) (fun h => h1 h.1)]
      have : ctZ (((n : Int) - ((m * m : Nat) : Int)) / 2) m = 0 := by unfold ctZ; rw [if_pos (by omega)]
      rw [this]
      simp
theorem scT_tab : ((List.range 41).all fun n => decide ((drow ((n + 1) / 2)).getD n 0 = (scsT n (isq n) : Int))) = true := by decide +kernel
theorem scF_T (n : Nat) (hn : n ≤ 40) : scF n = (scsT n (isq n) : Int) := by unfold scF; rw [if_pos (by omega), scs_T n hn]
theorem sc_cnt (n : Nat) (hn : n ≤ 40) : cntF true (rsL 2 ((n + 1) / 2)) n = scF n := by
  have h := List.all_eq_true.1 scT_tab n (by simp; omega)
  rw [cntF_in true (stB_odd _ (by omega)) (by omega) (by omega), rows_d, scF_T n hn, Int.toNat_natCast]
  exact of_decide_eq_true h
end NP
end Go.Proofs.Ytifhnjnpbpgjfaa
