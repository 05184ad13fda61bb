/-
  Plain mathematics of parts: valid lists, their enumeration, prefixes. No Go text.
-/
import Derived.KernelRfl
namespace Go.Proofs.YtmlomapifldlpaaDoor
namespace NP
/-- parts below most with at most left together -/
def vb : Int → Int → List Int → Bool
  | _, _, [] => true
  | m, l, x :: r => decide (1 ≤ x) && decide (x ≤ l) && decide (x ≤ m) && vb x (l - x) r
def valid (L : List Int) : Bool := vb 16 16 L

/-- all parts: greatest at most m, together at most l; f: fuel -/
def enum : Nat → Nat → Nat → List (List Nat)
  | 0, _, _ => [[]]
  | f + 1, m, l => [] :: ((List.range (min m l)).flatMap fun k => (enum f (k + 1) (l - (k + 1))).map ((k + 1) :: ·))

theorem mem_enum : ∀ (f : Nat) (m l : Nat) (L : List Int), l ≤ f → vb m l L = true → ∃ N ∈ enum f m l, L = N.map Int.ofNat := by
  intro f
  induction f with
  | zero =>
    intro m l L hl h
    cases L with
    | nil => exact ⟨[], by simp [enum], rfl⟩
    | cons x r => simp [vb] at h; omega
  | succ f ih =>
    intro m l L hl h
    cases L with
    | nil => exact ⟨[], by simp [enum], rfl⟩
    | cons x r =>
      simp only [vb, Bool.and_eq_true, decide_eq_true_eq] at h
      obtain ⟨⟨⟨h1, h2⟩, h3⟩, h4⟩ := h
      obtain ⟨n, rfl⟩ := Int.eq_ofNat_of_zero_le (show 0 ≤ x by omega)
      have e : ((l : Int) - (n : Int)) = ((l - n : Nat) : Int) := by omega
      rw [e] at h4
      obtain ⟨N, hN, hr⟩ := ih n (l - n) r (by omega) h4
      refine ⟨n :: N, ?_, by simp [hr]⟩
      simp only [enum, List.mem_cons, List.mem_flatMap, List.mem_range, List.mem_map]
      right
      refine ⟨n - 1, by omega, N, ?_, ?_⟩
      · rw [show n - 1 + 1 = n by omega]; exact hN
      · rw [show n - 1 + 1 = n by omega]

def all16 : List (List Nat) := enum 16 16 16
theorem mem_all16 {L : List Int} (h : valid L = true) : ∃ N ∈ all16, L = N.map Int.ofNat := mem_enum 16 16 16 L (by omega) h

/-- what is true of each of the 915 -/
theorem of_all {p : List Nat → Bool} (hp : all16.all p = true) {L : List Int} (h : valid L = true) : ∃ N, p N = true ∧ L = N.map Int.ofNat := by
  obtain ⟨N, hN, e⟩ := mem_all16 h
  exact ⟨N, List.all_eq_true.1 hp N hN, e⟩
end NP
namespace NP
def sumL : List Int → Int | [] => 0 | x :: r => x + sumL r
theorem sumL_append (a b : List Int) : sumL (a ++ b) = sumL a + sumL b := by
  induction a with
  | nil => simp [sumL]
  | cons x r ih => simp [sumL, ih]; omega
theorem sumL_take_succ (L : List Int) (k : Nat) (h : k < L.length) : sumL (L.take (k + 1)) = sumL (L.take k) + L[k] := by
  rw [List.take_succ_eq_append_getElem h, sumL_append]; simp [sumL]
def lastOr (m : Int) (L : List Int) : Int := L.getLastD m
theorem vb_append (m l : Int) (a b : List Int) : vb m l (a ++ b) = (vb m l a && vb (a.getLastD m) (l - sumL a) b) := by
  induction a generalizing m l with
  | nil => simp [vb, sumL]
  | cons x r ih =>
    simp only [List.cons_append, vb, ih, sumL]
    have e : (x :: r).getLastD m = r.getLastD x := by cases r <;> simp [List.getLastD]
    rw [e, show l - x - sumL r = l - (x + sumL r) by omega]
    simp [Bool.and_assoc]
theorem vb_nonneg {m l : Int} {a : List Int} (hl : 0 ≤ l) (h : vb m l a = true) : 0 ≤ sumL a ∧ sumL a ≤ l ∧ (a.length : Int) ≤ sumL a := by
  induction a generalizing m l with
  | nil => simp [sumL]; omega
  | cons x r ih =>
    simp only [vb, Bool.and_eq_true, decide_eq_true_eq] at h
    have := ih (by omega) h.2
    simp only [sumL, List.length_cons]
    omega
theorem valid_bd {L : List Int} (h : valid L = true) : 0 ≤ sumL L ∧ sumL L ≤ 16 ∧ (L.length : Int) ≤ sumL L ∧ L.length ≤ 16 := by
  have := vb_nonneg (by omega) h
  omega
theorem valid_take {L : List Int} (h : valid L = true) (k : Nat) : valid (L.take k) = true := by
  have e := List.take_append_drop k L
  unfold valid at *
  rw [← e, vb_append] at h
  simp at h
  exact h.1
theorem valid_of_take {L : List Int} {k : Nat} (h : valid (L.take k) = false) : valid L = false := by
  cases hv : valid L with
  | false => rfl
  | true => rw [valid_take hv k] at h; cases h
/-- a step of the prefix -/
theorem valid_step {L : List Int} {k : Nat} (hk : k < L.length) (h : valid (L.take k) = true) :
    valid (L.take (k + 1)) = (decide (1 ≤ L[k]) && decide (L[k] ≤ 16 - sumL (L.take k)) && decide (L[k] ≤ (L.take k).getLastD 16)) := by
  rw [List.take_succ_eq_append_getElem hk]
  unfold valid at *
  rw [vb_append, h]
  simp [vb]
theorem last_take {L : List Int} {k : Nat} (hk : k < L.length) : (L.take (k + 1)).getLastD 16 = L[k] := by
  rw [List.take_succ_eq_append_getElem hk, List.getLastD_eq_getLast?, List.getLast?_append]; simp
theorem vb_iff (m l : Int) (L : List Int) : vb m l L = true ↔ (∀ k (h : k < L.length), 1 ≤ L[k] ∧ L[k] ≤ m ∧ (∀ h' : k + 1 < L.length, L[k+1] ≤ L[k])) ∧ (0 < L.length → sumL L ≤ l) := by
  induction L generalizing m l with
  | nil => simp [vb]
  | cons x r ih =>
    simp only [vb, Bool.and_eq_true, decide_eq_true_eq, ih, List.length_cons, sumL]
    constructor
    · rintro ⟨⟨⟨h1, h2⟩, h3⟩, h4, h5⟩
      refine ⟨fun k hk => ?_, fun _ => ?_⟩
      · match k, hk with
        | 0, hk => exact ⟨h1, h3, fun h' => (h4 0 (by omega)).2.1⟩
        | k + 1, hk =>
          have := h4 k (by omega)
          have hx : r[k] ≤ x := by
            clear h5
            exact this.2.1
          exact ⟨this.1, by simp; omega, fun h' => this.2.2 (by omega)⟩
      · rcases Nat.eq_zero_or_pos r.length with h0 | h0
        · have : r = [] := List.eq_nil_of_length_eq_zero h0
          subst this; simp [sumL]; omega
        · have := h5 h0; omega
    · rintro ⟨h4, h5⟩
      have h0 := h4 0 (by omega)
      simp at h0
      have hs : ∀ (r : List Int) (x : Int), (∀ k (h : k < (x :: r).length), 1 ≤ (x :: r)[k]) → 0 ≤ sumL r := by
        intro r
        induction r with
        | nil => intro x _; simp [sumL]
        | cons y s ih => 
          intro x h
          have h1 := h 1 (by simp)
          have := ih y (fun k hk => h (k + 1) (by simpa using hk))
          simp [sumL] at *; omega
      have hr := hs r x (fun k hk => (h4 k (by simpa using hk)).1)
      have h6 := h5 (by omega)
      refine ⟨⟨⟨h0.1, by omega⟩, by omega⟩, fun k hk => ?_, fun _ => by omega⟩
      have h7 := h4 (k + 1) (by omega)
      have mono : ∀ k (hk : k < (x :: r).length), (x :: r)[k] ≤ x := by
        intro k
        induction k with
        | zero => intro _; simp
        | succ k ihk =>
          intro hk
          have := (h4 k (by simp at hk ⊢; omega)).2.2 (by simpa using hk)
          have := ihk (by omega)
          omega
      exact ⟨h7.1, mono (k + 1) (by simpa using hk), fun h' => h7.2.2 (by omega)⟩
end NP
namespace NP
/-- the spec's own prefix condition -/
def preS (L : List Int) (k : Nat) : Prop := ∀ j (h : j < L.length), j < k → 1 ≤ L[j] ∧ L[j] ≤ 16 ∧ (0 < j → L[j] ≤ L[j - 1]'(by omega))
theorem valid_of_preS {L : List Int} (h : preS L L.length) (hs : sumL L ≤ 16) : valid L = true := by
  unfold valid
  rw [vb_iff]
  refine ⟨fun k hk => ?_, fun _ => hs⟩
  have h1 := h k hk hk
  refine ⟨h1.1, h1.2.1, fun h' => ?_⟩
  have h2 := (h (k + 1) h' h').2.2 (by omega)
  simpa using h2
theorem preS_of_valid {L : List Int} (h : valid L = true) : preS L L.length := by
  unfold valid at h
  rw [vb_iff] at h
  intro j hj _
  have h1 := h.1 j hj
  refine ⟨h1.1, h1.2.1, fun h0 => ?_⟩
  have h2 := (h.1 (j - 1) (by omega)).2.2 (by omega)
  have e : j - 1 + 1 = j := by omega
  simp only [e] at h2
  exact h2
theorem preS_succ {L : List Int} {k : Nat} (hk : k < L.length) (h : preS L k) (h1 : 1 ≤ L[k]) (h2 : L[k] ≤ 16) (h3 : 0 < k → L[k] ≤ L[k - 1]'(by omega)) : preS L (k + 1) := by
  intro j hj hjk
  rcases Nat.lt_or_ge j k with hlt | hge
  · exact h j hj hlt
  · obtain rfl : j = k := by omega
    exact ⟨h1, h2, h3⟩
theorem not_valid_at {L : List Int} {k : Nat} (hk : k < L.length) (h : ¬ (1 ≤ L[k] ∧ L[k] ≤ 16 ∧ (0 < k → L[k] ≤ L[k - 1]'(by omega)))) : valid L = false := by
  cases hv : valid L with
  | false => rfl
  | true => exact absurd (preS_of_valid hv k hk hk) h
theorem preS_sum {L : List Int} (h : preS L L.length) : ∀ k, k ≤ L.length → (k : Int) ≤ sumL (L.take k) ∧ sumL (L.take k) ≤ 16 * k := by
  intro k
  induction k with
  | zero => intro _; simp [sumL]
  | succ k ih =>
    intro hk
    have := ih (by omega)
    have h1 := h k (by omega) (by omega)
    rw [sumL_take_succ L k (by omega)]
    omega
end NP
namespace NP
theorem last_take' {L : List Int} {k : Nat} (hk : k < L.length) (h0 : 0 < k) : (L.take k).getLastD 16 = L[k - 1]'(by omega) := by
  have := last_take (L := L) (k := k - 1) (by omega)
  rw [show k - 1 + 1 = k by omega] at this
  exact this
theorem valid_next {L : List Int} {k : Nat} (hk : k < L.length) (h : valid (L.take k) = true) (h1 : 1 ≤ L[k]) (h2 : L[k] ≤ 16 - sumL (L.take k)) (h3 : 0 < k → L[k] ≤ L[k - 1]'(by omega)) : valid (L.take (k + 1)) = true := by
  rw [valid_step hk h]
  have hb := valid_bd h
  rcases Nat.eq_zero_or_pos k with h0 | h0
  · subst h0
    simp at h2 ⊢
    simp [sumL] at h2 ⊢
    omega
  · rw [last_take' hk h0]
    have := h3 h0
    simp; omega
theorem valid_stop {L : List Int} {k : Nat} (hk : k < L.length) (h : valid (L.take k) = true) (hn : ¬ (1 ≤ L[k] ∧ L[k] ≤ 16 - sumL (L.take k) ∧ (0 < k → L[k] ≤ L[k - 1]'(by omega)))) : valid L = false := by
  cases hv : valid L with
  | false => rfl
  | true =>
    have h1 := valid_take hv (k + 1)
    rw [valid_step hk h] at h1
    simp at h1
    exact absurd ⟨h1.1.1, h1.1.2, fun h0 => by rw [← last_take' hk h0]; simpa using h1.2⟩ hn
end NP
namespace NP
/-- the parts and 0 behind them -/
def pad (L : List Int) : List Int := L ++ List.replicate (16 - L.length) 0
theorem pad_len {L : List Int} (h : L.length ≤ 16) : (pad L).length = 16 := by simp [pad]; omega
theorem pad_set {L : List Int} {k : Nat} (hk : k < L.length) (h : k < 16) : (pad (L.take k)).set k L[k] = pad (L.take (k + 1)) := by
  unfold pad
  have e1 : (L.take k).length = k := by simp; omega
  have e2 : (L.take (k + 1)).length = k + 1 := by simp; omega
  rw [e1, e2, show 16 - k = (16 - (k + 1)) + 1 by omega, List.replicate_succ, List.set_append_right _ _ (by omega), e1, Nat.sub_self, List.set_cons_zero, List.take_succ_eq_append_getElem hk, List.append_assoc]
  simp
/-- the array that diagramOf returns -/
def dg (L : List Int) : List Int := if valid L then pad L else List.replicate 16 0
theorem dg_yes {L : List Int} (h : valid L = true) : dg L = pad L := by simp [dg, h]
theorem dg_no {L : List Int} (h : valid L = false) : dg L = List.replicate 16 0 := by simp [dg, h]

/-- how far a test holds from k on, f places at most -/
def ffrom (p : Nat → Bool) : Nat → Nat → Nat
  | 0, k => k
  | f + 1, k => if p k then ffrom p f (k + 1) else k
def ff (p : Nat → Bool) (n : Nat) : Nat := ffrom p n 0
theorem ffrom_eq (p : Nat → Bool) : ∀ (f k0 k : Nat), (∀ j, k0 ≤ j → j < k → p j = true) → k0 ≤ k → k ≤ k0 + f → (k = k0 + f ∨ p k = false) → ffrom p f k0 = k := by
  intro f
  induction f with
  | zero => intro k0 k _ h1 h2 _; simp only [ffrom]; omega
  | succ f ih =>
    intro k0 k h h1 h2 h3
    simp only [ffrom]
    by_cases hk : k = k0
    · subst hk
      rcases h3 with h3 | h3
      · omega
      · simp [h3]
    · rw [if_pos (h k0 (Nat.le_refl _) (by omega))]
      exact ih (k0 + 1) k (fun j hj hjk => h j (by omega) hjk) (by omega) (by omega) (h3.imp (by omega) id)
theorem ff_eq {p : Nat → Bool} {n k : Nat} (h : ∀ j, j < k → p j = true) (h2 : k ≤ n) (h3 : k = n ∨ p k = false) : ff p n = k :=
  ffrom_eq p n 0 k (fun j _ hj => h j hj) (Nat.zero_le _) (by omega) (by simpa using h3)

theorem pad_get {L : List Int} {k : Nat} (h : L.length ≤ 16) (hk : k < L.length) : (pad L)[k]'(by rw [pad_len h]; omega) = L[k] := by simp [pad, List.getElem_append_left hk]
theorem pad_get0 {L : List Int} {k : Nat} (h : L.length ≤ 16) (hk : L.length ≤ k) (h16 : k < 16) : (pad L)[k]'(by rw [pad_len h]; omega) = 0 := by simp [pad, List.getElem_append_right hk]
theorem pad_take {L : List Int} : (pad L).take L.length = L := by simp [pad]

/-- how many are at least k -/
def cnt (k : Int) : List Int → Int
  | [] => 0
  | x :: r => (if k ≤ x then 1 else 0) + cnt k r
theorem cnt_append (k : Int) (a b : List Int) : cnt k (a ++ b) = cnt k a + cnt k b := by
  induction a with
  | nil => simp [cnt]
  | cons x r ih => simp [cnt, ih]; omega
theorem cnt_take_succ (k : Int) (L : List Int) (i : Nat) (h : i < L.length) : cnt k (L.take (i + 1)) = cnt k (L.take i) + (if k ≤ L[i] then 1 else 0) := by
  rw [List.take_succ_eq_append_getElem h, cnt_append]; simp [cnt]
theorem cnt_bd (k : Int) (L : List Int) : 0 ≤ cnt k L ∧ cnt k L ≤ L.length := by
  induction L with
  | nil => simp [cnt]
  | cons x r ih => simp only [cnt, List.length_cons]; split <;> omega
theorem cnt_anti {k l : Int} (h : k ≤ l) (L : List Int) : cnt l L ≤ cnt k L := by
  induction L with
  | nil => simp [cnt]
  | cons x r ih => simp only [cnt]; (repeat' split) <;> omega
theorem cnt_zero {k : Int} (hk : 1 ≤ k) (n : Nat) : cnt k (List.replicate n 0) = 0 := by
  induction n with
  | zero => rfl
  | succ n ih => rw [List.replicate_succ, cnt, ih]; split <;> omega
theorem cnt_pad {k : Int} (hk : 1 ≤ k) (L : List Int) : cnt k (pad L) = cnt k L := by unfold pad; rw [cnt_append, cnt_zero hk]; omega
theorem cnt_none {k : Int} {L : List Int} (h : ∀ x ∈ L, x < k) : cnt k L = 0 := by
  induction L with
  | nil => rfl
  | cons x r ih =>
    rw [cnt, ih (fun y hy => h y (by simp [hy]))]
    have := h x (by simp)
    split <;> omega
def conj (L : List Int) : List Int := (List.range (L.headD 0).toNat).map fun (j : Nat) => cnt ((j : Int) + 1) L
theorem conj_len (L : List Int) : (conj L).length = (L.headD 0).toNat := by simp [conj]
theorem conj_get (L : List Int) (k : Nat) (h : k < (conj L).length) : (conj L)[k] = cnt ((k : Int) + 1) L := by simp [conj]
theorem head_ge {L : List Int} (h : valid L = true) : ∀ x ∈ L, x ≤ L.headD 0 := by
  have hp := preS_of_valid h
  have key : ∀ k (hk : k < L.length), L[k] ≤ L.headD 0 := by
    intro k
    induction k with
    | zero => intro hk; cases L <;> simp at hk ⊢
    | succ k ih =>
      intro hk
      have h1 := (hp (k + 1) hk hk).2.2 (by omega)
      have h2 := ih (by omega)
      simp at h1
      omega
  intro x hx
  obtain ⟨k, hk, rfl⟩ := List.getElem_of_mem hx
  exact key k hk
theorem headD_bd {L : List Int} (h : valid L = true) : 0 ≤ L.headD 0 ∧ L.headD 0 ≤ 16 := by
  have hp := preS_of_valid h
  cases L with
  | nil => simp
  | cons x r => have := hp 0 (by simp) (by simp); simp at this ⊢; omega
def tsum (n : Nat) (x : Int) : Int := sumL ((List.range n).map fun (j : Nat) => if (j : Int) + 1 ≤ x then 1 else 0)
theorem tsum_le (n : Nat) (x : Int) (hx : 0 ≤ x) : tsum n x ≤ x ∧ tsum n x ≤ n := by
  induction n with
  | zero => simp [tsum, sumL]; exact hx
  | succ n ih =>
    have e : tsum (n + 1) x = tsum n x + if (n : Int) + 1 ≤ x then 1 else 0 := by
      simp [tsum, List.range_succ, sumL_append, sumL]
    rw [e]
    split <;> omega
theorem csum_le (n : Nat) (L : List Int) (h : ∀ x ∈ L, 0 ≤ x) : sumL ((List.range n).map fun (j : Nat) => cnt ((j : Int) + 1) L) ≤ sumL L := by
  induction L with
  | nil =>
    have : ∀ n : Nat, sumL ((List.range n).map fun (j : Nat) => cnt ((j : Int) + 1) []) = 0 := by
      intro n
      induction n with
      | zero => rfl
      | succ n ih => rw [List.range_succ, List.map_append, sumL_append, ih]; simp [cnt, sumL]
    rw [this]; simp [sumL]
  | cons x r ih =>
    have e : ∀ n : Nat, sumL ((List.range n).map fun (j : Nat) => cnt ((j : Int) + 1) (x :: r)) = tsum n x + sumL ((List.range n).map fun (j : Nat) => cnt ((j : Int) + 1) r) := by
      intro n
      induction n with
      | zero => rfl
      | succ n ih => 
        have e2 : tsum (n + 1) x = tsum n x + if (n : Int) + 1 ≤ x then 1 else 0 := by
          simp [tsum, List.range_succ, sumL_append, sumL]
        rw [List.range_succ, List.map_append, sumL_append, ih, List.map_append, sumL_append, e2]
        simp [cnt, sumL]; omega
    rw [e, sumL]
    have h1 := (tsum_le n x (h x (by simp))).1
    have h2 := ih (fun y hy => h y (by simp [hy]))
    omega
theorem valid_nonneg {L : List Int} (h : valid L = true) : ∀ x ∈ L, 0 ≤ x := by
  intro x hx
  obtain ⟨k, hk, rfl⟩ := List.getElem_of_mem hx
  have := preS_of_valid h k hk hk
  omega
theorem valid_conj {L : List Int} (h : valid L = true) : valid (conj L) = true := by
  have hb := valid_bd h
  have hc : ∀ k : Nat, cnt k L ≤ 16 := fun k => by have := (cnt_bd k L).2; omega
  unfold valid
  rw [vb_iff]
  refine ⟨fun k hk => ?_, fun _ => ?_⟩
  · rw [conj_get]
    rw [conj_len] at hk
    refine ⟨?_, by have := (cnt_bd ((k : Int) + 1) L).2; omega, fun h' => ?_⟩
    · cases L with
      | nil => simp at hk
      | cons x r =>
        simp at hk
        have := (cnt_bd ((k : Int) + 1) r).1
        rw [cnt, if_pos (by omega)]
        omega
    · rw [conj_get]
      exact cnt_anti (by omega) L
  · have := csum_le (L.headD 0).toNat L (valid_nonneg h)
    unfold conj
    omega
theorem conj_pad {L : List Int} (h : valid L = true) : ((List.range 16).map fun (j : Nat) => cnt ((j : Int) + 1) (pad L)) = pad (conj L) := by
  have hb := headD_bd h
  have hlen : (conj L).length ≤ 16 := by rw [conj_len]; omega
  apply List.ext_getElem
  · rw [pad_len hlen]; simp
  · intro k h1 h2
    simp at h1
    rw [List.getElem_map, List.getElem_range, cnt_pad (by omega)]
    by_cases hk : k < (conj L).length
    · rw [pad_get hlen hk, conj_get]
    · rw [pad_get0 hlen (by omega) h1]
      rw [conj_len] at hk
      exact cnt_none fun x hx => by have := head_ge h x hx; omega
end NP
namespace NP
theorem tsum_eq (n : Nat) (x : Int) (hx : 0 ≤ x) (hn : x ≤ n) : tsum n x = x := by
  have key : ∀ k : Nat, tsum k x = if (k : Int) ≤ x then (k : Int) else x := by
    intro k
    induction k with
    | zero => simp [tsum, sumL]; omega
    | succ k ih =>
      have e : tsum (k + 1) x = tsum k x + if (k : Int) + 1 ≤ x then 1 else 0 := by
        simp [tsum, List.range_succ, sumL_append, sumL]
      rw [e, ih]
      (repeat' split) <;> omega
  rw [key]
  split <;> omega
theorem csum_eq (n : Nat) (L : List Int) (h : ∀ x ∈ L, 0 ≤ x ∧ x ≤ n) : sumL ((List.range n).map fun (j : Nat) => cnt ((j : Int) + 1) L) = sumL L := by
  induction L with
  | nil =>
    have : ∀ n : Nat, sumL ((List.range n).map fun (j : Nat) => cnt ((j : Int) + 1) []) = 0 := by
      intro n
      induction n with
      | zero => rfl
      | succ n ih => rw [List.range_succ, List.map_append, sumL_append, ih]; simp [cnt, sumL]
    rw [this]; simp [sumL]
  | cons x r ih =>
    have e : ∀ n : Nat, sumL ((List.range n).map fun (j : Nat) => cnt ((j : Int) + 1) (x :: r)) = tsum n x + sumL ((List.range n).map fun (j : Nat) => cnt ((j : Int) + 1) r) := by
      intro n
      induction n with
      | zero => rfl
      | succ n ih =>
        have e2 : tsum (n + 1) x = tsum n x + if (n : Int) + 1 ≤ x then 1 else 0 := by
          simp [tsum, List.range_succ, sumL_append, sumL]
        rw [List.range_succ, List.map_append, sumL_append, ih, List.map_append, sumL_append, e2]
        simp [cnt, sumL]; omega
    have hx := h x (by simp)
    rw [e, tsum_eq n x hx.1 hx.2, sumL, ih (fun y hy => h y (by simp [hy]))]
theorem sumL_conj {L : List Int} (h : valid L = true) : sumL (conj L) = sumL L := by
  unfold conj
  refine csum_eq _ _ fun x hx => ?_
  have h1 := valid_nonneg h x hx
  have h2 := head_ge h x hx
  omega
end NP
namespace NP
theorem falls_all {L : List Int} (h : valid L = true) : ∀ i j (hi : i < L.length) (_ : j ≤ i), L[i] ≤ L[j]'(by omega) := by
  have hp := preS_of_valid h
  intro i
  induction i with
  | zero => intro j hi hj; obtain rfl : j = 0 := (by omega); exact Int.le_refl _
  | succ i ih =>
    intro j hi hj
    rcases Nat.lt_or_ge j (i + 1) with h1 | h1
    · have h2 := (hp (i + 1) hi hi).2.2 (by omega)
      simp at h2
      have := ih j (by omega) (by omega)
      omega
    · obtain rfl : j = i + 1 := by omega
      omega
theorem cnt_all {t : Int} {L : List Int} (h : ∀ x ∈ L, t ≤ x) : cnt t L = L.length := by
  induction L with
  | nil => rfl
  | cons x r ih =>
    rw [cnt, ih (fun y hy => h y (by simp [hy])), if_pos (h x (by simp))]
    simp; omega
theorem cnt_ge_iff {L : List Int} (h : valid L = true) {k : Nat} (hk : k < L.length) (t : Int) : ((k : Int) + 1 ≤ cnt t L) ↔ t ≤ L[k] := by
  have hf := falls_all h
  constructor
  · intro h1
    rcases Int.lt_or_le L[k] t with h2 | h2
    · have e : L = L.take k ++ L.drop k := (List.take_append_drop k L).symm
      rw [e, cnt_append] at h1
      have e2 : cnt t (L.drop k) = 0 := cnt_none fun x hx => by
        obtain ⟨i, hi, rfl⟩ := List.getElem_of_mem hx
        simp at hi ⊢
        have := hf (k + i) k (by omega) (by omega)
        omega
      have := (cnt_bd t (L.take k)).2
      simp at this
      omega
    · exact h2
  · intro h1
    have e : L = L.take (k + 1) ++ L.drop (k + 1) := (List.take_append_drop (k + 1) L).symm
    rw [e, cnt_append]
    have e2 : cnt t (L.take (k + 1)) = (L.take (k + 1)).length := cnt_all fun x hx => by
      obtain ⟨i, hi, rfl⟩ := List.getElem_of_mem hx
      simp at hi ⊢
      have := hf k i hk (by omega)
      omega
    have := (cnt_bd t (L.drop (k + 1))).1
    rw [e2]
    simp
    omega
theorem cnt_range (n : Nat) (f : Nat → Int) (t m : Int) (hm : 0 ≤ m) (hf : ∀ j : Nat, j < n → (t ≤ f j ↔ (j : Int) + 1 ≤ m)) : cnt t ((List.range n).map f) = if (n : Int) ≤ m then (n : Int) else m := by
  induction n with
  | zero => simp [cnt]; omega
  | succ n ih =>
    rw [List.range_succ, List.map_append, cnt_append, ih (fun j hj => hf j (by omega))]
    have h1 := hf n (by omega)
    simp only [List.map_cons, List.map_nil, cnt]
    by_cases h2 : (n : Int) + 1 ≤ m
    · rw [if_pos (h1.2 h2)]; (repeat' split) <;> omega
    · rw [if_neg (fun h3 => h2 (h1.1 h3))]; (repeat' split) <;> omega
theorem cnt_one {L : List Int} (h : valid L = true) : cnt 1 L = L.length := cnt_all fun x hx => by
  obtain ⟨k, hk, rfl⟩ := List.getElem_of_mem hx
  exact (preS_of_valid h k hk hk).1
theorem headD_get (M : List Int) (h : 0 < M.length) : M.headD 0 = M[0] := by cases M <;> simp at h ⊢
theorem head_conj {L : List Int} (h : valid L = true) : ((conj L).headD 0).toNat = L.length := by
  cases L with
  | nil => rfl
  | cons x r =>
    have hp := preS_of_valid h 0 (by simp) (by simp)
    simp at hp
    have h1 : 0 < (conj (x :: r)).length := by rw [conj_len]; simp; omega
    rw [headD_get _ h1, conj_get]
    simp only [Int.ofNat_zero, Int.zero_add]
    have := cnt_one h
    simp at this ⊢
    rw [this]
    omega
theorem conj_conj {L : List Int} (h : valid L = true) : conj (conj L) = L := by
  apply List.ext_getElem
  · rw [conj_len, head_conj h]
  · intro k h1 h2
    rw [conj_get]
    have hb := preS_of_valid h k h2 h2
    have hh := head_ge h L[k] (List.getElem_mem h2)
    have hd := headD_bd h
    have e : cnt ((k : Int) + 1) (conj L) = if (((L.headD 0).toNat : Nat) : Int) ≤ L[k] then (((L.headD 0).toNat : Nat) : Int) else L[k] :=
      cnt_range _ _ _ _ (by omega) fun j hj => cnt_ge_iff h h2 ((j : Int) + 1)
    rw [e]
    split <;> omega
theorem conj_nil_iff {L : List Int} (h : valid L = true) : (conj L).length = 0 ↔ L.length = 0 := by
  rw [conj_len]
  cases L with
  | nil => simp
  | cons x r =>
    have hp := preS_of_valid h 0 (by simp) (by simp)
    simp at hp ⊢
    omega
end NP
namespace NP
theorem ffrom_spec (p : Nat → Bool) : ∀ (f k : Nat), k ≤ ffrom p f k ∧ ffrom p f k ≤ k + f ∧ (∀ j, k ≤ j → j < ffrom p f k → p j = true) ∧ (ffrom p f k = k + f ∨ p (ffrom p f k) = false) := by
  intro f
  induction f with
  | zero => intro k; simp only [ffrom]; exact ⟨Nat.le_refl _, Nat.le_refl _, fun j h1 h2 => by omega, .inl rfl⟩
  | succ f ih =>
    intro k
    simp only [ffrom]
    cases hp : p k with
    | true =>
      rw [if_pos rfl]
      have h := ih (k + 1)
      refine ⟨by omega, by omega, fun j h1 h2 => ?_, h.2.2.2.imp (by omega) id⟩
      rcases Nat.lt_or_ge k j with h3 | h3
      · exact h.2.2.1 j (by omega) h2
      · obtain rfl : j = k := by omega
        exact hp
    | false => rw [if_neg (by simp)]; exact ⟨Nat.le_refl _, by omega, fun j h1 h2 => by omega, .inr hp⟩
theorem ff_spec (p : Nat → Bool) (n : Nat) : ff p n ≤ n ∧ (∀ j, j < ff p n → p j = true) ∧ (ff p n = n ∨ p (ff p n) = false) := by
  have h := ffrom_spec p n 0
  exact ⟨by have := h.2.1; unfold ff; omega, fun j hj => h.2.2.1 j (Nat.zero_le _) hj, by have := h.2.2.2; unfold ff; rw [Nat.zero_add] at this; exact this⟩
def durS (L : List Int) : Nat := ff (fun (k : Nat) => decide ((k : Int) < L.getD k 0)) L.length
theorem durS_spec (L : List Int) : durS L ≤ L.length ∧ (∀ j : Nat, j < durS L → (j : Int) < L.getD j 0) ∧ ¬ ((durS L : Nat) : Int) < L.getD (durS L) 0 := by
  have h := ff_spec (fun (k : Nat) => decide ((k : Int) < L.getD k 0)) L.length
  refine ⟨h.1, fun j hj => by simpa using h.2.1 j hj, ?_⟩
  rcases h.2.2 with h1 | h1
  · unfold durS
    rw [h1, List.getD_eq_getElem?_getD, List.getElem?_eq_none (Nat.le_refl _)]
    simp
  · unfold durS
    exact of_decide_eq_false h1
theorem durS_unique {L : List Int} {d : Nat} (h1 : ∀ j : Nat, j < d → (j : Int) < L.getD j 0) (h2 : ¬ (d : Int) < L.getD d 0) : durS L = d := by
  have h := durS_spec L
  rcases Nat.lt_trichotomy (durS L) d with h3 | h3 | h3
  · exact absurd (h1 _ h3) h.2.2
  · exact h3
  · exact absurd (h.2.1 _ h3) h2
theorem getD_lt {L : List Int} {j : Nat} (h : j < L.length) : L.getD j 0 = L[j] := by rw [List.getD_eq_getElem?_getD, List.getElem?_eq_getElem h]; rfl
theorem getD_ge {L : List Int} {j : Nat} (h : L.length ≤ j) : L.getD j 0 = 0 := by rw [List.getD_eq_getElem?_getD, List.getElem?_eq_none h]; rfl
theorem conj_diag {L : List Int} (h : valid L = true) (j : Nat) : ((j : Int) < (conj L).getD j 0) ↔ (j : Int) < L.getD j 0 := by
  have hd := headD_bd h
  by_cases h1 : j < (conj L).length
  · rw [getD_lt h1, conj_get]
    by_cases h2 : j < L.length
    · rw [getD_lt h2]
      have := cnt_ge_iff h h2 ((j : Int) + 1)
      omega
    · rw [getD_ge (by omega)]
      have := (cnt_bd ((j : Int) + 1) L).2
      omega
  · rw [getD_ge (L := conj L) (by omega)]
    rw [conj_len] at h1
    by_cases h2 : j < L.length
    · rw [getD_lt h2]
      have := head_ge h L[j] (List.getElem_mem h2)
      omega
    · rw [getD_ge (by omega)]
theorem durS_conj {L : List Int} (h : valid L = true) : durS (conj L) = durS L := by
  have hs := durS_spec L
  exact durS_unique (fun j hj => (conj_diag h j).2 (hs.2.1 j hj)) (fun h1 => hs.2.2 ((conj_diag h _).1 h1))
theorem sum_ge (c : Int) (L : List Int) (h : ∀ x ∈ L, c ≤ x) : c * L.length ≤ sumL L := by
  induction L with
  | nil => simp [sumL]
  | cons x r ih =>
    have h1 := ih (fun y hy => h y (by simp [hy]))
    have h2 := h x (by simp)
    simp only [sumL, List.length_cons]
    have e : c * ((r.length + 1 : Nat) : Int) = c * (r.length : Int) + c := by rw [Int.natCast_add]; simp [Int.mul_add]
    omega
theorem durS_sq {L : List Int} (h : valid L = true) : ((durS L : Nat) : Int) * ((durS L : Nat) : Int) ≤ sumL L := by
  have hs := durS_spec L
  have hf := falls_all h
  have h1 := sum_ge ((durS L : Nat) : Int) (L.take (durS L)) fun x hx => by
    obtain ⟨i, hi, rfl⟩ := List.getElem_of_mem hx
    simp at hi ⊢
    have h2 := hs.2.1 (durS L - 1) (by omega)
    rw [getD_lt (by omega)] at h2
    have := hf (durS L - 1) i (by omega) (by omega)
    omega
  have h2 := sum_ge 0 (L.drop (durS L)) fun x hx => valid_nonneg h x (List.mem_of_mem_drop hx)
  have e : sumL L = sumL (L.take (durS L)) + sumL (L.drop (durS L)) := by rw [← sumL_append, List.take_append_drop]
  rw [List.length_take_of_le hs.1] at h1
  omega
theorem durS_pos {L : List Int} (h : valid L = true) : 0 < durS L ↔ 0 < L.length := by
  have hs := durS_spec L
  constructor
  · intro h1; omega
  · intro h1
    rcases Nat.eq_zero_or_pos (durS L) with h2 | h2
    · have h3 := hs.2.2
      rw [h2, getD_lt h1] at h3
      have := preS_of_valid h 0 h1 h1
      omega
    · exact h2
end NP
end Go.Proofs.YtmlomapifldlpaaDoor
