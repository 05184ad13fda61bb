/-
  Plain mathematics of parts: valid lists, their enumeration, prefixes. No Go text. Words for memory: what is readable (Rd), what is the call's own (Own), append onto it. Arrays in blocks: a block known whole (Blk), a whole array stored and loaded, an element by a variable index. Walks: the reader that draws the arguments of a law: newReader, pick, one. Walks: sum, validParts, ValidParts, SumOf of the model. Walks: the laws' own helpers on lists of numbers: copied (toIntS), compared (eqIntS, equalInts), marked, held.
-/
import Derived.KernelRfl
import Derived.WalkKit
import Derived.WalkSmall
import Derived.Handy
import Derived.Laws.CopyOwn
import Derived.Maps.AppendAt
import Derived.Deep.Draws
import Derived.Laws.Rows
import Derived.Test.YtmlomapifldlpaaDoorProg
import Derived.Deep.QuietTactic
import Derived.BigQuiet
import Derived.Lib.Hide
import Derived.IntWalk
import Derived.Deep.RegionLaw
import Derived.Deep.DrawnRows
namespace Go.Proofs.YtmlomapifldlpaaDoor
namespace NP
/-- parts below most with at most left together -/
def vb : Int → Int → List Int → Bool
  | _, _, [] => true
  | m, l, x :: r => decide (1 ≤ x) && decide (x ≤ l) && decide (x ≤ m) && vb x (l - x) r
def valid (L : List Int) : Bool := vb 16 16 L

/-- all parts: greatest at most m, together at most l; f: fuel -/
def enum : Nat → Nat → Nat → List (List Nat)
  | 0, _, _ => [[]]
  | f + 1, m, l => [] :: ((List.range (min m l)).flatMap fun k => (enum f (k + 1) (l - (k + 1))).map ((k + 1) :: ·))

theorem mem_enum : ∀ (f : Nat) (m l : Nat) (L : List Int), l ≤ f → vb m l L = true → ∃ N ∈ enum f m l, L = N.map Int.ofNat := by
  intro f
  induction f with
  | zero =>
    intro m l L hl h
    cases L with
    | nil => exact ⟨[], by simp [enum], rfl⟩
    | cons x r => simp [vb] at h; omega
  | succ f ih =>
    intro m l L hl h
    cases L with
    | nil => exact ⟨[], by simp [enum], rfl⟩
    | cons x r =>
      simp only [vb, Bool.and_eq_true, decide_eq_true_eq] at h
      obtain ⟨⟨⟨h1, h2⟩, h3⟩, h4⟩ := h
      obtain ⟨n, rfl⟩ := Int.eq_ofNat_of_zero_le (show 0 ≤ x by omega)
      have e : ((l : Int) - (n : Int)) = ((l - n : Nat) : Int) := by omega
      rw [e] at h4
      obtain ⟨N, hN, hr⟩ := ih n (l - n) r (by omega) h4
      refine ⟨n :: N, ?_, by simp [hr]⟩
      simp only [enum, List.mem_cons, List.mem_flatMap, List.mem_range, List.mem_map]
      right
      refine ⟨n - 1, by omega, N, ?_, ?_⟩
      · rw [show n - 1 + 1 = n by omega]; exact hN
      · rw [show n - 1 + 1 = n by omega]

def all16 : List (List Nat) := enum 16 16 16
theorem mem_all16 {L : List Int} (h : valid L = true) : ∃ N ∈ all16, L = N.map Int.ofNat := mem_enum 16 16 16 L (by omega) h

/-- what is true of each of the 915 -/
theorem of_all {p : List Nat → Bool} (hp : all16.all p = true) {L : List Int} (h : valid L = true) : ∃ N, p N = true ∧ L = N.map Int.ofNat := by
  obtain ⟨N, hN, e⟩ := mem_all16 h
  exact ⟨N, List.all_eq_true.1 hp N hN, e⟩
end NP
namespace NP
def sumL : List Int → Int | [] => 0 | x :: r => x + sumL r
theorem sumL_append (a b : List Int) : sumL (a ++ b) = sumL a + sumL b := by
  induction a with
  | nil => simp [sumL]
  | cons x r ih => simp [sumL, ih]; omega
theorem sumL_take_succ (L : List Int) (k : Nat) (h : k < L.length) : sumL (L.take (k + 1)) = sumL (L.take k) + L[k] := by
  rw [List.take_succ_eq_append_getElem h, sumL_append]; simp [sumL]
def lastOr (m : Int) (L : List Int) : Int := L.getLastD m
theorem vb_append (m l : Int) (a b : List Int) : vb m l (a ++ b) = (vb m l a && vb (a.getLastD m) (l - sumL a) b) := by
  induction a generalizing m l with
  | nil => simp [vb, sumL]
  | cons x r ih =>
    simp only [List.cons_append, vb, ih, sumL]
    have e : (x :: r).getLastD m = r.getLastD x := by cases r <;> simp [List.getLastD]
    rw [e, show l - x - sumL r = l - (x + sumL r) by omega]
    simp [Bool.and_assoc]
theorem vb_nonneg {m l : Int} {a : List Int} (hl : 0 ≤ l) (h : vb m l a = true) : 0 ≤ sumL a ∧ sumL a ≤ l ∧ (a.length : Int) ≤ sumL a := by
  induction a generalizing m l with
  | nil => simp [sumL]; omega
  | cons x r ih =>
    simp only [vb, Bool.and_eq_true, decide_eq_true_eq] at h
    have := ih (by omega) h.2
    simp only [sumL, List.length_cons]
    omega
theorem valid_bd {L : List Int} (h : valid L = true) : 0 ≤ sumL L ∧ sumL L ≤ 16 ∧ (L.length : Int) ≤ sumL L ∧ L.length ≤ 16 := by
  have := vb_nonneg (by omega) h
  omega
theorem valid_take {L : List Int} (h : valid L = true) (k : Nat) : valid (L.take k) = true := by
  have e := List.take_append_drop k L
  unfold valid at *
  rw [← e, vb_append] at h
  simp at h
  exact h.1
theorem valid_of_take {L : List Int} {k : Nat} (h : valid (L.take k) = false) : valid L = false := by
  cases hv : valid L with
  | false => rfl
  | true => rw [valid_take hv k] at h; cases h
/-- a step of the prefix -/
theorem valid_step {L : List Int} {k : Nat} (hk : k < L.length) (h : valid (L.take k) = true) :
    valid (L.take (k + 1)) = (decide (1 ≤ L[k]) && decide (L[k] ≤ 16 - sumL (L.take k)) && decide (L[k] ≤ (L.take k).getLastD 16)) := by
  rw [List.take_succ_eq_append_getElem hk]
  unfold valid at *
  rw [vb_append, h]
  simp [vb]
theorem last_take {L : List Int} {k : Nat} (hk : k < L.length) : (L.take (k + 1)).getLastD 16 = L[k] := by
  rw [List.take_succ_eq_append_getElem hk, List.getLastD_eq_getLast?, List.getLast?_append]; simp
theorem vb_iff (m l : Int) (L : List Int) : vb m l L = true ↔ (∀ k (h : k < L.length), 1 ≤ L[k] ∧ L[k] ≤ m ∧ (∀ h' : k + 1 < L.length, L[k+1] ≤ L[k])) ∧ (0 < L.length → sumL L ≤ l) := by
  induction L generalizing m l with
  | nil => simp [vb]
  | cons x r ih =>
    simp only [vb, Bool.and_eq_true, decide_eq_true_eq, ih, List.length_cons, sumL]
    constructor
    · rintro ⟨⟨⟨h1, h2⟩, h3⟩, h4, h5⟩
      refine ⟨fun k hk => ?_, fun _ => ?_⟩
      · match k, hk with
        | 0, hk => exact ⟨h1, h3, fun h' => (h4 0 (by omega)).2.1⟩
        | k + 1, hk =>
          have := h4 k (by omega)
          have hx : r[k] ≤ x := by
            clear h5
            exact this.2.1
          exact ⟨this.1, by simp; omega, fun h' => this.2.2 (by omega)⟩
      · rcases Nat.eq_zero_or_pos r.length with h0 | h0
        · have : r = [] := List.eq_nil_of_length_eq_zero h0
          subst this; simp [sumL]; omega
        · have := h5 h0; omega
    · rintro ⟨h4, h5⟩
      have h0 := h4 0 (by omega)
      simp at h0
      have hs : ∀ (r : List Int) (x : Int), (∀ k (h : k < (x :: r).length), 1 ≤ (x :: r)[k]) → 0 ≤ sumL r := by
        intro r
        induction r with
        | nil => intro x _; simp [sumL]
        | cons y s ih => 
          intro x h
          have h1 := h 1 (by simp)
          have := ih y (fun k hk => h (k + 1) (by simpa using hk))
          simp [sumL] at *; omega
      have hr := hs r x (fun k hk => (h4 k (by simpa using hk)).1)
      have h6 := h5 (by omega)
      refine ⟨⟨⟨h0.1, by omega⟩, by omega⟩, fun k hk => ?_, fun _ => by omega⟩
      have h7 := h4 (k + 1) (by omega)
      have mono : ∀ k (hk : k < (x :: r).length), (x :: r)[k] ≤ x := by
        intro k
        induction k with
        | zero => intro _; simp
        | succ k ihk =>
          intro hk
          have := (h4 k (by simp at hk ⊢; omega)).2.2 (by simpa using hk)
          have := ihk (by omega)
          omega
      exact ⟨h7.1, mono (k + 1) (by simpa using hk), fun h' => h7.2.2 (by omega)⟩
end NP
namespace NP
/-- the spec's own prefix condition -/
def preS (L : List Int) (k : Nat) : Prop := ∀ j (h : j < L.length), j < k → 1 ≤ L[j] ∧ L[j] ≤ 16 ∧ (0 < j → L[j] ≤ L[j - 1]'(by omega))
theorem valid_of_preS {L : List Int} (h : preS L L.length) (hs : sumL L ≤ 16) : valid L = true := by
  unfold valid
  rw [vb_iff]
  refine ⟨fun k hk => ?_, fun _ => hs⟩
  have h1 := h k hk hk
  refine ⟨h1.1, h1.2.1, fun h' => ?_⟩
  have h2 := (h (k + 1) h' h').2.2 (by omega)
  simpa using h2
theorem preS_of_valid {L : List Int} (h : valid L = true) : preS L L.length := by
  unfold valid at h
  rw [vb_iff] at h
  intro j hj _
  have h1 := h.1 j hj
  refine ⟨h1.1, h1.2.1, fun h0 => ?_⟩
  have h2 := (h.1 (j - 1) (by omega)).2.2 (by omega)
  have e : j - 1 + 1 = j := by omega
  simp only [e] at h2
  exact h2
theorem preS_succ {L : List Int} {k : Nat} (hk : k < L.length) (h : preS L k) (h1 : 1 ≤ L[k]) (h2 : L[k] ≤ 16) (h3 : 0 < k → L[k] ≤ L[k - 1]'(by omega)) : preS L (k + 1) := by
  intro j hj hjk
  rcases Nat.lt_or_ge j k with hlt | hge
  · exact h j hj hlt
  · obtain rfl : j = k := by omega
    exact ⟨h1, h2, h3⟩
theorem not_valid_at {L : List Int} {k : Nat} (hk : k < L.length) (h : ¬ (1 ≤ L[k] ∧ L[k] ≤ 16 ∧ (0 < k → L[k] ≤ L[k - 1]'(by omega)))) : valid L = false := by
  cases hv : valid L with
  | false => rfl
  | true => exact absurd (preS_of_valid hv k hk hk) h
theorem preS_sum {L : List Int} (h : preS L L.length) : ∀ k, k ≤ L.length → (k : Int) ≤ sumL (L.take k) ∧ sumL (L.take k) ≤ 16 * k := by
  intro k
  induction k with
  | zero => intro _; simp [sumL]
  | succ k ih =>
    intro hk
    have := ih (by omega)
    have h1 := h k (by omega) (by omega)
    rw [sumL_take_succ L k (by omega)]
    omega
end NP
namespace NP
theorem last_take' {L : List Int} {k : Nat} (hk : k < L.length) (h0 : 0 < k) : (L.take k).getLastD 16 = L[k - 1]'(by omega) := by
  have := last_take (L := L) (k := k - 1) (by omega)
  rw [show k - 1 + 1 = k by omega] at this
  exact this
theorem valid_next {L : List Int} {k : Nat} (hk : k < L.length) (h : valid (L.take k) = true) (h1 : 1 ≤ L[k]) (h2 : L[k] ≤ 16 - sumL (L.take k)) (h3 : 0 < k → L[k] ≤ L[k - 1]'(by omega)) : valid (L.take (k + 1)) = true := by
  rw [valid_step hk h]
  have hb := valid_bd h
  rcases Nat.eq_zero_or_pos k with h0 | h0
  · subst h0
    simp at h2 ⊢
    simp [sumL] at h2 ⊢
    omega
  · rw [last_take' hk h0]
    have := h3 h0
    simp; omega
theorem valid_stop {L : List Int} {k : Nat} (hk : k < L.length) (h : valid (L.take k) = true) (hn : ¬ (1 ≤ L[k] ∧ L[k] ≤ 16 - sumL (L.take k) ∧ (0 < k → L[k] ≤ L[k - 1]'(by omega)))) : valid L = false := by
  cases hv : valid L with
  | false => rfl
  | true =>
    have h1 := valid_take hv (k + 1)
    rw [valid_step hk h] at h1
    simp at h1
    exact absurd ⟨h1.1.1, h1.1.2, fun h0 => by rw [← last_take' hk h0]; simpa using h1.2⟩ hn
end NP
namespace NP
/-- the parts and 0 behind them -/
def pad (L : List Int) : List Int := L ++ List.replicate (16 - L.length) 0
theorem pad_len {L : List Int} (h : L.length ≤ 16) : (pad L).length = 16 := by simp [pad]; omega
theorem pad_set {L : List Int} {k : Nat} (hk : k < L.length) (h : k < 16) : (pad (L.take k)).set k L[k] = pad (L.take (k + 1)) := by
  unfold pad
  have e1 : (L.take k).length = k := by simp; omega
  have e2 : (L.take (k + 1)).length = k + 1 := by simp; omega
  rw [e1, e2, show 16 - k = (16 - (k + 1)) + 1 by omega, List.replicate_succ, List.set_append_right _ _ (by omega), e1, Nat.sub_self, List.set_cons_zero, List.take_succ_eq_append_getElem hk, List.append_assoc]
  simp
/-- the array that diagramOf returns -/
def dg (L : List Int) : List Int := if valid L then pad L else List.replicate 16 0
theorem dg_yes {L : List Int} (h : valid L = true) : dg L = pad L := by simp [dg, h]
theorem dg_no {L : List Int} (h : valid L = false) : dg L = List.replicate 16 0 := by simp [dg, h]

/-- how far a test holds from k on, f places at most -/
def ffrom (p : Nat → Bool) : Nat → Nat → Nat
  | 0, k => k
  | f + 1, k => if p k then ffrom p f (k + 1) else k
def ff (p : Nat → Bool) (n : Nat) : Nat := ffrom p n 0
theorem ffrom_eq (p : Nat → Bool) : ∀ (f k0 k : Nat), (∀ j, k0 ≤ j → j < k → p j = true) → k0 ≤ k → k ≤ k0 + f → (k = k0 + f ∨ p k = false) → ffrom p f k0 = k := by
  intro f
  induction f with
  | zero => intro k0 k _ h1 h2 _; simp only [ffrom]; omega
  | succ f ih =>
    intro k0 k h h1 h2 h3
    simp only [ffrom]
    by_cases hk : k = k0
    · subst hk
      rcases h3 with h3 | h3
      · omega
      · simp [h3]
    · rw [if_pos (h k0 (Nat.le_refl _) (by omega))]
      exact ih (k0 + 1) k (fun j hj hjk => h j (by omega) hjk) (by omega) (by omega) (h3.imp (by omega) id)
theorem ff_eq {p : Nat → Bool} {n k : Nat} (h : ∀ j, j < k → p j = true) (h2 : k ≤ n) (h3 : k = n ∨ p k = false) : ff p n = k :=
  ffrom_eq p n 0 k (fun j _ hj => h j hj) (Nat.zero_le _) (by omega) (by simpa using h3)

theorem pad_get {L : List Int} {k : Nat} (h : L.length ≤ 16) (hk : k < L.length) : (pad L)[k]'(by rw [pad_len h]; omega) = L[k] := by simp [pad, List.getElem_append_left hk]
theorem pad_get0 {L : List Int} {k : Nat} (h : L.length ≤ 16) (hk : L.length ≤ k) (h16 : k < 16) : (pad L)[k]'(by rw [pad_len h]; omega) = 0 := by simp [pad, List.getElem_append_right hk]
theorem pad_take {L : List Int} : (pad L).take L.length = L := by simp [pad]

/-- how many are at least k -/
def cnt (k : Int) : List Int → Int
  | [] => 0
  | x :: r => (if k ≤ x then 1 else 0) + cnt k r
theorem cnt_append (k : Int) (a b : List Int) : cnt k (a ++ b) = cnt k a + cnt k b := by
  induction a with
  | nil => simp [cnt]
  | cons x r ih => simp [cnt, ih]; omega
theorem cnt_take_succ (k : Int) (L : List Int) (i : Nat) (h : i < L.length) : cnt k (L.take (i + 1)) = cnt k (L.take i) + (if k ≤ L[i] then 1 else 0) := by
  rw [List.take_succ_eq_append_getElem h, cnt_append]; simp [cnt]
theorem cnt_bd (k : Int) (L : List Int) : 0 ≤ cnt k L ∧ cnt k L ≤ L.length := by
  induction L with
  | nil => simp [cnt]
  | cons x r ih => simp only [cnt, List.length_cons]; split <;> omega
theorem cnt_anti {k l : Int} (h : k ≤ l) (L : List Int) : cnt l L ≤ cnt k L := by
  induction L with
  | nil => simp [cnt]
  | cons x r ih => simp only [cnt]; (repeat' split) <;> omega
theorem cnt_zero {k : Int} (hk : 1 ≤ k) (n : Nat) : cnt k (List.replicate n 0) = 0 := by
  induction n with
  | zero => rfl
  | succ n ih => rw [List.replicate_succ, cnt, ih]; split <;> omega
theorem cnt_pad {k : Int} (hk : 1 ≤ k) (L : List Int) : cnt k (pad L) = cnt k L := by unfold pad; rw [cnt_append, cnt_zero hk]; omega
theorem cnt_none {k : Int} {L : List Int} (h : ∀ x ∈ L, x < k) : cnt k L = 0 := by
  induction L with
  | nil => rfl
  | cons x r ih =>
    rw [cnt, ih (fun y hy => h y (by simp [hy]))]
    have := h x (by simp)
    split <;> omega
def conj (L : List Int) : List Int := (List.range (L.headD 0).toNat).map fun (j : Nat) => cnt ((j : Int) + 1) L
theorem conj_len (L : List Int) : (conj L).length = (L.headD 0).toNat := by simp [conj]
theorem conj_get (L : List Int) (k : Nat) (h : k < (conj L).length) : (conj L)[k] = cnt ((k : Int) + 1) L := by simp [conj]
theorem head_ge {L : List Int} (h : valid L = true) : ∀ x ∈ L, x ≤ L.headD 0 := by
  have hp := preS_of_valid h
  have key : ∀ k (hk : k < L.length), L[k] ≤ L.headD 0 := by
    intro k
    induction k with
    | zero => intro hk; cases L <;> simp at hk ⊢
    | succ k ih =>
      intro hk
      have h1 := (hp (k + 1) hk hk).2.2 (by omega)
      have h2 := ih (by omega)
      simp at h1
      omega
  intro x hx
  obtain ⟨k, hk, rfl⟩ := List.getElem_of_mem hx
  exact key k hk
theorem headD_bd {L : List Int} (h : valid L = true) : 0 ≤ L.headD 0 ∧ L.headD 0 ≤ 16 := by
  have hp := preS_of_valid h
  cases L with
  | nil => simp
  | cons x r => have := hp 0 (by simp) (by simp); simp at this ⊢; omega
def tsum (n : Nat) (x : Int) : Int := sumL ((List.range n).map fun (j : Nat) => if (j : Int) + 1 ≤ x then 1 else 0)
theorem tsum_le (n : Nat) (x : Int) (hx : 0 ≤ x) : tsum n x ≤ x ∧ tsum n x ≤ n := by
  induction n with
  | zero => simp [tsum, sumL]; exact hx
  | succ n ih =>
    have e : tsum (n + 1) x = tsum n x + if (n : Int) + 1 ≤ x then 1 else 0 := by
      simp [tsum, List.range_succ, sumL_append, sumL]
    rw [e]
    split <;> omega
theorem csum_le (n : Nat) (L : List Int) (h : ∀ x ∈ L, 0 ≤ x) : sumL ((List.range n).map fun (j : Nat) => cnt ((j : Int) + 1) L) ≤ sumL L := by
  induction L with
  | nil =>
    have : ∀ n : Nat, sumL ((List.range n).map fun (j : Nat) => cnt ((j : Int) + 1) []) = 0 := by
      intro n
      induction n with
      | zero => rfl
      | succ n ih => rw [List.range_succ, List.map_append, sumL_append, ih]; simp [cnt, sumL]
    rw [this]; simp [sumL]
  | cons x r ih =>
    have e : ∀ n : Nat, sumL ((List.range n).map fun (j : Nat) => cnt ((j : Int) + 1) (x :: r)) = tsum n x + sumL ((List.range n).map fun (j : Nat) => cnt ((j : Int) + 1) r) := by
      intro n
      induction n with
      | zero => rfl
      | succ n ih => 
        have e2 : tsum (n + 1) x = tsum n x + if (n : Int) + 1 ≤ x then 1 else 0 := by
          simp [tsum, List.range_succ, sumL_append, sumL]
        rw [List.range_succ, List.map_append, sumL_append, ih, List.map_append, sumL_append, e2]
        simp [cnt, sumL]; omega
    rw [e, sumL]
    have h1 := (tsum_le n x (h x (by simp))).1
    have h2 := ih (fun y hy => h y (by simp [hy]))
    omega
theorem valid_nonneg {L : List Int} (h : valid L = true) : ∀ x ∈ L, 0 ≤ x := by
  intro x hx
  obtain ⟨k, hk, rfl⟩ := List.getElem_of_mem hx
  have := preS_of_valid h k hk hk
  omega
theorem valid_conj {L : List Int} (h : valid L = true) : valid (conj L) = true := by
  have hb := valid_bd h
  have hc : ∀ k : Nat, cnt k L ≤ 16 := fun k => by have := (cnt_bd k L).2; omega
  unfold valid
  rw [vb_iff]
  refine ⟨fun k hk => ?_, fun _ => ?_⟩
  · rw [conj_get]
    rw [conj_len] at hk
    refine ⟨?_, by have := (cnt_bd ((k : Int) + 1) L).2; omega, fun h' => ?_⟩
    · cases L with
      | nil => simp at hk
      | cons x r =>
        simp at hk
        have := (cnt_bd ((k : Int) + 1) r).1
        rw [cnt, if_pos (by omega)]
        omega
    · rw [conj_get]
      exact cnt_anti (by omega) L
  · have := csum_le (L.headD 0).toNat L (valid_nonneg h)
    unfold conj
    omega
theorem conj_pad {L : List Int} (h : valid L = true) : ((List.range 16).map fun (j : Nat) => cnt ((j : Int) + 1) (pad L)) = pad (conj L) := by
  have hb := headD_bd h
  have hlen : (conj L).length ≤ 16 := by rw [conj_len]; omega
  apply List.ext_getElem
  · rw [pad_len hlen]; simp
  · intro k h1 h2
    simp at h1
    rw [List.getElem_map, List.getElem_range, cnt_pad (by omega)]
    by_cases hk : k < (conj L).length
    · rw [pad_get hlen hk, conj_get]
    · rw [pad_get0 hlen (by omega) h1]
      rw [conj_len] at hk
      exact cnt_none fun x hx => by have := head_ge h x hx; omega
end NP
namespace NP
theorem tsum_eq (n : Nat) (x : Int) (hx : 0 ≤ x) (hn : x ≤ n) : tsum n x = x := by
  have key : ∀ k : Nat, tsum k x = if (k : Int) ≤ x then (k : Int) else x := by
    intro k
    induction k with
    | zero => simp [tsum, sumL]; omega
    | succ k ih =>
      have e : tsum (k + 1) x = tsum k x + if (k : Int) + 1 ≤ x then 1 else 0 := by
        simp [tsum, List.range_succ, sumL_append, sumL]
      rw [e, ih]
      (repeat' split) <;> omega
  rw [key]
  split <;> omega
theorem csum_eq (n : Nat) (L : List Int) (h : ∀ x ∈ L, 0 ≤ x ∧ x ≤ n) : sumL ((List.range n).map fun (j : Nat) => cnt ((j : Int) + 1) L) = sumL L := by
  induction L with
  | nil =>
    have : ∀ n : Nat, sumL ((List.range n).map fun (j : Nat) => cnt ((j : Int) + 1) []) = 0 := by
      intro n
      induction n with
      | zero => rfl
      | succ n ih => rw [List.range_succ, List.map_append, sumL_append, ih]; simp [cnt, sumL]
    rw [this]; simp [sumL]
  | cons x r ih =>
    have e : ∀ n : Nat, sumL ((List.range n).map fun (j : Nat) => cnt ((j : Int) + 1) (x :: r)) = tsum n x + sumL ((List.range n).map fun (j : Nat) => cnt ((j : Int) + 1) r) := by
      intro n
      induction n with
      | zero => rfl
      | succ n ih =>
        have e2 : tsum (n + 1) x = tsum n x + if (n : Int) + 1 ≤ x then 1 else 0 := by
          simp [tsum, List.range_succ, sumL_append, sumL]
        rw [List.range_succ, List.map_append, sumL_append, ih, List.map_append, sumL_append, e2]
        simp [cnt, sumL]; omega
    have hx := h x (by simp)
    rw [e, tsum_eq n x hx.1 hx.2, sumL, ih (fun y hy => h y (by simp [hy]))]
theorem sumL_conj {L : List Int} (h : valid L = true) : sumL (conj L) = sumL L := by
  unfold conj
  refine csum_eq _ _ fun x hx => ?_
  have h1 := valid_nonneg h x hx
  have h2 := head_ge h x hx
  omega
end NP
namespace NP
theorem falls_all {L : List Int} (h : valid L = true) : ∀ i j (hi : i < L.length) (_ : j ≤ i), L[i] ≤ L[j]'(by omega) := by
  have hp := preS_of_valid h
  intro i
  induction i with
  | zero => intro j hi hj; obtain rfl : j = 0 := (by omega); exact Int.le_refl _
  | succ i ih =>
    intro j hi hj
    rcases Nat.lt_or_ge j (i + 1) with h1 | h1
    · have h2 := (hp (i + 1) hi hi).2.2 (by omega)
      simp at h2
      have := ih j (by omega) (by omega)
      omega
    · obtain rfl : j = i + 1 := by omega
      omega
theorem cnt_all {t : Int} {L : List Int} (h : ∀ x ∈ L, t ≤ x) : cnt t L = L.length := by
  induction L with
  | nil => rfl
  | cons x r ih =>
    rw [cnt, ih (fun y hy => h y (by simp [hy])), if_pos (h x (by simp))]
    simp; omega
theorem cnt_ge_iff {L : List Int} (h : valid L = true) {k : Nat} (hk : k < L.length) (t : Int) : ((k : Int) + 1 ≤ cnt t L) ↔ t ≤ L[k] := by
  have hf := falls_all h
  constructor
  · intro h1
    rcases Int.lt_or_le L[k] t with h2 | h2
    · have e : L = L.take k ++ L.drop k := (List.take_append_drop k L).symm
      rw [e, cnt_append] at h1
      have e2 : cnt t (L.drop k) = 0 := cnt_none fun x hx => by
        obtain ⟨i, hi, rfl⟩ := List.getElem_of_mem hx
        simp at hi ⊢
        have := hf (k + i) k (by omega) (by omega)
        omega
      have := (cnt_bd t (L.take k)).2
      simp at this
      omega
    · exact h2
  · intro h1
    have e : L = L.take (k + 1) ++ L.drop (k + 1) := (List.take_append_drop (k + 1) L).symm
    rw [e, cnt_append]
    have e2 : cnt t (L.take (k + 1)) = (L.take (k + 1)).length := cnt_all fun x hx => by
      obtain ⟨i, hi, rfl⟩ := List.getElem_of_mem hx
      simp at hi ⊢
      have := hf k i hk (by omega)
      omega
    have := (cnt_bd t (L.drop (k + 1))).1
    rw [e2]
    simp
    omega
theorem cnt_range (n : Nat) (f : Nat → Int) (t m : Int) (hm : 0 ≤ m) (hf : ∀ j : Nat, j < n → (t ≤ f j ↔ (j : Int) + 1 ≤ m)) : cnt t ((List.range n).map f) = if (n : Int) ≤ m then (n : Int) else m := by
  induction n with
  | zero => simp [cnt]; omega
  | succ n ih =>
    rw [List.range_succ, List.map_append, cnt_append, ih (fun j hj => hf j (by omega))]
    have h1 := hf n (by omega)
    simp only [List.map_cons, List.map_nil, cnt]
    by_cases h2 : (n : Int) + 1 ≤ m
    · rw [if_pos (h1.2 h2)]; (repeat' split) <;> omega
    · rw [if_neg (fun h3 => h2 (h1.1 h3))]; (repeat' split) <;> omega
theorem cnt_one {L : List Int} (h : valid L = true) : cnt 1 L = L.length := cnt_all fun x hx => by
  obtain ⟨k, hk, rfl⟩ := List.getElem_of_mem hx
  exact (preS_of_valid h k hk hk).1
theorem headD_get (M : List Int) (h : 0 < M.length) : M.headD 0 = M[0] := by cases M <;> simp at h ⊢
theorem head_conj {L : List Int} (h : valid L = true) : ((conj L).headD 0).toNat = L.length := by
  cases L with
  | nil => rfl
  | cons x r =>
    have hp := preS_of_valid h 0 (by simp) (by simp)
    simp at hp
    have h1 : 0 < (conj (x :: r)).length := by rw [conj_len]; simp; omega
    rw [headD_get _ h1, conj_get]
    simp only [Int.ofNat_zero, Int.zero_add]
    have := cnt_one h
    simp at this ⊢
    rw [this]
    omega
theorem conj_conj {L : List Int} (h : valid L = true) : conj (conj L) = L := by
  apply List.ext_getElem
  · rw [conj_len, head_conj h]
  · intro k h1 h2
    rw [conj_get]
    have hb := preS_of_valid h k h2 h2
    have hh := head_ge h L[k] (List.getElem_mem h2)
    have hd := headD_bd h
    have e : cnt ((k : Int) + 1) (conj L) = if (((L.headD 0).toNat : Nat) : Int) ≤ L[k] then (((L.headD 0).toNat : Nat) : Int) else L[k] :=
      cnt_range _ _ _ _ (by omega) fun j hj => cnt_ge_iff h h2 ((j : Int) + 1)
    rw [e]
    split <;> omega
theorem conj_nil_iff {L : List Int} (h : valid L = true) : (conj L).length = 0 ↔ L.length = 0 := by
  rw [conj_len]
  cases L with
  | nil => simp
  | cons x r =>
    have hp := preS_of_valid h 0 (by simp) (by simp)
    simp at hp ⊢
    omega
end NP
namespace NP
theorem ffrom_spec (p : Nat → Bool) : ∀ (f k : Nat), k ≤ ffrom p f k ∧ ffrom p f k ≤ k + f ∧ (∀ j, k ≤ j → j < ffrom p f k → p j = true) ∧ (ffrom p f k = k + f ∨ p (ffrom p f k) = false) := by
  intro f
  induction f with
  | zero => intro k; simp only [ffrom]; exact ⟨Nat.le_refl _, Nat.le_refl _, fun j h1 h2 => by omega, .inl rfl⟩
  | succ f ih =>
    intro k
    simp only [ffrom]
    cases hp : p k with
    | true =>
      rw [if_pos rfl]
      have h := ih (k + 1)
      refine ⟨by omega, by omega, fun j h1 h2 => ?_, h.2.2.2.imp (by omega) id⟩
      rcases Nat.lt_or_ge k j with h3 | h3
      · exact h.2.2.1 j (by omega) h2
      · obtain rfl : j = k := by omega
        exact hp
    | false => rw [if_neg (by simp)]; exact ⟨Nat.le_refl _, by omega, fun j h1 h2 => by omega, .inr hp⟩
theorem ff_spec (p : Nat → Bool) (n : Nat) : ff p n ≤ n ∧ (∀ j, j < ff p n → p j = true) ∧ (ff p n = n ∨ p (ff p n) = false) := by
  have h := ffrom_spec p n 0
  exact ⟨by have := h.2.1; unfold ff; omega, fun j hj => h.2.2.1 j (Nat.zero_le _) hj, by have := h.2.2.2; unfold ff; rw [Nat.zero_add] at this; exact this⟩
def durS (L : List Int) : Nat := ff (fun (k : Nat) => decide ((k : Int) < L.getD k 0)) L.length
theorem durS_spec (L : List Int) : durS L ≤ L.length ∧ (∀ j : Nat, j < durS L → (j : Int) < L.getD j 0) ∧ ¬ ((durS L : Nat) : Int) < L.getD (durS L) 0 := by
  have h := ff_spec (fun (k : Nat) => decide ((k : Int) < L.getD k 0)) L.length
  refine ⟨h.1, fun j hj => by simpa using h.2.1 j hj, ?_⟩
  rcases h.2.2 with h1 | h1
  · unfold durS
    rw [h1, List.getD_eq_getElem?_getD, List.getElem?_eq_none (Nat.le_refl _)]
    simp
  · unfold durS
    exact of_decide_eq_false h1
theorem durS_unique {L : List Int} {d : Nat} (h1 : ∀ j : Nat, j < d → (j : Int) < L.getD j 0) (h2 : ¬ (d : Int) < L.getD d 0) : durS L = d := by
  have h := durS_spec L
  rcases Nat.lt_trichotomy (durS L) d with h3 | h3 | h3
  · exact absurd (h1 _ h3) h.2.2
  · exact h3
  · exact absurd (h.2.1 _ h3) h2
theorem getD_lt {L : List Int} {j : Nat} (h : j < L.length) : L.getD j 0 = L[j] := by rw [List.getD_eq_getElem?_getD, List.getElem?_eq_getElem h]; rfl
theorem getD_ge {L : List Int} {j : Nat} (h : L.length ≤ j) : L.getD j 0 = 0 := by rw [List.getD_eq_getElem?_getD, List.getElem?_eq_none h]; rfl
theorem conj_diag {L : List Int} (h : valid L = true) (j : Nat) : ((j : Int) < (conj L).getD j 0) ↔ (j : Int) < L.getD j 0 := by
  have hd := headD_bd h
  by_cases h1 : j < (conj L).length
  · rw [getD_lt h1, conj_get]
    by_cases h2 : j < L.length
    · rw [getD_lt h2]
      have := cnt_ge_iff h h2 ((j : Int) + 1)
      omega
    · rw [getD_ge (by omega)]
      have := (cnt_bd ((j : Int) + 1) L).2
      omega
  · rw [getD_ge (L := conj L) (by omega)]
    rw [conj_len] at h1
    by_cases h2 : j < L.length
    · rw [getD_lt h2]
      have := head_ge h L[j] (List.getElem_mem h2)
      omega
    · rw [getD_ge (by omega)]
theorem durS_conj {L : List Int} (h : valid L = true) : durS (conj L) = durS L := by
  have hs := durS_spec L
  exact durS_unique (fun j hj => (conj_diag h j).2 (hs.2.1 j hj)) (fun h1 => hs.2.2 ((conj_diag h _).1 h1))
theorem sum_ge (c : Int) (L : List Int) (h : ∀ x ∈ L, c ≤ x) : c * L.length ≤ sumL L := by
  induction L with
  | nil => simp [sumL]
  | cons x r ih =>
    have h1 := ih (fun y hy => h y (by simp [hy]))
    have h2 := h x (by simp)
    simp only [sumL, List.length_cons]
    have e : c * ((r.length + 1 : Nat) : Int) = c * (r.length : Int) + c := by rw [Int.natCast_add]; simp [Int.mul_add]
    omega
theorem durS_sq {L : List Int} (h : valid L = true) : ((durS L : Nat) : Int) * ((durS L : Nat) : Int) ≤ sumL L := by
  have hs := durS_spec L
  have hf := falls_all h
  have h1 := sum_ge ((durS L : Nat) : Int) (L.take (durS L)) fun x hx => by
    obtain ⟨i, hi, rfl⟩ := List.getElem_of_mem hx
    simp at hi ⊢
    have h2 := hs.2.1 (durS L - 1) (by omega)
    rw [getD_lt (by omega)] at h2
    have := hf (durS L - 1) i (by omega) (by omega)
    omega
  have h2 := sum_ge 0 (L.drop (durS L)) fun x hx => valid_nonneg h x (List.mem_of_mem_drop hx)
  have e : sumL L = sumL (L.take (durS L)) + sumL (L.drop (durS L)) := by rw [← sumL_append, List.take_append_drop]
  rw [List.length_take_of_le hs.1] at h1
  omega
theorem durS_pos {L : List Int} (h : valid L = true) : 0 < durS L ↔ 0 < L.length := by
  have hs := durS_spec L
  constructor
  · intro h1; omega
  · intro h1
    rcases Nat.eq_zero_or_pos (durS L) with h2 | h2
    · have h3 := hs.2.2
      rw [h2, getD_lt h1] at h3
      have := preS_of_valid h 0 h1 h1
      omega
    · exact h2
end NP
end Go.Proofs.YtmlomapifldlpaaDoor
namespace Go.Proofs.YtmlomapifldlpaaDoor
open Go.RowKit

def Rd (w : World) (B : Nat) (a : Option Addr) (vs : List Value) : Prop :=
  vs ≠ [] → ∃ b o, a = some ⟨b, o, none⟩ ∧ b < B ∧ ∀ k v, vs[k]? = some v → w.cell? ⟨b, o + k, none⟩ = some v

theorem ret_i64 {a b : Int} (h : a = b) : Ending.returned (.int .i64 a) = .returned (.int .i64 b) := by rw [h]
theorem ret_bool {a b : Bool} (h : a = b) : Ending.returned (.bool a) = .returned (.bool b) := by rw [h]
abbrev ints (L : List Int) : List Value := L.map (Value.int .i64)

theorem Rd.at_ {w : World} {B : Nat} {a : Option Addr} {L : List Int} (h : Rd w B a (ints L)) {k : Nat} (hk : k < L.length) :
    ∃ b o, a = some ⟨b, o, none⟩ ∧ b < B ∧ w.cell? ⟨b, o + k, none⟩ = some (.int .i64 L[k]) := by
  obtain ⟨b, o, h1, h2, h3⟩ := h (by intro e; simp at e; subst e; simp at hk)
  exact ⟨b, o, h1, h2, h3 k _ (by simp [hk])⟩

theorem Rd.below {w w' : World} {B : Nat} {a : Option Addr} {vs : List Value} (h : Rd w B a vs) (hb : Below B w w') : Rd w' B a vs := fun hne => by
  obtain ⟨b, o, h1, h2, h3⟩ := h hne
  exact ⟨b, o, h1, h2, fun k v hv => (hb.cell (p := ⟨b, o + k, none⟩) h2).trans (h3 k v hv)⟩

theorem Rd.more {w : World} {B B' : Nat} {a : Option Addr} {vs : List Value} (h : Rd w B a vs) (hB : B ≤ B') : Rd w B' a vs := fun hne => by
  obtain ⟨b, o, h1, h2, h3⟩ := h hne
  exact ⟨b, o, h1, by omega, h3⟩

/-- nothing has turned but draws -/
def Dr (w w' : World) : Prop := ∃ n, w' = w.drewN n
theorem Dr.refl (w : World) : Dr w w := ⟨0, rfl⟩
theorem Dr.n (w : World) (n : Nat) : Dr w (w.drewN n) := ⟨n, rfl⟩
theorem Dr.trans {a b c : World} (h : Dr a b) (k : Dr b c) : Dr a c := by
  obtain ⟨n, rfl⟩ := h
  obtain ⟨m, rfl⟩ := k
  exact ⟨n + m, by rw [World.drewN_drewN]⟩
theorem Dr.drewN {a b : World} (h : Dr a b) (n : Nat) : Dr a (b.drewN n) := h.trans ⟨n, rfl⟩
theorem Dr.below {w w' : World} (h : Dr w w') (B : Nat) : Below B w w' := by
  obtain ⟨n, rfl⟩ := h
  exact ⟨rfl, rfl, rfl, Nat.le_refl _, fun _ _ => rfl⟩
theorem Dr.size {w w' : World} (h : Dr w w') : w'.heap.size = w.heap.size := by
  obtain ⟨n, rfl⟩ := h
  rfl
theorem Rd.dr {w w' : World} {B : Nat} {a : Option Addr} {vs : List Value} (h : Rd w B a vs) (hb : Dr w w') : Rd w' B a vs := h.below (hb.below B)

/-- a row of the call's own in a block from lo up to hi -/
structure Own (w : World) (lo hi : Nat) (e : TypeId) (v : Value) (vs : List Value) : Prop where
  row : w.ownsRow lo e 1 v vs.length vs
  lt : ∀ g, v.ownBlock = some g → g < hi
  le : hi ≤ w.heap.size

section
variable {w w' : World} {lo hi : Nat} {e : TypeId} {v : Value} {vs : List Value}

theorem ownsRow_keep {n : Nat} (h : w.ownsRow lo e 1 v n vs) (hk : ∀ g, v.ownBlock = some g → w'.heap[g]? = w.heap[g]?) : w'.ownsRow lo e 1 v n vs := by
  refine ⟨h.1, ?_⟩
  rcases h.2 with hn | ⟨g, cap, cur, rfl, hb, hg, rest⟩
  · exact .inl hn
  · exact .inr ⟨g, cap, cur, rfl, hb, (hk g rfl).trans hg, rest⟩

theorem Own.keep (h : Own w lo hi e v vs) (hs : w.heap.size ≤ w'.heap.size) (hk : ∀ g, v.ownBlock = some g → w'.heap[g]? = w.heap[g]?) : Own w' lo hi e v vs :=
  ⟨ownsRow_keep h.row hk, h.lt, Nat.le_trans h.le hs⟩
theorem Own.below (h : Own w lo hi e v vs) (hb : Below hi w w') : Own w' lo hi e v vs :=
  h.keep hb.size fun g hg => hb.block g (h.lt g hg)
theorem Own.alloc (h : Own w lo hi e v vs) (o : Obj) : Own (w.alloc o) lo hi e v vs :=
  h.keep (by simp) fun g hg => Below.heap_alloc w o g (Nat.lt_of_lt_of_le (h.lt g hg) h.le)
theorem Own.drew (h : Own w lo hi e v vs) : Own w.drew lo hi e v vs := ⟨h.row, h.lt, h.le⟩
theorem Own.drewN (h : Own w lo hi e v vs) (n : Nat) : Own (w.drewN n) lo hi e v vs := ⟨h.row, h.lt, h.le⟩
theorem Own.more (h : Own w lo hi e v vs) : Own w lo w.heap.size e v vs := ⟨h.row, fun g hg => Nat.lt_of_lt_of_le (h.lt g hg) h.le, Nat.le_refl _⟩
theorem Own.form (h : Own w lo hi e v vs) : ∃ a c, v = .slice a vs.length c := by
  rcases h.row.2 with ⟨h1, h2⟩ | ⟨g, cap, cur, h1, _⟩
  · exact ⟨none, 0, by rw [h1, h2]⟩
  · exact ⟨_, _, h1⟩
theorem Own.rd {a : Option Addr} {n c : Nat} (h : Own w lo hi e (.slice a n c) vs) : Rd w hi a vs := fun hne => by
  rcases h.row.2 with ⟨h1, h2⟩ | ⟨g, cap, cur, hv, _, hg, _, _, _, ht⟩
  · exact absurd (List.eq_nil_of_length_eq_zero h2) hne
  · injection hv with ha hn hc
    subst ha
    refine ⟨g, 0, rfl, h.lt g rfl, fun k v hk => ?_⟩
    rw [cell_of_row w g (0 + k) cur e (0, 0) hg, Nat.zero_add]
    rw [← ht, List.getElem?_take] at hk
    split at hk
    · simpa using hk
    · cases hk
theorem Own.nil (w : World) (lo : Nat) (e : TypeId) : Own w lo w.heap.size e (.slice none 0 0) [] :=
  ⟨World.ownsRow_nil w lo e 1, fun g hg => by simp [Value.ownBlock] at hg, Nat.le_refl _⟩
theorem Own.lower {lo' : Nat} (h : Own w lo hi e v vs) (hl : lo' ≤ lo) : Own w lo' hi e v vs :=
  ⟨⟨h.row.1, h.row.2.imp id fun ⟨g, cap, cur, h1, h2, h3⟩ => ⟨g, cap, cur, h1, Nat.le_trans hl h2, h3⟩⟩, h.lt, h.le⟩
theorem Own.len {a : Option Addr} {n c : Nat} (h : Own w lo hi e (.slice a n c) vs) : n = vs.length := by
  obtain ⟨a', c', hv⟩ := h.form
  injection hv
end

theorem Own.at_ {w : World} {lo hi : Nat} {e : TypeId} {v : Value} {vs : List Value} (h : Own w lo hi e v vs) {k : Nat} (hk : k < vs.length) :
    ∃ g c, v = .slice (some ⟨g, 0, none⟩) vs.length c ∧ lo ≤ g ∧ g < hi ∧ w.cell? ⟨g, k, none⟩ = some vs[k] ∧ w.frozen? ⟨g, k, none⟩ = false := by
  rcases h.row.2 with ⟨h1, h2⟩ | ⟨g, cap, cur, rfl, hb, hg, _, _, _, ht⟩
  · omega
  · refine ⟨g, cap, rfl, hb, h.lt g rfl, ?_, frozen_of_row w g k cur e hg⟩
    rw [cell_of_row w g k cur e (0, 0) hg]
    have h3 : vs[k]? = some vs[k] := List.getElem?_eq_getElem hk
    have h4 : (cur.toList.take (vs.length * 1))[k]? = some vs[k] := by rw [ht]; exact h3
    rw [List.getElem?_take] at h4
    split at h4
    · simpa using h4
    · cases h4
theorem Own.spot {w : World} {lo hi : Nat} {e : TypeId} {a : Option Addr} {n c : Nat} {vs : List Value} (h : Own w lo hi e (.slice a n c) vs) {k : Nat} (hk : k < vs.length) :
    ∃ g u, a = some ⟨g, 0, none⟩ ∧ lo ≤ g ∧ g < hi ∧ w.cell? ⟨g, k, none⟩ = some u ∧ w.frozen? ⟨g, k, none⟩ = false := by
  obtain ⟨g, c', h1, h2, h3, h4, h5⟩ := h.at_ hk
  injection h1 with h1 _ _
  exact ⟨g, _, h1, h2, h3, h4, h5⟩
theorem Own.set {w : World} {lo hi : Nat} {e : TypeId} {g n c : Nat} {vs : List Value} (h : Own w lo hi e (.slice (some ⟨g, 0, none⟩) n c) vs) (k : Nat) (u : Value) : Own (w.setCell ⟨g, k, none⟩ u) lo hi e (.slice (some ⟨g, 0, none⟩) n c) (vs.set k u) := by
  have hn := h.len
  subst hn
  have h1 := h.row.stored k u
  refine ⟨?_, h.lt, ?_⟩
  · rw [List.length_set]; exact h1.1
  · have := h.le; simpa [World.setCell] using this
theorem Own.off {w : World} {lo hi : Nat} {e : TypeId} {v : Value} {vs : List Value} (h : Own w lo hi e v vs) {p : Addr} (hp : ∀ g, v.ownBlock = some g → g ≠ p.block) (u : Value) : Own (w.setCell p u) lo hi e v vs :=
  h.keep (by simp [World.setCell]) fun g hg => Below.heap_setCell w p u g (hp g hg)
theorem Own.grown {w w' : World} {lo hi : Nat} {e : TypeId} {v : Value} {vs : List Value} {row : Option Nat} (h : Own w lo hi e v vs) (hg : w.grownBy w' row) (hr : v.ownBlock = none ∨ v.ownBlock ≠ row) : Own w' lo hi e v vs :=
  h.keep hg.size fun g hgv => hg.block g (Nat.lt_of_lt_of_le (h.lt g hgv) h.le) (by
    rcases hr with hr | hr
    · rw [hr] at hgv; cases hgv
    · rw [← hgv]; exact hr)
theorem Own.dr {w w' : World} {lo hi : Nat} {e : TypeId} {v : Value} {vs : List Value} (h : Own w lo hi e v vs) (hd : Dr w w') : Own w' lo hi e v vs := h.below (hd.below hi)

/-- append to a row of the call's own, out of whatever can be read -/
theorem run_append_o {P : Program} (w : World) (lo hi : Nat) (t ty e : TypeId) (i : TypeInfo) (z : Value) (bytes : Nat) (ht : P.underlying t = some (.slice e)) (hi0 : P.info? e = some i) (hz : i.zero = some z)
    (hsize : i.size = 1) (hby : i.bytes = bytes) (hzs : z.cells.size = 1) {v : Value} {vs : List Value} (hown : Own w lo hi e v vs)
    {B : Nat} {A : Option Addr} {m c : Nat} {news : List Value} (hr : Rd w B A news) (hm : m = news.length) (h1 : ∀ u ∈ news, u.oneCell' = true)
    (h63 : vs.length + m ≤ maxLen) (hbytes : (vs.length + m) * bytes ≤ 140737488355328) (hlo : lo ≤ w.heap.size) :
    ∃ v' w', (Builtin.append_ #[t, t] ty #[v, .slice A m c]).run P w = .ok v' w' ∧ Own w' lo w'.heap.size e v' (vs ++ news) ∧ w.grownBy w' v.ownBlock ∧ (v'.ownBlock = v.ownBlock ∨ v'.ownBlock = some w.heap.size) := by
  subst hm
  by_cases hn : news = []
  · subst hn
    refine ⟨v, w, ?_, by simpa using hown.more, World.grownBy.refl w _, .inl rfl⟩
    rcases hown.row.2 with ⟨rfl, h0⟩ | ⟨g, cap, cur, rfl, _, _, hnc, _⟩
    · simp [Builtin.append_, run_underlying ht, sizeOf, typeInfo, hi0, Builtin.lenOf, Builtin.firstCells]
      cases A <;> simp [loadCells, loadCellsFrom]
    · simp [Builtin.append_, run_underlying ht, sizeOf, typeInfo, hi0, Builtin.lenOf, Builtin.firstCells, hnc, storeCells]
      cases A <;> simp [loadCells, loadCellsFrom, storeCells]
  · obtain ⟨b, o, rfl, hb, hc⟩ := hr hn
    have hcells : ∀ j u, news[j]? = some u → w.cell? ((⟨b, o, none⟩ : Addr).add j) = some u := by
      intro j u hu
      rw [Addr.add_lit]
      exact hc j u hu
    obtain ⟨v', w', hrun, h2, h3, _, h5⟩ := run_append_own_at (P := P) w lo t ty e i z 1 bytes ht hi0 hz hsize hby hzs (by omega) v _ vs hown.row ⟨b, o, none⟩ news.length c news (by simp) hcells h1 h63 hbytes hlo
    refine ⟨v', w', hrun, ⟨by simpa using h2, fun g hg => (h2.lt g hg).2, Nat.le_refl _⟩, h3, h5⟩

theorem wpList_append_o {P : Program} (w : World) {ops : Array Oper} {rest : List Oper} {o : Oper} {a : Act} {Q : Exit → Act → World → Prop} (hgd : o.guard = none) (s x : Operand) (t : TypeId)
    (ho : o.op = .call { callee := .builtin .append, args := #[s, x], argTypes := #[t, t] })
    (lo hi : Nat) (e : TypeId) (i : TypeInfo) (z : Value) (bytes : Nat) (ht : P.underlying t = some (.slice e)) (hi0 : P.info? e = some i) (hz : i.zero = some z)
    (hsize : i.size = 1) (hby : i.bytes = bytes) (hzs : z.cells.size = 1) (v : Value) (vs : List Value) (hs : a.eval s = v) (hown : Own w lo hi e v vs)
    (B : Nat) (A : Option Addr) (m c : Nat) (news : List Value) (hx : a.eval x = .slice A m c) (hr : Rd w B A news) (hm : m = news.length) (h1 : ∀ u ∈ news, u.oneCell' = true)
    (h63 : vs.length + m ≤ maxLen) (hbytes : (vs.length + m) * bytes ≤ 140737488355328) (hlo : lo ≤ w.heap.size)
    (h : ∀ v' w', Own w' lo w'.heap.size e v' (vs ++ news) → w.grownBy w' v.ownBlock → (v'.ownBlock = v.ownBlock ∨ v'.ownBlock = some w.heap.size) → wpList P ops Q rest (a.put o.dst v') w') : wpList P ops Q (o :: rest) a w :=
  wpList_plain hgd fun _ hK => by
    obtain ⟨v', w', hrun, h2, h3, h4⟩ := run_append_o (P := P) w lo hi t o.type e i z bytes ht hi0 hz hsize hby hzs hown hr hm h1 h63 hbytes hlo
    unfold Oper.wp execOp
    simp only [ho, resolve, invoke, builtin, Sem.run_bind, Sem.run_pure, Result.andThen_ok, List.map_toArray, List.map_cons, List.map_nil, hs, hx]
    rw [hrun]
    exact hK _ _ (h v' w' h2 h3 h4)

theorem step_append_o {P : Program} (w : World) {ops : Array Oper} {o : Oper} {a : Act} {K : Act → World → Prop} {Q : Exit → Act → World → Prop} {E : Prop} (hgd : o.guard = none) (s x : Operand) (t : TypeId)
    (ho : o.op = .call { callee := .builtin .append, args := #[s, x], argTypes := #[t, t] })
    (lo hi : Nat) (e : TypeId) (i : TypeInfo) (z : Value) (bytes : Nat) (ht : P.underlying t = some (.slice e)) (hi0 : P.info? e = some i) (hz : i.zero = some z)
    (hsize : i.size = 1) (hby : i.bytes = bytes) (hzs : z.cells.size = 1) (v : Value) (vs : List Value) (hs : a.eval s = v) (hown : Own w lo hi e v vs)
    (B : Nat) (A : Option Addr) (m c : Nat) (news : List Value) (hx : a.eval x = .slice A m c) (hr : Rd w B A news) (hm : m = news.length) (h1 : ∀ u ∈ news, u.oneCell' = true)
    (h63 : vs.length + m ≤ maxLen) (hbytes : (vs.length + m) * bytes ≤ 140737488355328) (hlo : lo ≤ w.heap.size)
    (h : ∀ v' w', Own w' lo w'.heap.size e v' (vs ++ news) → w.grownBy w' v.ownBlock → (v'.ownBlock = v.ownBlock ∨ v'.ownBlock = some w.heap.size) → K (a.put o.dst v') w') :
    if Region.wanted o (yielded ops a.tmps) = true then Oper.wp P o a w K Q else E := by
  have hw : Region.wanted o (yielded ops a.tmps) = true := by simp [Region.wanted, hgd]
  rw [if_pos hw]
  obtain ⟨v', w', hrun, h2, h3, h4⟩ := run_append_o (P := P) w lo hi t o.type e i z bytes ht hi0 hz hsize hby hzs hown hr hm h1 h63 hbytes hlo
  unfold Oper.wp execOp
  simp only [ho, resolve, invoke, builtin, Sem.run_bind, Sem.run_pure, Result.andThen_ok, List.map_toArray, List.map_cons, List.map_nil, hs, hx]
  rw [hrun]
  exact h v' w' h2 h3 h4

/-- one new cell is readable -/
theorem Rd.one (w : World) (u : Value) (t : TypeId) : Rd (w.alloc (.cells #[u] t)) (w.heap.size + 1) (some ⟨w.heap.size, 0, none⟩) [u] := fun _ => by
  refine ⟨w.heap.size, 0, rfl, by omega, fun k v hk => ?_⟩
  match k, hk with
  | 0, hk => simp at hk; subst hk; simp

/-- an empty row that has just been laid -/
theorem Own.empty (w : World) (e : TypeId) : Own (w.alloc (.cells #[] e)) w.heap.size (w.heap.size + 1) e (.slice (some ⟨w.heap.size, 0, none⟩) 0 0) [] :=
  ⟨⟨rfl, .inr ⟨w.heap.size, 0, #[], rfl, Nat.le_refl _, heap_alloc_new w _, Nat.le_refl _, Nat.zero_le _, rfl, rfl⟩⟩, fun g hg => by simp [Value.ownBlock] at hg; omega, by simp⟩
/-- one element appended, as the walk does it: laid into a block of its own first -/
theorem below_push {B : Nat} {w0 w w1 : World} {o : Obj} {row : Option Nat} (hb : Below B w0 w) (hB : B ≤ w0.heap.size) (hg : (w.alloc o).grownBy w1 row) (hr : ∀ g, row = some g → B ≤ g) : Below B w0 w1 := by
  have h1 := Nat.le_trans hB hb.size
  exact (hb.alloc h1 o).grown hg (by simp; omega) hr
theorem Own.base {w : World} {lo hi : Nat} {e : TypeId} {v : Value} {vs : List Value} (h : Own w lo hi e v vs) : ∀ g, v.ownBlock = some g → lo ≤ g := fun g hg => (h.row.lt g hg).1

theorem Own.above {w w' : World} {lo hi lox hix : Nat} {e ex : TypeId} {v vx : Value} {vs vxs : List Value} (h : Own w lo hi e v vs) (hx : Own w lox hix ex vx vxs) (hg : w.grownBy w' vx.ownBlock) (hd : hix ≤ lo) : Own w' lo hi e v vs :=
  h.keep hg.size fun g hgv => hg.block g (Nat.lt_of_lt_of_le (h.lt g hgv) h.le) (fun e => by
    have h1 := hx.lt g e.symm
    have h2 := h.base g hgv
    omega)
theorem Own.belowMark {w w' : World} {lo hi : Nat} {e : TypeId} {v : Value} {vs : List Value} (h : Own w lo hi e v vs) (hlo : lo ≤ w.heap.size) (hg : w.grownBy w' v.ownBlock) : Below lo w w' :=
  (Below.refl lo w).grown hg hlo h.base

/-- a slice of numbers that came in -/
def IsRow (k : IntKind) (w : World) (a : Option Addr) (len cap : Nat) (zs : List Int) : Prop :=
  (a = none ∧ len = 0 ∧ cap = 0 ∧ zs = []) ∨
  ∃ x, a = some x ∧ len ≤ cap ∧ cap ≤ maxLen ∧ zs.length = cap ∧ (∀ i, i < zs.length → w.cell? (x.add i) = some (.int k (zs.getD i 0))) ∧ ∀ n ∈ zs, (Lit.int k n).wf = true
theorem IsRow.rd {k : IntKind} {w : World} {a : Option Addr} {len cap : Nat} {zs : List Int} (h : IsRow k w a len cap zs) :
    ∃ L : List Int, L.length = len ∧ Rd w w.heap.size a (L.map (Value.int k)) ∧ (∀ n ∈ L, (Lit.int k n).wf = true) ∧ len ≤ maxLen := by
  rcases h with ⟨rfl, rfl, rfl, rfl⟩ | ⟨x, rfl, hl, hm, hz, hc, hw⟩
  · exact ⟨[], rfl, fun hne => absurd rfl hne, by simp, Nat.zero_le _⟩
  · refine ⟨zs.take len, by simp; omega, fun hne => ?_, fun n hn => hw n (List.mem_of_mem_take hn), by omega⟩
    have h0 : 0 < zs.length := by
      rcases Nat.eq_zero_or_pos zs.length with h0 | h0
      · have := List.eq_nil_of_length_eq_zero h0; subst this; simp at hne
      · exact h0
    obtain ⟨b, o, spot⟩ := x
    have hc0 := hc 0 h0
    have hspot : spot = none := by simpa [Addr.add] using World.cell?_spot hc0
    subst hspot
    have hlt := World.block_lt_of_cell? _ _ hc0
    refine ⟨b, o, rfl, by simpa [Addr.add] using hlt, fun j v hv => ?_⟩
    have hj : j < len ∧ j < zs.length := by
      have := (List.getElem?_eq_some_iff.1 hv).1
      simp at this
      omega
    have h1 := hc j hj.2
    rw [Addr.add_lit] at h1
    rw [h1]
    simp [hj.1, hj.2] at hv
    simp [List.getD, hj.2, hv]

theorem IsRow.lc {k : IntKind} {w : World} {a : Option Addr} {len cap : Nat} {zs : List Int} (h : IsRow k w a len cap zs) : len ≤ cap := by
  rcases h with ⟨rfl, rfl, rfl, rfl⟩ | ⟨x, rfl, hl, _⟩
  · exact Nat.le_refl _
  · exact hl
/-- a part of what can be read -/
theorem Rd.take {w : World} {B : Nat} {a : Option Addr} {vs : List Value} (h : Rd w B a vs) (k : Nat) : Rd w B a (vs.take k) := fun hne => by
  obtain ⟨b, o, h1, h2, h3⟩ := h (by rintro rfl; simp at hne)
  refine ⟨b, o, h1, h2, fun j v hv => h3 j v ?_⟩
  rw [List.getElem?_take] at hv
  split at hv
  · exact hv
  · cases hv
theorem Rd.dropAt {w : World} {B b o : Nat} {vs : List Value} (h : Rd w B (some ⟨b, o, none⟩) vs) (k : Nat) : Rd w B (some ⟨b, o + k, none⟩) (vs.drop k) := fun hne => by
  obtain ⟨b', o', h1, h2, h3⟩ := h (by rintro rfl; simp at hne)
  injection h1 with h1; injection h1 with e1 e2; subst e1 e2
  refine ⟨b, o + k, rfl, h2, fun j v hv => ?_⟩
  rw [List.getElem?_drop] at hv
  rw [Nat.add_assoc]
  exact h3 (k + j) v hv

/-- what stands from place q on, as Go cuts it -/
theorem Rd.cutAt {w : World} {B b cap : Nat} {vs : List Value} (h : Rd w B (some ⟨b, 0, none⟩) vs) (q : Nat) (hc : vs.length ≤ cap) : Rd w B (if cap = q then some ⟨b, 0, none⟩ else some ⟨b, q, none⟩) (vs.drop q) := by
  by_cases hq : cap = q
  · rw [List.drop_eq_nil_of_le (by omega)]
    exact fun hne => absurd rfl hne
  · rw [if_neg hq]
    have := h.dropAt q
    rwa [Nat.zero_add] at this
theorem Rd.grown {w w' : World} {B : Nat} {a : Option Addr} {vs : List Value} {row : Option Nat} (h : Rd w B a vs) (hg : w.grownBy w' row) (hB : B ≤ w.heap.size) (hr : ∀ g, row = some g → ∀ b o, a = some ⟨b, o, none⟩ → b ≠ g) : Rd w' B a vs := fun hne => by
  obtain ⟨b, o, h1, h2, h3⟩ := h hne
  exact ⟨b, o, h1, h2, fun k v hv => (World.cell?_of_block (hg.block b (by omega) (fun e => hr b e.symm b o h1 rfl))).trans (h3 k v hv)⟩

theorem step_append_b {P : Program} (w : World) {ops : Array Oper} {o : Oper} {a : Act} {K : Act → World → Prop} {Q : Exit → Act → World → Prop} {E : Prop} (hgd : o.guard = none) (s x : Operand) (t : TypeId)
    (ho : o.op = .call { callee := .builtin .append, args := #[s, x], argTypes := #[t, t] })
    (lo hi : Nat) (e : TypeId) (i : TypeInfo) (z : Value) (bytes : Nat) (ht : P.underlying t = some (.slice e)) (hi0 : P.info? e = some i) (hz : i.zero = some z)
    (hsize : i.size = 1) (hby : i.bytes = bytes) (hzs : z.cells.size = 1) (v : Value) (vs : List Value) (hs : a.eval s = v) (w0 : World) (hb : Below lo w0 w) (hlo0 : lo ≤ w0.heap.size) (hown : Own w lo hi e v vs)
    (B : Nat) (A : Option Addr) (m c : Nat) (news : List Value) (hx : a.eval x = .slice A m c) (hr : Rd w B A news) (hm : m = news.length) (h1 : ∀ u ∈ news, u.oneCell' = true)
    (h63 : vs.length + m ≤ 4194304) (hby2 : bytes ≤ 64)
    (h : ∀ v' w', Own w' lo w'.heap.size e v' (vs ++ news) → Below lo w0 w' → w.grownBy w' v.ownBlock → K (a.put o.dst v') w') :
    if Region.wanted o (yielded ops a.tmps) = true then Oper.wp P o a w K Q else E :=
  step_append_o w hgd s x t ho lo hi e i z bytes ht hi0 hz hsize hby hzs v vs hs hown B A m c news hx hr hm h1 (by unfold maxLen; omega)
    (Nat.le_trans (Nat.mul_le_mul h63 hby2) (by omega)) (Nat.le_trans hlo0 hb.size)
    fun v' w' h2 h3 _ => h v' w' h2 (hb.grown h3 (Nat.le_trans hlo0 hb.size) hown.base) h3
theorem own_empty1 {lo : Nat} (w : World) (e : TypeId) (hlo : lo ≤ w.heap.size) : Own (w.alloc (.cells #[] e)) lo (w.heap.size + 1) e (.slice (some ⟨w.heap.size, 0, none⟩) 0 0) [] := (Own.empty w e).lower hlo
theorem own_empty2 {lo : Nat} (w : World) (e : TypeId) (o : Obj) (hlo : lo ≤ w.heap.size) : Own ((w.alloc o).alloc (.cells #[] e)) lo (w.heap.size + 2) e (.slice (some ⟨w.heap.size + 1, 0, none⟩) 0 0) [] := by
  have h := (Own.empty (w.alloc o) e).lower (lo' := lo) (by simp; omega)
  simpa using h
theorem len_take {M : List Int} {q : Nat} (h : q ≤ M.length) : q = (ints (M.take q)).length := by simp; omega
theorem len_drop {M : List Int} {q : Nat} : M.length - q = (ints (M.drop q)).length := by simp
theorem ints_one (D : List Int) : ∀ v ∈ ints D, v.oneCell' = true := by
  intro v hv
  simp at hv
  obtain ⟨x, -, rfl⟩ := hv
  rfl

theorem Rd.alloc {w : World} {B : Nat} {a : Option Addr} {vs : List Value} (h : Rd w B a vs) (hB : B ≤ w.heap.size) (o : Obj) : Rd (w.alloc o) B a vs := h.below ((Below.refl B w).alloc hB o)
theorem Rd.drew {w : World} {B : Nat} {a : Option Addr} {vs : List Value} (h : Rd w B a vs) : Rd w.drew B a vs := h
theorem rd_one2 (w : World) (o : Obj) (u : Value) (t : TypeId) : Rd ((w.alloc o).alloc (.cells #[u] t)) (w.heap.size + 2) (some ⟨w.heap.size + 1, 0, none⟩) [u] := by
  have h := Rd.one (w.alloc o) u t
  simpa using h
theorem rd_one3 (w : World) (o : Obj) (u : Value) (t : TypeId) : Rd ((w.alloc (.cells #[u] t)).alloc o) (w.heap.size + 1) (some ⟨w.heap.size, 0, none⟩) [u] := (Rd.one w u t).alloc (by simp) o
theorem Rd.apart {w w' : World} {B x y n c : Nat} {vs : List Value} (h : Rd w B (some ⟨x, 0, none⟩) vs) (hg : w.grownBy w' (Value.slice (some ⟨y, 0, none⟩) n c).ownBlock) (hB : B ≤ w.heap.size) (hne : x ≠ y) : Rd w' B (some ⟨x, 0, none⟩) vs :=
  h.grown hg hB fun g hgg b o e => by simp [Value.ownBlock] at hgg; injection e with e; injection e with e; omega

theorem Own.formN {w : World} {lo hi : Nat} {e : TypeId} {v : Value} {vs : List Value} (h : Own w lo hi e v vs) (h0 : 0 < vs.length) : ∃ g c, v = .slice (some ⟨g, 0, none⟩) vs.length c ∧ vs.length ≤ c := by
  rcases h.row.2 with ⟨h1, h2⟩ | ⟨g, cap, cur, h1, _, _, h3, _⟩
  · omega
  · exact ⟨g, cap, h1, h3⟩

theorem Own.read {w : World} {lo hi : Nat} {e : TypeId} {a : Option Addr} {n c : Nat} {vs : List Value} (h : Own w lo hi e (.slice a n c) vs) {k : Nat} (hk : k < vs.length) : ∃ g, a = some ⟨g, 0, none⟩ ∧ w.cell? ⟨g, k, none⟩ = some vs[k] := by
  obtain ⟨g, c', h1, _, _, h4, _⟩ := h.at_ hk
  injection h1 with h1 _ _
  exact ⟨g, h1, h4⟩
end Go.Proofs.YtmlomapifldlpaaDoor
namespace Go.Proofs.YtmlomapifldlpaaDoor
open Go.RowKit

/-- block g holds just the cells cs of type t -/
def Blk (w : World) (g : Nat) (t : TypeId) (cs : Array Value) : Prop := w.heap[g]? = some (.cells cs t (0, 0))

section
variable {w w' : World} {g : Nat} {t : TypeId} {cs : Array Value}
theorem Blk.lt (h : Blk w g t cs) : g < w.heap.size := (Array.getElem?_eq_some_iff.1 h).1
theorem Blk.cell (h : Blk w g t cs) (i : Nat) : w.cell? ⟨g, i, none⟩ = cs[i]? := cell_of_row w g i cs t (0, 0) h
theorem Blk.free (h : Blk w g t cs) (i : Nat) : w.frozen? ⟨g, i, none⟩ = false := frozen_of_row w g i cs t h
theorem Blk.new (w : World) (t : TypeId) (cs : Array Value) : Blk (w.alloc (.cells cs t)) w.heap.size t cs := heap_alloc_new w _
theorem Blk.alloc (h : Blk w g t cs) (o : Obj) : Blk (w.alloc o) g t cs := (Below.heap_alloc w o g h.lt).trans h
theorem Blk.set (h : Blk w g t cs) (i : Nat) (u : Value) : Blk (w.setCell ⟨g, i, none⟩ u) g t (cs.setIfInBounds i u) := heap_setCell_same w g i cs t u h
theorem Blk.off (h : Blk w g t cs) {p : Addr} (hp : g ≠ p.block) (u : Value) : Blk (w.setCell p u) g t cs := (Below.heap_setCell w p u g hp).trans h
theorem Blk.below {B : Nat} (h : Blk w g t cs) (hb : Below B w w') (hg : g < B) : Blk w' g t cs := (hb.block g hg).trans h
theorem Blk.drewN (h : Blk w g t cs) (n : Nat) : Blk (w.drewN n) g t cs := h
theorem Blk.drew (h : Blk w g t cs) : Blk w.drew g t cs := h
theorem Blk.grown {row : Option Nat} (h : Blk w g t cs) (hb : w.grownBy w' row) (hg : some g ≠ row) : Blk w' g t cs := (hb.block g h.lt hg).trans h
theorem Blk.row {vs : Array Value} (h : Blk w g t cs) : Blk (w.setRow g vs) g t vs := setRow_heap w g cs vs t (0, 0) h
theorem Blk.rowOff {g' : Nat} {vs : Array Value} (h : Blk w g t cs) (hg : g ≠ g') : Blk (w.setRow g' vs) g t cs := (setRow_other w g' g vs hg).trans h
theorem below_setRow' {B : Nat} {a : World} (h : Below B a w) (hg : B ≤ g) (vs : Array Value) : Below B a (w.setRow g vs) := below_setRow h hg vs
end

section
variable {P : Program}
theorem run_storeVar_row (w : World) (g : Nat) (t ty : TypeId) (cs vs : Array Value) (hg : Blk w g t cs) (hi : (P.info? ty).map (·.size) = some vs.size) (hs : vs.size = cs.size) (h1 : ∀ v ∈ vs.toList, v.oneCell' = true) :
    (storeVar ty ⟨g, 0, none⟩ (.agg vs)).run P w = .ok () (w.setRow g vs) := by
  cases hq : P.info? ty with
  | none => simp [hq] at hi
  | some i =>
    have hz : i.size = vs.size := by simpa [hq] using hi
    have hst := run_storeCells_at P g 0 t vs.toList 0 cs w hg (by simp; omega) h1
    simp only [Nat.add_zero, List.take_zero, List.nil_append, Nat.zero_add, Array.length_toList] at hst
    rw [List.drop_eq_nil_of_le (by simp; omega), List.append_nil, Array.toArray_toList] at hst
    simp [storeVar, Sem.run_bind, sizeOf, typeInfo, hq, hz, Value.cells, hst]

theorem wpList_store_row {ops : Array Oper} {rest : List Oper} {o : Oper} {a : Act} {w : World} {Q : Exit → Act → World → Prop} (hgd : o.guard = none) (ty : TypeId) (x v : Operand) (ho : o.op = .store ty x v)
    (g : Nat) (hx : a.eval x = .pointer (some ⟨g, 0, none⟩)) (vs : Array Value) (hv : a.eval v = .agg vs) (t : TypeId) (cs : Array Value) (hg : Blk w g t cs)
    (hi : (P.info? ty).map (·.size) = some vs.size) (hs : vs.size = cs.size) (h1 : ∀ v ∈ vs.toList, v.oneCell' = true)
    (h : wpList P ops Q rest (a.put o.dst undef) (w.setRow g vs)) : wpList P ops Q (o :: rest) a w :=
  wpList_plain hgd fun _ hK => by
    unfold Oper.wp execOp
    simp only [ho, hx, hv, Instr.storeAt, Instr.sureAddr, Sem.run_bind, Sem.run_pure, Result.andThen_ok, run_storeVar_row w g t ty cs vs hg hi hs h1]
    exact hK _ _ h

theorem run_index_row (T e : TypeId) (d : TypeDesc) (n : Nat) (hT : P.underlying T = some (.array n e)) (he : P.underlying e = some d) (hd : (match d with | .struct _ | .array _ _ => true | _ => false) = false) (hc : (P.info? e).map (·.size) = some 1)
    (cs : Array Value) (k : Nat) (v : Value) (hk : k < n) (hv : cs[k]? = some v) (kd : IntKind) (w : World) : (Instr.index T (.agg cs) (.int kd k)).run P w = .ok v w := by
  cases hq : P.info? e with
  | none => simp [hq] at hc
  | some i =>
    have hz : i.size = 1 := by simpa [hq] using hc
    have hagg : ∀ w : World, (isAgg e).run P w = .ok false w := by
      intro w
      unfold isAgg
      rw [Sem.run_bind, run_underlying he w]
      cases d <;> simp_all
    simp [Instr.index, asIntOf, Sem.run_bind, run_underlying hT, sizeOf, typeInfo, hq, hz, part, hagg, hv]
    intro hnk
    omega
theorem results_cell_tmp {fn : Func} {p q : Tmp} {ty : TypeId} (h : fn.results = #[.cell p ty, .tmp q]) (tmps : Array Value) (w : World) (g : Nat) (t : TypeId) (cs : Array Value) (fr : Nat × Nat) (d : TypeDesc)
    (hp : tmps.getD p undef = .pointer (some ⟨g, 0, none⟩)) (hg : w.heap[g]? = some (.cells cs t fr))
    (hu : P.underlying ty = some d) (hd : (match d with | .struct _ | .array _ _ => true | _ => false) = true) (hi : (P.info? ty).map (·.size) = some cs.size) :
    (results fn tmps).run P w = .ok (.tuple #[.agg cs, tmps.getD q undef]) w := by
  have hp' : tmps[p]?.getD undef = .pointer (some ⟨g, 0, none⟩) := by simpa using hp
  simp [results, h, hp', asAddr, run_loadVar_row w g t ty cs fr d hg hu hd hi]
end

/-- a list of numbers as an array's cells -/
def arr (D : List Int) : Array Value := (ints D).toArray
theorem arr_size (D : List Int) : (arr D).size = D.length := by simp [arr]
theorem arr_get (D : List Int) (k : Nat) (h : k < D.length) : (arr D)[k]? = some (.int .i64 D[k]) := by simp [arr, h]
theorem arr_one (D : List Int) : ∀ v ∈ (arr D).toList, v.oneCell' = true := by
  intro v hv
  simp [arr] at hv
  obtain ⟨x, -, rfl⟩ := hv
  rfl
theorem arr_set (D : List Int) (k : Nat) (x : Int) : (arr D).setIfInBounds k (.int .i64 x) = arr (D.set k x) := by
  simp [arr, ints, List.map_set]
end Go.Proofs.YtmlomapifldlpaaDoor
namespace Go.Proofs.YtmlomapifldlpaaDoor
open Go.RowKit
theorem Blk.own {w : World} {g lo : Nat} {e : TypeId} {vs : List Value} (h : Blk w g e vs.toArray) (hlo : lo ≤ g) (hm : vs.length ≤ maxLen) : Own w lo w.heap.size e (.slice (some ⟨g, 0, none⟩) vs.length vs.length) vs :=
  ⟨⟨by simp, .inr ⟨g, vs.length, vs.toArray, rfl, hlo, h, Nat.le_refl _, hm, by simp, by simp⟩⟩, fun q hq => by have := h.lt; simp [Value.ownBlock] at hq; omega, Nat.le_refl _⟩

/-- make([]int, n): a block of n zeros: an equation for every world -/
theorem run_make_ints {P : Program} (t e : TypeId) (i : TypeInfo) (h1 : P.underlying t = some (.slice e)) (h2 : P.info? e = some i) (h3 : i.zero = some (.int .i64 0)) (h4 : i.size = 1) (h5 : i.bytes = 8)
    (n : Nat) (hn : n ≤ 4194304) (w : World) :
    (Instr.makeSlice t (.int .i64 n) (.int .i64 n)).run P w = .ok (.slice (some ⟨w.heap.size, 0, none⟩) n n) (w.alloc (.cells (arr (List.replicate n 0)) e)) := by
  have hrun := run_make (P := P) w t e i (.int .i64 0) h1 h2 h3 .i64 .i64 n n (by omega) (by omega) (by rw [h5]; omega) (by omega)
  rw [h4] at hrun
  simp only [Int.toNat_natCast, Nat.mul_one] at hrun
  rw [hrun]
  congr 3
  apply Array.toList_inj.1
  simp [Value.cells, toList_madeCells_one, arr]
end Go.Proofs.YtmlomapifldlpaaDoor
namespace Go.Proofs.YtmlomapifldlpaaDoor
open Go.RowKit NP
set_option maxRecDepth 8000
set_option linter.unusedVariables false
theorem i64_xor_nonneg (a b : Int) (ha : 0 ≤ a) (ha2 : a < 4611686018427387904) (hb : 0 ≤ b) (hb2 : b < 4611686018427387904) : 0 ≤ bits .xor .i64 a b ∧ bits .xor .i64 a b < 4611686018427387904 := by
  obtain ⟨x, rfl⟩ := Int.eq_ofNat_of_zero_le ha
  obtain ⟨y, rfl⟩ := Int.eq_ofNat_of_zero_le hb
  have hx : x ^^^ y < 2 ^ 62 := Nat.xor_lt_two_pow (by omega) (by omega)
  have h1 : (BitVec.ofInt 64 (x : Int)).toNat = x := by
    rw [BitVec.ofInt_natCast, BitVec.toNat_ofNat]; exact Nat.mod_eq_of_lt (by omega)
  have h2 : (BitVec.ofInt 64 (y : Int)).toNat = y := by
    rw [BitVec.ofInt_natCast, BitVec.toNat_ofNat]; exact Nat.mod_eq_of_lt (by omega)
  have e : bits .xor .i64 (x : Int) (y : Int) = ((x ^^^ y : Nat) : Int) := by
    show IntKind.i64.wrap ((BitVec.ofInt 64 (x : Int) ^^^ BitVec.ofInt 64 (y : Int)).toNat : Int) = _
    rw [BitVec.toNat_xor, h1, h2, IntKind.wrap_i64]
    omega
  rw [e]
  omega
theorem w64 (x : Int) (h : -9223372036854775808 ≤ x ∧ x ≤ 9223372036854775807) : IntKind.i64.wrap x = x := IntWalk.i64_in _ h
theorem tmod_nat (q N : Nat) : (q : Int).tmod (N : Int) = ((q % N : Nat) : Int) := by rw [Int.tmod_eq_emod_of_nonneg (by omega)]; simp
theorem tdiv_nat (q N : Nat) : (q : Int).tdiv (N : Int) = ((q / N : Nat) : Int) := by rw [Int.tdiv_eq_ediv_of_nonneg (by omega)]; simp

/-- block g is a reader over the bytes bs, of which q picks have been made -/
structure Rdr (w : World) (g : Nat) (bs : List Int) (q : Nat) : Prop where
  blk : ∃ a c, Blk w g 53 #[.slice a bs.length c, .int .i64 q] ∧ Rd w g a (bs.map (Value.int .u8))
  len : bs.length ≤ 2000
  byte : ∀ k (h : k < bs.length), 0 ≤ bs[k] ∧ bs[k] ≤ 255
theorem Rdr.lt {w : World} {g : Nat} {bs : List Int} {q : Nat} (h : Rdr w g bs q) : g < w.heap.size := by
  obtain ⟨a, c, h1, h2⟩ := h.blk
  exact h1.lt
theorem Rdr.below {w w' : World} {g : Nat} {bs : List Int} {q : Nat} (h : Rdr w g bs q) (hb : Below (g + 1) w w') : Rdr w' g bs q := by
  obtain ⟨a, c, h1, h2⟩ := h.blk
  exact ⟨⟨a, c, h1.below hb (by omega), h2.below (hb.mono (by omega))⟩, h.len, h.byte⟩
theorem Rdr.dr {w w' : World} {g : Nat} {bs : List Int} {q : Nat} (h : Rdr w g bs q) (hd : Dr w w') : Rdr w' g bs q := h.below (hd.below _)
theorem Rdr.picked {w : World} {g : Nat} {bs : List Int} {q : Nat} (h : Rdr w g bs q) (n : Nat) :
    Rdr ((w.setCell ⟨g, 1, none⟩ (.int .i64 ((q : Int) + 1))).drewN n) g bs (q + 1) ∧ w.grownBy ((w.setCell ⟨g, 1, none⟩ (.int .i64 ((q : Int) + 1))).drewN n) (some g) ∧ ((w.setCell ⟨g, 1, none⟩ (.int .i64 ((q : Int) + 1))).drewN n).heap.size = w.heap.size := by
  obtain ⟨a, c, h1, h2⟩ := h.blk
  have e : w.grownBy ((w.setCell ⟨g, 1, none⟩ (.int .i64 ((q : Int) + 1))).drewN n) (some g) :=
    ⟨rfl, rfl, rfl, by simp [World.setCell], fun k hk hne => Below.heap_setCell w _ _ k (by rintro rfl; exact hne rfl)⟩
  refine ⟨⟨⟨a, c, (h1.set 1 _).drewN n, ?_⟩, h.len, h.byte⟩, e, by simp [World.setCell]⟩
  exact h2.below (((Below.refl g w).setCell (by simp) _).trans ((Dr.n _ n).below g))
theorem Rdr.slot {w : World} {g : Nat} {bs : List Int} {q : Nat} {k : Nat} {a : Option Addr} (h2 : Rd w g a (bs.map (Value.int .u8))) (hk : k < bs.length) : ∃ b o, a = some ⟨b, o, none⟩ ∧ b < g ∧ ∀ j (h : j < bs.length), w.cell? ⟨b, o + j, none⟩ = some (.int .u8 bs[j]) := by
  obtain ⟨b, o, h3, h4, h5⟩ := h2 (by intro e; simp at e; subst e; simp at hk)
  exact ⟨b, o, h3, h4, fun j hj => h5 j _ (by simp [hj])⟩

def Picked (g : Nat) (bs : List Int) (q : Nat) (n : Int) (w : World) (e : Ending) (w' : World) : Prop :=
  ∃ x : Int, e = .returned (.int .i64 x) ∧ 0 ≤ x ∧ (1 ≤ n → x < n) ∧ Rdr w' g bs (q + 1) ∧ w.grownBy w' (some g) ∧ w'.heap.size = w.heap.size

theorem pick_low (g q : Nat) (n : Int) (bs : List Int) (w : World) (hn : n < 1) (hq : q ≤ 1000000) (h : Rdr w g bs q) :
    Calls Tryd.prog 22 #[.pointer (some ⟨g, 0, none⟩), .int .i64 n] w (Picked g bs q n w) := by
  obtain ⟨a, c, hb, hr⟩ := h.blk
  have HP := Lib.hid h.picked
  have hc0 := hb.cell 0
  have hc1 := hb.cell 1
  have hf1 := hb.free 1
  simp at hc0 hc1
  go_enter Tryd.func22, Tryd.ntmps22
  go_wp2_with fail
  go_ret
  have hp := HP.out 0
  exact ⟨0, rfl, by omega, by omega, hp.1, hp.2.1, hp.2.2⟩

theorem pick_bare (g q : Nat) (n : Int) (w : World) (hn : 1 ≤ n) (hq : q ≤ 1000000) (h : Rdr w g [] q) :
    Calls Tryd.prog 22 #[.pointer (some ⟨g, 0, none⟩), .int .i64 n] w (Picked g [] q n w) := by
  obtain ⟨a, c, hb, hr⟩ := h.blk
  have HP := Lib.hid h.picked
  have hc0 := hb.cell 0
  have hc1 := hb.cell 1
  have hf1 := hb.free 1
  simp at hc0 hc1
  go_enter Tryd.func22, Tryd.ntmps22
  go_wp2_with fail
  go_ret
  have hp := HP.out 0
  exact ⟨0, rfl, by omega, by omega, hp.1, hp.2.1, hp.2.2⟩

theorem pick_near (g q : Nat) (n : Int) (bs : List Int) (w : World) (hn : 1 ≤ n) (hn2 : n ≤ 4294967296) (hq : q ≤ 1000000) (h : Rdr w g bs q) (hlt : q < bs.length) :
    Calls Tryd.prog 22 #[.pointer (some ⟨g, 0, none⟩), .int .i64 n] w (Picked g bs q n w) := by
  obtain ⟨a, c, hb, hr⟩ := h.blk
  have HP := Lib.hid h.picked
  obtain ⟨b, o, rfl, hbg, hcell⟩ := Rdr.slot (q := q) hr hlt
  have hne : b ≠ g := by omega
  have hl := h.len
  have hc0 := hb.cell 0
  have hc1 := hb.cell 1
  have hf1 := hb.free 1
  simp at hc0 hc1
  have hv := h.byte q hlt
  have hcx := hcell q hlt
  clear hcell h
  obtain ⟨x1, hx1⟩ : ∃ x1, x1 = bs[q] := ⟨_, rfl⟩
  rw [← hx1] at hcx hv
  clear hx1
  obtain ⟨N, hN⟩ : ∃ N, N = bs.length := ⟨_, rfl⟩
  rw [← hN] at hc0 hlt hl
  clear hN hb hr
  have hN0 : ¬ N = 0 := by omega
  have hl1 : ((N : Int) == 0) = false := by simp; omega
  go_enter Tryd.func22, Tryd.ntmps22
  go_wp2_with fail
  go_ret
  have hp := HP.out 0
  refine ⟨x1 % n, rfl, Int.emod_nonneg _ (by omega), fun _ => Int.emod_lt_of_pos _ (by omega), hp.1, hp.2.1, hp.2.2⟩

set_option maxHeartbeats 400000 in
theorem pick_far (g q : Nat) (n : Int) (bs : List Int) (w : World) (hn : 1 ≤ n) (hn2 : n ≤ 4294967296) (hq : q ≤ 1000000) (h : Rdr w g bs q) (h0 : 0 < bs.length) (hq2 : bs.length ≤ q) :
    Calls Tryd.prog 22 #[.pointer (some ⟨g, 0, none⟩), .int .i64 n] w (Picked g bs q n w) := by
  obtain ⟨a, c', hb, hr⟩ := h.blk
  have HP := Lib.hid h.picked
  obtain ⟨b, o, rfl, hbg, hcell⟩ := Rdr.slot (q := q) hr h0
  have hlen := h.len
  have c1 := hcell _ (Nat.mod_lt q h0)
  have c2 := hcell _ (Nat.mod_lt (q * 7 + 3) h0)
  have v1 := h.byte _ (Nat.mod_lt q h0)
  have v2 := h.byte _ (Nat.mod_lt (q * 7 + 3) h0)
  clear hcell h
  obtain ⟨x1, hx1⟩ : ∃ x, x = bs[q % bs.length]'(Nat.mod_lt q h0) := ⟨_, rfl⟩
  obtain ⟨x2, hx2⟩ : ∃ x, x = bs[(q * 7 + 3) % bs.length]'(Nat.mod_lt _ h0) := ⟨_, rfl⟩
  rw [← hx1] at c1 v1
  rw [← hx2] at c2 v2
  clear hx1 hx2
  obtain ⟨N, hN⟩ : ∃ N, N = bs.length := ⟨_, rfl⟩
  rw [← hN] at hb c1 c2 h0 hq2 hlen
  clear hN hr
  have hc0 := hb.cell 0
  have hc1 := hb.cell 1
  have hf1 := hb.free 1
  simp at hc0 hc1
  have hne : b ≠ g := by omega
  have hl1 : ((N : Int) == 0) = false := by simp; omega
  have hl2 : (0 : Int) < (N : Int) := by omega
  have hN0 : ¬ N = 0 := by omega
  have hqN : q / N ≤ q := Nat.div_le_self _ _
  obtain ⟨i1, hi1, m1, e1⟩ : ∃ i1 : Nat, q % N = i1 ∧ i1 < N ∧ (q : Int).tmod (N : Int) = (i1 : Int) := ⟨_, rfl, Nat.mod_lt _ h0, tmod_nat q N⟩
  obtain ⟨i2, hi2, m2, e4'⟩ : ∃ i2 : Nat, (q * 7 + 3) % N = i2 ∧ i2 < N ∧ ((q * 7 + 3 : Nat) : Int).tmod (N : Int) = (i2 : Int) := ⟨_, rfl, Nat.mod_lt _ h0, tmod_nat _ N⟩
  obtain ⟨r1, hr1, e2⟩ : ∃ r1 : Int, r1 = ((q * 7 : Nat) : Int) ∧ IntKind.i64.wrap ((q : Int) * 7) = r1 := ⟨_, rfl, by rw [w64 _ (by omega)]; simp⟩
  obtain ⟨r2, hr2, e3⟩ : ∃ r2 : Int, r2 = ((q * 7 + 3 : Nat) : Int) ∧ IntKind.i64.wrap (r1 + 3) = r2 := ⟨_, rfl, by rw [hr1, w64 _ (by omega)]; simp⟩
  rw [← hr2] at e4'
  rw [hi1] at c1
  rw [hi2] at c2
  obtain ⟨d, hd, e12, e12'⟩ : ∃ d : Int, (0 ≤ d ∧ d ≤ 1000000) ∧ IntKind.i64.wrap ((q : Int).tdiv (N : Int)) = d ∧ IntKind.i64.wrap ((q : Int) / (N : Int)) = d := by
    obtain ⟨dd, hdd, hdq⟩ : ∃ dd : Nat, q / N = dd ∧ dd ≤ q := ⟨_, rfl, Nat.div_le_self _ _⟩
    have e : ((q : Int) / (N : Int)) = (dd : Int) := by rw [← hdd]; simp
    refine ⟨(dd : Int), by omega, by rw [tdiv_nat, hdd, w64 _ (by omega)], by rw [e, w64 _ (by omega)]⟩
  obtain ⟨y1, hy1, e7⟩ : ∃ y : Int, (0 ≤ y ∧ y ≤ 100000) ∧ IntKind.i64.wrap (x1 * 131) = y := ⟨_, by rw [w64 _ (by omega)]; omega, rfl⟩
  obtain ⟨y2, hy2, e8⟩ : ∃ y : Int, (0 ≤ y ∧ y ≤ 1000000) ∧ IntKind.i64.wrap (x2 * 1117) = y := ⟨_, by rw [w64 _ (by omega)]; omega, rfl⟩
  obtain ⟨y3, hy3, e9⟩ : ∃ y : Int, (0 ≤ y ∧ y ≤ 2000000) ∧ IntKind.i64.wrap (y1 + y2) = y := ⟨_, by rw [w64 _ (by omega)]; omega, rfl⟩
  obtain ⟨y4, hy4, e10⟩ : ∃ y : Int, (0 ≤ y ∧ y ≤ 100000000) ∧ IntKind.i64.wrap ((q : Int) * 29) = y := ⟨_, by rw [w64 _ (by omega)]; omega, rfl⟩
  obtain ⟨y5, hy5, e11⟩ : ∃ y : Int, (0 ≤ y ∧ y ≤ 200000000) ∧ IntKind.i64.wrap (y3 + y4) = y := ⟨_, by rw [w64 _ (by omega)]; omega, rfl⟩
  obtain ⟨y6, hy6, e13⟩ : ∃ y : Int, (0 ≤ y ∧ y ≤ 100000000) ∧ IntKind.i64.wrap (d * 53) = y := ⟨_, by rw [w64 _ (by omega)]; omega, rfl⟩
  obtain ⟨y7, hy7, e14⟩ : ∃ y : Int, (0 ≤ y ∧ y ≤ 400000000) ∧ IntKind.i64.wrap (y5 + y6) = y := ⟨_, by rw [w64 _ (by omega)]; omega, rfl⟩
  have e5 : IntKind.i64.wrap x1 = x1 := w64 _ (by omega)
  have e6 : IntKind.i64.wrap x2 = x2 := w64 _ (by omega)
  clear hi1 hi2 hr1 hr2
  have hi1' : (0 : Int) ≤ (i1 : Int) := by omega
  have hi2' : (0 : Int) ≤ (i2 : Int) := by omega
  have hi1'' : (i1 : Int) < (N : Int) := by omega
  have hi2'' : (i2 : Int) < (N : Int) := by omega
  go_enter Tryd.func22, Tryd.ntmps22
  go_wp2_with fail
  go_quiet (fail)
  go_wp2
  go_ret
  have hp := HP.out nq
  have hx := i64_xor_nonneg y7 (y7 / 64) (by omega) (by omega) (by omega) (by omega)
  have ht : (bits .xor .i64 y7 (y7 / 64)).tmod n = (bits .xor .i64 y7 (y7 / 64)) % n := Int.tmod_eq_emod_of_nonneg hx.1
  refine ⟨_, rfl, ?_, fun _ => ?_, hp.1, hp.2.1, hp.2.2⟩
  · show 0 ≤ (bits .xor .i64 y7 (y7 / 64)).tmod n
    rw [ht]; exact Int.emod_nonneg _ (by omega)
  · show (bits .xor .i64 y7 (y7 / 64)).tmod n < n
    rw [ht]; exact Int.emod_lt_of_pos _ (by omega)

theorem pick_any (g q : Nat) (n : Int) (bs : List Int) (w : World) (hn2 : n ≤ 4294967296) (hq : q ≤ 1000000) (h : Rdr w g bs q) :
    Calls Tryd.prog 22 #[.pointer (some ⟨g, 0, none⟩), .int .i64 n] w (Picked g bs q n w) := by
  by_cases hn : n < 1
  · exact pick_low g q n bs w hn hq h
  · rcases Nat.eq_zero_or_pos bs.length with h0 | h0
    · obtain rfl := List.eq_nil_of_length_eq_zero h0
      exact pick_bare g q n w (by omega) hq h
    · rcases Nat.lt_or_ge q bs.length with h1 | h1
      · exact pick_near g q n bs w (by omega) hn2 hq h h1
      · exact pick_far g q n bs w (by omega) hn2 hq h h0 h1

/-- .one(list): one of the numbers of a list -/
theorem one_any (g q B c : Nat) (a : Option Addr) (M : List Int) (bs : List Int) (w : World) (hM : 0 < M.length) (hM2 : M.length ≤ 4294967296) (hq : q ≤ 1000000) (h : Rdr w g bs q) (hr : Rd w B a (ints M)) (hB : ∀ b o, a = some ⟨b, o, none⟩ → b ≠ g) :
    Calls Tryd.prog 24 #[.pointer (some ⟨g, 0, none⟩), .slice a M.length c] w fun e w' => ∃ k, ∃ hk : k < M.length, e = .returned (.int .i64 M[k]) ∧ Rdr w' g bs (q + 1) ∧ w.grownBy w' (some g) ∧ w'.heap.size = w.heap.size := by
  go_enter Tryd.func24, Tryd.ntmps24
  go_wp2_with fail
  refine (pick_any g q _ bs _ (by omega) hq h).mono ?_
  rintro e w1 ⟨x, rfl, hx0, hx1, h1, hg1, hs1⟩
  obtain ⟨k, rfl⟩ := Int.eq_ofNat_of_zero_le hx0
  have hk : k < M.length := by have := hx1 (by omega); omega
  obtain ⟨b, o, rfl, hb, hc⟩ := hr.at_ hk
  have hlt := World.block_lt_of_cell? _ _ hc
  have hc' : w1.cell? ⟨b, o + k, none⟩ = some (.int .i64 M[k]) := (World.cell?_of_block (hg1.block b hlt (by have := hB b o rfl; simpa using this))).trans hc
  clear hx1
  go_wp2_with fail
  go_ret
  exact ⟨k, hk, rfl, h1, hg1, hs1⟩

theorem rd_new (w : World) (cs : Array Value) (t : TypeId) : Rd (w.alloc (.cells cs t)) (w.heap.size + 1) (some ⟨w.heap.size, 0, none⟩) cs.toList := fun _ =>
  ⟨w.heap.size, 0, rfl, by omega, fun k v hk => by rw [Nat.zero_add, (show (w.alloc (.cells cs t)).heap[w.heap.size]? = some (.cells cs t (0, 0)) from heap_alloc_new w _) |> cell_of_row _ w.heap.size k cs t (0, 0)]; simpa using hk⟩

/-- block g alone, and new blocks, have turned -/
theorem chg_trans {a b c : World} {g : Nat} (h : a.grownBy b (some g)) (k : b.grownBy c (some g)) : a.grownBy c (some g) :=
  ⟨k.os.trans h.os, k.tape.trans h.tape, k.output.trans h.output, Nat.le_trans h.size k.size, fun i hi hne => (k.block i (Nat.lt_of_lt_of_le hi h.size) hne).trans (h.block i hi hne)⟩
theorem chg_alloc {a b : World} {g : Nat} (h : a.grownBy b (some g)) (o : Obj) : a.grownBy (b.alloc o) (some g) :=
  chg_trans h (World.grownBy_alloc b o _)
theorem chg_below {a b c : World} {g : Nat} (h : a.grownBy b (some g)) (k : Below a.heap.size b c) : a.grownBy c (some g) :=
  ⟨k.os.trans h.os, k.tape.trans h.tape, k.output.trans h.output, Nat.le_trans h.size k.size, fun i hi hne => (k.block i hi).trans (h.block i hi hne)⟩
theorem chg_row {a b c : World} {g : Nat} {row : Option Nat} (h : a.grownBy b (some g)) (k : b.grownBy c row) (hr : ∀ x, row = some x → a.heap.size ≤ x) : a.grownBy c (some g) :=
  chg_below h ((Below.refl a.heap.size b).grown k h.size hr)
theorem chg_low {a b : World} {g : Nat} (h : a.grownBy b (some g)) : Below g a b ∨ a.heap.size ≤ g := by
  rcases Nat.lt_or_ge g a.heap.size with hg | hg
  · exact .inl ⟨h.os, h.tape, h.output, h.size, fun k hk => h.block k (by omega) (by simp; omega)⟩
  · exact .inr hg
theorem Rdr.row {w w' : World} {g : Nat} {bs : List Int} {q : Nat} {row : Option Nat} (h : Rdr w g bs q) (hg : w.grownBy w' row) (hr : ∀ x, row = some x → g < x) : Rdr w' g bs q :=
  h.below ((Below.refl (g + 1) w).grown hg h.lt fun k hk => hr k hk)

theorem Own.chg {w w' : World} {lo hi g : Nat} {e : TypeId} {v : Value} {vs : List Value} (h : Own w lo hi e v vs) (hg : w.grownBy w' (some g)) (hlt : g < lo) : Own w' lo hi e v vs :=
  h.grown hg (.inr fun e => by have := h.base g e; omega)

theorem newReader_any (a : Option Addr) (c B : Nat) (bs : List Int) (w : World) (h : Rd w B a (bs.map (Value.int .u8))) (hB : B ≤ w.heap.size) (hb : ∀ n ∈ bs, (Lit.int .u8 n).wf = true) (hl : bs.length ≤ 1048576) (hc : bs.length ≤ c) :
    Calls Tryd.prog 14 #[.slice a bs.length c] w fun e w' => e = .returned (.pointer (some ⟨w.heap.size, 0, none⟩)) ∧ Rdr w' w.heap.size (bs.take 2000) 0 ∧ Below w.heap.size w w' ∧ w'.heap.size = w.heap.size + 1 := by
  have hbb : ∀ k (h : k < (bs.take 2000).length), 0 ≤ (bs.take 2000)[k] ∧ (bs.take 2000)[k] ≤ 255 := by
    intro k hk
    have := hb (bs.take 2000)[k] (List.mem_of_mem_take (List.getElem_mem hk))
    generalize (bs.take 2000)[k] = x at this ⊢
    simp [Lit.wf, IntKind.min, IntKind.max, IntKind.bits, IntKind.signed] at this
    omega
  by_cases h2 : 2000 < bs.length
  · have hcell : ∃ b o, a = some ⟨b, o, none⟩ := by
      obtain ⟨b, o, h1, _⟩ := h (by intro e; simp at e; subst e; simp at h2)
      exact ⟨b, o, h1⟩
    obtain ⟨b, o, rfl⟩ := hcell
    have hlen : (bs.take 2000).length = 2000 := by simp; omega
    have hc2 : (2000 : Int) ≤ (c : Int) := by omega
    have hR : Rd w w.heap.size (some ⟨b, o, none⟩) ((bs.take 2000).map (Value.int .u8)) := by have := (h.more hB).take 2000; rwa [← List.map_take] at this
    have hr : ∀ c', Rdr (w.alloc (.cells #[.slice (some ⟨b, o, none⟩) 2000 c', .int .i64 0] 53)) w.heap.size (bs.take 2000) 0 := fun c' =>
      ⟨⟨_, c', by rw [hlen]; exact Blk.new w _ _, hR.alloc (Nat.le_refl _) _⟩, by rw [hlen]; omega, hbb⟩
    have HR := Lib.hid hr
    clear hr hlen hbb hb
    go_enter Tryd.func14, Tryd.ntmps14
    go_wp2_with fail
    go_ret
    exact ⟨rfl, HR.out _, (Below.refl _ _).alloc (Nat.le_refl _) _, by simp⟩
  · have hlen : bs.take 2000 = bs := List.take_of_length_le (by omega)
    rw [hlen] at hbb ⊢
    have hr : Rdr (w.alloc (.cells #[.slice a bs.length c, .int .i64 0] 53)) w.heap.size bs 0 :=
      ⟨⟨_, c, Blk.new w _ _, (h.more hB).alloc (Nat.le_refl _) _⟩, by omega, hbb⟩
    have HR := Lib.hid hr
    clear hr hlen hbb hb
    go_enter Tryd.func14, Tryd.ntmps14
    go_wp2_with fail
    go_ret
    exact ⟨rfl, HR.out, (Below.refl _ _).alloc (Nat.le_refl _) _, by simp⟩
end Go.Proofs.YtmlomapifldlpaaDoor
namespace Go.Proofs.YtmlomapifldlpaaDoor
open Go.RowKit NP
set_option maxRecDepth 8000
set_option linter.unusedVariables false

/-- what the sums on the way stay within -/
def sumFits (L : List Int) : Prop := ∀ k, k ≤ L.length → -4611686018427387904 ≤ sumL (L.take k) ∧ sumL (L.take k) ≤ 4611686018427387904
theorem sumFits.next {L : List Int} (h : sumFits L) {k : Nat} (hk : k < L.length) : -4611686018427387904 ≤ sumL (L.take k) + L[k] ∧ sumL (L.take k) + L[k] ≤ 4611686018427387904 := by
  have := h (k + 1) (by omega)
  rw [sumL_take_succ L k hk] at this
  exact this

theorem inRange_yes (n lo hi : Int) (w : World) (h1 : lo ≤ n) (h2 : n ≤ hi) : Calls Tryd.prog 19 #[.int .i64 n, .int .i64 lo, .int .i64 hi] w fun e w' => e = .returned (.bool true) ∧ w' = w := by
  go_enter Tryd.func19, Tryd.ntmps19
  go_wp2
  go_ret
  exact ⟨rfl, rfl⟩
theorem inRange_no (n lo hi : Int) (w : World) (h : n < lo ∨ hi < n) : Calls Tryd.prog 19 #[.int .i64 n, .int .i64 lo, .int .i64 hi] w fun e w' => e = .returned (.bool false) ∧ w' = w := by
  by_cases h1 : lo ≤ n
  · have h2 : hi < n := by omega
    clear h
    go_enter Tryd.func19, Tryd.ntmps19
    go_wp2
    go_ret
    exact ⟨ret_bool (by simp; omega), rfl⟩
  · clear h
    go_enter Tryd.func19, Tryd.ntmps19
    go_wp2
    go_ret
    exact ⟨rfl, rfl⟩

end Go.Proofs.YtmlomapifldlpaaDoor
namespace Go.Proofs.YtmlomapifldlpaaDoor
open Go.RowKit NP
set_option maxRecDepth 8000
set_option linter.unusedVariables false
theorem T_int : (Tryd.prog.info? 3).map (fun i => (i.zero, i.size, i.bytes)) = some (some (.int .i64 0), 1, 8) := by kernel_rfl

theorem fill_set {L : List Int} {k : Nat} (hk : k < L.length) : (ints (L.take k) ++ List.replicate (L.length - k) (Value.int .i64 0)).set k (.int .i64 L[k]) = ints (L.take (k + 1)) ++ List.replicate (L.length - (k + 1)) (Value.int .i64 0) := by
  have e1 : (ints (L.take k)).length = k := by simp; omega
  rw [show L.length - k = (L.length - (k + 1)) + 1 by omega, List.replicate_succ, List.set_append_right _ _ (by omega), e1, Nat.sub_self, List.set_cons_zero, List.take_succ_eq_append_getElem hk]
  simp only [ints, List.map_append, List.map_cons, List.map_nil, List.append_assoc, List.cons_append, List.nil_append]

theorem T_int' : ∃ i, Tryd.prog.info? 3 = some i ∧ i.zero = some (.int .i64 0) ∧ i.size = 1 ∧ i.bytes = 8 := info_parts T_int


/-- the marks from m on -/
def marks (m : Int) (n : Nat) : List Int := (List.range n).map fun (j : Nat) => m + (j : Int)
theorem marks_len (m : Int) (n : Nat) : (marks m n).length = n := by simp [marks]
theorem marks_get (m : Int) (n j : Nat) (h : j < (marks m n).length) : (marks m n)[j] = m + (j : Int) := by simp [marks]
theorem mark_set {L : List Int} {m : Int} {k : Nat} (hk : k < L.length) : (ints (marks m k ++ L.drop k)).set k (.int .i64 (m + (k : Int))) = ints (marks m (k + 1) ++ L.drop (k + 1)) := by
  have e1 : (marks m k).length = k := marks_len m k
  rw [List.drop_eq_getElem_cons hk, ints, List.map_append, List.map_cons, List.set_append_right _ _ (by simp [e1]), List.length_map, e1, Nat.sub_self, List.set_cons_zero]
  simp [ints, marks, List.range_succ]




end Go.Proofs.YtmlomapifldlpaaDoor
namespace Go.Proofs.YtmlomapifldlpaaDoor
open Go.RowKit NP
set_option maxRecDepth 8000
set_option linter.unusedVariables false
attribute [local go_sem ↓] Go.wp_at_zero Go.wp_at_succ
/-- where x goes -/
def posOf (x : Int) (M : List Int) : Nat := ff (fun (j : Nat) => decide (x ≤ M.getD j 0)) M.length
def insK (M : List Int) (x : Int) : List Int := M.take (posOf x M) ++ x :: M.drop (posOf x M)
def mrg (L : List Int) : List Int := L.foldl insK []
end Go.Proofs.YtmlomapifldlpaaDoor
