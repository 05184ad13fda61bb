/-
  Plain mathematics of united parts: sorted lists with the same numbers are the same; two sorted lists merged. Walks: the reader that draws the arguments of a law: newReader, pick, one. Walks: the drawing of parts: newReader, sumFor, partsOf, goodParts, bent, someParts: whatever is drawn is a short list of small numbers in new memory. A door: the drawing of parts (D3a), with the words of W4. Plain mathematics of united and added parts: conjugates turn one into the other. Plain mathematics of orders: rows trimmed of zeros, meets, dominance and conjugates, ranks and cranks. Walks: ranks: the program's and the model's.
-/
import Derived.Test.YtgkghebjaedjmaaZA1
import Derived.Test.YtgkghebjaedjmaaZA2
import Derived.Test.YtgkghebjaedjmaaZA3
import Derived.Test.YtgkghebjaedjmaaProg
import Derived.Deep.QuietTactic
import Derived.BigQuiet
import Derived.Lib.Hide
import Derived.IntWalk
import Derived.Deep.RegionLaw
import Derived.Deep.DrawnRows
import Derived.Deep.RegionHeld3
import Derived.Deep.MidRow
import Derived.StillTailTactics
namespace Go.Proofs.Ytgkghebjaedjmaa
namespace NP
set_option linter.unusedVariables false
theorem eqc_cons (k x : Int) (r : List Int) : eqc k (x :: r) = (if x = k then 1 else 0) + eqc k r := rfl
theorem eqc_mem {k : Int} {L : List Int} (h : 0 < eqc k L) : k ∈ L := by
  induction L with
  | nil => simp [eqc] at h
  | cons x r ih =>
    rw [eqc_cons] at h
    by_cases hx : x = k
    · subst hx; simp
    · rw [if_neg hx] at h
      exact List.mem_cons_of_mem _ (ih (by omega))
theorem eqc_pos {k : Int} {L : List Int} (h : k ∈ L) : 0 < eqc k L := by
  induction L with
  | nil => simp at h
  | cons x r ih =>
    rw [eqc_cons]
    have := (eqc_bd k r).1
    rcases List.mem_cons.1 h with rfl | h
    · rw [if_pos rfl]; omega
    · have := ih h
      split <;> omega
theorem mono_eq {A B : List Int} (hA : mono A) (hB : mono B) (h : ∀ k, eqc k A = eqc k B) : A = B := by
  induction A generalizing B with
  | nil =>
    cases B with
    | nil => rfl
    | cons y t =>
      have h1 := h y
      have h2 := eqc_pos (k := y) (L := y :: t) (by simp)
      rw [← h1] at h2
      simp [eqc] at h2
  | cons x r ih =>
    cases B with
    | nil =>
      have h1 := h x
      have h2 := eqc_pos (k := x) (L := x :: r) (by simp)
      rw [h1] at h2
      simp [eqc] at h2
    | cons y t =>
      have hxy : x = y := by
        have h1 := eqc_mem (k := x) (L := y :: t) (by rw [← h x]; exact eqc_pos (by simp))
        have h2 := eqc_mem (k := y) (L := x :: r) (by rw [h y]; exact eqc_pos (by simp))
        have h3 : x ≤ y := by
          rcases List.mem_cons.1 h1 with rfl | h1
          · exact Int.le_refl _
          · exact hB.1 x h1
        have h4 : y ≤ x := by
          rcases List.mem_cons.1 h2 with rfl | h2
          · exact Int.le_refl _
          · exact hA.1 y h2
        omega
      subst hxy
      rw [ih hA.2 hB.2 fun k => by have := h k; rw [eqc_cons, eqc_cons] at this; omega]
theorem mono_append {A B : List Int} (hA : mono A) (hB : mono B) (h : ∀ x ∈ A, ∀ y ∈ B, y ≤ x) : mono (A ++ B) := by
  induction A with
  | nil => exact hB
  | cons x r ih =>
    refine ⟨fun y hy => ?_, ih hA.2 fun z hz => h z (by simp [hz])⟩
    rcases List.mem_append.1 hy with hy | hy
    · exact hA.1 y hy
    · exact h x (by simp) y hy
theorem mono_one (x : Int) : mono [x] := ⟨fun y hy => by simp at hy, trivial⟩
theorem mono_replicate (n : Nat) (x : Int) : mono (List.replicate n x) := by
  induction n with
  | zero => trivial
  | succ n ih => exact ⟨fun y hy => by have := List.eq_of_mem_replicate hy; omega, ih⟩
theorem eqc_replicate (k : Int) (n : Nat) (x : Int) : eqc k (List.replicate n x) = if x = k then (n : Int) else 0 := by
  induction n with
  | zero => simp [eqc]
  | succ n ih =>
    rw [List.replicate_succ, eqc_cons, ih]
    split <;> omega
/-- the two-way merge of the program, n steps: what has been laid, how many of the first, of the second -/
def um (P Q : Nat → Int) : Nat → List Int × Nat × Nat
  | 0 => ([], 0, 0)
  | n + 1 =>
    let s := um P Q n
    if Q s.2.2 ≤ P s.2.1 then (s.1 ++ [P s.2.1], s.2.1 + 1, s.2.2) else (s.1 ++ [Q s.2.2], s.2.1, s.2.2 + 1)
theorem um_step_yes (P Q : Nat → Int) (n : Nat) (h : Q (um P Q n).2.2 ≤ P (um P Q n).2.1) : um P Q (n + 1) = ((um P Q n).1 ++ [P (um P Q n).2.1], (um P Q n).2.1 + 1, (um P Q n).2.2) := by
  simp only [um]; rw [if_pos h]
theorem um_step_no (P Q : Nat → Int) (n : Nat) (h : ¬ Q (um P Q n).2.2 ≤ P (um P Q n).2.1) : um P Q (n + 1) = ((um P Q n).1 ++ [Q (um P Q n).2.2], (um P Q n).2.1, (um P Q n).2.2 + 1) := by
  simp only [um]; rw [if_neg h]
theorem um_count (P Q : Nat → Int) (n : Nat) : (um P Q n).2.1 + (um P Q n).2.2 = n ∧ (um P Q n).1.length = n := by
  induction n with
  | zero => exact ⟨rfl, rfl⟩
  | succ n ih =>
    by_cases h : Q (um P Q n).2.2 ≤ P (um P Q n).2.1
    · rw [um_step_yes P Q n h]
      simp only [List.length_append, List.length_cons, List.length_nil]
      omega
    · rw [um_step_no P Q n h]
      simp only [List.length_append, List.length_cons, List.length_nil]
      omega
def pre (P : Nat → Int) (i : Nat) : List Int := (List.range i).map P
theorem pre_succ (P : Nat → Int) (i : Nat) : pre P (i + 1) = pre P i ++ [P i] := by unfold pre; rw [List.range_succ, List.map_append]; rfl
theorem um_inv (P Q : Nat → Int) (hP : ∀ i, P (i + 1) ≤ P i) (hQ : ∀ i, Q (i + 1) ≤ Q i) (n : Nat) :
    mono (um P Q n).1 ∧ (∀ y ∈ (um P Q n).1, P (um P Q n).2.1 ≤ y ∧ Q (um P Q n).2.2 ≤ y) ∧ ∀ v, eqc v (um P Q n).1 = eqc v (pre P (um P Q n).2.1) + eqc v (pre Q (um P Q n).2.2) := by
  induction n with
  | zero => exact ⟨trivial, fun y hy => by simp [um] at hy, fun v => rfl⟩
  | succ n ih =>
    obtain ⟨h1, h2, h3⟩ := ih
    by_cases h : Q (um P Q n).2.2 ≤ P (um P Q n).2.1
    · rw [um_step_yes P Q n h]
      refine ⟨mono_append h1 (mono_one _) fun x hx y hy => ?_, fun y hy => ?_, fun v => ?_⟩
      · rw [List.mem_singleton] at hy
        subst hy
        exact (h2 x hx).1
      · have hp := hP (um P Q n).2.1
        rcases List.mem_append.1 hy with hy | hy
        · have := h2 y hy
          exact ⟨Int.le_trans hp this.1, this.2⟩
        · rw [List.mem_singleton] at hy
          subst hy
          exact ⟨hp, h⟩
      · show eqc v _ = eqc v (pre P ((um P Q n).2.1 + 1)) + eqc v (pre Q (um P Q n).2.2)
        rw [pre_succ, eqc_append, eqc_append, h3]
        omega
    · rw [um_step_no P Q n h]
      refine ⟨mono_append h1 (mono_one _) fun x hx y hy => ?_, fun y hy => ?_, fun v => ?_⟩
      · rw [List.mem_singleton] at hy
        subst hy
        exact (h2 x hx).2
      · have hp := hQ (um P Q n).2.2
        rcases List.mem_append.1 hy with hy | hy
        · have := h2 y hy
          exact ⟨this.1, Int.le_trans hp this.2⟩
        · rw [List.mem_singleton] at hy
          subst hy
          exact ⟨Int.le_of_lt (Int.not_le.1 h), hp⟩
      · show eqc v _ = eqc v (pre P (um P Q n).2.1) + eqc v (pre Q ((um P Q n).2.2 + 1))
        rw [pre_succ, eqc_append, eqc_append, h3]
        omega
theorem pre_parts {L : List Int} (i : Nat) (h : L.length ≤ i) : pre (fun i => L.getD i 0) i = L ++ List.replicate (i - L.length) 0 := by
  apply List.ext_getElem
  · simp [pre]; omega
  · intro j h1 h2
    simp only [pre, List.getElem_map, List.getElem_range]
    rcases Nat.lt_or_ge j L.length with h3 | h3
    · rw [List.getElem_append_left h3, getD_lt h3]
    · rw [List.getElem_append_right h3, getD_ge h3]; simp
/-- all of both, the greatest first, behind them noughts -/
theorem um_end {P Q M : List Int} (h : two P Q = true) (hM : mono M) (hMe : ∀ k, eqc k M = eqc k P + eqc k Q) (hMl : M.length = P.length + Q.length) (hM1 : ∀ x ∈ M, 1 ≤ x) : (um (fun i => P.getD i 0) (fun i => Q.getD i 0) 16).1 = pad M := by
  obtain ⟨hp, hq, hs⟩ := two_out h
  have hbp := valid_bd hp
  have hbq := valid_bd hq
  have hfp : ∀ i, P.getD (i + 1) 0 ≤ P.getD i 0 := fun i => by have := getD_fall hp (i + 1) (by omega); simpa using this
  have hfq : ∀ i, Q.getD (i + 1) 0 ≤ Q.getD i 0 := fun i => by have := getD_fall hq (i + 1) (by omega); simpa using this
  obtain ⟨h1, h2, h3⟩ := um_inv (fun i => P.getD i 0) (fun i => Q.getD i 0) hfp hfq 16
  obtain ⟨h4, h5⟩ := um_count (fun i => P.getD i 0) (fun i => Q.getD i 0) 16
  generalize (um (fun i => P.getD i 0) (fun i => Q.getD i 0) 16).1 = U at *
  generalize (um (fun i => P.getD i 0) (fun i => Q.getD i 0) 16).2.1 = i at *
  generalize (um (fun i => P.getD i 0) (fun i => Q.getD i 0) 16).2.2 = k at *
  have noz : ∀ (hn : ∀ y ∈ U, 1 ≤ y), eqc 0 U = 0 := fun hn => by
    rcases Int.lt_or_le 0 (eqc 0 U) with h | h
    · have := hn 0 (eqc_mem h); omega
    · have := (eqc_bd 0 U).1; omega
  have zer : ∀ (L : List Int) (n : Nat), eqc 0 (pre (fun i => L.getD i 0) n) = 0 → n ≤ L.length := fun L n hz => by
    rcases Nat.lt_or_ge L.length n with h | h
    · rw [pre_parts n (by omega), eqc_append, eqc_replicate, if_pos rfl] at hz
      have := (eqc_bd 0 L).1
      omega
    · exact h
  have hi : P.length ≤ i := by
    rcases Nat.lt_or_ge i P.length with h | h
    · have hz := noz fun y hy => by have := (h2 y hy).1; have := getD_pos hp h; omega
      have h0 := h3 0
      rw [hz] at h0
      have a := (eqc_bd 0 (pre (fun i => P.getD i 0) i)).1
      have b := (eqc_bd 0 (pre (fun i => Q.getD i 0) k)).1
      have := zer Q k (by omega)
      omega
    · exact h
  have hk : Q.length ≤ k := by
    rcases Nat.lt_or_ge k Q.length with h | h
    · have hz := noz fun y hy => by have := (h2 y hy).2; have := getD_pos hq h; omega
      have h0 := h3 0
      rw [hz] at h0
      have a := (eqc_bd 0 (pre (fun i => P.getD i 0) i)).1
      have b := (eqc_bd 0 (pre (fun i => Q.getD i 0) k)).1
      have := zer P i (by omega)
      omega
    · exact h
  apply mono_eq h1
  · unfold pad
    refine mono_append hM (mono_replicate _ _) fun x hx y hy => ?_
    have := List.eq_of_mem_replicate hy
    have := hM1 x hx
    omega
  · intro v
    rw [h3, pre_parts i hi, pre_parts k hk]
    unfold pad
    rw [eqc_append, eqc_append, eqc_append, eqc_replicate, eqc_replicate, eqc_replicate, hMe]
    split <;> omega
end NP
end Go.Proofs.Ytgkghebjaedjmaa
namespace Go.Proofs.Ytgkghebjaedjmaa
open Go.RowKit NP
set_option maxRecDepth 8000
set_option linter.unusedVariables false
theorem i64_xor_nonneg (a b : Int) (ha : 0 ≤ a) (ha2 : a < 4611686018427387904) (hb : 0 ≤ b) (hb2 : b < 4611686018427387904) : 0 ≤ bits .xor .i64 a b ∧ bits .xor .i64 a b < 4611686018427387904 := by
  obtain ⟨x, rfl⟩ := Int.eq_ofNat_of_zero_le ha
  obtain ⟨y, rfl⟩ := Int.eq_ofNat_of_zero_le hb
  have hx : x ^^^ y < 2 ^ 62 := Nat.xor_lt_two_pow (by omega) (by omega)
  have h1 : (BitVec.ofInt 64 (x : Int)).toNat = x := by
    rw [BitVec.ofInt_natCast, BitVec.toNat_ofNat]; exact Nat.mod_eq_of_lt (by omega)
  have h2 : (BitVec.ofInt 64 (y : Int)).toNat = y := by
    rw [BitVec.ofInt_natCast, BitVec.toNat_ofNat]; exact Nat.mod_eq_of_lt (by omega)
  have e : bits .xor .i64 (x : Int) (y : Int) = ((x ^^^ y : Nat) : Int) := by
    show IntKind.i64.wrap ((BitVec.ofInt 64 (x : Int) ^^^ BitVec.ofInt 64 (y : Int)).toNat : Int) = _
    rw [BitVec.toNat_xor, h1, h2, IntKind.wrap_i64]
    omega
  rw [e]
  omega
theorem w64 (x : Int) (h : -9223372036854775808 ≤ x ∧ x ≤ 9223372036854775807) : IntKind.i64.wrap x = x := IntWalk.i64_in _ h
theorem tmod_nat (q N : Nat) : (q : Int).tmod (N : Int) = ((q % N : Nat) : Int) := by rw [Int.tmod_eq_emod_of_nonneg (by omega)]; simp
theorem tdiv_nat (q N : Nat) : (q : Int).tdiv (N : Int) = ((q / N : Nat) : Int) := by rw [Int.tdiv_eq_ediv_of_nonneg (by omega)]; simp

/-- block g is a reader over the bytes bs, of which q picks have been made -/
structure Rdr (w : World) (g : Nat) (bs : List Int) (q : Nat) : Prop where
  blk : ∃ a c, Blk w g 110 #[.slice a bs.length c, .int .i64 q] ∧ Rd w g a (bs.map (Value.int .u8))
  len : bs.length ≤ 2000
  byte : ∀ k (h : k < bs.length), 0 ≤ bs[k] ∧ bs[k] ≤ 255
theorem Rdr.lt {w : World} {g : Nat} {bs : List Int} {q : Nat} (h : Rdr w g bs q) : g < w.heap.size := by
  obtain ⟨a, c, h1, h2⟩ := h.blk
  exact h1.lt
theorem Rdr.below {w w' : World} {g : Nat} {bs : List Int} {q : Nat} (h : Rdr w g bs q) (hb : Below (g + 1) w w') : Rdr w' g bs q := by
  obtain ⟨a, c, h1, h2⟩ := h.blk
  exact ⟨⟨a, c, h1.below hb (by omega), h2.below (hb.mono (by omega))⟩, h.len, h.byte⟩
theorem Rdr.dr {w w' : World} {g : Nat} {bs : List Int} {q : Nat} (h : Rdr w g bs q) (hd : Dr w w') : Rdr w' g bs q := h.below (hd.below _)
theorem Rdr.picked {w : World} {g : Nat} {bs : List Int} {q : Nat} (h : Rdr w g bs q) (n : Nat) :
    Rdr ((w.setCell ⟨g, 1, none⟩ (.int .i64 ((q : Int) + 1))).drewN n) g bs (q + 1) ∧ w.grownBy ((w.setCell ⟨g, 1, none⟩ (.int .i64 ((q : Int) + 1))).drewN n) (some g) ∧ ((w.setCell ⟨g, 1, none⟩ (.int .i64 ((q : Int) + 1))).drewN n).heap.size = w.heap.size := by
  obtain ⟨a, c, h1, h2⟩ := h.blk
  have e : w.grownBy ((w.setCell ⟨g, 1, none⟩ (.int .i64 ((q : Int) + 1))).drewN n) (some g) :=
    ⟨rfl, rfl, rfl, by simp [World.setCell], fun k hk hne => Below.heap_setCell w _ _ k (by rintro rfl; exact hne rfl)⟩
  refine ⟨⟨⟨a, c, (h1.set 1 _).drewN n, ?_⟩, h.len, h.byte⟩, e, by simp [World.setCell]⟩
  exact h2.below (((Below.refl g w).setCell (by simp) _).trans ((Dr.n _ n).below g))
theorem Rdr.slot {w : World} {g : Nat} {bs : List Int} {q : Nat} {k : Nat} {a : Option Addr} (h2 : Rd w g a (bs.map (Value.int .u8))) (hk : k < bs.length) : ∃ b o, a = some ⟨b, o, none⟩ ∧ b < g ∧ ∀ j (h : j < bs.length), w.cell? ⟨b, o + j, none⟩ = some (.int .u8 bs[j]) := by
  obtain ⟨b, o, h3, h4, h5⟩ := h2 (by intro e; simp at e; subst e; simp at hk)
  exact ⟨b, o, h3, h4, fun j hj => h5 j _ (by simp [hj])⟩

def Picked (g : Nat) (bs : List Int) (q : Nat) (n : Int) (w : World) (e : Ending) (w' : World) : Prop :=
  ∃ x : Int, e = .returned (.int .i64 x) ∧ 0 ≤ x ∧ (1 ≤ n → x < n) ∧ Rdr w' g bs (q + 1) ∧ w.grownBy w' (some g) ∧ w'.heap.size = w.heap.size

theorem pick_low (g q : Nat) (n : Int) (bs : List Int) (w : World) (hn : n < 1) (hq : q ≤ 1000000) (h : Rdr w g bs q) :
    Calls Try.prog 87 #[.pointer (some ⟨g, 0, none⟩), .int .i64 n] w (Picked g bs q n w) := by
  obtain ⟨a, c, hb, hr⟩ := h.blk
  have HP := Lib.hid h.picked
  have hc0 := hb.cell 0
  have hc1 := hb.cell 1
  have hf1 := hb.free 1
  simp at hc0 hc1
  go_enter Try.func87, Try.ntmps87
  go_wp2_with fail
  go_ret
  have hp := HP.out 0
  exact ⟨0, rfl, by omega, by omega, hp.1, hp.2.1, hp.2.2⟩

theorem pick_bare (g q : Nat) (n : Int) (w : World) (hn : 1 ≤ n) (hq : q ≤ 1000000) (h : Rdr w g [] q) :
    Calls Try.prog 87 #[.pointer (some ⟨g, 0, none⟩), .int .i64 n] w (Picked g [] q n w) := by
  obtain ⟨a, c, hb, hr⟩ := h.blk
  have HP := Lib.hid h.picked
  have hc0 := hb.cell 0
  have hc1 := hb.cell 1
  have hf1 := hb.free 1
  simp at hc0 hc1
  go_enter Try.func87, Try.ntmps87
  go_wp2_with fail
  go_ret
  have hp := HP.out 0
  exact ⟨0, rfl, by omega, by omega, hp.1, hp.2.1, hp.2.2⟩

theorem pick_near (g q : Nat) (n : Int) (bs : List Int) (w : World) (hn : 1 ≤ n) (hn2 : n ≤ 4294967296) (hq : q ≤ 1000000) (h : Rdr w g bs q) (hlt : q < bs.length) :
    Calls Try.prog 87 #[.pointer (some ⟨g, 0, none⟩), .int .i64 n] w (Picked g bs q n w) := by
  obtain ⟨a, c, hb, hr⟩ := h.blk
  have HP := Lib.hid h.picked
  obtain ⟨b, o, rfl, hbg, hcell⟩ := Rdr.slot (q := q) hr hlt
  have hne : b ≠ g := by omega
  have hl := h.len
  have hc0 := hb.cell 0
  have hc1 := hb.cell 1
  have hf1 := hb.free 1
  simp at hc0 hc1
  have hv := h.byte q hlt
  have hcx := hcell q hlt
  clear hcell h
  obtain ⟨x1, hx1⟩ : ∃ x1, x1 = bs[q] := ⟨_, rfl⟩
  rw [← hx1] at hcx hv
  clear hx1
  obtain ⟨N, hN⟩ : ∃ N, N = bs.length := ⟨_, rfl⟩
  rw [← hN] at hc0 hlt hl
  clear hN hb hr
  have hN0 : ¬ N = 0 := by omega
  have hl1 : ((N : Int) == 0) = false := by simp; omega
  go_enter Try.func87, Try.ntmps87
  go_wp2_with fail
  go_ret
  have hp := HP.out 0
  refine ⟨x1 % n, rfl, Int.emod_nonneg _ (by omega), fun _ => Int.emod_lt_of_pos _ (by omega), hp.1, hp.2.1, hp.2.2⟩

set_option maxHeartbeats 400000 in
theorem pick_far (g q : Nat) (n : Int) (bs : List Int) (w : World) (hn : 1 ≤ n) (hn2 : n ≤ 4294967296) (hq : q ≤ 1000000) (h : Rdr w g bs q) (h0 : 0 < bs.length) (hq2 : bs.length ≤ q) :
    Calls Try.prog 87 #[.pointer (some ⟨g, 0, none⟩), .int .i64 n] w (Picked g bs q n w) := by
  obtain ⟨a, c', hb, hr⟩ := h.blk
  have HP := Lib.hid h.picked
  obtain ⟨b, o, rfl, hbg, hcell⟩ := Rdr.slot (q := q) hr h0
  have hlen := h.len
  have c1 := hcell _ (Nat.mod_lt q h0)
  have c2 := hcell _ (Nat.mod_lt (q * 7 + 3) h0)
  have v1 := h.byte _ (Nat.mod_lt q h0)
  have v2 := h.byte _ (Nat.mod_lt (q * 7 + 3) h0)
  clear hcell h
  obtain ⟨x1, hx1⟩ : ∃ x, x = bs[q % bs.length]'(Nat.mod_lt q h0) := ⟨_, rfl⟩
  obtain ⟨x2, hx2⟩ : ∃ x, x = bs[(q * 7 + 3) % bs.length]'(Nat.mod_lt _ h0) := ⟨_, rfl⟩
  rw [← hx1] at c1 v1
  rw [← hx2] at c2 v2
  clear hx1 hx2
  obtain ⟨N, hN⟩ : ∃ N, N = bs.length := ⟨_, rfl⟩
  rw [← hN] at hb c1 c2 h0 hq2 hlen
  clear hN hr
  have hc0 := hb.cell 0
  have hc1 := hb.cell 1
  have hf1 := hb.free 1
  simp at hc0 hc1
  have hne : b ≠ g := by omega
  have hl1 : ((N : Int) == 0) = false := by simp; omega
  have hl2 : (0 : Int) < (N : Int) := by omega
  have hN0 : ¬ N = 0 := by omega
  have hqN : q / N ≤ q := Nat.div_le_self _ _
  obtain ⟨i1, hi1, m1, e1⟩ : ∃ i1 : Nat, q % N = i1 ∧ i1 < N ∧ (q : Int).tmod (N : Int) = (i1 : Int) := ⟨_, rfl, Nat.mod_lt _ h0, tmod_nat q N⟩
  obtain ⟨i2, hi2, m2, e4'⟩ : ∃ i2 : Nat, (q * 7 + 3) % N = i2 ∧ i2 < N ∧ ((q * 7 + 3 : Nat) : Int).tmod (N : Int) = (i2 : Int) := ⟨_, rfl, Nat.mod_lt _ h0, tmod_nat _ N⟩
  obtain ⟨r1, hr1, e2⟩ : ∃ r1 : Int, r1 = ((q * 7 : Nat) : Int) ∧ IntKind.i64.wrap ((q : Int) * 7) = r1 := ⟨_, rfl, by rw [w64 _ (by omega)]; simp⟩
  obtain ⟨r2, hr2, e3⟩ : ∃ r2 : Int, r2 = ((q * 7 + 3 : Nat) : Int) ∧ IntKind.i64.wrap (r1 + 3) = r2 := ⟨_, rfl, by rw [hr1, w64 _ (by omega)]; simp⟩
  rw [← hr2] at e4'
  rw [hi1] at c1
  rw [hi2] at c2
  obtain ⟨d, hd, e12, e12'⟩ : ∃ d : Int, (0 ≤ d ∧ d ≤ 1000000) ∧ IntKind.i64.wrap ((q : Int).tdiv (N : Int)) = d ∧ IntKind.i64.wrap ((q : Int) / (N : Int)) = d := by
    obtain ⟨dd, hdd, hdq⟩ : ∃ dd : Nat, q / N = dd ∧ dd ≤ q := ⟨_, rfl, Nat.div_le_self _ _⟩
    have e : ((q : Int) / (N : Int)) = (dd : Int) := by rw [← hdd]; simp
    refine ⟨(dd : Int), by omega, by rw [tdiv_nat, hdd, w64 _ (by omega)], by rw [e, w64 _ (by omega)]⟩
  obtain ⟨y1, hy1, e7⟩ : ∃ y : Int, (0 ≤ y ∧ y ≤ 100000) ∧ IntKind.i64.wrap (x1 * 131) = y := ⟨_, by rw [w64 _ (by omega)]; omega, rfl⟩
  obtain ⟨y2, hy2, e8⟩ : ∃ y : Int, (0 ≤ y ∧ y ≤ 1000000) ∧ IntKind.i64.wrap (x2 * 1117) = y := ⟨_, by rw [w64 _ (by omega)]; omega, rfl⟩
  obtain ⟨y3, hy3, e9⟩ : ∃ y : Int, (0 ≤ y ∧ y ≤ 2000000) ∧ IntKind.i64.wrap (y1 + y2) = y := ⟨_, by rw [w64 _ (by omega)]; omega, rfl⟩
  obtain ⟨y4, hy4, e10⟩ : ∃ y : Int, (0 ≤ y ∧ y ≤ 100000000) ∧ IntKind.i64.wrap ((q : Int) * 29) = y := ⟨_, by rw [w64 _ (by omega)]; omega, rfl⟩
  obtain ⟨y5, hy5, e11⟩ : ∃ y : Int, (0 ≤ y ∧ y ≤ 200000000) ∧ IntKind.i64.wrap (y3 + y4) = y := ⟨_, by rw [w64 _ (by omega)]; omega, rfl⟩
  obtain ⟨y6, hy6, e13⟩ : ∃ y : Int, (0 ≤ y ∧ y ≤ 100000000) ∧ IntKind.i64.wrap (d * 53) = y := ⟨_, by rw [w64 _ (by omega)]; omega, rfl⟩
  obtain ⟨y7, hy7, e14⟩ : ∃ y : Int, (0 ≤ y ∧ y ≤ 400000000) ∧ IntKind.i64.wrap (y5 + y6) = y := ⟨_, by rw [w64 _ (by omega)]; omega, rfl⟩
  have e5 : IntKind.i64.wrap x1 = x1 := w64 _ (by omega)
  have e6 : IntKind.i64.wrap x2 = x2 := w64 _ (by omega)
  clear hi1 hi2 hr1 hr2
  have hi1' : (0 : Int) ≤ (i1 : Int) := by omega
  have hi2' : (0 : Int) ≤ (i2 : Int) := by omega
  have hi1'' : (i1 : Int) < (N : Int) := by omega
  have hi2'' : (i2 : Int) < (N : Int) := by omega
  go_enter Try.func87, Try.ntmps87
  go_wp2_with fail
  go_quiet (fail)
  go_wp2
  go_ret
  have hp := HP.out nq
  have hx := i64_xor_nonneg y7 (y7 / 64) (by omega) (by omega) (by omega) (by omega)
  have ht : (bits .xor .i64 y7 (y7 / 64)).tmod n = (bits .xor .i64 y7 (y7 / 64)) % n := Int.tmod_eq_emod_of_nonneg hx.1
  refine ⟨_, rfl, ?_, fun _ => ?_, hp.1, hp.2.1, hp.2.2⟩
  · show 0 ≤ (bits .xor .i64 y7 (y7 / 64)).tmod n
    rw [ht]; exact Int.emod_nonneg _ (by omega)
  · show (bits .xor .i64 y7 (y7 / 64)).tmod n < n
    rw [ht]; exact Int.emod_lt_of_pos _ (by omega)

theorem pick_any (g q : Nat) (n : Int) (bs : List Int) (w : World) (hn2 : n ≤ 4294967296) (hq : q ≤ 1000000) (h : Rdr w g bs q) :
    Calls Try.prog 87 #[.pointer (some ⟨g, 0, none⟩), .int .i64 n] w (Picked g bs q n w) := by
  by_cases hn : n < 1
  · exact pick_low g q n bs w hn hq h
  · rcases Nat.eq_zero_or_pos bs.length with h0 | h0
    · obtain rfl := List.eq_nil_of_length_eq_zero h0
      exact pick_bare g q n w (by omega) hq h
    · rcases Nat.lt_or_ge q bs.length with h1 | h1
      · exact pick_near g q n bs w (by omega) hn2 hq h h1
      · exact pick_far g q n bs w (by omega) hn2 hq h h0 h1

/-- .one(list): one of the numbers of a list -/
theorem one_any (g q B c : Nat) (a : Option Addr) (M : List Int) (bs : List Int) (w : World) (hM : 0 < M.length) (hM2 : M.length ≤ 4294967296) (hq : q ≤ 1000000) (h : Rdr w g bs q) (hr : Rd w B a (ints M)) (hB : ∀ b o, a = some ⟨b, o, none⟩ → b ≠ g) :
    Calls Try.prog 60 #[.pointer (some ⟨g, 0, none⟩), .slice a M.length c] w fun e w' => ∃ k, ∃ hk : k < M.length, e = .returned (.int .i64 M[k]) ∧ Rdr w' g bs (q + 1) ∧ w.grownBy w' (some g) ∧ w'.heap.size = w.heap.size := by
  go_enter Try.func60, Try.ntmps60
  go_wp2_with fail
  refine (pick_any g q _ bs _ (by omega) hq h).mono ?_
  rintro e w1 ⟨x, rfl, hx0, hx1, h1, hg1, hs1⟩
  obtain ⟨k, rfl⟩ := Int.eq_ofNat_of_zero_le hx0
  have hk : k < M.length := by have := hx1 (by omega); omega
  obtain ⟨b, o, rfl, hb, hc⟩ := hr.at_ hk
  have hlt := World.block_lt_of_cell? _ _ hc
  have hc' : w1.cell? ⟨b, o + k, none⟩ = some (.int .i64 M[k]) := (World.cell?_of_block (hg1.block b hlt (by have := hB b o rfl; simpa using this))).trans hc
  clear hx1
  go_wp2_with fail
  go_ret
  exact ⟨k, hk, rfl, h1, hg1, hs1⟩

theorem rd_new (w : World) (cs : Array Value) (t : TypeId) : Rd (w.alloc (.cells cs t)) (w.heap.size + 1) (some ⟨w.heap.size, 0, none⟩) cs.toList := fun _ =>
  ⟨w.heap.size, 0, rfl, by omega, fun k v hk => by rw [Nat.zero_add, (show (w.alloc (.cells cs t)).heap[w.heap.size]? = some (.cells cs t (0, 0)) from heap_alloc_new w _) |> cell_of_row _ w.heap.size k cs t (0, 0)]; simpa using hk⟩

/-- block g alone, and new blocks, have turned -/
theorem chg_trans {a b c : World} {g : Nat} (h : a.grownBy b (some g)) (k : b.grownBy c (some g)) : a.grownBy c (some g) :=
  ⟨k.os.trans h.os, k.tape.trans h.tape, k.output.trans h.output, Nat.le_trans h.size k.size, fun i hi hne => (k.block i (Nat.lt_of_lt_of_le hi h.size) hne).trans (h.block i hi hne)⟩
theorem chg_alloc {a b : World} {g : Nat} (h : a.grownBy b (some g)) (o : Obj) : a.grownBy (b.alloc o) (some g) :=
  chg_trans h (World.grownBy_alloc b o _)
theorem chg_below {a b c : World} {g : Nat} (h : a.grownBy b (some g)) (k : Below a.heap.size b c) : a.grownBy c (some g) :=
  ⟨k.os.trans h.os, k.tape.trans h.tape, k.output.trans h.output, Nat.le_trans h.size k.size, fun i hi hne => (k.block i hi).trans (h.block i hi hne)⟩
theorem chg_row {a b c : World} {g : Nat} {row : Option Nat} (h : a.grownBy b (some g)) (k : b.grownBy c row) (hr : ∀ x, row = some x → a.heap.size ≤ x) : a.grownBy c (some g) :=
  chg_below h ((Below.refl a.heap.size b).grown k h.size hr)
theorem chg_low {a b : World} {g : Nat} (h : a.grownBy b (some g)) : Below g a b ∨ a.heap.size ≤ g := by
  rcases Nat.lt_or_ge g a.heap.size with hg | hg
  · exact .inl ⟨h.os, h.tape, h.output, h.size, fun k hk => h.block k (by omega) (by simp; omega)⟩
  · exact .inr hg
theorem Rdr.row {w w' : World} {g : Nat} {bs : List Int} {q : Nat} {row : Option Nat} (h : Rdr w g bs q) (hg : w.grownBy w' row) (hr : ∀ x, row = some x → g < x) : Rdr w' g bs q :=
  h.below ((Below.refl (g + 1) w).grown hg h.lt fun k hk => hr k hk)

theorem Own.chg {w w' : World} {lo hi g : Nat} {e : TypeId} {v : Value} {vs : List Value} (h : Own w lo hi e v vs) (hg : w.grownBy w' (some g)) (hlt : g < lo) : Own w' lo hi e v vs :=
  h.grown hg (.inr fun e => by have := h.base g e; omega)

theorem newReader_any (a : Option Addr) (c B : Nat) (bs : List Int) (w : World) (h : Rd w B a (bs.map (Value.int .u8))) (hB : B ≤ w.heap.size) (hb : ∀ n ∈ bs, (Lit.int .u8 n).wf = true) (hl : bs.length ≤ 1048576) (hc : bs.length ≤ c) :
    Calls Try.prog 59 #[.slice a bs.length c] w fun e w' => e = .returned (.pointer (some ⟨w.heap.size, 0, none⟩)) ∧ Rdr w' w.heap.size (bs.take 2000) 0 ∧ Below w.heap.size w w' ∧ w'.heap.size = w.heap.size + 1 := by
  have hbb : ∀ k (h : k < (bs.take 2000).length), 0 ≤ (bs.take 2000)[k] ∧ (bs.take 2000)[k] ≤ 255 := by
    intro k hk
    have := hb (bs.take 2000)[k] (List.mem_of_mem_take (List.getElem_mem hk))
    generalize (bs.take 2000)[k] = x at this ⊢
    simp [Lit.wf, IntKind.min, IntKind.max, IntKind.bits, IntKind.signed] at this
    omega
  by_cases h2 : 2000 < bs.length
  · have hcell : ∃ b o, a = some ⟨b, o, none⟩ := by
      obtain ⟨b, o, h1, _⟩ := h (by intro e; simp at e; subst e; simp at h2)
      exact ⟨b, o, h1⟩
    obtain ⟨b, o, rfl⟩ := hcell
    have hlen : (bs.take 2000).length = 2000 := by simp; omega
    have hc2 : (2000 : Int) ≤ (c : Int) := by omega
    have hR : Rd w w.heap.size (some ⟨b, o, none⟩) ((bs.take 2000).map (Value.int .u8)) := by have := (h.more hB).take 2000; rwa [← List.map_take] at this
    have hr : ∀ c', Rdr (w.alloc (.cells #[.slice (some ⟨b, o, none⟩) 2000 c', .int .i64 0] 110)) w.heap.size (bs.take 2000) 0 := fun c' =>
      ⟨⟨_, c', by rw [hlen]; exact Blk.new w _ _, hR.alloc (Nat.le_refl _) _⟩, by rw [hlen]; omega, hbb⟩
    have HR := Lib.hid hr
    clear hr hlen hbb hb
    go_enter Try.func59, Try.ntmps59
    go_wp2_with fail
    go_ret
    exact ⟨rfl, HR.out _, (Below.refl _ _).alloc (Nat.le_refl _) _, by simp⟩
  · have hlen : bs.take 2000 = bs := List.take_of_length_le (by omega)
    rw [hlen] at hbb ⊢
    have hr : Rdr (w.alloc (.cells #[.slice a bs.length c, .int .i64 0] 110)) w.heap.size bs 0 :=
      ⟨⟨_, c, Blk.new w _ _, (h.more hB).alloc (Nat.le_refl _) _⟩, by omega, hbb⟩
    have HR := Lib.hid hr
    clear hr hlen hbb hb
    go_enter Try.func59, Try.ntmps59
    go_wp2_with fail
    go_ret
    exact ⟨rfl, HR.out, (Below.refl _ _).alloc (Nat.le_refl _) _, by simp⟩
end Go.Proofs.Ytgkghebjaedjmaa
namespace Go.Proofs.Ytgkghebjaedjmaa
open Go.RowKit NP
set_option maxRecDepth 8000
set_option linter.unusedVariables false
attribute [local go_sem ↓] Go.wp_at_zero Go.wp_at_succ
/-- where x goes -/
def posOf (x : Int) (M : List Int) : Nat := ff (fun (j : Nat) => decide (x ≤ M.getD j 0)) M.length
def insK (M : List Int) (x : Int) : List Int := M.take (posOf x M) ++ x :: M.drop (posOf x M)
def mrg (L : List Int) : List Int := L.foldl insK []
end Go.Proofs.Ytgkghebjaedjmaa
namespace Go.Proofs.Ytgkghebjaedjmaa
open Go.RowKit NP
set_option maxRecDepth 8000
set_option linter.unusedVariables false

def Small (M : List Int) : Prop := M.length ≤ 40 ∧ ∀ x ∈ M, -1 ≤ x ∧ x ≤ 17
def SmallParts (M : List Int) : Prop := M.length ≤ 16 ∧ ∀ x ∈ M, 1 ≤ x ∧ x ≤ 16

theorem insK_len (M : List Int) (x : Int) : (insK M x).length = M.length + 1 := by
  unfold insK; simp; omega
theorem insK_mem {M : List Int} {x y : Int} (h : y ∈ insK M x) : y = x ∨ y ∈ M := by
  unfold insK at h
  simp at h
  rcases h with h | h | h
  · exact .inr (List.mem_of_mem_take h)
  · exact .inl h
  · exact .inr (List.mem_of_mem_drop h)
theorem fold_ins (L : List Int) : ∀ M, (L.foldl insK M).length = L.length + M.length ∧ ∀ y ∈ L.foldl insK M, y ∈ L ∨ y ∈ M := by
  induction L with
  | nil => intro M; exact ⟨by simp, fun y hy => .inr hy⟩
  | cons x r ih =>
    intro M
    simp only [List.foldl_cons]
    have h := ih (insK M x)
    refine ⟨by rw [h.1, insK_len]; simp; omega, fun y hy => ?_⟩
    rcases h.2 y hy with h1 | h1
    · exact .inl (by simp [h1])
    · rcases insK_mem h1 with rfl | h2
      · exact .inl (by simp)
      · exact .inr h2
theorem mrg_small {L : List Int} (h : SmallParts L) : SmallParts (mrg L) := by
  have hf := fold_ins L []
  refine ⟨by unfold mrg; rw [hf.1]; simpa using h.1, fun x hx => ?_⟩
  rcases hf.2 x hx with h1 | h1
  · exact h.2 x h1
  · simp at h1




theorem below_push' {g : Nat} {w0 w w1 : World} {o : Obj} {row : Option Nat} (hb : Below g w0 w) (hB : g < w.heap.size) (hg : (w.alloc o).grownBy w1 row) (hr : ∀ k, row = some k → g ≤ k) : Below g w0 w1 :=
  (hb.alloc (by omega) o).grown hg (by simp; omega) hr

/-- what a draw of parts leaves -/
def Drawn (g : Nat) (bs : List Int) (P : List Int → Prop) (top : Nat) (w : World) (e : Ending) (w' : World) : Prop :=
  ∃ a' c' M, e = .returned (.slice a' M.length c') ∧ Own w' w.heap.size w'.heap.size 3 (.slice a' M.length c') (ints M) ∧ P M ∧ (∃ q', q' ≤ top ∧ Rdr w' g bs q') ∧ w.grownBy w' (some g)


/-- but for block g, nothing below lo has turned -/
structure Chg (g lo : Nat) (w w' : World) : Prop where
  os : w'.os = w.os
  tape : w'.tape = w.tape
  output : w'.output = w.output
  size : w.heap.size ≤ w'.heap.size
  block : ∀ k, k < lo → k ≠ g → w'.heap[k]? = w.heap[k]?
theorem Chg.trans {g lo : Nat} {a b c : World} (h : Chg g lo a b) (k : Chg g lo b c) : Chg g lo a c :=
  ⟨k.os.trans h.os, k.tape.trans h.tape, k.output.trans h.output, Nat.le_trans h.size k.size, fun i hi hne => (k.block i hi hne).trans (h.block i hi hne)⟩
theorem Chg.of {g lo : Nat} {w w' : World} (h : w.grownBy w' (some g)) (hlo : lo ≤ w.heap.size) : Chg g lo w w' :=
  ⟨h.os, h.tape, h.output, h.size, fun k hk hne => h.block k (by omega) (fun e => by injection e with e; exact hne e)⟩
theorem Chg.ofBelow {g lo : Nat} {w w' : World} (h : Below lo w w') : Chg g lo w w' := ⟨h.os, h.tape, h.output, h.size, fun k hk _ => h.block k hk⟩
theorem Chg.below {g lo : Nat} {w w' : World} (h : Chg g lo w w') (hg : g ≤ lo) : Below g w w' := ⟨h.os, h.tape, h.output, h.size, fun k hk => h.block k (by omega) (by omega)⟩
theorem Chg.grown {g : Nat} {w w' : World} (h : Chg g w.heap.size w w') : w.grownBy w' (some g) := ⟨h.os, h.tape, h.output, h.size, fun k hk hne => h.block k hk (fun e => hne (by rw [e]))⟩
theorem Chg.push {g lo : Nat} {w0 w w1 : World} {o : Obj} {row : Option Nat} (hb : Chg g lo w0 w) (hB : lo ≤ w.heap.size) (hg : (w.alloc o).grownBy w1 row) (hr : ∀ k, row = some k → lo ≤ k) : Chg g lo w0 w1 :=
  hb.trans (.ofBelow (((Below.refl lo w).alloc hB o).grown hg (by simp; omega) hr))














end Go.Proofs.Ytgkghebjaedjmaa

namespace Go.Proofs.Ytgkghebjaedjmaa
namespace NP
set_option linter.unusedVariables false
theorem mono_split {A B : List Int} (h : mono (A ++ B)) : mono A ∧ mono B ∧ ∀ x ∈ A, ∀ y ∈ B, y ≤ x := by
  induction A with
  | nil => exact ⟨trivial, h, fun x hx => by simp at hx⟩
  | cons x r ih =>
    obtain ⟨h1, h2⟩ := h
    obtain ⟨h3, h4, h5⟩ := ih h2
    refine ⟨⟨fun y hy => h1 y (List.mem_append_left _ hy), h3⟩, h4, fun z hz y hy => ?_⟩
    rcases List.mem_cons.1 hz with rfl | hz
    · exact h1 y (List.mem_append_right _ hy)
    · exact h5 z hz y hy
theorem mono_head {D : List Int} (h : mono D) (i : Nat) (hi : i < D.length) : D[i] ≤ D[0]'(by omega) := by
  match D, h with
  | [], _ => simp at hi
  | y :: t, h =>
    match i, hi with
    | 0, _ => exact Int.le_refl _
    | i + 1, hi => exact h.1 _ (List.getElem_mem _)
theorem insK_mono {M : List Int} (h : mono M) (x : Int) : mono (insK M x) := by
  have hs := ff_spec (fun (j : Nat) => decide (x ≤ M.getD j 0)) M.length
  have e := List.take_append_drop (posOf x M) M
  rw [← e] at h
  obtain ⟨h1, h2, h3⟩ := mono_split h
  have hd : ∀ y ∈ M.drop (posOf x M), y ≤ x := fun y hy => by
    obtain ⟨i, hi, rfl⟩ := List.getElem_of_mem hy
    simp at hi
    rcases hs.2.2 with hs2 | hs2
    · have : posOf x M = M.length := hs2
      omega
    · have hp : posOf x M < M.length := by omega
      have hx : ¬ x ≤ M.getD (posOf x M) 0 := of_decide_eq_false hs2
      rw [getD_lt hp] at hx
      have h4 := mono_head h2 i (by simp; omega)
      simp at h4
      rw [List.getElem_drop]
      omega
  unfold insK
  refine mono_append h1 ⟨hd, h2⟩ fun a ha b hb => ?_
  rcases List.mem_cons.1 hb with rfl | hb
  · obtain ⟨i, hi, rfl⟩ := List.getElem_of_mem ha
    simp at hi
    have := of_decide_eq_true (hs.2.1 i (by unfold posOf at hi; omega))
    rw [getD_lt (by omega)] at this
    rw [List.getElem_take]
    exact this
  · exact h3 a ha b hb
theorem insK_eqc (M : List Int) (x k : Int) : eqc k (insK M x) = eqc k M + (if x = k then 1 else 0) := by
  have e : eqc k M = eqc k (M.take (posOf x M)) + eqc k (M.drop (posOf x M)) := by rw [← eqc_append, List.take_append_drop]
  unfold insK
  rw [eqc_append, eqc_cons, e]
  omega
theorem insK_sum (M : List Int) (x : Int) : sumL (insK M x) = sumL M + x := by
  have e : sumL M = sumL (M.take (posOf x M)) + sumL (M.drop (posOf x M)) := by rw [← sumL_append, List.take_append_drop]
  unfold insK
  rw [sumL_append, sumL, e]
  omega
theorem fold_facts (L : List Int) : ∀ M, mono M → mono (L.foldl insK M) ∧ (∀ k, eqc k (L.foldl insK M) = eqc k M + eqc k L) ∧ sumL (L.foldl insK M) = sumL M + sumL L := by
  induction L with
  | nil => intro M h; exact ⟨h, fun k => by simp [eqc], by simp [sumL]⟩
  | cons x r ih =>
    intro M h
    obtain ⟨h1, h2, h3⟩ := ih (insK M x) (insK_mono h x)
    refine ⟨h1, fun k => ?_, ?_⟩
    · rw [List.foldl_cons, h2, insK_eqc, eqc_cons]; omega
    · rw [List.foldl_cons, h3, insK_sum, sumL]; omega
theorem mrg_mono (L : List Int) : mono (mrg L) := (fold_facts L [] trivial).1
theorem mrg_eqc (L : List Int) (k : Int) : eqc k (mrg L) = eqc k L := by have := (fold_facts L [] trivial).2.1 k; unfold mrg; simpa [eqc] using this
theorem mrg_sum (L : List Int) : sumL (mrg L) = sumL L := by have := (fold_facts L [] trivial).2.2; unfold mrg; simpa [sumL] using this
theorem mrg_len (L : List Int) : (mrg L).length = L.length := by have := (fold_ins L []).1; unfold mrg; simpa using this
theorem mrg_mem {L : List Int} {y : Int} (h : y ∈ mrg L) : y ∈ L := by
  rcases (fold_ins L []).2 y h with h | h
  · exact h
  · simp at h
theorem cnt_eqc {A B : List Int} (h : ∀ k, eqc k A = eqc k B) (hl : A.length = B.length) (t : Int) : cnt t A = cnt t B := by
  induction A generalizing B with
  | nil =>
    have : B = [] := List.eq_nil_of_length_eq_zero (by simp at hl; omega)
    subst this; rfl
  | cons x r ih =>
    have hx : x ∈ B := eqc_mem (by rw [← h x]; exact eqc_pos (by simp))
    obtain ⟨b1, b2, rfl⟩ := List.append_of_mem hx
    have h2 := ih (B := b1 ++ b2) (fun k => by
      have := h k
      rw [eqc_cons, eqc_append, eqc_cons] at this
      rw [eqc_append]; omega) (by simp at hl ⊢; omega)
    rw [cnt, h2, cnt_append, cnt_append, cnt]
    omega
theorem mono_get {L : List Int} (h : mono L) (j : Nat) (hj : j + 1 < L.length) : L[j + 1] ≤ L[j] := by
  induction L generalizing j with
  | nil => simp at hj
  | cons x r ih =>
    match j with
    | 0 => simp; exact h.1 _ (List.getElem_mem _)
    | j + 1 => simpa using ih h.2 j (by simp at hj; omega)
theorem valid_mono {M : List Int} (h : mono M) (h1 : ∀ x ∈ M, 1 ≤ x) (hs : sumL M ≤ 16) : valid M = true := by
  refine valid_of_preS (fun j hj _ => ?_) hs
  have hb := (elem_le_sum (fun x hx => by have := h1 x hx; omega) hj).1
  refine ⟨h1 _ (List.getElem_mem hj), by omega, fun h0 => ?_⟩
  have := mono_get h (j - 1) (by omega)
  simp only [show j - 1 + 1 = j by omega] at this
  exact this
def uni (P Q : List Int) : List Int := mrg (P ++ Q)
theorem valid_ge1 {L : List Int} (h : valid L = true) : ∀ x ∈ L, 1 ≤ x := fun x hx => by
  obtain ⟨k, hk, rfl⟩ := List.getElem_of_mem hx
  exact (preS_of_valid h k hk hk).1
theorem uni_ge1 {P Q : List Int} (h : two P Q = true) : ∀ x ∈ uni P Q, 1 ≤ x := fun x hx => by
  obtain ⟨hp, hq, _⟩ := two_out h
  rcases List.mem_append.1 (mrg_mem hx) with hx | hx
  · exact valid_ge1 hp x hx
  · exact valid_ge1 hq x hx
theorem valid_uni {P Q : List Int} (h : two P Q = true) : valid (uni P Q) = true :=
  valid_mono (mrg_mono _) (uni_ge1 h) (by unfold uni; rw [mrg_sum, sumL_append]; exact (two_out h).2.2)
theorem um_uni {P Q : List Int} (h : two P Q = true) : (um (fun i => P.getD i 0) (fun i => Q.getD i 0) 16).1 = pad (uni P Q) :=
  um_end h (mrg_mono _) (fun k => by unfold uni; rw [mrg_eqc, eqc_append]) (by unfold uni; rw [mrg_len]; simp) (uni_ge1 h)
def uniF (P Q : List Int) : List Int := if two P Q then uni P Q else []
theorem uniF_yes {P Q : List Int} (h : two P Q = true) : uniF P Q = uni P Q := by simp [uniF, h]
theorem uniF_no {P Q : List Int} (h : two P Q = false) : uniF P Q = [] := by simp [uniF, h]
theorem uniF_len (P Q : List Int) : (uniF P Q).length ≤ 16 := by
  unfold uniF
  split
  · rename_i h
    exact (valid_bd (valid_uni h)).2.2.2
  · simp
/-- parts with the same numbers at all places are the same -/
theorem valid_ext {A B : List Int} (hA : valid A = true) (hB : valid B = true) (h : ∀ j, A.getD j 0 = B.getD j 0) : A = B := by
  have hl : A.length = B.length := by
    rcases Nat.lt_trichotomy A.length B.length with h1 | h1 | h1
    · have := h A.length
      rw [getD_ge (Nat.le_refl _)] at this
      have := getD_pos hB h1
      omega
    · exact h1
    · have := h B.length
      rw [getD_ge (L := B) (Nat.le_refl _)] at this
      have := getD_pos hA h1
      omega
  apply List.ext_getElem hl
  intro j h1 h2
  have := h j
  rwa [getD_lt h1, getD_lt h2] at this
theorem conj_getD {L : List Int} (h : valid L = true) (j : Nat) : (conj L).getD j 0 = cnt ((j : Int) + 1) L := by
  rcases Nat.lt_or_ge j (conj L).length with h1 | h1
  · rw [getD_lt h1, conj_get]
  · rw [getD_ge h1]
    rw [conj_len] at h1
    exact (cnt_none fun x hx => by have := head_ge h x hx; omega).symm
theorem two_conj {P Q : List Int} (h : two P Q = true) : two (conj P) (conj Q) = true := by
  obtain ⟨hp, hq, hs⟩ := two_out h
  unfold two
  rw [valid_conj hp, valid_conj hq, sumL_conj hp, sumL_conj hq, decide_eq_true hs]
  rfl
theorem cnt_uni (P Q : List Int) (t : Int) : cnt t (uni P Q) = cnt t P + cnt t Q := by
  rw [← cnt_append]
  exact cnt_eqc (fun k => by unfold uni; rw [mrg_eqc]) (by unfold uni; rw [mrg_len]) t
theorem conj_uni {P Q : List Int} (h : two P Q = true) : conj (uni P Q) = adp (conj P) (conj Q) := by
  obtain ⟨hp, hq, hs⟩ := two_out h
  refine valid_ext (valid_conj (valid_uni h)) (valid_adp (two_conj h)) fun j => ?_
  rw [conj_getD (valid_uni h), adp_getD, conj_getD hp, conj_getD hq, cnt_uni]
theorem conj_adp {P Q : List Int} (h : two P Q = true) : conj (adp P Q) = uni (conj P) (conj Q) := by
  obtain ⟨hp, hq, hs⟩ := two_out h
  have h2 := two_conj h
  have e := conj_uni h2
  rw [conj_conj hp, conj_conj hq] at e
  rw [← e, conj_conj (valid_uni h2)]
theorem adp_comm (P Q : List Int) : adp P Q = adp Q P := by
  unfold adp
  rw [Nat.max_comm]
  apply List.map_congr_left
  intro i _
  omega
theorem two_comm (P Q : List Int) : two P Q = two Q P := by
  unfold two
  rw [Int.add_comm (sumL P), Bool.and_comm (valid P)]
theorem uni_len (P Q : List Int) : (uni P Q).length = P.length + Q.length := by unfold uni; rw [mrg_len]; simp
end NP
end Go.Proofs.Ytgkghebjaedjmaa
namespace Go.Proofs.Ytgkghebjaedjmaa
namespace NP
set_option linter.unusedVariables false
/-- the first n values that are above 0 -/
def tr (f : Nat → Int) (n : Nat) : List Int := ((List.range n).map f).filter fun x => decide (0 < x)
def sf (f : Nat → Int) : Nat → Int
  | 0 => 0
  | n + 1 => sf f n + f n
theorem tr_succ (f : Nat → Int) (n : Nat) : tr f (n + 1) = tr f n ++ if 0 < f n then [f n] else [] := by
  unfold tr
  rw [List.range_succ, List.map_append, List.filter_append]
  congr 1
  simp only [List.map_cons, List.map_nil, List.filter_cons, List.filter_nil, decide_eq_true_eq]
theorem tr_len (f : Nat → Int) (n : Nat) : (tr f n).length ≤ n := by
  have h := List.length_filter_le (fun x => decide (0 < x)) ((List.range n).map f)
  simpa [tr] using h
theorem tr_full {f : Nat → Int} {n : Nat} (h : ∀ i, i < n → 0 < f i) : tr f n = (List.range n).map f := by
  unfold tr
  rw [List.filter_eq_self]
  intro x hx
  simp only [List.mem_map, List.mem_range] at hx
  obtain ⟨i, hi, rfl⟩ := hx
  simpa using h i hi
theorem map_getD (f : Nat → Int) (n j : Nat) : ((List.range n).map f).getD j 0 = if j < n then f j else 0 := by
  by_cases h : j < n
  · rw [if_pos h, List.getD_eq_getElem?_getD, List.getElem?_eq_getElem (by simpa using h)]
    simp
  · rw [if_neg h, List.getD_eq_getElem?_getD, List.getElem?_eq_none (by simp; omega)]
    rfl
theorem fall_le {f : Nat → Int} (hf : ∀ i, f (i + 1) ≤ f i) {i j : Nat} (h : i ≤ j) : f j ≤ f i := by
  induction j with
  | zero => obtain rfl : i = 0 := by omega
            exact Int.le_refl _
  | succ j ih =>
    by_cases e : i = j + 1
    · rw [e]; exact Int.le_refl _
    · exact Int.le_trans (hf j) (ih (by omega))
theorem tr_getD {f : Nat → Int} (hf : ∀ i, f (i + 1) ≤ f i) (h0 : ∀ i, 0 ≤ f i) (n j : Nat) : (tr f n).getD j 0 = if j < n then f j else 0 := by
  induction n with
  | zero => rfl
  | succ n ih =>
    by_cases h : 0 < f n
    · rw [tr_full (fun i hi => Int.lt_of_lt_of_le h (fall_le hf (by omega))), map_getD]
    · rw [tr_succ, if_neg h, List.append_nil, ih]
      have := h0 n
      by_cases h1 : j < n
      · rw [if_pos h1, if_pos (by omega)]
      · rw [if_neg h1]
        by_cases h2 : j = n
        · subst h2; rw [if_pos (by omega)]; omega
        · rw [if_neg (by omega)]
theorem tr_pos {f : Nat → Int} {n : Nat} {x : Int} (h : x ∈ tr f n) : 0 < x := by
  unfold tr at h
  rw [List.mem_filter] at h
  simpa using h.2
theorem sum_tr {f : Nat → Int} (h0 : ∀ i, 0 ≤ f i) (n : Nat) : sumL (tr f n) = sf f n := by
  induction n with
  | zero => rfl
  | succ n ih =>
    rw [tr_succ, sumL_append, ih, sf]
    have := h0 n
    by_cases h : 0 < f n
    · rw [if_pos h]; simp [sumL]
    · rw [if_neg h]; simp [sumL]; omega
theorem sf_le {f : Nat → Int} (h0 : ∀ i, 0 ≤ f i) {i n : Nat} (h : i < n) : f i ≤ sf f n ∧ 0 ≤ sf f n := by
  induction n with
  | zero => omega
  | succ n ih =>
    have h1 := h0 n
    have hn : 0 ≤ sf f n := by
      clear ih h h1
      induction n with
      | zero => exact Int.le_refl _
      | succ n ih => have := h0 n; rw [sf]; omega
    rw [sf]
    by_cases e : i = n
    · subst e; omega
    · have := ih (by omega); omega
theorem valid_tr {f : Nat → Int} (hf : ∀ i, f (i + 1) ≤ f i) (h0 : ∀ i, 0 ≤ f i) {n : Nat} (hs : sf f n ≤ 16) : valid (tr f n) = true := by
  apply valid_of_preS
  · intro j hj _
    have e := tr_getD hf h0 n j
    have hp := tr_pos (List.getElem_mem hj)
    rw [getD_lt hj] at e
    have hjn : j < n := by have := tr_len f n; omega
    rw [if_pos hjn] at e
    have hb := sf_le h0 hjn
    refine ⟨by omega, by omega, fun h1 => ?_⟩
    have e2 := tr_getD hf h0 n (j - 1)
    rw [getD_lt (by omega), if_pos (by omega)] at e2
    have := hf (j - 1)
    rw [show j - 1 + 1 = j by omega] at this
    omega
  · rw [sum_tr h0]; exact hs
theorem pad_tr {f : Nat → Int} (hf : ∀ i, f (i + 1) ≤ f i) (h0 : ∀ i, 0 ≤ f i) : pad (tr f 16) = (List.range 16).map f := by
  have hl := tr_len f 16
  apply List.ext_getElem
  · rw [pad_len hl]; simp
  · intro j h1 h2
    have e := pad_getD hl j
    rw [getD_lt h1, tr_getD hf h0] at e
    simp at h2
    rw [e, if_pos h2]
    simp
theorem tr_more {f : Nat → Int} {n m : Nat} (h : n ≤ m) (hz : ∀ i, n ≤ i → f i = 0) : tr f m = tr f n := by
  induction m with
  | zero => obtain rfl : n = 0 := by omega
            rfl
  | succ m ih =>
    by_cases e : n = m + 1
    · rw [e]
    · rw [tr_succ, ih (by omega), hz m (by omega), if_neg (by omega), List.append_nil]
theorem tr_self {L : List Int} (hv : valid L = true) {n : Nat} (h : L.length ≤ n) : tr (fun i => L.getD i 0) n = L := by
  rw [tr_more h (fun i hi => getD_ge hi), tr_full (fun i hi => by have := getD_pos hv hi; omega)]
  apply List.ext_getElem
  · simp
  · intro j h1 h2
    rw [List.getElem_map, List.getElem_range, getD_lt h2]
theorem tr_congr {f g : Nat → Int} {n : Nat} (h : ∀ i, i < n → f i = g i) : tr f n = tr g n := by
  unfold tr
  rw [List.map_congr_left fun i hi => h i (by simpa using hi)]
theorem getD_fall' {L : List Int} (hv : valid L = true) (i : Nat) : L.getD (i + 1) 0 ≤ L.getD i 0 := getD_fall hv (i + 1) (by omega)

/-! what both have, and what has both -/
def lo2 (P Q : List Int) (i : Nat) : Int := min (P.getD i 0) (Q.getD i 0)
def hi2 (P Q : List Int) (i : Nat) : Int := max (P.getD i 0) (Q.getD i 0)
def cutL (P Q : List Int) : List Int := tr (lo2 P Q) 16
def cutH (P Q : List Int) : List Int := tr (hi2 P Q) 16
section
variable {P Q : List Int}
theorem lo2_fall (hp : valid P = true) (hq : valid Q = true) (i : Nat) : lo2 P Q (i + 1) ≤ lo2 P Q i := by
  have := getD_fall' hp i; have := getD_fall' hq i; unfold lo2; omega
theorem hi2_fall (hp : valid P = true) (hq : valid Q = true) (i : Nat) : hi2 P Q (i + 1) ≤ hi2 P Q i := by
  have := getD_fall' hp i; have := getD_fall' hq i; unfold hi2; omega
theorem lo2_nn (hp : valid P = true) (hq : valid Q = true) (i : Nat) : 0 ≤ lo2 P Q i := by
  have := getD_nn hp i; have := getD_nn hq i; unfold lo2; omega
theorem hi2_nn (hp : valid P = true) (hq : valid Q = true) (i : Nat) : 0 ≤ hi2 P Q i := by
  have := getD_nn hp i; have := getD_nn hq i; unfold hi2; omega
theorem sf_sumTo (L : List Int) (n : Nat) : sf (fun i => L.getD i 0) n = sumTo L n := by
  induction n with
  | zero => rfl
  | succ n ih => rw [sf, sumTo, ih]
theorem sf_cut (P Q : List Int) (n : Nat) : sf (lo2 P Q) n + sf (hi2 P Q) n = sumTo P n + sumTo Q n := by
  induction n with
  | zero => rfl
  | succ n ih => rw [sf, sf, sumTo, sumTo]; unfold lo2 hi2 at *; omega
theorem sf_lo_le (hp : valid P = true) (hq : valid Q = true) (n : Nat) : sf (lo2 P Q) n ≤ sumTo P n := by
  induction n with
  | zero => exact Int.le_refl _
  | succ n ih => rw [sf, sumTo]; have : lo2 P Q n ≤ P.getD n 0 := by unfold lo2; omega
                 omega
end
/-- the cut rows fit -/
def cutOk (P Q : List Int) : Bool := valid P && valid Q && decide (sf (hi2 P Q) 16 ≤ 16)
def cutLF (P Q : List Int) : List Int := if cutOk P Q then cutL P Q else []
def cutHF (P Q : List Int) : List Int := if cutOk P Q then cutH P Q else []
theorem cutOk_out {P Q : List Int} (h : cutOk P Q = true) : valid P = true ∧ valid Q = true ∧ sf (hi2 P Q) 16 ≤ 16 := by
  unfold cutOk at h
  simp only [Bool.and_eq_true, decide_eq_true_eq] at h
  exact ⟨h.1.1, h.1.2, h.2⟩
theorem valid_cutL {P Q : List Int} (hp : valid P = true) (hq : valid Q = true) : valid (cutL P Q) = true := by
  have h1 := sf_lo_le hp hq 16
  rw [sumTo_all P 16 (valid_bd hp).2.2.2] at h1
  exact valid_tr (lo2_fall hp hq) (lo2_nn hp hq) (by have := (valid_bd hp).2.1; omega)
theorem valid_cutH {P Q : List Int} (h : cutOk P Q = true) : valid (cutH P Q) = true := by
  obtain ⟨hp, hq, hs⟩ := cutOk_out h
  exact valid_tr (hi2_fall hp hq) (hi2_nn hp hq) hs

/-- are the rows of Q inside of those of P -/
def ins (P Q : List Int) : Bool := valid P && valid Q && (List.range 16).all fun i => decide (Q.getD i 0 ≤ P.getD i 0)
theorem ins_iff {P Q : List Int} : ins P Q = true ↔ valid P = true ∧ valid Q = true ∧ ∀ i, Q.getD i 0 ≤ P.getD i 0 := by
  unfold ins
  simp only [Bool.and_eq_true, List.all_eq_true, List.mem_range, decide_eq_true_eq]
  constructor
  · rintro ⟨⟨hp, hq⟩, h⟩
    refine ⟨hp, hq, fun i => ?_⟩
    rcases Nat.lt_or_ge i 16 with hi | hi
    · exact h i hi
    · rw [getD_ge (Nat.le_trans (valid_bd hq).2.2.2 hi)]; exact (getD_nn hp i).1
  · rintro ⟨hp, hq, h⟩
    exact ⟨⟨hp, hq⟩, fun i _ => h i⟩

/-! first sums -/
def mf (P Q : List Int) (k : Nat) : Int := min (sumTo P k) (sumTo Q k)
def mi (P Q : List Int) (i : Nat) : Int := mf P Q (i + 1) - mf P Q i
def mt (P Q : List Int) : List Int := tr (mi P Q) 16
theorem sf_mi (P Q : List Int) (n : Nat) : sf (mi P Q) n = mf P Q n := by
  induction n with
  | zero => simp [sf, mf, sumTo]
  | succ n ih => rw [sf, ih]; unfold mi; omega
section
variable {P Q : List Int}
theorem mi_fall (hp : valid P = true) (hq : valid Q = true) (i : Nat) : mi P Q (i + 1) ≤ mi P Q i := by
  have := getD_fall' hp i; have := getD_fall' hq i; unfold mi mf; simp only [sumTo]; omega
theorem mi_nn (hp : valid P = true) (hq : valid Q = true) (i : Nat) : 0 ≤ mi P Q i := by
  have := getD_nn hp i; have := getD_nn hq i; unfold mi mf; simp only [sumTo]; omega
theorem mf_end (hp : valid P = true) (hq : valid Q = true) : mf P Q 16 = min (sumL P) (sumL Q) := by
  unfold mf; rw [sumTo_all P 16 (valid_bd hp).2.2.2, sumTo_all Q 16 (valid_bd hq).2.2.2]
theorem valid_mt (hp : valid P = true) (hq : valid Q = true) : valid (mt P Q) = true := by
  refine valid_tr (mi_fall hp hq) (mi_nn hp hq) ?_
  rw [sf_mi, mf_end hp hq]
  have := (valid_bd hp).2.1
  omega
theorem pad_mt (hp : valid P = true) (hq : valid Q = true) : pad (mt P Q) = (List.range 16).map (mi P Q) := pad_tr (mi_fall hp hq) (mi_nn hp hq)
theorem sum_mt (hp : valid P = true) (hq : valid Q = true) : sumL (mt P Q) = min (sumL P) (sumL Q) := by
  unfold mt
  rw [sum_tr (mi_nn hp hq), sf_mi, mf_end hp hq]
theorem sumTo_mt (hp : valid P = true) (hq : valid Q = true) {k : Nat} (hk : k ≤ 16) : sumTo (mt P Q) k = mf P Q k := by
  induction k with
  | zero => simp [sumTo, mf]
  | succ k ih =>
    rw [sumTo, ih (by omega)]
    unfold mt
    rw [tr_getD (mi_fall hp hq) (mi_nn hp hq), if_pos (by omega)]
    unfold mi
    omega
theorem eq_of_sumTo (hp : valid P = true) (hq : valid Q = true) (h : ∀ k, k ≤ 16 → sumTo P k = sumTo Q k) : P = Q := by
  refine valid_ext hp hq fun j => ?_
  rcases Nat.lt_or_ge j 16 with hj | hj
  · have h1 := h j (by omega)
    have h2 := h (j + 1) (by omega)
    simp only [sumTo] at h2
    omega
  · rw [getD_ge (Nat.le_trans (valid_bd hp).2.2.2 hj), getD_ge (Nat.le_trans (valid_bd hq).2.2.2 hj)]
theorem mt_right (hp : valid P = true) (hq : valid Q = true) : mt P Q = Q ↔ ∀ k, k ≤ 16 → sumTo Q k ≤ sumTo P k := by
  constructor
  · intro h k hk
    have := sumTo_mt hp hq hk
    rw [h] at this
    unfold mf at this
    omega
  · intro h
    refine eq_of_sumTo (valid_mt hp hq) hq fun k hk => ?_
    rw [sumTo_mt hp hq hk]
    have := h k hk
    unfold mf
    omega
theorem mt_comm (P Q : List Int) : mt P Q = mt Q P := by
  unfold mt
  refine tr_congr fun i _ => ?_
  unfold mi mf
  omega
end
/-- P dominates Q -/
def dom (P Q : List Int) : Bool := valid P && valid Q && decide (sumL P = sumL Q) && (List.range 17).all fun k => decide (sumTo Q k ≤ sumTo P k)
theorem dom_iff {P Q : List Int} : dom P Q = true ↔ valid P = true ∧ valid Q = true ∧ sumL P = sumL Q ∧ ∀ k, k ≤ 16 → sumTo Q k ≤ sumTo P k := by
  unfold dom
  simp only [Bool.and_eq_true, List.all_eq_true, List.mem_range, decide_eq_true_eq]
  constructor
  · rintro ⟨⟨⟨hp, hq⟩, hs⟩, h⟩; exact ⟨hp, hq, hs, fun k hk => h k (by omega)⟩
  · rintro ⟨hp, hq, hs, h⟩; exact ⟨⟨⟨hp, hq⟩, hs⟩, fun k hk => h k (by omega)⟩

/-! the other way round -/
def csum (j : Nat) (L : List Int) : Int := sumL ((List.range j).map fun (t : Nat) => cnt ((t : Int) + 1) L)
theorem csum_cons (j : Nat) (x : Int) (r : List Int) : csum j (x :: r) = tsum j x + csum j r := by
  unfold csum
  induction j with
  | zero => rfl
  | succ j ih =>
    have e2 : tsum (j + 1) x = tsum j x + if (j : Int) + 1 ≤ x then 1 else 0 := by
      simp [tsum, List.range_succ, sumL_append, sumL]
    rw [List.range_succ, List.map_append, sumL_append, ih, List.map_append, sumL_append, e2]
    simp [cnt, sumL]; omega
theorem csum_nil (j : Nat) : csum j [] = 0 := by
  unfold csum
  induction j with
  | zero => rfl
  | succ j ih => rw [List.range_succ, List.map_append, sumL_append, ih]; simp [cnt, sumL]
theorem sumTo_conj {L : List Int} (hv : valid L = true) (j : Nat) : sumTo (conj L) j = csum j L := by
  unfold csum
  induction j with
  | zero => rfl
  | succ j ih => rw [sumTo, ih, conj_getD hv, List.range_succ, List.map_append, sumL_append]; simp [sumL]
theorem tsum_full (n : Nat) (x : Int) (h : (n : Int) ≤ x) : tsum n x = n := by
  induction n with
  | zero => simp [tsum, sumL]
  | succ n ih =>
    have e2 : tsum (n + 1) x = tsum n x + if (n : Int) + 1 ≤ x then 1 else 0 := by
      simp [tsum, List.range_succ, sumL_append, sumL]
    rw [e2, ih (by omega), if_pos (by omega)]
    omega
theorem cells_le (j : Nat) : ∀ (L : List Int) (k : Nat), (∀ x ∈ L, 0 ≤ x) → sumL (L.take k) + csum j L ≤ sumL L + (k : Int) * (j : Int)
  | [], k, _ => by
    rw [csum_nil]
    have : (0 : Int) ≤ (k : Int) * (j : Int) := Int.mul_nonneg (by omega) (by omega)
    simp [sumL]; exact this
  | x :: r, 0, h => by
    have ih := cells_le j r 0 fun y hy => h y (by simp [hy])
    have h1 := (tsum_le j x (h x (by simp))).1
    rw [csum_cons]
    simp [sumL] at ih ⊢
    omega
  | x :: r, k + 1, h => by
    have ih := cells_le j r k fun y hy => h y (by simp [hy])
    have h1 := (tsum_le j x (h x (by simp))).2
    rw [csum_cons]
    have e : ((k + 1 : Nat) : Int) * (j : Int) = (k : Int) * (j : Int) + (j : Int) := by rw [Int.natCast_add, Int.add_mul]; simp
    rw [e]
    simp only [List.take_succ_cons, sumL]
    omega
theorem cells_eq (j : Nat) : ∀ (L : List Int), mono L → (∀ x ∈ L, 0 ≤ x) → sumL (L.take (cnt ((j : Int) + 1) L).toNat) + csum j L = sumL L + cnt ((j : Int) + 1) L * (j : Int)
  | [], _, _ => by simp [csum_nil, cnt, sumL]
  | x :: r, hm, h => by
    by_cases hx : (j : Int) + 1 ≤ x
    · have ih := cells_eq j r hm.2 fun y hy => h y (by simp [hy])
      have hc := cnt_bd ((j : Int) + 1) r
      have e : cnt ((j : Int) + 1) (x :: r) = cnt ((j : Int) + 1) r + 1 := by rw [cnt, if_pos hx]; omega
      rw [e, csum_cons, tsum_full j x (by omega), show (cnt ((j : Int) + 1) r + 1).toNat = (cnt ((j : Int) + 1) r).toNat + 1 by omega, List.take_succ_cons, Int.add_mul]
      simp only [sumL]
      omega
    · have e : cnt ((j : Int) + 1) (x :: r) = 0 := cnt_none fun y hy => by
        rcases List.mem_cons.1 hy with rfl | hy
        · omega
        · have := hm.1 y hy; omega
      rw [e]
      have h2 : csum j (x :: r) = sumL (x :: r) := csum_eq j _ fun y hy => ⟨h y hy, by
        rcases List.mem_cons.1 hy with rfl | hy
        · omega
        · have := hm.1 y hy; omega⟩
      rw [h2]
      simp [sumL]
theorem dual {P Q : List Int} (hp : valid P = true) (hq : valid Q = true) (hs : sumL P = sumL Q) (h : ∀ k, k ≤ 16 → sumTo Q k ≤ sumTo P k) (j : Nat) : sumTo (conj P) j ≤ sumTo (conj Q) j := by
  rw [sumTo_conj hp, sumTo_conj hq]
  have hc := cnt_bd ((j : Int) + 1) Q
  have h1 := cells_eq j Q (mono_valid hq) (valid_nonneg hq)
  have h2 := cells_le j P (cnt ((j : Int) + 1) Q).toNat (valid_nonneg hp)
  have h3 := h (cnt ((j : Int) + 1) Q).toNat (by have := (valid_bd hq).2.2.2; omega)
  rw [sumTo_take, sumTo_take] at h3
  rw [show (((cnt ((j : Int) + 1) Q).toNat : Nat) : Int) = cnt ((j : Int) + 1) Q by omega] at h2
  omega
theorem dom_conj {P Q : List Int} (hp : valid P = true) (hq : valid Q = true) : dom (conj Q) (conj P) = dom P Q := by
  have key : ∀ {P Q : List Int}, dom P Q = true → dom (conj Q) (conj P) = true := by
    intro P Q h
    obtain ⟨hp, hq, hs, hk⟩ := dom_iff.1 h
    exact dom_iff.2 ⟨valid_conj hq, valid_conj hp, by rw [sumL_conj hp, sumL_conj hq, hs], fun k _ => dual hp hq hs hk k⟩
  rw [Bool.eq_iff_iff]
  refine ⟨fun h => ?_, key⟩
  have := key h
  rwa [conj_conj hp, conj_conj hq] at this
theorem conj_inj {P Q : List Int} (hp : valid P = true) (hq : valid Q = true) : conj P = conj Q ↔ P = Q :=
  ⟨fun h => by rw [← conj_conj hp, h, conj_conj hq], fun h => by rw [h]⟩
theorem pad_inj {P Q : List Int} (hp : valid P = true) (hq : valid Q = true) : pad P = pad Q ↔ P = Q :=
  ⟨fun h => valid_ext hp hq fun j => by rw [← pad_getD (valid_bd hp).2.2.2, h, pad_getD (valid_bd hq).2.2.2], fun h => by rw [h]⟩
/-- what is above both -/
def jn (P Q : List Int) : List Int := conj (mt (conj P) (conj Q))
theorem valid_jn {P Q : List Int} (hp : valid P = true) (hq : valid Q = true) : valid (jn P Q) = true := valid_conj (valid_mt (valid_conj hp) (valid_conj hq))
/-- the program's question: they are their own bounds -/
theorem dom_bounds {P Q : List Int} (hp : valid P = true) (hq : valid Q = true) : dom P Q = (decide (mt P Q = Q) && decide (jn P Q = P)) := by
  have h2 : jn P Q = P ↔ ∀ k, k ≤ 16 → sumTo (conj P) k ≤ sumTo (conj Q) k := by
    rw [← mt_right (valid_conj hq) (valid_conj hp), mt_comm, ← conj_inj (valid_jn hp hq) hp]
    unfold jn
    rw [conj_conj (valid_mt (valid_conj hp) (valid_conj hq))]
  rw [Bool.eq_iff_iff, Bool.and_eq_true, decide_eq_true_eq, decide_eq_true_eq, dom_iff, mt_right hp hq, h2]
  constructor
  · rintro ⟨_, _, hs, h⟩; exact ⟨h, fun k _ => dual hp hq hs h k⟩
  · rintro ⟨h, h'⟩
    refine ⟨hp, hq, ?_, h⟩
    have a1 := h 16 (by omega)
    have a2 := h' 16 (by omega)
    rw [sumTo_all _ 16 (valid_bd hp).2.2.2, sumTo_all _ 16 (valid_bd hq).2.2.2] at a1
    rw [sumTo_all _ 16 (valid_bd (valid_conj hp)).2.2.2, sumTo_all _ 16 (valid_bd (valid_conj hq)).2.2.2, sumL_conj hp, sumL_conj hq] at a2
    omega
theorem ins_bounds {P Q : List Int} (hp : valid P = true) (hq : valid Q = true) : ins P Q = (decide ((List.range 16).map (lo2 P Q) = pad Q) && decide ((List.range 16).map (hi2 P Q) = pad P)) := by
  rw [Bool.eq_iff_iff, Bool.and_eq_true, decide_eq_true_eq, decide_eq_true_eq, ins_iff]
  have hpl := (valid_bd hp).2.2.2
  have hql := (valid_bd hq).2.2.2
  constructor
  · rintro ⟨_, _, h⟩
    constructor
    · apply List.ext_getElem
      · rw [pad_len hql]; simp
      · intro j h1 h2
        rw [← getD_lt h2, pad_getD hql]
        simp only [List.getElem_map, List.getElem_range]
        have := h j
        unfold lo2; omega
    · apply List.ext_getElem
      · rw [pad_len hpl]; simp
      · intro j h1 h2
        rw [← getD_lt h2, pad_getD hpl]
        simp only [List.getElem_map, List.getElem_range]
        have := h j
        unfold hi2; omega
  · rintro ⟨h, _⟩
    refine ⟨hp, hq, fun i => ?_⟩
    rcases Nat.lt_or_ge i 16 with hi | hi
    · have e := congrArg (fun l => l.getD i 0) h
      rw [map_getD, if_pos hi, pad_getD hql] at e
      unfold lo2 at e
      omega
    · rw [getD_ge (by omega)]; exact (getD_nn hp i).1

/-! ranks and cranks -/
def rnk (L : List Int) : Int := if valid L then L.headD 0 - L.length else 0
def crk (L : List Int) : Int := if valid L then (if eqc 1 L = 0 then L.headD 0 else cnt (eqc 1 L + 1) L - eqc 1 L) else 0
theorem rnk_yes {L : List Int} (h : valid L = true) : rnk L = L.headD 0 - L.length := by simp [rnk, h]
theorem rnk_no {L : List Int} (h : valid L = false) : rnk L = 0 := by simp [rnk, h]
theorem crk_yes {L : List Int} (h : valid L = true) : crk L = if eqc 1 L = 0 then L.headD 0 else cnt (eqc 1 L + 1) L - eqc 1 L := by simp [crk, h]
theorem crk_no {L : List Int} (h : valid L = false) : crk L = 0 := by simp [crk, h]
end NP
end Go.Proofs.Ytgkghebjaedjmaa
namespace Go.Proofs.Ytgkghebjaedjmaa
namespace NP
theorem head_le_sum {L : List Int} (h : valid L = true) : 0 ≤ L.headD 0 ∧ L.headD 0 ≤ sumL L ∧ (0 < L.length → 1 ≤ L.headD 0) := by
  cases L with
  | nil => simp [sumL]
  | cons x r =>
    have h0 := valid_nonneg h
    have h1 := (elem_le_sum h0 (q := 0) (by simp)).1
    have h2 := valid_ge1 h x (by simp)
    simp at h1 ⊢
    omega
theorem rnk_facts {P : List Int} (h : valid P = true) : rnk (conj P) = -rnk P ∧ rnk P < max (sumL P) 1 ∧ -rnk P < max (sumL P) 1 ∧ -16 ≤ rnk P ∧ rnk P ≤ 16 := by
  have hb := valid_bd h
  have h1 := head_le_sum h
  have hc := head_conj h
  have hcb := headD_bd (valid_conj h)
  rw [rnk_yes h, rnk_yes (valid_conj h), conj_len]
  by_cases h0 : 0 < P.length
  · have := h1.2.2 h0
    omega
  · obtain rfl : P = [] := List.eq_nil_of_length_eq_zero (by omega)
    simp [conj, sumL]
    omega
end NP
end Go.Proofs.Ytgkghebjaedjmaa
namespace Go.Proofs.Ytgkghebjaedjmaa
namespace NP
theorem cnt_le_sum {L : List Int} (h : ∀ x ∈ L, 1 ≤ x) (t : Int) : cnt t L ≤ sumL L ∧ 0 ≤ sumL L := by
  induction L with
  | nil => simp [cnt, sumL]
  | cons x r ih =>
    have h1 := ih fun y hy => h y (by simp [hy])
    have h2 := h x (by simp)
    rw [cnt, sumL]
    split <;> omega
theorem eqc_le_sum {L : List Int} (h : ∀ x ∈ L, 1 ≤ x) (t : Int) : eqc t L ≤ sumL L := by
  induction L with
  | nil => simp [eqc, sumL]
  | cons x r ih =>
    have h1 := ih fun y hy => h y (by simp [hy])
    have h2 := h x (by simp)
    rw [eqc_cons, sumL]
    split <;> omega
theorem crk_facts {P : List Int} (h : valid P = true) (h0 : 0 < P.length) : crk P ≤ sumL P ∧ -crk P ≤ sumL P ∧ (P[P.length - 1]'(by omega) = 1 ∨ crk P = P[0]) ∧ -16 ≤ crk P ∧ crk P ≤ 16 ∧ 1 ≤ P[P.length - 1]'(by omega) ∧ P[P.length - 1]'(by omega) ≤ 16 := by
  have hb := valid_bd h
  have h1 := head_le_sum h
  have hg := valid_ge1 h
  have hc := cnt_le_sum hg (eqc 1 P + 1)
  have hcb := cnt_bd (eqc 1 P + 1) P
  have he := eqc_le_sum hg 1
  have heb := eqc_bd 1 P
  have hl := hg _ (List.getElem_mem (show P.length - 1 < P.length by omega))
  have hl2 := preS_of_valid h (P.length - 1) (by omega) (by omega)
  have h0' : P.headD 0 = P[0] := headD_get P h0
  rw [crk_yes h]
  by_cases hz : eqc 1 P = 0
  · rw [if_pos hz]
    refine ⟨h1.2.1, by omega, .inr h0', by omega, by omega, hl, hl2.2.1⟩
  · rw [if_neg hz]
    have hm : (1 : Int) ∈ P := eqc_mem (by omega)
    obtain ⟨q, hq, e⟩ := List.mem_iff_getElem.1 hm
    have hf := falls_all h (P.length - 1) q (by omega) (by omega)
    refine ⟨by omega, by omega, .inl (by omega), by omega, by omega, hl, hl2.2.1⟩
end NP
end Go.Proofs.Ytgkghebjaedjmaa
namespace Go.Proofs.Ytgkghebjaedjmaa
open Go.RowKit NP
set_option maxRecDepth 8000
set_option linter.unusedVariables false
set_option linter.unusedSimpArgs false
theorem Blk.range {w : World} {g : Nat} {t : TypeId} {vs : List Value} (h : Blk w g t vs.toArray) : w.rangeAt g 0 vs := fun j v hv => by
  rw [Nat.zero_add, h.cell j]; simpa using hv
theorem range_below {w w' : World} {b o : Nat} {cs : List Value} (h : w.rangeAt b o cs) (hb : Below w.heap.size w w') : w'.rangeAt b o cs := fun j v hv => by
  have := h j v hv
  exact (hb.cell (p := ⟨b, o + j, none⟩) (World.block_lt_of_cell? w _ this)).trans this
theorem keep_cr {w0 w w' : World} {g : Nat} {x : Value} {cs : List Value} (h : w.cell? ⟨g, 0, none⟩ = some x ∧ w.rangeAt g 0 cs ∧ Below w0.heap.size w0 w) (hb : Below w.heap.size w w') :
    w'.cell? ⟨g, 0, none⟩ = some x ∧ w'.rangeAt g 0 cs ∧ Below w0.heap.size w0 w' :=
  ⟨(hb.cell (p := ⟨g, 0, none⟩) (World.block_lt_of_cell? w _ h.1)).trans h.1, range_below h.2.1 hb, h.2.2.trans (hb.mono h.2.2.size)⟩
theorem cntD_le (D : List Int) : cntD D ≤ 16 := (ff_spec _ 16).1
theorem cntD_pad {M : List Int} (hM : valid M = true) : cntD (pad M) = M.length := by
  have hbd := valid_bd hM
  have hlen : M.length ≤ 16 := hbd.2.2.2
  unfold cntD
  refine ff_eq (fun j hj => ?_) hlen ?_
  · have h1 := preS_of_valid hM j hj hj
    rw [List.getD_eq_getElem?_getD, List.getElem?_eq_getElem (by rw [pad_len hlen]; omega), Option.getD_some, pad_get hlen hj]
    simp; omega
  · rcases Nat.lt_or_ge M.length 16 with h | h
    · right
      rw [List.getD_eq_getElem?_getD, List.getElem?_eq_getElem (by rw [pad_len hlen]; omega), Option.getD_some, pad_get0 hlen (Nat.le_refl _) h]
      simp
    · left; omega
theorem getD0 (L : List Int) : L.getD 0 0 = L.headD 0 := by cases L <;> rfl
theorem cntD_zeros : cntD (List.replicate 16 0) = 0 := by decide
theorem dg_bd (L : List Int) : ∀ k (h : k < (dg L).length), 0 ≤ (dg L)[k] ∧ (dg L)[k] ≤ 16 := by
  cases hv : valid L with
  | true => rw [dg_yes hv]; exact pad_nonneg hv
  | false => rw [dg_no hv]; intro k h; rw [List.getElem_replicate]; omega
theorem rnk_dg (L : List Int) : (dg L).getD 0 0 - cntD (dg L) = rnk L := by
  cases hv : valid L with
  | true => rw [dg_yes hv, cntD_pad hv, pad_getD (valid_bd hv).2.2.2, getD0, rnk_yes hv]
  | false => rw [dg_no hv, cntD_zeros, rnk_no hv]; rfl
theorem info_diag (D : List Int) (hD : D.length = 16) : (Try.prog.info? 60).map (·.size) = some (ints D).length := by rw [List.length_map, hD]; exact T_info35




end Go.Proofs.Ytgkghebjaedjmaa
