/-
  Plain mathematics of marked parts: marks beside parts, split, turned, put together. Plain mathematics of marks set at corners. Plain mathematics of all marked parts with a sum: which corners a mask marks. Walks of the model: all piles that begin with some rows. Lists of lists that come in: their sizes, their copies. Lists of lists marked: what lies aside stays. Walks: the laws' own helpers on lists of piles: compared, marked, held.
-/
import Derived.Test.YtgkghebjaedjmaaZC1
import Derived.Test.YtgkghebjaedjmaaZC2
import Derived.Test.YtgkghebjaedjmaaZC3
import Derived.Test.YtgkghebjaedjmaaZC4
import Derived.Test.YtgkghebjaedjmaaZC5
import Derived.Test.YtgkghebjaedjmaaZC6
import Derived.Test.YtgkghebjaedjmaaZC7
import Derived.Test.YtgkghebjaedjmaaZC8
import Derived.Deep.Matrix
namespace Go.Proofs.Ytgkghebjaedjmaa
open Go.RowKit
abbrev bls (bs : List Bool) : List Value := bs.map Value.bool
def arrB (bs : List Bool) : Array Value := (bls bs).toArray
namespace NP
def padB (bs : List Bool) : List Bool := bs ++ List.replicate (16 - bs.length) false
theorem padB_len {bs : List Bool} (h : bs.length ≤ 16) : (padB bs).length = 16 := by simp [padB]; omega
theorem padB_set {bs : List Bool} {k : Nat} (hk : k < bs.length) (h : k < 16) : (padB (bs.take k)).set k bs[k] = padB (bs.take (k + 1)) := by
  unfold padB
  have e1 : (bs.take k).length = k := by rw [List.length_take]; omega
  have e2 : (bs.take (k + 1)).length = k + 1 := by rw [List.length_take]; omega
  rw [e1, e2, show 16 - k = (16 - (k + 1)) + 1 by omega, List.replicate_succ, List.set_append_right _ _ (by omega), e1, Nat.sub_self, List.set_cons_zero, List.take_succ_eq_append_getElem hk, List.append_assoc]
  simp
theorem padB_getD (bs : List Bool) (k : Nat) : (padB bs).getD k false = bs.getD k false := by
  unfold padB
  rcases Nat.lt_or_ge k bs.length with h | h
  · rw [List.getD_eq_getElem?_getD, List.getElem?_append_left h, List.getD_eq_getElem?_getD]
  · rw [List.getD_eq_getElem?_getD, List.getElem?_append_right h, List.getD_eq_getElem?_getD, List.getElem?_eq_none h, List.getElem?_replicate]
    split <;> rfl
def mdA (D : List Int) (E : List Bool) : Array Value := (ints D ++ bls E).toArray
theorem mdA_size (D : List Int) (E : List Bool) : (mdA D E).size = D.length + E.length := by simp [mdA]
theorem mdA_one (D : List Int) (E : List Bool) : ∀ v ∈ (mdA D E).toList, v.oneCell' = true := by
  intro v hv
  have h1 : v ∈ ints D ++ bls E := by simpa only [mdA, List.toList_toArray] using hv
  rcases List.mem_append.1 h1 with h2 | h2
  · obtain ⟨x, -, rfl⟩ := List.mem_map.1 h2; rfl
  · obtain ⟨x, -, rfl⟩ := List.mem_map.1 h2; rfl
theorem mdA_set (D : List Int) (E : List Bool) (hD : D.length = 16) (i : Nat) (b : Bool) : (mdA D E).setIfInBounds (16 + i) (.bool b) = mdA D (E.set i b) := by
  apply Array.toList_inj.1
  simp only [mdA, Array.toList_setIfInBounds, ints, bls]
  rw [List.set_append_right _ _ (by simp; omega)]
  simp [hD]
theorem mdA_int (D : List Int) (E : List Bool) (i : Nat) (h : i < D.length) : (mdA D E)[i]? = some (.int .i64 D[i]) := by
  simp only [mdA, List.getElem?_toArray]
  rw [List.getElem?_append_left (by simpa using h)]
  simp [h]
theorem mdA_bool (D : List Int) (E : List Bool) (hD : D.length = 16) (i : Nat) (h : i < E.length) : (mdA D E)[16 + i]? = some (.bool E[i]) := by
  simp only [mdA, List.getElem?_toArray]
  rw [List.getElem?_append_right (by simp; omega)]
  simp [hD, h]
/-- the marks fit the parts -/
def mkC (L : List Int) (bs : List Bool) (i : Nat) : Bool := !(bs.getD i false) || isC L i
def vmk (L : List Int) (bs : List Bool) : Bool := valid L && decide (bs.length = L.length) && (List.range L.length).all (mkC L bs)
theorem vmk_iff {L : List Int} {bs : List Bool} : vmk L bs = true ↔ valid L = true ∧ bs.length = L.length ∧ ∀ i, i < L.length → mkC L bs i = true := by
  unfold vmk
  simp only [Bool.and_eq_true, decide_eq_true_eq, List.all_eq_true, List.mem_range]
  exact ⟨fun h => ⟨h.1.1, h.1.2, h.2⟩, fun h => ⟨⟨h.1, h.2.1⟩, h.2.2⟩⟩
theorem vmk_badL {L : List Int} {bs : List Bool} (h : valid L = false) : vmk L bs = false := by unfold vmk; rw [h]; rfl
theorem vmk_badN {L : List Int} {bs : List Bool} (h : bs.length ≠ L.length) : vmk L bs = false := by
  cases hh : vmk L bs with
  | false => rfl
  | true => exact absurd (vmk_iff.1 hh).2.1 h
theorem vmk_badC {L : List Int} {bs : List Bool} {i : Nat} (hi : i < L.length) (h : mkC L bs i = false) : vmk L bs = false := by
  cases hh : vmk L bs with
  | false => rfl
  | true => have := (vmk_iff.1 hh).2.2 i hi; rw [h] at this; cases this
def mdD (L : List Int) (bs : List Bool) : List Int := if vmk L bs then pad L else List.replicate 16 0
def mdE (L : List Int) (bs : List Bool) : List Bool := if vmk L bs then padB bs else List.replicate 16 false
theorem md_no {L : List Int} {bs : List Bool} (h : vmk L bs = false) : mdD L bs = List.replicate 16 0 ∧ mdE L bs = List.replicate 16 false := by
  constructor
  · unfold mdD; rw [h]; rfl
  · unfold mdE; rw [h]; rfl
theorem md_yes {L : List Int} {bs : List Bool} (h : vmk L bs = true) : mdD L bs = pad L ∧ mdE L bs = padB bs := by
  constructor
  · unfold mdD; rw [h]; rfl
  · unfold mdE; rw [h]; rfl
theorem md_len (L : List Int) (bs : List Bool) : (mdD L bs).length = 16 ∧ (mdE L bs).length = 16 := by
  cases h : vmk L bs with
  | false => rw [(md_no h).1, (md_no h).2]; exact ⟨rfl, rfl⟩
  | true =>
    have h1 := vmk_iff.1 h
    have h2 := (valid_bd h1.1).2.2.2
    rw [(md_yes h).1, (md_yes h).2]
    exact ⟨pad_len h2, padB_len (by omega)⟩
/-- the parts whose mark is b, of the first n -/
def sel (b : Bool) (L : List Int) (bs : List Bool) (n : Nat) : List Int := ((List.range n).filter fun i => bs.getD i false == b).map fun i => L.getD i 0
theorem sel_succ (b : Bool) (L : List Int) (bs : List Bool) (n : Nat) : sel b L bs (n + 1) = sel b L bs n ++ if bs.getD n false = b then [L.getD n 0] else [] := by
  unfold sel
  rw [List.range_succ, List.filter_append, List.map_append]
  congr 1
  by_cases h : bs.getD n false = b
  · rw [if_pos h, List.filter_cons, if_pos (beq_iff_eq.2 h)]; rfl
  · rw [if_neg h, List.filter_cons, if_neg (fun hh => h (beq_iff_eq.1 hh))]; rfl
theorem sel_len (b : Bool) (L : List Int) (bs : List Bool) (n : Nat) : (sel b L bs n).length ≤ n := by
  unfold sel
  rw [List.length_map]
  exact Nat.le_trans (List.length_filter_le _ _) (by simp)
def selF (b : Bool) (L : List Int) (bs : List Bool) : List Int := if vmk L bs then sel b L bs L.length else []
theorem selF_yes {b : Bool} {L : List Int} {bs : List Bool} (h : vmk L bs = true) : selF b L bs = sel b L bs L.length := by unfold selF; rw [h]; rfl
theorem selF_no {b : Bool} {L : List Int} {bs : List Bool} (h : vmk L bs = false) : selF b L bs = [] := by unfold selF; rw [h]; rfl
theorem selF_len (b : Bool) (L : List Int) (bs : List Bool) : (selF b L bs).length ≤ 16 := by
  cases h : vmk L bs with
  | false => rw [selF_no h]; simp
  | true =>
    rw [selF_yes h]
    have := sel_len b L bs L.length
    have := (valid_bd (vmk_iff.1 h).1).2.2.2
    omega
/-- marks of the first k corners of a row, each told by a function of its index -/
def mks (D : List Int) (f : Nat → Bool) (n : Nat) : List Bool := (List.range 16).map fun i => decide (i < n) && isCD D i && f i
theorem mks_len (D : List Int) (f : Nat → Bool) (n : Nat) : (mks D f n).length = 16 := by simp [mks]
end NP
end Go.Proofs.Ytgkghebjaedjmaa
namespace Go.Proofs.Ytgkghebjaedjmaa
open Go.RowKit
namespace NP
def stM (F : List Int) (f : Nat → Bool) : List Bool := F.foldl (fun E i => E.set i.toNat (f i.toNat)) (List.replicate 16 false)
theorem foldl_setlen (F : List Int) (f : Nat → Bool) : ∀ E : List Bool, (F.foldl (fun E i => E.set i.toNat (f i.toNat)) E).length = E.length := by
  induction F with
  | nil => intro E; rfl
  | cons x R ih => intro E; rw [List.foldl_cons, ih]; simp
theorem stM_len (F : List Int) (f : Nat → Bool) : (stM F f).length = 16 := by unfold stM; rw [foldl_setlen]; simp
theorem stM_succ {F : List Int} {k : Nat} (h : k < F.length) (f : Nat → Bool) : stM (F.take (k + 1)) f = (stM (F.take k) f).set F[k].toNat (f F[k].toNat) := by
  unfold stM
  rw [List.take_succ_eq_append_getElem h, List.foldl_append]
  rfl
theorem fl_mem {p : Nat → Bool} {n : Nat} {x : Int} (h : x ∈ fl p n) : ∃ i : Nat, x = (i : Int) ∧ i < n ∧ p i = true := by
  unfold fl at h
  obtain ⟨i, hi, rfl⟩ := List.mem_map.1 h
  have := List.mem_filter.1 hi
  exact ⟨i, rfl, by simpa using this.1, this.2⟩
theorem stM_fl (p f : Nat → Bool) (n : Nat) (hn : n ≤ 16) : stM (fl p n) f = (List.range 16).map fun i => decide (i < n) && p i && f i := by
  induction n with
  | zero =>
    have e : (List.range 16).map (fun i => decide (i < 0) && p i && f i) = (List.range 16).map fun _ => false := List.map_congr_left fun i _ => by simp
    rw [e]; rfl
  | succ n ih =>
    have ih := ih (by omega)
    have e : stM (fl p (n + 1)) f = if p n then (stM (fl p n) f).set n (f n) else stM (fl p n) f := by
      rw [fl_succ]
      unfold stM
      rw [List.foldl_append]
      cases p n <;> rfl
    rw [e, ih]
    cases hp : p n with
    | false =>
      rw [if_neg (by simp)]
      apply List.map_congr_left
      intro i _
      by_cases hin : i = n
      · subst hin; simp [hp]
      · have : decide (i < n) = decide (i < n + 1) := by rw [decide_eq_decide]; omega
        rw [this]
    | true =>
      rw [if_pos rfl]
      apply List.ext_getElem
      · simp
      · intro i h1 h2
        rw [List.getElem_set]
        by_cases hin : n = i
        · subst hin; simp [hp]
        · rw [if_neg hin]
          simp only [List.getElem_map, List.getElem_range]
          have : decide (i < n) = decide (i < n + 1) := by rw [decide_eq_decide]; omega
          rw [this]
/-- the marks of parts whose corners are marked as f says -/
def mkOf (C : List Int) (f : Nat → Bool) : List Bool := (List.range C.length).map fun i => isC C i && f i
theorem mkOf_len (C : List Int) (f : Nat → Bool) : (mkOf C f).length = C.length := by simp [mkOf]
theorem mkOf_getD (C : List Int) (f : Nat → Bool) (i : Nat) : (mkOf C f).getD i false = (decide (i < C.length) && isC C i && f i) := by
  unfold mkOf
  rcases Nat.lt_or_ge i C.length with h | h
  · rw [List.getD_eq_getElem?_getD, List.getElem?_eq_getElem (by simpa using h)]; simp [h]
  · rw [List.getD_eq_getElem?_getD, List.getElem?_eq_none (by simpa using h)]; simp; omega
theorem stM_pad {C : List Int} (h : valid C = true) (f : Nat → Bool) : stM (fl (isCD (pad C)) 16) f = padB (mkOf C f) := by
  have hl := (valid_bd h).2.2.2
  rw [stM_fl _ _ 16 (Nat.le_refl _)]
  apply List.ext_getElem
  · rw [padB_len (by rw [mkOf_len]; exact hl)]; simp
  · intro i h1 h2
    have h3 := padB_getD (mkOf C f) i
    rw [List.getD_eq_getElem?_getD, List.getElem?_eq_getElem h2, Option.getD_some, mkOf_getD] at h3
    have h16 : i < 16 := by simpa using h1
    rw [h3]
    simp only [List.getElem_map, List.getElem_range]
    rw [isCD_pad h, decide_eq_true h16, Bool.true_and]
    split
    · rename_i hh; rw [decide_eq_true hh, Bool.true_and]
    · rename_i hh; rw [decide_eq_false hh]; rfl
/-- marked parts at which a function of the index tells the marks are valid -/
theorem vmk_mkOf {C : List Int} (h : valid C = true) (f : Nat → Bool) : vmk C (mkOf C f) = true := by
  refine vmk_iff.2 ⟨h, mkOf_len C f, fun i hi => ?_⟩
  unfold mkC
  rw [mkOf_getD, decide_eq_true hi, Bool.true_and]
  cases isC C i <;> simp
/-- the marks of the turned parts -/
def tnM (L : List Int) (bs : List Bool) : List Bool := mkOf (conj L) fun i => bs.getD ((conj L).getD i 0 - 1).toNat false
theorem pad_at {C : List Int} (h : valid C = true) {i : Nat} (hi : i < C.length) : ∃ hh : i < (pad C).length, (pad C)[i] = C.getD i 0 ∧ 1 ≤ C.getD i 0 ∧ C.getD i 0 ≤ 16 := by
  have hl := (valid_bd h).2.2.2
  refine ⟨by rw [pad_len hl]; omega, ?_, ?_, ?_⟩
  · rw [pad_get hl hi, List.getD_eq_getElem?_getD, List.getElem?_eq_getElem hi]; rfl
  · exact getD_pos h hi
  · rw [List.getD_eq_getElem?_getD, List.getElem?_eq_getElem hi]
    have := preS_of_valid h i hi hi
    exact this.2.1
theorem isCD_lt {C : List Int} (h : valid C = true) {i : Nat} (hc : isCD (pad C) i = true) : i < C.length := by
  rw [isCD_pad h] at hc
  split at hc
  · rename_i hh; exact hh
  · cases hc
end NP
end Go.Proofs.Ytgkghebjaedjmaa
namespace Go.Proofs.Ytgkghebjaedjmaa
open Go.RowKit
set_option linter.unusedVariables false
namespace NP
/-- the bit of a mask -/
def bitB (mask k : Nat) : Bool := mask / 2 ^ k % 2 == 1
/-- how many corners stand ahead of an index -/
def rnkC (L : List Int) (i : Nat) : Nat := (fl (isC L) i).length
/-- the marks that a mask sets -/
def mkm (P : List Int) (mask : Nat) : List Bool := mkOf P fun i => bitB mask (rnkC P i)
def amP (P : List Int) : List (List Int × List Bool) := (List.range (2 ^ (crn P).length)).map fun m => (P, mkm P m)
def amQ (n : Nat) : List (List Int × List Bool) := (allQ n n n).flatMap amP
def amkF (n : Int) : List (List Int × List Bool) := if 0 ≤ n ∧ n ≤ 8 then amQ n.toNat else []
theorem amkF_yes {n : Nat} (h : n ≤ 8) : amkF (n : Int) = amQ n := by unfold amkF; rw [if_pos (by omega)]; simp
theorem amkF_no {n : Int} (h : ¬ (0 ≤ n ∧ n ≤ 8)) : amkF n = [] := by unfold amkF; rw [if_neg h]
theorem fl_rank {p : Nat → Bool} {n k : Nat} (h : k < (fl p n).length) : ∃ i : Nat, (fl p n)[k] = (i : Int) ∧ i < n ∧ p i = true ∧ (fl p i).length = k := by
  induction n with
  | zero => simp [fl] at h
  | succ n ih =>
    rcases Nat.lt_or_ge k (fl p n).length with hk | hk
    · obtain ⟨i, h1, h2, h3, h4⟩ := ih hk
      refine ⟨i, ?_, by omega, h3, h4⟩
      rw [← h1]
      simp only [fl_succ]
      rw [List.getElem_append_left hk]
    · cases hp : p n with
      | false =>
        rw [fl_succ, hp] at h
        simp at h
        omega
      | true =>
        have e : fl p (n + 1) = fl p n ++ [(n : Int)] := by rw [fl_succ, hp]; rfl
        have hk2 : k = (fl p n).length := by
          rw [e] at h
          simp at h
          omega
        refine ⟨n, ?_, by omega, hp, hk2.symm⟩
        simp only [e]
        rw [List.getElem_append_right hk]
        simp
theorem crn_fl (L : List Int) : crn L = fl (isC L) L.length := crnTo_fl L L.length
theorem crn_rank {L : List Int} {k : Nat} (h : k < (crn L).length) : ∃ i : Nat, (crn L)[k] = (i : Int) ∧ i < L.length ∧ isC L i = true ∧ rnkC L i = k := by
  have h' : k < (fl (isC L) L.length).length := by rw [← crn_fl]; exact h
  obtain ⟨i, h1, h2, h3, h4⟩ := fl_rank h'
  refine ⟨i, ?_, h2, h3, h4⟩
  rw [← h1]
  simp only [crn_fl]
theorem crn_len (L : List Int) : (crn L).length ≤ L.length := by rw [crn_fl]; exact fl_len _ _
theorem mkm_stM {L : List Int} (h : valid L = true) (mask : Nat) : stM (crn L) (fun i => bitB mask (rnkC L i)) = padB (mkm L mask) := by
  rw [← crn_pad h]; exact stM_pad h _
theorem mkm_step {L : List Int} {k : Nat} (h : k < (crn L).length) (mask : Nat) (i : Nat) (hi : (crn L)[k] = (i : Int)) : stM ((crn L).take (k + 1)) (fun i => bitB mask (rnkC L i)) = (stM ((crn L).take k) (fun i => bitB mask (rnkC L i))).set i (bitB mask k) := by
  rw [stM_succ h, hi]
  obtain ⟨j, h1, _, _, h4⟩ := crn_rank h
  have : j = i := by rw [hi] at h1; omega
  subst this
  simp only [Int.toNat_natCast, h4]
/-- marks set one after the other in a row of N -/
def stN (N : Nat) (F : List Int) (f : Nat → Bool) : List Bool := F.foldl (fun E i => E.set i.toNat (f i.toNat)) (List.replicate N false)
theorem stN_len (N : Nat) (F : List Int) (f : Nat → Bool) : (stN N F f).length = N := by unfold stN; rw [foldl_setlen]; simp
theorem stN_succ (N : Nat) {F : List Int} {k : Nat} (h : k < F.length) (f : Nat → Bool) : stN N (F.take (k + 1)) f = (stN N (F.take k) f).set F[k].toNat (f F[k].toNat) := by
  unfold stN
  rw [List.take_succ_eq_append_getElem h, List.foldl_append]
  rfl
theorem stN_fl (N : Nat) (p f : Nat → Bool) (n : Nat) (hn : n ≤ N) : stN N (fl p n) f = (List.range N).map fun i => decide (i < n) && p i && f i := by
  induction n with
  | zero =>
    apply List.ext_getElem
    · simp [stN, fl]
    · intro i h1 h2
      simp [stN, fl]
  | succ n ih =>
    have ih := ih (by omega)
    have e : stN N (fl p (n + 1)) f = if p n then (stN N (fl p n) f).set n (f n) else stN N (fl p n) f := by
      rw [fl_succ]
      unfold stN
      rw [List.foldl_append]
      cases p n <;> rfl
    rw [e, ih]
    cases hp : p n with
    | false =>
      rw [if_neg (by simp)]
      apply List.map_congr_left
      intro i _
      by_cases hin : i = n
      · subst hin; simp [hp]
      · have : decide (i < n) = decide (i < n + 1) := by rw [decide_eq_decide]; omega
        rw [this]
    | true =>
      rw [if_pos rfl]
      apply List.ext_getElem
      · simp
      · intro i h1 h2
        rw [List.getElem_set]
        by_cases hin : n = i
        · subst hin; simp [hp]
        · rw [if_neg hin]
          simp only [List.getElem_map, List.getElem_range]
          have : decide (i < n) = decide (i < n + 1) := by rw [decide_eq_decide]; omega
          rw [this]
theorem mkm_stN (L : List Int) (mask : Nat) : stN L.length (crn L) (fun i => bitB mask (rnkC L i)) = mkm L mask := by
  rw [crn_fl, stN_fl _ _ _ _ (Nat.le_refl _)]
  unfold mkm mkOf
  apply List.map_congr_left
  intro i hi
  rw [decide_eq_true (by simpa using hi), Bool.true_and]
theorem mkmN_step {L : List Int} {k : Nat} (h : k < (crn L).length) (mask : Nat) (i : Nat) (hi : (crn L)[k] = (i : Int)) : stN L.length ((crn L).take (k + 1)) (fun i => bitB mask (rnkC L i)) = (stN L.length ((crn L).take k) (fun i => bitB mask (rnkC L i))).set i (bitB mask k) := by
  rw [stN_succ _ h, hi]
  obtain ⟨j, h1, _, _, h4⟩ := crn_rank h
  have : j = i := by rw [hi] at h1; omega
  subst this
  simp only [Int.toNat_natCast, h4]
theorem mkm_len (P : List Int) (m : Nat) : (mkm P m).length = P.length := mkOf_len _ _
theorem amP_len (P : List Int) : (amP P).length = 2 ^ (crn P).length := by simp [amP]
theorem amP_at {P : List Int} {m : Nat} (h : m < (amP P).length) : (amP P)[m] = (P, mkm P m) := by simp [amP]
theorem amP_few {L : List Int} (h : valid L = true) : (amP L).length ≤ 65536 := by
  rw [amP_len]
  have h1 := crn_len L
  have h2 := (valid_bd h).2.2.2
  exact Nat.pow_le_pow_right (by omega) (show (crn L).length ≤ 16 by omega)
theorem allQ8_tab : (List.range 9).all (fun n => (allQ n n n).all fun L => valid L && decide (sumL L = (n : Int))) = true := by decide +kernel
theorem allQ8_ok {n : Nat} (hn : n ≤ 8) {L : List Int} (h : L ∈ allQ n n n) : valid L = true ∧ sumL L = (n : Int) := by
  have h1 := List.all_eq_true.1 allQ8_tab n (by simp; omega)
  have h2 := List.all_eq_true.1 h1 L h
  simp only [Bool.and_eq_true, decide_eq_true_eq] at h2
  exact h2
/-- one test of all marked parts with a sum -/
def amT (n : Nat) : Bool :=
  let A := amQ n
  decide (A.length ≤ 200) && A.all (fun M => decide (sumL M.1 = (n : Int)) && decide (M.1.length ≤ 8)) && (List.range A.length).all (fun k => k == 0 || (A[k - 1]? != A[k]?))
theorem amT_all : (List.range 9).all amT = true := by decide +kernel
end NP
end Go.Proofs.Ytgkghebjaedjmaa
namespace Go.Proofs.Ytgkghebjaedjmaa
open Go.RowKit Go.Shelf NP
set_option maxRecDepth 8000
set_option linter.unusedVariables false
set_option linter.unusedSimpArgs false
attribute [local go_sem] Oper.semAt_some
theorem T_pilJ : (Try.prog.info? 43).map (fun i => (i.zero, i.size, i.bytes)) = some (some (.slice none 0 0), 1, 24) := by kernel_rfl
theorem wpListIn_append_bag {α : Type} {ts : TypeId → Bool} {E : World → Nat → Nat → List Value → α → Prop} {w : World} {lo hi : Nat} {t : TypeId} {n : Nat} {v : Value} {us : List (List Value)} {iv : List (Nat × Nat)} {X : List α}
    {F : Fence} {nn : Nat} {P : Program} {ops : Array Oper} {rest : List Oper} {o : Oper} {a : Act} {Q : Exit → Act → World → Prop} (hgd : o.guard = none) (s x : Operand) (tl : TypeId) (ho : o.op = .call { callee := .builtin .append, args := #[s, x], argTypes := #[tl, tl] })
    (hE : KeepE E ts) {lo2 hi2 : Nat} {us2 : List (List Value)} {iv2 : List (Nat × Nat)} {X2 : List α} (i : TypeInfo) (z : Value) (bytes : Nat) (ht : P.underlying tl = some (.slice t)) (hi0 : P.info? t = some i) (hz : i.zero = some z)
    (hsize : i.size = n) (hby : i.bytes = bytes) (hzs : z.cells.size = n) (hn : 0 < n) (hs : a.eval s = v) (h : OwnBag E w lo hi t n v us iv X) {A : Option Addr} {m c : Nat} (hx : a.eval x = .slice A m c) (h2 : OwnBag E w lo2 hi2 t n (.slice A m c) us2 iv2 X2) (hd : hi ≤ lo2) (hlo : lo ≤ lo2)
    (hl : X.length ≤ 1000000000) (hl2 : X2.length ≤ 1000000000) (hb : bytes ≤ 10000) (hlw : lo ≤ w.heap.size)
    (hk : ∀ v' w', OwnBag E w' lo w'.heap.size t n v' (us ++ us2) (iv ++ iv2) (X ++ X2) → w.grownBy w' v.ownBlock → (v'.ownBlock = v.ownBlock ∨ v'.ownBlock = some w.heap.size) → wpListIn F nn P ops Q rest (a.put o.dst v') w') : wpListIn F nn P ops Q (o :: rest) a w :=
  wpListIn_plain hgd fun K hK => by
    obtain ⟨v', w', hrun, h3, h4, h5⟩ := run_append_bag (P := P) hE tl o.type i z bytes ht hi0 hz hsize hby hzs hn h h2 hd hlo hl hl2 hb hlw
    unfold Oper.wpIn
    refine ⟨by simp [Oper.about, ho, resolve, Target.leads, Sem.run_pure], ?_⟩
    rw [Oper.semAt_plain F _ _ (by rw [ho]; intro c hc; cases hc)]
    simp [execOp, ho, resolve, invoke, builtin, hs, hx, hrun, Result.andThen]
    exact hK _ _ (hk v' w' h3 h4 h5)
/-- rows with one more behind, copied but for the last, can be read -/
theorem next_rd {P : Program} (W : World) (lo B : Nat) (t ty eo : TypeId) (i : TypeInfo) (z : Value) (ht : P.underlying t = some (.slice eo)) (hi0 : P.info? eo = some i) (hz : i.zero = some z) (hsize : i.size = 1) (hby : i.bytes = 24) (hzs : z.cells.size = 1) {e : TypeId}
    {hi : Nat} {v : Value} {vs : List Value} {H : List (List Int)} (h : OwnLL W lo hi eo e v vs H) (u : Value) (L : List Int) (hu : Inn W B u L) (hBl : B ≤ lo) (hlo : lo ≤ W.heap.size) {bq qp : Nat} (hq : Rd W bq (some ⟨qp, 0, none⟩) [u]) (hH : H.length ≤ 1000) (hone : u.oneCell' = true) :
    ∃ a' c' W', (Builtin.append_ #[t, t] ty #[v, .slice (some ⟨qp, 0, none⟩) 1 1]).run P W = .ok (.slice a' (H.length + 1) c') W' ∧ RdLL W' W'.heap.size a' (H ++ [L]) ∧ Below lo W W' := by
  have hvl := h.len
  obtain ⟨v', W', hrun, ho, hg, hat⟩ := run_append_o (P := P) W lo hi t ty eo i z 24 ht hi0 hz hsize hby hzs h.outer hq (m := 1) (c := 1) rfl (fun x hx => by rw [List.mem_singleton.1 hx]; exact hone) (by unfold maxLen; omega) (by omega) hlo
  obtain ⟨a', c', hf⟩ := ho.form
  rw [List.length_append, List.length_singleton, hvl] at hf
  subst hf
  have hB : Below lo W W' := (Below.refl lo W).grown hg hlo (fun g hg => h.outer.base g hg)
  refine ⟨a', c', W', hrun, ⟨vs ++ [u], ho.rd, by rw [List.length_append, List.length_append, hvl]; rfl, fun k x M hx hM => ?_⟩, hB⟩
  rcases Nat.lt_or_ge k vs.length with hk | hk
  · rw [List.getElem?_append_left hk] at hx
    rw [List.getElem?_append_left (by omega)] at hM
    have hin := h.inner k x M hx hM
    obtain ⟨ax, cx, hfx⟩ := hin.form
    rw [List.length_map] at hfx
    have hin2 := hin.grown hg (by
      cases hb : x.ownBlock with
      | none => exact .inl rfl
      | some g => exact .inr fun e => h.apartO k x g hx hb e.symm)
    subst hfx
    refine ⟨ax, cx, rfl, hin2.rd.more (Nat.le_trans hin.le hB.size), ?_⟩
    rcases Nat.eq_zero_or_pos M.length with h0 | h0
    · omega
    · obtain ⟨g, c2, e2, hc⟩ := hin2.formN (by simpa using h0)
      injection e2 with _ _ e3
      rw [List.length_map] at hc
      omega
  · rw [List.getElem?_append_right hk] at hx
    rw [List.getElem?_append_right (by omega)] at hM
    have e0 : k - vs.length = 0 := by
      rcases Nat.eq_zero_or_pos (k - vs.length) with q | q
      · exact q
      · rw [List.getElem?_eq_none (by simp only [List.length_singleton]; omega)] at hx; cases hx
    rw [e0] at hx
    rw [← hvl, e0] at hM
    cases hx; cases hM
    exact (hu.below (hB.mono hBl)).more (Nat.le_trans hBl (Nat.le_trans hlo hB.size))
set_option maxRecDepth 100000 in
set_option maxHeartbeats 4000000 in
theorem spiles_zero (f : Nat) (H : List (List Int)) (a : Option Addr) (c B : Nat) (w : World) (h : RdLL w B a H) (hB : B ≤ w.heap.size) (hl : H.length ≤ 1000) (hil : ∀ L ∈ H, L.length ≤ 1000) :
    Calls Try.prog 54 #[.slice a H.length c, .int .i64 0] w fun e w' => ∃ a' c' us iv, e = .returned (.slice a' (pq f H 0).length c') ∧ OwnBag EP w' w.heap.size w'.heap.size 43 1 (.slice a' (pq f H 0).length c') us iv (pq f H 0) ∧ Below w.heap.size w w' := by
  rw [pq_zero]
  go_enter Try.func54, Try.ntmps54
  go_wp2_with (go_at_call 83; refine (copyRows_any H a c B w h hB hl hil).mono ?_; rintro e w1 ⟨a1, c1, vs, rfl, hLL, hb1⟩)
  have hsing := OwnBag.single (t := 43) (n := 1) ep_keep (x := H) ⟨a1, c1, vs, rfl, hLL⟩ hb1.size (Nat.le_refl _) rfl (ep_one _ _ _)
  go_ret
  exact ⟨_, _, _, _, rfl, hsing.more, hb1.alloc hb1.size _⟩
set_option maxRecDepth 100000 in
set_option maxHeartbeats 8000000 in
theorem spiles_any : ∀ (f : Nat) (H : List (List Int)) (n : Nat) (a : Option Addr) (c B : Nat) (w : World), n ≤ f → vpl H = true → sumLL H + (n : Int) ≤ 16 → H.length + n ≤ 6 → RdLL w B a H → B ≤ w.heap.size →
    Calls Try.prog 54 #[.slice a H.length c, .int .i64 n] w fun e w' => ∃ a' c' us iv, e = .returned (.slice a' (pq f H n).length c') ∧ OwnBag EP w' w.heap.size w'.heap.size 43 1 (.slice a' (pq f H n).length c') us iv (pq f H n) ∧ Below w.heap.size w w' := by
  intro f
  induction f with
  | zero =>
    intro H n a c B w hn hH hs hHn h hB
    obtain rfl : n = 0 := by omega
    exact spiles_zero 0 H a c B w h hB (by omega) (fun L hL => by have := vpl_l16 hH L hL; omega)
  | succ f ih =>
    intro H n a c B w hn hH hs hHn h hB
    by_cases h0 : n = 0
    · subst h0
      exact spiles_zero (f + 1) H a c B w h hB (by omega) (fun L hL => by have := vpl_l16 hH L hL; omega)
    have hmx : Try.prog.follows .mixedOrders = true := by kernel_rfl
    obtain ⟨ip, hip, hp0, hp1, hp2⟩ := info_parts T_pilJ
    obtain ⟨i1, hi1, hy0, hy1, hy2⟩ := info_parts T_rowsI
    rw [pq_up H h0]
    have HIH := Lib.hid ih
    have HH := Lib.hid hH
    have hil : ∀ L ∈ H, L.length ≤ 1000 := fun L hL => by have := vpl_l16 hH L hL; omega
    have HIL := Lib.hid hil
    have HRD := Lib.hid (h.more hB)
    have hn0 : ((n : Int) == 0) = false := beq_eq_false_iff_ne.2 (by omega)
    have he0 := (OwnBag.empty (E := EP) w 43 1).more
    have hbe : Below w.heap.size w (w.alloc (.cells #[] 43)) := (Below.refl _ _).alloc (Nat.le_refl _) _
    have hHl : H.length ≤ 6 := by omega
    have hn6 : n ≤ 6 := by omega
    clear ih hH hil h hB
    refine (callsIn_wide (n := 6)).1 ?_
    refine callsIn_of_wp Try.func54 rfl trivial ?_ rfl
    simp only [Try.ntmps54, List.size_toArray, List.length_cons, List.length_nil, Nat.reduceAdd, Nat.reduceSub, Array.replicate_succ, Array.replicate_zero, List.push_toArray, List.append_toArray, List.nil_append, List.cons_append]
    gi_wp2_with fail
    gi_loopw [5, 6] (fun vo vk wr => ∃ (r : Nat) (us : List (List Value)) (iv : List (Nat × Nat)), vk = .int .i64 ((n - r : Nat) : Int) ∧ r ≤ n ∧ OwnBag EP wr w.heap.size wr.heap.size 43 1 vo us iv (pqk f H n r) ∧ Below w.heap.size w wr) (fun _ vk _ => (intOf vk).toNat)
    case atStart => exact ⟨0, [], [], rfl, Nat.zero_le _, by simpa [pqk] using he0, hbe⟩
    case round =>
      obtain ⟨r, us, iv, rfl, hr, hbag, hbel⟩ := hrel
      obtain ⟨wo, rfl⟩ : ∃ wo : World, wo = wr := ⟨_, rfl⟩
      clear he0 hbe
      by_cases hlt : r < n
      · obtain ⟨k, hk⟩ : ∃ k, n - r = k := ⟨_, rfl⟩
        have hk1 : 1 ≤ k := by omega
        have hk6 : k ≤ 6 := by omega
        have hge : decide ((1 : Int) ≤ (k : Int)) = true := decide_eq_true (by omega)
        have hge' : decide (1 ≤ k) = true := decide_eq_true hk1
        have HKR := Lib.hid hk
        have HRK : Hid (n = r + k) := Lib.hid (by omega)
        rw [hk]
        have hl := slist_lists k (by omega) k (some ⟨wo.heap.size, 0, none⟩) 0 (wo.heap.size + 1) [] k (wo.alloc (.cells #[] 3)) (Nat.le_refl _) (by simp; omega) (by omega) (fun hne => absurd rfl hne) (by simp)
        have hm : (allQ k k k).map (([] : List Int) ++ ·) = allQ k k k := by simp
        rw [hm] at hl
        have HL := Lib.hid hl
        have hNQ := allQ_len (show k ≤ 16 by omega)
        have HBG := Lib.hid hbag
        clear hk hl hbag
        gi_wp2_with (first
          | (refine ⟨trivial, ?_⟩; gi_at_call 39; refine (callsIn_wide.2 HL.out).mono ?_; rintro e w1 ⟨aA, cA, vsA, rfl, hLA, hb1⟩))
        have hz1 := hb1.size
        have hzA : wo.heap.size < (wo.alloc (.cells #[] 3)).heap.size := by simp
        have hbw1 : Below wo.heap.size wo w1 := ((Below.refl _ _).alloc (Nat.le_refl _) _).trans (hb1.mono (by omega))
        have hbel1 := hbel.trans (hbw1.mono hbel.size)
        have HLA := Lib.hid hLA
        have HBG1 := Lib.hid (HBG.out.below ep_keep hbw1)
        obtain ⟨LA, hLAe⟩ : ∃ x, (wo.alloc (.cells #[] 3)).heap.size = x := ⟨_, rfl⟩
        rw [hLAe] at hzA hz1 HLA
        have hw2 : IntKind.i64.wrap ((n : Int) - (k : Int)) = (r : Int) := by rw [show (n : Int) - (k : Int) = (r : Int) by have := HRK.out; omega]; exact IntWalk.i64_in _ (by omega)
        clear hLA hb1 hLAe HBG
        gi_loopw [5, 8] (fun vo vi wr => ∃ (i : Nat) (us : List (List Value)) (iv : List (Nat × Nat)), vi = .int .i64 (i : Int) ∧ i ≤ (allQ k k k).length ∧ OwnBag EP wr w.heap.size wr.heap.size 43 1 vo us iv (pqk f H n r ++ pqs (fun K => pq f K r) H ((allQ k k k).take i)) ∧ OwnLL wr LA w1.heap.size 30 3 (.slice aA (allQ k k k).length cA) vsA (allQ k k k) ∧ Below w.heap.size w wr ∧ w1.heap.size ≤ wr.heap.size) (fun _ vi _ => (allQ k k k).length - (intOf vi).toNat)
        case atStart => exact ⟨0, us, iv, rfl, Nat.zero_le _, by simpa [pqs] using HBG1.out.more, HLA.out, hbel1, Nat.le_refl _⟩
        case round =>
          obtain ⟨i, us, iv, rfl, hi, hbag, hLA, hbel, hzq⟩ := hrel
          obtain ⟨wq0, rfl⟩ : ∃ wo : World, wo = wr := ⟨_, rfl⟩
          clear HLA HBG1 hbel1 hbw1
          by_cases hil : i < (allQ k k k).length
          · have hil' : (i : Int) < ((allQ k k k).length : Int) := by omega
            obtain ⟨gA, aP, cP, rfl, hg1, hg2, hcell, hown, -⟩ := hLA.at_ hil
            have hok := allQ8_ok (show k ≤ 8 by omega) (List.getElem_mem hil)
            have HTK : Hid ((allQ k k k).take (i + 1) = (allQ k k k).take i ++ [(allQ k k k)[i]]) := Lib.hid (List.take_succ_eq_append_getElem hil)
            have HLA := Lib.hid hLA
            have HBG := Lib.hid hbag
            have hqs := pqs_few f H (show r ≤ 6 by omega) ((allQ k k k).take i)
            have hqk := pqk_few f H hn6 hr
            have HLN : Hid ((pqk f H n r ++ pqs (fun K => pq f K r) H ((allQ k k k).take i)).length ≤ 1000000000) := Lib.hid (by
              rw [List.length_append]
              have e3 : ((allQ k k k).take i).length * 729 ≤ 1000 * 729 := Nat.mul_le_mul_right _ (by rw [List.length_take]; omega)
              omega)
            obtain ⟨P, hP⟩ : ∃ P, P = (allQ k k k)[i] := ⟨_, rfl⟩
            rw [← hP] at hcell hown hok HTK
            have hPb := valid_bd hok.1
            have hPne : P ≠ [] := fun e => by subst e; have := hok.2; simp [sumL] at this; omega
            have hPs := hok.2
            have hrk := HRK.out
            have HFV : Hid (vpl (H ++ [P]) = fitP H P) := Lib.hid (fit_vpl HH.out hok.1 hPne (by rw [hPs]; omega))
            have hsn := sumLL_snoc H P
            rw [hPs] at hsn
            have hs2 : sumLL (H ++ [P]) + (r : Int) ≤ 16 := by rw [hsn]; omega
            have hl2 : (H ++ [P]).length + r ≤ 6 := by rw [List.length_append, List.length_singleton]; omega
            have HLP : Hid ((pq f (H ++ [P]) r).length ≤ 1000000000) := Lib.hid (by have := pq_few f (H ++ [P]) (show r ≤ 6 by omega); omega)
            have hPl : P.length ≤ 16 := hPb.2.2.2
            have hInn : Inn wq0 w1.heap.size (.slice aP P.length cP) P := ⟨aP, cP, rfl, hown.rd, by
              rcases Nat.eq_zero_or_pos P.length with h0 | h0
              · omega
              · obtain ⟨g, c2, e2, hc⟩ := hown.formN (by simpa using h0)
                injection e2 with _ _ e3
                rw [List.length_map] at hc
                omega⟩
            clear hP hLA hbag hqs hqk hsn hrk hok hPb hown
            gi_wp2_with fail
            refine wpIn_region_any hmx ?_
            obtain ⟨y, hy⟩ : ∃ y, wq0.drew = y := ⟨_, rfl⟩
            change wpAnyIn _ _ _ _ _ _ _ _ _ (World.drew _)
            rw [hy]
            have hky : Below wq0.heap.size wq0 y := by rw [← hy]; exact (Dr.n wq0 1).below _
            have hyz := hky.size
            have hcy : y.cell? ⟨gA, i, none⟩ = some (.slice aP P.length cP) := by rw [← hy]; exact hcell
            have hRy : RdLL y w.heap.size a H := HRD.out.below (hbel.trans (hky.mono hbel.size))
            have hIy := hInn.below (hky.mono hzq)
            clear hy hcell
            refine wpAnyIn_first [(0, .slice a H.length c), (2, .slice (some ⟨gA, 0, none⟩) (allQ k k k).length cA), (3, .int .i64 i), (4, .pointer (some ⟨gA, i, none⟩)), (5, .slice aP P.length cP)] (fun w' => w'.cell? ⟨gA, i, none⟩ = some (.slice aP P.length cP)) _ _ _ rfl (by kernel_rfl) (by kernel_rfl) hcy #[true, false, true, true, true, true, false, false, false] (by kernel_rfl) 4 (by kernel_rfl) ?fix ?rest
            case fix =>
              simp only [putsL, Act.put, List.getElem?_toArray, List.getElem?_cons_succ, List.getElem?_cons_zero, Option.bind_some, Nat.reduceAdd, List.setIfInBounds_toArray, List.set_cons_zero, List.set_cons_succ, List.map_cons, List.map_nil, List.getElem_toArray, List.getElem_cons_succ, List.getElem_cons_zero]
              refine FixS.cons rfl rfl (fun wq hq => opIn_val (w' := wq) (by simp [Oper.about]) (by go_simp) ⟨rfl, rfl⟩) ?_
              refine FixS.cons rfl rfl (fun wq hq => opIn_val (w' := wq) (by simp [Oper.about]) (by go_simp) ⟨rfl, rfl⟩) ?_
              refine FixS.cons rfl rfl (fun wq hq => opIn_val (w' := wq) (by simp [Oper.about]) (by go_simp) ⟨rfl, rfl⟩) ?_
              refine FixS.cons rfl rfl (fun wq hq => opIn_val (w' := wq) (by simp [Oper.about]) (by go_simp) ⟨rfl, rfl⟩) ?_
              refine FixS.cons rfl rfl (fun wq hq => opIn_val (w' := wq) (by simp [Oper.about]) (by have hc := hq; go_simp) ⟨rfl, rfl⟩) ?_
              exact FixS.nil
            case rest =>
            simp only [putsL, Act.put, List.getElem?_toArray, List.getElem?_cons_succ, List.getElem?_cons_zero, Option.bind_some, Nat.reduceAdd, List.setIfInBounds_toArray, List.set_cons_zero, List.set_cons_succ, List.map_cons, List.map_nil, List.getElem_toArray, List.getElem_cons_succ, List.getElem_cons_zero]
            refine wpAnyS_two 1 6 _ _ (by kernel_rfl) rfl rfl rfl rfl (fun K hK => ?_) (fun K hK => ?_)
            · -- the rows first, then the new one
              go_simp
              refine ⟨trivial, ?_⟩
              gi_at_call 83
              refine (callsIn_wide.2 (copyRows_any H a c w.heap.size y hRy (Nat.le_trans hbel.size hyz) (by omega) HIL.out)).mono ?_
              rintro e W1 ⟨a2, c2, vs2, rfl, hLL1, hb1⟩
              have hzy := hb1.size
              have hS1 := ((hb1.mono (show w1.heap.size ≤ y.heap.size by omega)).cell (p := ⟨gA, i, none⟩) hg2).trans hcy
              refine hK _ _ (fun _ => hS1) ?_
              clear hK K
              simp only [putsL, Act.put, List.getElem?_toArray, List.getElem?_cons_succ, List.getElem?_cons_zero, Option.bind_some, Nat.reduceAdd, List.setIfInBounds_toArray, List.set_cons_zero, List.set_cons_succ, List.map_cons, List.map_nil, List.getElem_toArray, List.getElem_cons_succ, List.getElem_cons_zero]
              obtain ⟨W2, hW2⟩ : ∃ W2, W1.alloc (.cells #[.slice aP P.length cP] 30) = W2 := ⟨_, rfl⟩
              refine wpAnyS_one 6 _ (by kernel_rfl) rfl rfl (fun K hK => ?_)
              refine opIn_val (v := .slice (some ⟨W1.heap.size, 0, none⟩) 1 1) (w' := W2) (by simp [Oper.about]) (by rw [← hW2]; go_simp) ?_
              have hk2 : Below W1.heap.size W1 W2 := by rw [← hW2]; exact (Below.refl _ _).alloc (Nat.le_refl _) _
              have hS2 := ((hk2.mono (show w1.heap.size ≤ W1.heap.size by omega)).cell (p := ⟨gA, i, none⟩) hg2).trans hS1
              refine hK _ _ (fun _ => hS2) ?_
              clear hK K
              simp only [putsL, Act.put, List.getElem?_toArray, List.getElem?_cons_succ, List.getElem?_cons_zero, Option.bind_some, Nat.reduceAdd, List.setIfInBounds_toArray, List.set_cons_zero, List.set_cons_succ, List.map_cons, List.map_nil, List.getElem_toArray, List.getElem_cons_succ, List.getElem_cons_zero]
              have hz2 := hk2.size
              obtain ⟨a3, c3, W3, hrun, hr3, hb3⟩ := next_rd (P := Try.prog) W2 y.heap.size w1.heap.size 43 43 30 i1 (.slice none 0 0) Try.underlying43 hi1 hy0 hy1 hy2 rfl (hLL1.below hk2) (.slice aP P.length cP) P ((hIy.below (hb1.mono (by omega))).below (hk2.mono (by omega))) (by omega) (by omega) (by rw [← hW2]; exact Rd.one W1 _ _) (by omega) rfl
              refine wpAnyS_one 7 _ (by kernel_rfl) rfl rfl (fun K hK => ?_)
              refine opIn_append (.tmp 32) (.tmp 37) 43 rfl rfl rfl hrun ?_
              refine hK _ _ (fun _ => ((hb3.mono (show w1.heap.size ≤ y.heap.size by omega)).cell (p := ⟨gA, i, none⟩) hg2).trans hS2) ?_
              clear hK K
              simp only [putsL, Act.put, List.getElem?_toArray, List.getElem?_cons_succ, List.getElem?_cons_zero, Option.bind_some, Nat.reduceAdd, List.setIfInBounds_toArray, List.set_cons_zero, List.set_cons_succ, List.map_cons, List.map_nil, List.getElem_toArray, List.getElem_cons_succ, List.getElem_cons_zero]
              refine wpAnyS_one 8 _ (by kernel_rfl) rfl rfl (fun K hK => ?_)
              refine opIn_val (v := .slice a3 (H.length + 1) c3) (w' := W3) (by simp [Oper.about]) (by go_simp) ?_
              refine hK _ _ (fun h => absurd rfl h) ?_
              clear hK K
              simp only [putsL, Act.put, List.getElem?_toArray, List.getElem?_cons_succ, List.getElem?_cons_zero, Option.bind_some, Nat.reduceAdd, List.setIfInBounds_toArray, List.set_cons_zero, List.set_cons_succ, List.map_cons, List.map_nil, List.getElem_toArray, List.getElem_cons_succ, List.getElem_cons_zero]
              unfold wpAnyS
              have hbW : Below wq0.heap.size wq0 W3 := ((hky.trans (hb1.mono hyz)).trans (hk2.mono (by omega))).trans (hb3.mono (by omega))
              have hz3 := hbW.size
              have hvc := fun w' h => validPile_any a3 c3 W3.heap.size (H ++ [P]) w' h (by simp; omega) (fun L hL => by
                rcases List.mem_append.1 hL with hL | hL
                · have := HIL.out L hL; omega
                · rw [List.mem_singleton.1 hL]; omega)
              rw [List.length_append, List.length_singleton] at hvc
              have HVC := Lib.hid hvc
              have HR3 := Lib.hid hr3
              have HLA3 := Lib.hid (HLA.out.below (hbW.mono hzq))
              have HBG3 := Lib.hid (HBG.out.below ep_keep hbW)
              have hbel3 := hbel.trans (hbW.mono hbel.size)
              clear hvc hr3 hrun hS2
              cases hfb : fitP H P with
              | false =>
                have hvn : vpl (H ++ [P]) = false := by rw [HFV.out, hfb]
                have HVN := Lib.hid hvn
                clear hvn
                gi_wp2_with (refine ⟨trivial, ?_⟩; gi_at_call 84; refine (callsIn_wide.2 (HVC.out W3 HR3.out)).mono ?_; rintro e W4 ⟨rfl, hd4⟩; rw [HVN.out])
                go_roundw
                case rel =>
                  have hb4 := hd4.below W3.heap.size
                  exact ⟨i + 1, us, iv, by go_num, by omega, by rw [HTK.out, pqs_snoc, hfb]; simpa using (HBG3.out.below ep_keep (hb4.mono HBG3.out.le)).more, HLA3.out.below (hb4.mono (by omega)), hbel3.trans (hb4.mono hbel3.size), by have := hb4.size; omega⟩
                case measure => simp [intOf] <;> omega
              | true =>
                have hvn : vpl (H ++ [P]) = true := by rw [HFV.out, hfb]
                have HVN := Lib.hid hvn
                have hic := fun w' h hB => HIH.out (H ++ [P]) r a3 c3 W3.heap.size w' (by have := HRK.out; omega) hvn hs2 hl2 h hB
                rw [List.length_append, List.length_singleton] at hic
                have HIC := Lib.hid hic
                clear hvn hic
                gi_wp2_with (first
                  | (refine ⟨trivial, ?_⟩; gi_at_call 84; refine (callsIn_wide.2 (HVC.out W3 HR3.out)).mono ?_; rintro e W4 ⟨rfl, hd4⟩; rw [HVN.out]; have hb4 := hd4.below W3.heap.size; have hz4 := hb4.size; have HR4 := Lib.hid (HR3.out.below hb4); have HBG4 := Lib.hid (HBG3.out.below ep_keep (hb4.mono HBG3.out.le)); have HLA4 := Lib.hid (HLA3.out.below (hb4.mono (show w1.heap.size ≤ W3.heap.size by omega))); have hbel4 := hbel3.trans (hb4.mono hbel3.size))
                  | (refine ⟨trivial, ?_⟩; gi_at_call 54; refine (callsIn_wide.2 (HIC.out W4 HR4.out hz4)).mono ?_; rintro e W5 ⟨a5, c5, us5, iv5, rfl, hbag5, hb5⟩; have hz5 := hb5.size; have HB5 := Lib.hid hbag5; have HBG5 := Lib.hid (HBG4.out.below ep_keep (hb5.mono HBG4.out.le)); have HLA5 := Lib.hid (HLA4.out.below (hb5.mono (show w1.heap.size ≤ W4.heap.size by omega))); have hbel5 := hbel4.trans (hb5.mono hbel4.size); have HZA : Hid (wq0.heap.size ≤ W4.heap.size) := Lib.hid (by omega); have HZB : Hid (w.heap.size ≤ W4.heap.size) := Lib.hid hbel4.size; have HZC : Hid (w.heap.size ≤ W5.heap.size) := Lib.hid hbel5.size; clear hbag5)
                  | (refine wpListIn_append_bag (t := 43) rfl (.tmp 41) (.tmp 46) 38 rfl ep_keep ip _ 24 Try.underlying38 hip hp0 hp1 hp2 rfl (by decide) rfl HBG5.out rfl HB5.out HZA.out HZB.out HLN.out HLP.out (by decide) HZC.out ?_; intro v8 w8 hbag8 hg8 hat8))
                go_roundw
                case rel =>
                  have hne : ∀ (q : Nat) (cs : Array Value) (t : TypeId), t ≠ 43 → W5.heap[q]? = some (.cells cs t (0, 0)) → w8.heap[q]? = W5.heap[q]? := fun q cs t ht hc => hg8.block q (Array.getElem?_eq_some_iff.1 hc).1 (fun e => by
                    obtain ⟨cs', hc'⟩ := HBG5.out.cells q e.symm
                    rw [hc] at hc'; injection hc' with hc'; injection hc' with _ hc' _
                    exact ht hc')
                  have e := hbag8
                  rw [List.append_assoc] at e
                  have e1 : pqk f H n r ++ (pqs (fun K => pq f K r) H ((allQ k k k).take i) ++ pq f (H ++ [P]) r) = pqk f H n r ++ pqs (fun K => pq f K r) H ((allQ k k k).take (i + 1)) := by rw [HTK.out, pqs_snoc, hfb, if_pos rfl]
                  rw [e1] at e
                  exact ⟨i + 1, _, _, by go_num, by omega, e, HLA5.out.stay hg8.size (fun q cs hc => hne q cs _ (by decide) hc) (fun q cs hc => hne q cs _ (by decide) hc), hbel5.grown hg8 HZC.out (fun q hq => HBG5.out.base q hq), by have := hg8.size; omega⟩
                case measure => simp [intOf] <;> omega
            · -- the new row first
              obtain ⟨W1, hW1⟩ : ∃ W1, y.alloc (.cells #[.slice aP P.length cP] 30) = W1 := ⟨_, rfl⟩
              refine opIn_val (v := .slice (some ⟨y.heap.size, 0, none⟩) 1 1) (w' := W1) (by simp [Oper.about]) (by rw [← hW1]; go_simp) ?_
              have hk1 : Below y.heap.size y W1 := by rw [← hW1]; exact (Below.refl _ _).alloc (Nat.le_refl _) _
              have hz1 := hk1.size
              have hyl : y.heap.size < W1.heap.size := by rw [← hW1]; simp
              have hS1 := ((hk1.mono (show w1.heap.size ≤ y.heap.size by omega)).cell (p := ⟨gA, i, none⟩) hg2).trans hcy
              have hq1 : Rd W1 (y.heap.size + 1) (some ⟨y.heap.size, 0, none⟩) [.slice aP P.length cP] := by rw [← hW1]; exact Rd.one y _ _
              refine hK _ _ (fun _ => hS1) ?_
              clear hK K
              simp only [putsL, Act.put, List.getElem?_toArray, List.getElem?_cons_succ, List.getElem?_cons_zero, Option.bind_some, Nat.reduceAdd, List.setIfInBounds_toArray, List.set_cons_zero, List.set_cons_succ, List.map_cons, List.map_nil, List.getElem_toArray, List.getElem_cons_succ, List.getElem_cons_zero]
              refine wpAnyS_one 1 _ (by kernel_rfl) rfl rfl (fun K hK => ?_)
              go_simp
              refine ⟨trivial, ?_⟩
              gi_at_call 83
              refine (callsIn_wide.2 (copyRows_any H a c w.heap.size W1 (hRy.below (hk1.mono (Nat.le_trans hbel.size hyz))) (Nat.le_trans hbel.size (by omega)) (by omega) HIL.out)).mono ?_
              rintro e W2 ⟨a2, c2, vs2, rfl, hLL1, hb2⟩
              have hz2 := hb2.size
              have hS2 := ((hb2.mono (show w1.heap.size ≤ W1.heap.size by omega)).cell (p := ⟨gA, i, none⟩) hg2).trans hS1
              refine hK _ _ (fun _ => hS2) ?_
              clear hK K
              simp only [putsL, Act.put, List.getElem?_toArray, List.getElem?_cons_succ, List.getElem?_cons_zero, Option.bind_some, Nat.reduceAdd, List.setIfInBounds_toArray, List.set_cons_zero, List.set_cons_succ, List.map_cons, List.map_nil, List.getElem_toArray, List.getElem_cons_succ, List.getElem_cons_zero]
              obtain ⟨a3, c3, W3, hrun, hr3, hb3⟩ := next_rd (P := Try.prog) W2 W1.heap.size w1.heap.size 43 43 30 i1 (.slice none 0 0) Try.underlying43 hi1 hy0 hy1 hy2 rfl hLL1 (.slice aP P.length cP) P ((hIy.below (hk1.mono (by omega))).below (hb2.mono (by omega))) (by omega) (by omega) (hq1.below (hb2.mono (by omega))) (by omega) rfl
              refine wpAnyS_one 7 _ (by kernel_rfl) rfl rfl (fun K hK => ?_)
              refine opIn_append (.tmp 32) (.tmp 37) 43 rfl rfl rfl hrun ?_
              refine hK _ _ (fun _ => ((hb3.mono (show w1.heap.size ≤ W1.heap.size by omega)).cell (p := ⟨gA, i, none⟩) hg2).trans hS2) ?_
              clear hK K
              simp only [putsL, Act.put, List.getElem?_toArray, List.getElem?_cons_succ, List.getElem?_cons_zero, Option.bind_some, Nat.reduceAdd, List.setIfInBounds_toArray, List.set_cons_zero, List.set_cons_succ, List.map_cons, List.map_nil, List.getElem_toArray, List.getElem_cons_succ, List.getElem_cons_zero]
              refine wpAnyS_one 8 _ (by kernel_rfl) rfl rfl (fun K hK => ?_)
              refine opIn_val (v := .slice a3 (H.length + 1) c3) (w' := W3) (by simp [Oper.about]) (by go_simp) ?_
              refine hK _ _ (fun h => absurd rfl h) ?_
              clear hK K
              simp only [putsL, Act.put, List.getElem?_toArray, List.getElem?_cons_succ, List.getElem?_cons_zero, Option.bind_some, Nat.reduceAdd, List.setIfInBounds_toArray, List.set_cons_zero, List.set_cons_succ, List.map_cons, List.map_nil, List.getElem_toArray, List.getElem_cons_succ, List.getElem_cons_zero]
              unfold wpAnyS
              have hbW : Below wq0.heap.size wq0 W3 := ((hky.trans (hk1.mono hyz)).trans (hb2.mono (by omega))).trans (hb3.mono (by omega))
              have hz3 := hbW.size
              have hvc := fun w' h => validPile_any a3 c3 W3.heap.size (H ++ [P]) w' h (by simp; omega) (fun L hL => by
                rcases List.mem_append.1 hL with hL | hL
                · have := HIL.out L hL; omega
                · rw [List.mem_singleton.1 hL]; omega)
              rw [List.length_append, List.length_singleton] at hvc
              have HVC := Lib.hid hvc
              have HR3 := Lib.hid hr3
              have HLA3 := Lib.hid (HLA.out.below (hbW.mono hzq))
              have HBG3 := Lib.hid (HBG.out.below ep_keep hbW)
              have hbel3 := hbel.trans (hbW.mono hbel.size)
              clear hvc hr3 hrun hS2
              cases hfb : fitP H P with
              | false =>
                have hvn : vpl (H ++ [P]) = false := by rw [HFV.out, hfb]
                have HVN := Lib.hid hvn
                clear hvn
                gi_wp2_with (refine ⟨trivial, ?_⟩; gi_at_call 84; refine (callsIn_wide.2 (HVC.out W3 HR3.out)).mono ?_; rintro e W4 ⟨rfl, hd4⟩; rw [HVN.out])
                go_roundw
                case rel =>
                  have hb4 := hd4.below W3.heap.size
                  exact ⟨i + 1, us, iv, by go_num, by omega, by rw [HTK.out, pqs_snoc, hfb]; simpa using (HBG3.out.below ep_keep (hb4.mono HBG3.out.le)).more, HLA3.out.below (hb4.mono (by omega)), hbel3.trans (hb4.mono hbel3.size), by have := hb4.size; omega⟩
                case measure => simp [intOf] <;> omega
              | true =>
                have hvn : vpl (H ++ [P]) = true := by rw [HFV.out, hfb]
                have HVN := Lib.hid hvn
                have hic := fun w' h hB => HIH.out (H ++ [P]) r a3 c3 W3.heap.size w' (by have := HRK.out; omega) hvn hs2 hl2 h hB
                rw [List.length_append, List.length_singleton] at hic
                have HIC := Lib.hid hic
                clear hvn hic
                gi_wp2_with (first
                  | (refine ⟨trivial, ?_⟩; gi_at_call 84; refine (callsIn_wide.2 (HVC.out W3 HR3.out)).mono ?_; rintro e W4 ⟨rfl, hd4⟩; rw [HVN.out]; have hb4 := hd4.below W3.heap.size; have hz4 := hb4.size; have HR4 := Lib.hid (HR3.out.below hb4); have HBG4 := Lib.hid (HBG3.out.below ep_keep (hb4.mono HBG3.out.le)); have HLA4 := Lib.hid (HLA3.out.below (hb4.mono (show w1.heap.size ≤ W3.heap.size by omega))); have hbel4 := hbel3.trans (hb4.mono hbel3.size))
                  | (refine ⟨trivial, ?_⟩; gi_at_call 54; refine (callsIn_wide.2 (HIC.out W4 HR4.out hz4)).mono ?_; rintro e W5 ⟨a5, c5, us5, iv5, rfl, hbag5, hb5⟩; have hz5 := hb5.size; have HB5 := Lib.hid hbag5; have HBG5 := Lib.hid (HBG4.out.below ep_keep (hb5.mono HBG4.out.le)); have HLA5 := Lib.hid (HLA4.out.below (hb5.mono (show w1.heap.size ≤ W4.heap.size by omega))); have hbel5 := hbel4.trans (hb5.mono hbel4.size); have HZA : Hid (wq0.heap.size ≤ W4.heap.size) := Lib.hid (by omega); have HZB : Hid (w.heap.size ≤ W4.heap.size) := Lib.hid hbel4.size; have HZC : Hid (w.heap.size ≤ W5.heap.size) := Lib.hid hbel5.size; clear hbag5)
                  | (refine wpListIn_append_bag (t := 43) rfl (.tmp 41) (.tmp 46) 38 rfl ep_keep ip _ 24 Try.underlying38 hip hp0 hp1 hp2 rfl (by decide) rfl HBG5.out rfl HB5.out HZA.out HZB.out HLN.out HLP.out (by decide) HZC.out ?_; intro v8 w8 hbag8 hg8 hat8))
                go_roundw
                case rel =>
                  have hne : ∀ (q : Nat) (cs : Array Value) (t : TypeId), t ≠ 43 → W5.heap[q]? = some (.cells cs t (0, 0)) → w8.heap[q]? = W5.heap[q]? := fun q cs t ht hc => hg8.block q (Array.getElem?_eq_some_iff.1 hc).1 (fun e => by
                    obtain ⟨cs', hc'⟩ := HBG5.out.cells q e.symm
                    rw [hc] at hc'; injection hc' with hc'; injection hc' with _ hc' _
                    exact ht hc')
                  have e := hbag8
                  rw [List.append_assoc] at e
                  have e1 : pqk f H n r ++ (pqs (fun K => pq f K r) H ((allQ k k k).take i) ++ pq f (H ++ [P]) r) = pqk f H n r ++ pqs (fun K => pq f K r) H ((allQ k k k).take (i + 1)) := by rw [HTK.out, pqs_snoc, hfb, if_pos rfl]
                  rw [e1] at e
                  exact ⟨i + 1, _, _, by go_num, by omega, e, HLA5.out.stay hg8.size (fun q cs hc => hne q cs _ (by decide) hc) (fun q cs hc => hne q cs _ (by decide) hc), hbel5.grown hg8 HZC.out (fun q hq => HBG5.out.base q hq), by have := hg8.size; omega⟩
                case measure => simp [intOf] <;> omega
          · obtain rfl : i = (allQ k k k).length := by omega
            rw [List.take_length] at hbag
            have HBG := Lib.hid hbag
            have hkk := HKR.out
            gi_wp2_with fail
            go_roundw
            case rel =>
              refine ⟨r + 1, us, iv, ?_, by omega, ?_, hbel⟩
              · go_num
              · rw [pqk_succ, hkk]; exact HBG.out
            case measure => simp [intOf] <;> omega
      · obtain rfl : r = n := by omega
        rw [Nat.sub_self]
        obtain ⟨aO, cO, rfl⟩ := hbag.form
        gi_wp2_with fail
        go_ret
        exact ⟨aO, cO, us, iv, rfl, hbag, hbel⟩
theorem sAllPiles_any (n : Int) (w : World) :
    Calls Try.prog 20 #[.int .i64 n] w fun e w' => ∃ a' c' us iv, e = .returned (.slice a' (pilF n).length c') ∧ OwnBag EP w' w.heap.size w'.heap.size 43 1 (.slice a' (pilF n).length c') us iv (pilF n) ∧ Below w.heap.size w w' := by
  by_cases h : 0 ≤ n ∧ n ≤ 6
  · obtain ⟨k, rfl⟩ := Int.eq_ofNat_of_zero_le h.1
    have hk : k ≤ 6 := by omega
    have h1 := h.1
    have h2 := h.2
    rw [pilF_yes hk]
    have he0 := (OwnLL.empty w 30 3)
    have hc := spiles_any k [] k (some ⟨w.heap.size, 0, none⟩) 0 (w.heap.size + 1) (w.alloc (.cells #[] 30)) (Nat.le_refl _) vpl_nil (by simp [sumLL, sumL]; omega) (by simpa using hk) he0.rd (by simp)
    have HC := Lib.hid hc
    have hbe : Below w.heap.size w (w.alloc (.cells #[] 30)) := (Below.refl _ _).alloc (Nat.le_refl _) _
    have hsz : w.heap.size ≤ (w.alloc (.cells #[] 30)).heap.size := by simp
    clear h hc he0
    go_enter Try.func20, Try.ntmps20
    go_wp2_with (first
      | (go_at_call 54; refine HC.out.mono ?_; rintro e w1 ⟨a', c', us, iv, rfl, hbag, hb⟩)
      | (go_at_call 38; refine (inRange_yes _ _ _ _ h1 h2).mono ?_; rintro e wv ⟨rfl, hwv⟩; obtain rfl : w = wv := hwv.symm))
    go_ret
    exact ⟨a', c', us, iv, rfl, hbag.lower hsz, hbe.trans (hb.mono hsz)⟩
  · have h3 : n < 0 ∨ 6 < n := by omega
    rw [pilF_no h]
    clear h
    go_enter Try.func20, Try.ntmps20
    go_wp2_with (go_at_call 38; refine (inRange_no _ _ _ _ h3).mono ?_; rintro e wv ⟨rfl, hwv⟩; obtain rfl : w = wv := hwv.symm)
    go_ret
    exact ⟨none, 0, [], [], rfl, OwnBag.nil _ _ _ _, Below.refl _ _⟩
end Go.Proofs.Ytgkghebjaedjmaa
namespace Go.Proofs.Ytgkghebjaedjmaa
open Go.RowKit NP
set_option maxRecDepth 8000
set_option linter.unusedVariables false
set_option linter.unusedSimpArgs false
/-- a list put into its place: its block was made behind all others -/
theorem OwnLL.put {w : World} {lo hi lou : Nat} {eo e : TypeId} {g n c : Nat} {u : Value} {vs : List Value} {LL : List (List Int)} {L : List Int} (h : OwnLL w lo hi eo e (.slice (some ⟨g, 0, none⟩) n c) vs LL)
    (hu : Own w lou w.heap.size e u (ints L)) (hlou : hi ≤ lou) (hlo : lo ≤ lou) {k : Nat} (hk : k < vs.length) : OwnLL (w.setCell ⟨g, k, none⟩ u) lo w.heap.size eo e (.slice (some ⟨g, 0, none⟩) n c) (vs.set k u) (LL.set k L) := by
  have hgh : g < hi := h.outer.lt g rfl
  have hlen := h.len
  have hle := h.le
  refine ⟨h.outer.more.set k u, by rw [List.length_set, List.length_set]; exact hlen, fun j x M hx hM => ?_, fun j x q hx hq hv => ?_, fun i j x y q hx hy hqx hqy => ?_⟩
  · rw [List.getElem?_set] at hx hM
    by_cases hj : k = j
    · subst hj
      rw [if_pos rfl, if_pos hk] at hx
      rw [if_pos rfl, if_pos (by omega)] at hM
      cases hx; cases hM
      exact (hu.off (p := ⟨g, k, none⟩) (fun q hq e => by have := hu.base q hq; have e' : q = g := e; omega) u).lower hlo
    · rw [if_neg hj] at hx hM
      have hi' := h.inner j x M hx hM
      exact (hi'.more).off (p := ⟨g, k, none⟩) (fun q hq e => h.apartO j x q hx hq (by rw [e]; rfl)) u
  · rw [List.getElem?_set] at hx
    have hgq : g = q := by simp [Value.ownBlock] at hv; exact hv
    by_cases hj : k = j
    · subst hj
      rw [if_pos rfl, if_pos hk] at hx
      cases hx
      have := hu.base q hq
      omega
    · rw [if_neg hj] at hx
      exact h.apartO j x q hx hq hv
  · rw [List.getElem?_set] at hx hy
    by_cases hi : k = i
    · subst hi
      rw [if_pos rfl, if_pos hk] at hx
      cases hx
      by_cases hj : k = j
      · exact hj
      · rw [if_neg hj] at hy
        have h1 := h.lt hy hqy
        have h2 := hu.base q hqx
        omega
    · rw [if_neg hi] at hx
      by_cases hj : k = j
      · subst hj
        rw [if_pos rfl, if_pos hk] at hy
        cases hy
        have h1 := h.lt hx hqx
        have h2 := hu.base q hqy
        omega
      · rw [if_neg hj] at hy
        exact h.apart i j x y q hx hy hqx hqy
theorem own_nil2 (w : World) (lo hi : Nat) (e : TypeId) (h : hi ≤ w.heap.size) : Own w lo hi e (.slice none 0 0) [] :=
  ⟨World.ownsRow_nil w lo e 1, fun g hg => by simp [Value.ownBlock] at hg, h⟩
/-- a list of empty lists, laid anew -/
theorem OwnLL.zeros (w : World) (n : Nat) (eo e : TypeId) (hn : n ≤ maxLen) :
    OwnLL (w.alloc (.cells (List.replicate n (Value.slice none 0 0)).toArray eo)) w.heap.size (w.heap.size + 1) eo e (.slice (some ⟨w.heap.size, 0, none⟩) n n) (List.replicate n (Value.slice none 0 0)) (List.replicate n []) := by
  have hb := Blk.new w eo (List.replicate n (Value.slice none 0 0)).toArray
  have ho := hb.own (lo := w.heap.size) (vs := List.replicate n (Value.slice none 0 0)) (Nat.le_refl _) (by simpa using hn)
  rw [List.length_replicate, World.size_alloc] at ho
  refine ⟨ho, by simp, fun k u L hu hL => ?_, fun k u g hu hg => ?_, fun i j u u' g hu hu' hg => ?_⟩
  · have h1 := List.mem_of_getElem? hu
    have h2 := List.mem_of_getElem? hL
    rw [List.mem_replicate] at h1 h2
    rw [h1.2, h2.2]
    exact own_nil2 _ _ _ _ (by simp)
  · have h1 := List.mem_of_getElem? hu
    rw [List.mem_replicate] at h1
    rw [h1.2] at hg
    simp [Value.ownBlock] at hg
  · have h1 := List.mem_of_getElem? hu
    rw [List.mem_replicate] at h1
    rw [h1.2] at hg
    simp [Value.ownBlock] at hg
theorem run_make_lists {P : Program} (t e : TypeId) (i : TypeInfo) (h1 : P.underlying t = some (.slice e)) (h2 : P.info? e = some i) (h3 : i.zero = some (.slice none 0 0)) (h4 : i.size = 1) (h5 : i.bytes = 24)
    (n : Nat) (hn : n ≤ 4194304) (w : World) :
    (Instr.makeSlice t (.int .i64 n) (.int .i64 n)).run P w = .ok (.slice (some ⟨w.heap.size, 0, none⟩) n n) (w.alloc (.cells (List.replicate n (Value.slice none 0 0)).toArray e)) := by
  have hrun := run_make (P := P) w t e i (.slice none 0 0) h1 h2 h3 .i64 .i64 n n (by omega) (by omega) (by rw [h5]; omega) (by omega)
  rw [h4] at hrun
  simp only [Int.toNat_natCast, Nat.mul_one] at hrun
  rw [hrun]
  congr 3
  apply Array.toList_inj.1
  simp [Value.cells, toList_madeCells_one]
theorem fill_setV {us : List Value} {k n : Nat} (hk : us.length = k) (hn : k < n) (u : Value) : (us ++ List.replicate (n - k) (Value.slice none 0 0)).set k u = (us ++ [u]) ++ List.replicate (n - (k + 1)) (Value.slice none 0 0) := by
  rw [List.set_append_right _ _ (by omega), hk, Nat.sub_self, show n - k = (n - (k + 1)) + 1 by omega, List.replicate_succ, List.set_cons_zero, List.append_assoc]
  rfl
theorem fill_setL {LL : List (List Int)} {k : Nat} (hk : k < LL.length) : (LL.take k ++ List.replicate (LL.length - k) []).set k LL[k] = LL.take (k + 1) ++ List.replicate (LL.length - (k + 1)) [] := by
  rw [List.set_append_right _ _ (by simp; omega), List.length_take, Nat.min_eq_left (by omega), Nat.sub_self, show LL.length - k = (LL.length - (k + 1)) + 1 by omega, List.replicate_succ, List.set_cons_zero, List.take_succ_eq_append_getElem hk, List.append_assoc]
  rfl
/-- rows that came in, read as lists -/
theorem rows_of {w : World} {a : Addr} {len cap : Nat} {A : Nat → Option Addr} {L C : Nat → Nat} {Z : Nat → List Int} (hl : len ≤ cap)
    (h : ∀ r, r < cap → w.cell? (a.add r) = some (.slice (A r) (L r) (C r)) ∧ L r ≤ C r ∧ C r ≤ maxLen ∧ (Z r).length = C r ∧ (∀ n ∈ Z r, (Lit.int .i64 n).wf = true) ∧ (A r = none → C r = 0) ∧
      ∀ a', A r = some a' → 0 ≤ a'.block ∧ ∀ c, c < C r → w.cell? (a'.add c) = some (.int .i64 ((Z r).getD c 0))) :
    ∃ LL : List (List Int), LL.length = len ∧ RdLL w w.heap.size (some a) LL ∧ ∀ M ∈ LL, M.length ≤ maxLen := by
  have each : ∀ r, r < len → ∃ M : List Int, M.length = L r ∧ Rd w w.heap.size (A r) (ints M) ∧ M.length ≤ maxLen ∧ M.length ≤ C r := by
    intro r hr
    obtain ⟨h1, h2, h3, h4, h5, h6, h7⟩ := h r (by omega)
    have hrow : IsRow .i64 w (A r) (L r) (C r) (Z r) := by
      cases ha : A r with
      | none =>
        have := h6 ha
        exact .inl ⟨rfl, by omega, this, List.eq_nil_of_length_eq_zero (by omega)⟩
      | some x => exact .inr ⟨x, rfl, h2, h3, h4, fun i hi => (h7 x ha).2 i (by omega), h5⟩
    obtain ⟨M, e1, e2, _, e4⟩ := hrow.rd
    exact ⟨M, e1, e2, by omega, by omega⟩
  obtain ⟨y, hy⟩ := Go.Deep.choose_lt each
  refine ⟨(List.range len).map y, by simp, ⟨(List.range len).map fun r => .slice (A r) (L r) (C r), ?_, by simp, ?_⟩, ?_⟩
  · intro hne
    have h0 : 0 < len := by
      rcases Nat.eq_zero_or_pos len with h0 | h0
      · subst h0; simp at hne
      · exact h0
    obtain ⟨b, o, spot⟩ := a
    have hc0 := (h 0 (by omega)).1
    have hspot : spot = none := by simpa [Addr.add] using World.cell?_spot hc0
    subst hspot
    have hlt := World.block_lt_of_cell? _ _ hc0
    refine ⟨b, o, rfl, by simpa [Addr.add] using hlt, fun k v hv => ?_⟩
    have hk := (List.getElem?_eq_some_iff.1 hv).1
    simp at hk
    have h1 := (h k (by omega)).1
    rw [Addr.add_lit] at h1
    rw [h1]
    simpa [hk] using hv
  · intro k v M hv hM
    have hk := (List.getElem?_eq_some_iff.1 hv).1
    simp at hk
    simp [hk] at hv hM
    subst hv hM
    obtain ⟨e1, e2, e3, e4⟩ := hy k hk
    exact ⟨A k, C k, by rw [e1], e2, e4⟩
  · intro M hM
    obtain ⟨r, hr, rfl⟩ := List.mem_map.1 hM
    exact (hy r (List.mem_range.1 hr)).2.2.1
/-- what is left of a size when lists are taken from it -/
def szs (left : Int) : List (List Int) → Int
  | [] => left
  | L :: R => if left - (L.length : Int) < 0 then -1 else szs (left - (L.length : Int)) R
theorem szs_neg (left : Int) (LL : List (List Int)) (h : 0 ≤ left) (hs : 0 ≤ szs left LL) : ∀ L ∈ LL, (L.length : Int) ≤ left := by
  induction LL generalizing left with
  | nil => intro L hL; cases hL
  | cons x R ih =>
    unfold szs at hs
    split at hs
    · omega
    · rename_i h1
      intro L hL
      rcases List.mem_cons.1 hL with rfl | hL
      · omega
      · have := ih (left - (x.length : Int)) (by omega) hs L hL
        omega
theorem szs_cnt (left : Int) (LL : List (List Int)) (h : 0 ≤ left) (hs : 0 ≤ szs left LL) : (cntLL LL : Int) ≤ left := by
  induction LL generalizing left with
  | nil => simp [cntLL]; exact h
  | cons x R ih =>
    unfold szs at hs
    split at hs
    · omega
    · rename_i h1
      have := ih (left - (x.length : Int)) (by omega) hs
      simp [cntLL] at this ⊢
      omega
def szF (left : Int) (LL : List (List Int)) : Int := if left - (LL.length : Int) < 0 then -1 else szs (left - (LL.length : Int)) LL
theorem szF_ok {LL : List (List Int)} (h : 0 ≤ szF 1048576 LL) : LL.length ≤ 1048576 ∧ (∀ L ∈ LL, L.length ≤ 1048576) ∧ cntLL LL ≤ 1048576 := by
  unfold szF at h
  split at h
  · omega
  · rename_i h1
    have h2 := szs_neg _ _ (by omega) h
    have h3 := szs_cnt _ _ (by omega) h
    refine ⟨by omega, fun L hL => ?_, by omega⟩
    have := h2 L hL
    omega
theorem szs_drop (left : Int) {LL : List (List Int)} {k : Nat} (hk : k < LL.length) : szs left (LL.drop k) = if left - (LL[k].length : Int) < 0 then -1 else szs (left - (LL[k].length : Int)) (LL.drop (k + 1)) := by
  rw [List.drop_eq_getElem_cons hk]
  rfl
theorem T_ints3 : (Try.prog.info? 30).map (fun i => (i.zero, i.size, i.bytes)) = some (some (.slice none 0 0), 1, 24) := by kernel_rfl
end Go.Proofs.Ytgkghebjaedjmaa
namespace Go.Proofs.Ytgkghebjaedjmaa
open Go.RowKit
set_option maxRecDepth 8000
set_option linter.unusedVariables false
theorem OwnLL.aside {w w' : World} {lo hi lox hix : Nat} {eo e : TypeId} {v : Value} {vs : List Value} {LL : List (List Int)} (h : OwnLL w lox hix eo e v vs LL) (ha : Aside lo hi w w') (hd : hix ≤ lo ∨ hi ≤ lox) : OwnLL w' lox hix eo e v vs LL :=
  ⟨h.outer.aside ha hd, h.len, fun k u L hu hL => (h.inner k u L hu hL).aside ha hd, h.apartO, h.apart⟩
theorem markIntSS_aside (a : Option Addr) (c lo hi : Nat) (m : Int) (LL : List (List Int)) (vs : List Value) (w : World) (h : OwnLL w lo hi 30 3 (.slice a LL.length c) vs LL) (hlo : lo ≤ hi) (hm : 0 ≤ m) (hm2 : m ≤ 1073741824) (hl : cntLL LL ≤ 1073741824) (hl2 : LL.length ≤ 1073741824) :
    Calls Try.prog 57 #[.slice a LL.length c, .int .i64 m] w fun e w' => e = .returned (.int .i64 (m + (cntLL LL : Int))) ∧ OwnLL w' lo hi 30 3 (.slice a LL.length c) vs (marksLL m LL) ∧ Below lo w w' ∧ Aside lo hi w w' := by
  go_enter Try.func57, Try.ntmps57
  go_wp2_with fail
  go_loopw [1, 5] (fun kk i wr => ∃ k : Nat, k ≤ LL.length ∧ i = .int .i64 k ∧ kk = .int .i64 (m + (cntLL (LL.take k) : Int)) ∧ Below lo w wr ∧ Aside lo hi w wr ∧ OwnLL wr lo hi 30 3 (.slice a LL.length c) vs (marksLL m (LL.take k) ++ LL.drop k)) (fun _ i _ => LL.length - (intOf i).toNat)
  case atStart => exact ⟨0, Nat.zero_le _, rfl, by simp [cntLL], Below.refl _ _, Aside.refl _ _ _, by simpa [marksLL] using h⟩
  case round =>
    obtain ⟨k, hk, rfl, rfl, hbr, has, hor⟩ := hrel
    clear h
    have hck := cntLL_take LL k
    by_cases hlt : k < LL.length
    · have hge : ∀ hh, (marksLL m (LL.take k) ++ LL.drop k)[k]'hh = LL[k] := fun hh => by
        have e1 : (marksLL m (LL.take k)).length = k := by rw [marksLL_len, List.length_take]; omega
        rw [List.getElem_append_right (by omega)]
        simp [e1]
      obtain ⟨g, a', c', rfl, hg1, hg2, hcell, hown, hvs⟩ := hor.at_ (k := k) (by simp [marksLL_len]; omega)
      rw [hge] at hcell hown hvs
      have hset := marksLL_set m hlt
      have hcs : cntLL (LL.take (k + 1)) = cntLL (LL.take k) + LL[k].length := by rw [List.take_succ_eq_append_getElem hlt, cntLL_append]
      have hck1 := cntLL_take LL (k + 1)
      rw [hcs] at hck1
      have HCS := Lib.hid hcs
      have HSET := Lib.hid hset
      have HOR := Lib.hid hor
      clear hge hcs hset hor
      generalize LL[k] = M at hcell hown hvs hck1 HCS HSET
      obtain ⟨q, hq⟩ : ∃ q : Int, q = m + (cntLL (LL.take k) : Int) := ⟨_, rfl⟩
      rw [← hq]
      have hq0 : 0 ≤ q ∧ q ≤ 2147483648 := by omega
      have HQ := Lib.hid hq
      clear hq
      go_wp2_with (go_at_call 46; refine (markIntS_any a' c' lo hi q M _ hown hq0.1 (by omega) (by omega)).mono ?_; rintro e w' ⟨rfl, ho', hgr⟩)
      go_roundw
      case rel =>
        have hnew := HOR.out.setIn hvs hgr (L := (List.range M.length).map fun (j : Nat) => q + (j : Int)) ho'
        rw [HQ.out, HSET.out] at hnew
        exact ⟨k + 1, by omega, by go_num, by rw [HCS.out, HQ.out]; congr 1; omega, hbr.trans (hown.belowMark (Nat.le_trans hlo hown.le) hgr), has.grown hown hgr, hnew⟩
      case measure => simp [intOf]; omega
    · obtain rfl : k = LL.length := by omega
      rw [List.take_length] at *
      go_wp2_with fail
      go_ret
      exact ⟨rfl, by simpa using hor, hbr, has⟩
end Go.Proofs.Ytgkghebjaedjmaa
namespace Go.Proofs.Ytgkghebjaedjmaa
open Go.RowKit NP
set_option maxRecDepth 100000
set_option linter.unusedVariables false
set_option linter.unusedSimpArgs false
theorem cell_drP {w w' : World} (h : Dr w w') {p : Addr} {v : Value} (hc : w.cell? p = some v) : w'.cell? p = some v := by obtain ⟨n, rfl⟩ := h; exact hc
theorem dr_transP {a b c : World} (h : Dr a b) (k : Dr b c) : Dr a c := h.trans k
/-- a pile of a list -/
theorem OwnBag.pileAt {w : World} {lo hi : Nat} {t : TypeId} {v : Value} {us : List (List Value)} {iv : List (Nat × Nat)} {X : List (List (List Int))} (h : OwnBag EP w lo hi t 1 v us iv X) {k : Nat} (hk : k < X.length) :
    ∃ g c a' c' vs i, v = .slice (some ⟨g, 0, none⟩) X.length c ∧ lo ≤ g ∧ g < hi ∧ us[k]? = some [.slice a' X[k].length c'] ∧ iv[k]? = some i ∧ lo ≤ i.1 ∧ i.1 ≤ i.2 ∧ i.2 ≤ hi ∧ (g < i.1 ∨ i.2 ≤ g) ∧ OwnLL w i.1 i.2 30 3 (.slice a' X[k].length c') vs X[k] ∧ w.cell? ⟨g, k, none⟩ = some (.slice a' X[k].length c') := by
  obtain ⟨g, c, u, i, e, h1, h2, h3, h4, -, hE, h5, h6, h7, h8, hc, -⟩ := h.at_ hk
  obtain ⟨a', c', vs, rfl, hLL⟩ := hE
  have e0 := hc 0 _ rfl
  rw [Nat.mul_one, Nat.add_zero] at e0
  exact ⟨g, c, a', c', vs, i, e, h1, h2, h3, h4, h5, h6, h7, h8, hLL, e0⟩
set_option maxHeartbeats 4000000 in
theorem eqIntSSS_same (a b : Option Addr) (ca cb lo hi lo2 hi2 : Nat) (us us2 : List (List Value)) (iv iv2 : List (Nat × Nat)) (XX : List (List (List Int))) (w : World) (h : OwnBag EP w lo hi 43 1 (.slice a XX.length ca) us iv XX) (hm : OwnBag EP w lo2 hi2 43 1 (.slice b XX.length cb) us2 iv2 XX) (hl : XX.length ≤ 1000000000) (hil : ∀ LL ∈ XX, LL.length ≤ 1000 ∧ ∀ L ∈ LL, L.length ≤ 1000) :
    Calls Try.prog 22 #[.slice a XX.length ca, .slice b XX.length cb] w fun e w' => e = .returned (.bool true) ∧ Dr w w' := by
  have hne : ((XX.length : Int) != (XX.length : Int)) = false := by simp
  have hmx : Try.prog.follows .mixedOrders = true := by kernel_rfl
  have H1 := Lib.hid h
  have H2 := Lib.hid hm
  have HIL := Lib.hid hil
  clear h hm hil
  go_enter Try.func22, Try.ntmps22
  go_wp2
  go_loopw [5] (fun i wr => ∃ k : Nat, k ≤ XX.length ∧ i = .int .i64 k ∧ Dr w wr) (fun i _ => XX.length - (intOf i).toNat)
  case atStart => exact ⟨0, Nat.zero_le _, rfl, Dr.refl _⟩
  case round =>
    obtain ⟨k, hk, rfl, hdr⟩ := hrel
    by_cases hlt : k < XX.length
    · have hlt' : (k : Int) < (XX.length : Int) := by omega
      obtain ⟨g1, c1, a1, k1, vs1, i1, e1, -, -, -, -, -, -, -, -, hL1, hc1⟩ := (H1.out.below ep_keep (hdr.below _)).pileAt hlt
      obtain ⟨g2, c2, a2, k2, vs2, i2, e2, -, -, -, -, -, -, -, -, hL2, hc2⟩ := (H2.out.below ep_keep (hdr.below _)).pileAt hlt
      injection e1 with e1 e3 e4
      subst e1
      clear e3 e4
      injection e2 with e2 e3 e4
      subst e2
      clear e3 e4
      have hx := HIL.out _ (List.getElem_mem hlt)
      generalize XX[k] = LL at hL1 hL2 hc1 hc2 hx
      have O1 := Lib.hid hL1.rd
      have O2 := Lib.hid hL2.rd
      have HX := Lib.hid hx.2
      have hlx := hx.1
      clear hL1 hL2 hx
      go_wp2_with fail
      refine wp_region_vals [0, 1, 2, 3, 4, 5, 6, 7, 8, 9] [.slice (some ⟨g1, 0, none⟩) XX.length ca, .int .i64 k, .pointer (some ⟨g1, k, none⟩), .slice a1 LL.length k1, .slice (some ⟨g2, 0, none⟩) XX.length cb, .int .i64 k, .pointer (some ⟨g2, k, none⟩), .slice a2 LL.length k2, .bool true, .bool false] (fun w' => Dr wr w') _ hmx (fun _ h => h) rfl rfl (by kernel_rfl) (by kernel_rfl) rfl ?steps ?rest
      case steps =>
        simp only [putsOfG, Act.put, List.getElem?_toArray, List.getElem?_cons_succ, List.getElem?_cons_zero, Option.bind_some, Nat.reduceAdd, List.setIfInBounds_toArray, List.set_cons_zero, List.set_cons_succ]
        refine StepsG.cons rfl rfl (fun wq hS => ?_) ?_
        · go_simp
        refine StepsG.cons rfl rfl (fun wq hS => ?_) ?_
        · go_simp
        refine StepsG.cons rfl rfl (fun wq hS => ?_) ?_
        · go_simp
        refine StepsG.cons rfl rfl (fun wq hS => ?_) ?_
        · have s1 := cell_drP hS hc1
          go_simp
        refine StepsG.cons rfl rfl (fun wq hS => ?_) ?_
        · go_simp
        refine StepsG.cons rfl rfl (fun wq hS => ?_) ?_
        · go_simp
        refine StepsG.cons rfl rfl (fun wq hS => ?_) ?_
        · go_simp
        refine StepsG.cons rfl rfl (fun wq hS => ?_) ?_
        · have s1 := cell_drP hS hc2
          go_simp
        refine StepsG.cons rfl rfl (fun wq hS => ?_) ?_
        · go_simp
          go_at_call 56
          refine (eqIntSS_same a1 a2 k1 k2 _ _ LL wq (O1.out.dr hS) (O2.out.dr hS) (by omega) (fun L hL => by have := HX.out L hL; omega)).mono ?_
          rintro e w' ⟨rfl, hd⟩
          exact ⟨rfl, dr_transP hS hd⟩
        refine StepsG.cons rfl rfl (fun wq hS => ?_) ?_
        · go_simp
        exact StepsG.nil
      case rest =>
        intro wq hS
        simp only [putsOfG, Act.put, List.getElem?_toArray, List.getElem?_cons_succ, List.getElem?_cons_zero, Option.bind_some, Nat.reduceAdd, List.setIfInBounds_toArray, List.set_cons_zero, List.set_cons_succ]
        go_wp2_with fail
        go_roundw
        case rel => exact ⟨k + 1, by omega, by go_num, dr_transP hdr hS⟩
        case measure => simp [intOf]; omega
    · obtain rfl : k = XX.length := by omega
      go_wp2_with fail
      go_ret
      exact ⟨rfl, hdr⟩
set_option maxHeartbeats 4000000 in
theorem equalPiles_same (a b : Option Addr) (ca cb lo hi lo2 hi2 : Nat) (us us2 : List (List Value)) (iv iv2 : List (Nat × Nat)) (XX : List (List (List Int))) (w : World) (h : OwnBag EP w lo hi 43 1 (.slice a XX.length ca) us iv XX) (hm : OwnBag EP w lo2 hi2 43 1 (.slice b XX.length cb) us2 iv2 XX) (hl : XX.length ≤ 1000000000) (hil : ∀ LL ∈ XX, LL.length ≤ 1000 ∧ ∀ L ∈ LL, L.length ≤ 1000) :
    Calls Try.prog 26 #[.slice a XX.length ca, .slice b XX.length cb] w fun e w' => e = .returned (.bool true) ∧ Dr w w' := by
  have hne : ((XX.length : Int) != (XX.length : Int)) = false := by simp
  have hmx : Try.prog.follows .mixedOrders = true := by kernel_rfl
  have H1 := Lib.hid h
  have H2 := Lib.hid hm
  have HIL := Lib.hid hil
  clear h hm hil
  go_enter Try.func26, Try.ntmps26
  go_wp2
  go_loopw [5] (fun i wr => ∃ k : Nat, k ≤ XX.length ∧ i = .int .i64 k ∧ Dr w wr) (fun i _ => XX.length - (intOf i).toNat)
  case atStart => exact ⟨0, Nat.zero_le _, rfl, Dr.refl _⟩
  case round =>
    obtain ⟨k, hk, rfl, hdr⟩ := hrel
    by_cases hlt : k < XX.length
    · have hlt' : (k : Int) < (XX.length : Int) := by omega
      obtain ⟨g1, c1, a1, k1, vs1, i1, e1, -, -, -, -, -, -, -, -, hL1, hc1⟩ := (H1.out.below ep_keep (hdr.below _)).pileAt hlt
      obtain ⟨g2, c2, a2, k2, vs2, i2, e2, -, -, -, -, -, -, -, -, hL2, hc2⟩ := (H2.out.below ep_keep (hdr.below _)).pileAt hlt
      injection e1 with e1 e3 e4
      subst e1
      clear e3 e4
      injection e2 with e2 e3 e4
      subst e2
      clear e3 e4
      have hx := HIL.out _ (List.getElem_mem hlt)
      generalize XX[k] = LL at hL1 hL2 hc1 hc2 hx
      have O1 := Lib.hid hL1.rd
      have O2 := Lib.hid hL2.rd
      have HX := Lib.hid hx.2
      have hlx := hx.1
      clear hL1 hL2 hx
      go_wp2_with fail
      refine wp_region_vals [0, 1, 2, 3, 4, 5, 6, 7, 8, 9] [.slice (some ⟨g1, 0, none⟩) XX.length ca, .int .i64 k, .pointer (some ⟨g1, k, none⟩), .slice a1 LL.length k1, .slice (some ⟨g2, 0, none⟩) XX.length cb, .int .i64 k, .pointer (some ⟨g2, k, none⟩), .slice a2 LL.length k2, .bool true, .bool false] (fun w' => Dr wr w') _ hmx (fun _ h => h) rfl rfl (by kernel_rfl) (by kernel_rfl) rfl ?steps ?rest
      case steps =>
        simp only [putsOfG, Act.put, List.getElem?_toArray, List.getElem?_cons_succ, List.getElem?_cons_zero, Option.bind_some, Nat.reduceAdd, List.setIfInBounds_toArray, List.set_cons_zero, List.set_cons_succ]
        refine StepsG.cons rfl rfl (fun wq hS => ?_) ?_
        · go_simp
        refine StepsG.cons rfl rfl (fun wq hS => ?_) ?_
        · go_simp
        refine StepsG.cons rfl rfl (fun wq hS => ?_) ?_
        · go_simp
        refine StepsG.cons rfl rfl (fun wq hS => ?_) ?_
        · have s1 := cell_drP hS hc1
          go_simp
        refine StepsG.cons rfl rfl (fun wq hS => ?_) ?_
        · go_simp
        refine StepsG.cons rfl rfl (fun wq hS => ?_) ?_
        · go_simp
        refine StepsG.cons rfl rfl (fun wq hS => ?_) ?_
        · go_simp
        refine StepsG.cons rfl rfl (fun wq hS => ?_) ?_
        · have s1 := cell_drP hS hc2
          go_simp
        refine StepsG.cons rfl rfl (fun wq hS => ?_) ?_
        · go_simp
          go_at_call 28
          refine (equalLists_same a1 a2 k1 k2 _ _ LL wq (O1.out.dr hS) (O2.out.dr hS) (by omega) (fun L hL => by have := HX.out L hL; omega)).mono ?_
          rintro e w' ⟨rfl, hd⟩
          exact ⟨rfl, dr_transP hS hd⟩
        refine StepsG.cons rfl rfl (fun wq hS => ?_) ?_
        · go_simp
        exact StepsG.nil
      case rest =>
        intro wq hS
        simp only [putsOfG, Act.put, List.getElem?_toArray, List.getElem?_cons_succ, List.getElem?_cons_zero, Option.bind_some, Nat.reduceAdd, List.setIfInBounds_toArray, List.set_cons_zero, List.set_cons_succ]
        go_wp2_with fail
        go_roundw
        case rel => exact ⟨k + 1, by omega, by go_num, dr_transP hdr hS⟩
        case measure => simp [intOf]; omega
    · obtain rfl : k = XX.length := by omega
      go_wp2_with fail
      go_ret
      exact ⟨rfl, hdr⟩
/-- how many numbers -/
def cntPP (XX : List (List (List Int))) : Nat := (XX.map cntLL).sum
theorem cntPP_append (A B : List (List (List Int))) : cntPP (A ++ B) = cntPP A + cntPP B := by simp [cntPP]
theorem cntPP_snoc (A : List (List (List Int))) (x : List (List Int)) : cntPP (A ++ [x]) = cntPP A + cntLL x := by simp [cntPP]
theorem cntPP_take {XX : List (List (List Int))} (k : Nat) : cntPP (XX.take k) ≤ cntPP XX := by
  have h := cntPP_append (XX.take k) (XX.drop k)
  rw [List.take_append_drop] at h
  omega
theorem cntPP_le {K : Nat} : ∀ {XX : List (List (List Int))}, (∀ x ∈ XX, cntLL x ≤ K) → cntPP XX ≤ XX.length * K := by
  intro XX
  induction XX with
  | nil => intro _; simp [cntPP]
  | cons x R ih =>
    intro h
    have h1 := h x (List.mem_cons_self ..)
    have h2 := ih (fun y hy => h y (List.mem_cons_of_mem _ hy))
    have e : cntPP (x :: R) = cntLL x + cntPP R := by simp [cntPP]
    rw [e, List.length_cons, Nat.add_mul]
    omega
/-- marked from m on -/
def mkPP (m : Int) (XX : List (List (List Int))) : List (List (List Int)) := (List.range XX.length).map fun k => marksLL (m + (cntPP (XX.take k) : Int)) (XX.getD k [])
theorem mkPP_len (m : Int) (XX : List (List (List Int))) : (mkPP m XX).length = XX.length := by simp [mkPP]
theorem mkPP_at (m : Int) {XX : List (List (List Int))} {k : Nat} (hk : k < XX.length) : (mkPP m XX)[k]'(by rw [mkPP_len]; exact hk) = marksLL (m + (cntPP (XX.take k) : Int)) XX[k] := by
  simp [mkPP, List.getD_eq_getElem?_getD, hk]
theorem half_atP {α : Type} {A B : List α} {k : Nat} (hA : A.length = B.length) (hk : k < B.length) (h : k < (A.take k ++ B.drop k).length) : (A.take k ++ B.drop k)[k] = B[k] := by
  rw [List.getElem_append_right (by rw [List.length_take]; omega)]
  simp only [List.getElem_drop, List.length_take]
  congr 1
  omega
theorem half_setP {α : Type} {A B : List α} {k : Nat} (hA : A.length = B.length) (hk : k < B.length) : (A.take k ++ B.drop k).set k (A[k]'(by omega)) = A.take (k + 1) ++ B.drop (k + 1) := by
  rw [List.set_append_right _ _ (by rw [List.length_take]; omega), List.length_take, Nat.min_eq_left (by omega), Nat.sub_self, List.drop_eq_getElem_cons hk, List.set_cons_zero, List.take_succ_eq_append_getElem (by omega), List.append_assoc]
  rfl
theorem half_lenP {α : Type} {A B : List α} {k : Nat} (hA : A.length = B.length) (hk : k ≤ B.length) : (A.take k ++ B.drop k).length = B.length := by
  rw [List.length_append, List.length_take, List.length_drop]; omega
set_option maxHeartbeats 4000000 in
theorem markIntSSS_any (a : Option Addr) (c lo hi : Nat) (us : List (List Value)) (iv : List (Nat × Nat)) (m : Int) (XX : List (List (List Int))) (w : World) (h : OwnBag EP w lo hi 43 1 (.slice a XX.length c) us iv XX) (hlo : lo ≤ hi) (hm : 0 ≤ m) (hm2 : m ≤ 536870912) (hl : cntPP XX ≤ 536870912) (hl2 : XX.length ≤ 1000000000) (hil : ∀ LL ∈ XX, LL.length ≤ 1000) :
    Calls Try.prog 23 #[.slice a XX.length c, .int .i64 m] w fun e w' => e = .returned (.int .i64 (m + (cntPP XX : Int))) ∧ OwnBag EP w' lo hi 43 1 (.slice a XX.length c) us iv (mkPP m XX) ∧ Below lo w w' := by
  obtain ⟨A, hAA⟩ : ∃ A, A = mkPP m XX := ⟨_, rfl⟩
  have HA : Hid (A.length = XX.length) := Lib.hid (by rw [hAA]; exact mkPP_len m XX)
  have HAT2 : Hid (∀ k (hk : k < XX.length), A[k]'(by rw [HA.out]; exact hk) = marksLL (m + (cntPP (XX.take k) : Int)) XX[k]) := Lib.hid (by subst hAA; exact fun k hk => mkPP_at m hk)
  have HIL := Lib.hid hil
  rw [← hAA]
  clear hAA hil
  go_enter Try.func23, Try.ntmps23
  go_wp2_with fail
  go_loopw [1, 5] (fun kk i wr => ∃ k : Nat, k ≤ XX.length ∧ i = .int .i64 k ∧ kk = .int .i64 (m + (cntPP (XX.take k) : Int)) ∧ Below lo w wr ∧ OwnBag EP wr lo hi 43 1 (.slice a XX.length c) us iv (A.take k ++ XX.drop k)) (fun _ i _ => XX.length - (intOf i).toNat)
  case atStart => exact ⟨0, Nat.zero_le _, rfl, by simp [cntPP], Below.refl _ _, by simpa using h⟩
  case round =>
    obtain ⟨k, hk, rfl, rfl, hbr, hor⟩ := hrel
    clear h
    by_cases hlt : k < XX.length
    · have hlt' : (k : Int) < (XX.length : Int) := by omega
      have hxl : k < (A.take k ++ XX.drop k).length := by rw [half_lenP HA.out hk]; exact hlt
      have HSET := Lib.hid (half_setP HA.out hlt)
      rw [HAT2.out k hlt] at HSET
      have hat := hor.pileAt hxl
      rw [half_atP HA.out hlt hxl] at hat
      obtain ⟨g, c1, a1, k1, vs1, i, e1, hg1, hg2, hu, hi', hi1, hi2, hi3, hgo, hL, hc⟩ := hat
      injection e1 with e1 e3 e4
      subst e1
      clear e3 e4
      have hcs : cntPP (XX.take (k + 1)) = cntPP (XX.take k) + cntLL XX[k] := by rw [List.take_succ_eq_append_getElem hlt, cntPP_snoc]
      have hck1 := cntPP_take (XX := XX) (k + 1)
      rw [hcs] at hck1
      have HCS := Lib.hid hcs
      have HOR := Lib.hid hor
      have hle := hor.le
      have hlx := HIL.out _ (List.getElem_mem hlt)
      generalize XX[k] = LL at hL hck1 HCS HSET hu hc hlx
      obtain ⟨q, hq⟩ : ∃ q : Int, q = m + (cntPP (XX.take k) : Int) := ⟨_, rfl⟩
      rw [← hq]
      have hq0 : 0 ≤ q ∧ q ≤ 1073741824 := by omega
      have HQ := Lib.hid hq
      have HL := Lib.hid hL
      have HU := Lib.hid hu
      have HI := Lib.hid hi'
      have hqm : q ≤ 1073741824 ∨ 1073741824 < q := by omega
      clear hq hcs hor hL hu hi'
      have hqq : q + (cntLL LL : Int) ≤ 4294967296 := by omega
      go_wp2_with (go_at_call 57; refine (markIntSS_aside a1 k1 i.1 i.2 q LL vs1 wr HL.out hi2 hq0.1 (by omega) (by omega) (by omega)).mono ?_; rintro e w1 ⟨rfl, h5, hb5, ha5⟩; have H5 := Lib.hid h5; clear h5)
      go_roundw
      case rel =>
        have hx2 : EP w1 i.1 i.2 [.slice a1 LL.length k1] (marksLL q LL) := ⟨a1, k1, vs1, by rw [marksLL_len], by rw [marksLL_len]; exact H5.out⟩
        have e := HOR.out.setAt ep_keep hxl HU.out HI.out ha5 hx2
        rw [HQ.out, HSET.out] at e
        exact ⟨k + 1, by omega, by go_num, by rw [HCS.out, HQ.out]; congr 1; push_cast; omega, hbr.trans (hb5.mono hi1), e⟩
      case measure => simp [intOf]; omega
    · obtain rfl : k = XX.length := by omega
      rw [List.drop_length, List.append_nil, List.take_of_length_le (Nat.le_of_eq HA.out)] at hor
      rw [List.take_length]
      have e : OwnBag EP wr lo hi 43 1 (.slice a XX.length c) us iv A := hor
      clear hor
      go_wp2_with fail
      go_ret
      exact ⟨rfl, e, hbr⟩
set_option maxHeartbeats 4000000 in
theorem heldIntSSS_any (a : Option Addr) (c lo hi : Nat) (us : List (List Value)) (iv : List (Nat × Nat)) (m : Int) (XX : List (List (List Int))) (w : World) (h : OwnBag EP w lo hi 43 1 (.slice a XX.length c) us iv (mkPP m XX)) (hm : 0 ≤ m) (hm2 : m ≤ 536870912) (hl : cntPP XX ≤ 536870912) (hl2 : XX.length ≤ 1000000000) (hil : ∀ LL ∈ XX, LL.length ≤ 1000) :
    Calls Try.prog 24 #[.slice a XX.length c, .int .i64 m] w fun e w' => e = .returned (.int .i64 (m + (cntPP XX : Int))) ∧ w = w' := by
  have HA := Lib.hid (mkPP_len m XX)
  have HIL := Lib.hid hil
  clear hil
  go_enter Try.func24, Try.ntmps24
  go_wp2_with fail
  go_loopw [1, 5] (fun kk i wr => ∃ k : Nat, k ≤ XX.length ∧ i = .int .i64 k ∧ kk = .int .i64 (m + (cntPP (XX.take k) : Int)) ∧ w = wr) (fun _ i _ => XX.length - (intOf i).toNat)
  case atStart => exact ⟨0, Nat.zero_le _, rfl, by simp [cntPP], rfl⟩
  case round =>
    obtain ⟨k, hk, rfl, rfl, rfl⟩ := hrel
    by_cases hlt : k < XX.length
    · have hlt' : (k : Int) < (XX.length : Int) := by omega
      have hat := h.pileAt (k := k) (by rw [HA.out]; exact hlt)
      rw [mkPP_at m hlt] at hat
      obtain ⟨g, c1, a1, k1, vs1, i, e1, -, -, -, -, -, -, -, -, hL, hc⟩ := hat
      injection e1 with e1 e3 e4
      subst e1
      clear e3 e4
      rw [marksLL_len] at hc hL
      have hcs : cntPP (XX.take (k + 1)) = cntPP (XX.take k) + cntLL XX[k] := by rw [List.take_succ_eq_append_getElem hlt, cntPP_snoc]
      have hck1 := cntPP_take (XX := XX) (k + 1)
      rw [hcs] at hck1
      have HCS := Lib.hid hcs
      have hlx := HIL.out _ (List.getElem_mem hlt)
      generalize XX[k] = LL at hL hck1 HCS hc hlx
      obtain ⟨q, hq⟩ : ∃ q : Int, q = m + (cntPP (XX.take k) : Int) := ⟨_, rfl⟩
      rw [← hq] at hL ⊢
      have hq0 : 0 ≤ q ∧ q ≤ 1073741824 := by omega
      have hqn : decide (q + (cntLL LL : Int) < 0) = false := decide_eq_false (by omega)
      have HQ := Lib.hid hq
      have HR := Lib.hid hL.rd
      clear hq hcs hL
      go_wp2_with (go_at_call 58; refine (heldIntSS_any a1 k1 i.2 q LL _ HR.out hq0.1 (by omega) (by omega) (by omega)).mono ?_; rintro e w1 ⟨rfl, rfl⟩)
      go_roundw
      case rel => exact ⟨k + 1, by omega, by go_num, by rw [HCS.out, HQ.out]; congr 1; push_cast; omega, trivial⟩
      case measure => simp [intOf]; omega
    · obtain rfl : k = XX.length := by omega
      rw [List.take_length]
      go_wp2_with fail
      go_ret
      exact ⟨rfl, rfl⟩
end Go.Proofs.Ytgkghebjaedjmaa
