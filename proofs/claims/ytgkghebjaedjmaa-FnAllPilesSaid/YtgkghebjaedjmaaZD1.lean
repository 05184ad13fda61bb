/-
  Walks: the laws' comparison of lists of lists, whatever they are. Plain mathematics of counts: how many parts have a sum, none greater than a number. Plain mathematics of counts, over whole numbers. Plain mathematics of sums over squares and divisors. Plain mathematics of counts with signs. Plain mathematics of places: how many parts come ahead, and the parts at a place. Plain mathematics of parts of a set. Plain mathematics: tables of counts, signs and divisors up to 40, and what the promises say of them. Plain mathematics: counts of marked parts and of piles, by tables. Walks: corners of the model and of the program. Walks: cells taken away and put, of the model and of the program. Walks of the model: two lists the same.
-/
import Derived.Test.YtgkghebjaedjmaaZC1
import Derived.Test.YtgkghebjaedjmaaZC2
import Derived.Test.YtgkghebjaedjmaaZC3
import Derived.Test.YtgkghebjaedjmaaZC4
import Derived.Test.YtgkghebjaedjmaaZC5
import Derived.Test.YtgkghebjaedjmaaZC6
import Derived.Test.YtgkghebjaedjmaaZC7
import Derived.Test.YtgkghebjaedjmaaZC8
import Derived.Test.YtgkghebjaedjmaaZC9
import Derived.Deep.RegionHeld3
import Derived.Deep.QuietTactic
import Derived.BigQuiet
namespace Go.Proofs.Ytgkghebjaedjmaa
open Go.RowKit NP
set_option maxRecDepth 100000
set_option linter.unusedVariables false
set_option linter.unusedSimpArgs false
theorem ll_ext {A B : List (List Int)} (hl : A.length = B.length) (h : A.take A.length = B.take A.length) : A = B := by
  rw [List.take_of_length_le (Nat.le_refl _), List.take_of_length_le (by omega)] at h
  exact h
theorem equalLists_any (a b : Option Addr) (ca cb Ba Bb : Nat) (A B : List (List Int)) (w : World) (h : RdLL w Ba a A) (hm : RdLL w Bb b B) (hl : A.length ≤ 4611686018427387904) (hl2 : B.length ≤ 4611686018427387904) (hil : ∀ L ∈ A, L.length ≤ 4611686018427387904) (hil2 : ∀ L ∈ B, L.length ≤ 4611686018427387904) :
    Calls Try.prog 28 #[.slice a A.length ca, .slice b B.length cb] w fun e w' => e = .returned (.bool (decide (A = B))) ∧ Dr w w' := by
  by_cases hlen : A.length = B.length
  · have hne : ((A.length : Int) != (B.length : Int)) = false := by simp [hlen]
    have HL := Lib.hid hlen
    clear hlen
    go_enter Try.func28, Try.ntmps28
    go_wp2
    go_loopw [5] (fun i wr => ∃ k : Nat, k ≤ A.length ∧ i = .int .i64 k ∧ Dr w wr ∧ Hid (A.take k = B.take k)) (fun i _ => A.length - (intOf i).toNat)
    case atStart => exact ⟨0, Nat.zero_le _, rfl, Dr.refl _, Lib.hid rfl⟩
    case round =>
      obtain ⟨k, hk, rfl, hdr, HT⟩ := hrel
      by_cases hlt : k < A.length
      · have hlt2 : k < B.length := by have := HL.out; omega
        have hlti : (k : Int) < (A.length : Int) := by omega
        have hlti2 : (k : Int) < (B.length : Int) := by omega
        obtain ⟨b1, o1, a1, c1, rfl, -, hc1, hr1, -⟩ := (h.dr hdr).at_ hlt
        obtain ⟨b2, o2, a2, c2, rfl, -, hc2, hr2, -⟩ := (hm.dr hdr).at_ hlt2
        have hil1 := hil A[k] (List.getElem_mem hlt)
        have hil22 := hil2 B[k] (List.getElem_mem hlt2)
        have HS1 := Lib.hid (List.take_succ_eq_append_getElem hlt)
        have HS2 := Lib.hid (List.take_succ_eq_append_getElem hlt2)
        have HNE : Hid (A[k] ≠ B[k] → A ≠ B) := Lib.hid (fun h9 e => h9 (by subst e; rfl))
        generalize A[k] = M at hc1 hr1 hil1 HS1 HNE
        generalize B[k] = N at hc2 hr2 hil22 HS2 HNE
        by_cases hx : M = N
        · subst hx
          go_wp2_with fail
          go_region_held3 (fun w' => w'.cell? ⟨b1, o1 + k, none⟩ = some (.slice a1 M.length c1) ∧ w'.cell? ⟨b2, o2 + k, none⟩ = some (.slice a2 M.length c2) ∧ Dr wr w') (first | exact ⟨hc1, hc2, Dr.n wr 1⟩ | exact keepD2 (by assumption) (by assumption) (Dr.n wr 1) hd)
            (first | (go_at_call 52; refine (equalInts_same a1 a2 c1 c2 Ba Bb M _ (hr1.dr (Dr.n wr 1)) (hr2.dr (Dr.n wr 1)) hil1).mono ?_; rintro e w' ⟨rfl, hd⟩))
          have hdw : Dr wr w' := by obtain ⟨n, rfl⟩ := hd; exact (Dr.n wr 1).drewN n
          go_wp2_with fail
          go_roundw
          case rel => exact ⟨k + 1, by omega, by go_num, by obtain ⟨n, rfl⟩ := hdw; exact hdr.drewN n, Lib.hid (by rw [HS1.out, HS2.out, HT.out])⟩
          case measure => simp [intOf]; omega
        · have HX := Lib.hid hx
          have HD : Hid (decide (M = N) = false) := Lib.hid (decide_eq_false hx)
          clear hx
          go_wp2_with fail
          go_region_held3 (fun w' => w'.cell? ⟨b1, o1 + k, none⟩ = some (.slice a1 M.length c1) ∧ w'.cell? ⟨b2, o2 + k, none⟩ = some (.slice a2 N.length c2) ∧ Dr wr w') (first | exact ⟨hc1, hc2, Dr.n wr 1⟩ | exact keepD2 (by assumption) (by assumption) (Dr.n wr 1) hd)
            (first | (go_at_call 52; refine (equalInts_any a1 a2 c1 c2 Ba Bb M N _ (hr1.dr (Dr.n wr 1)) (hr2.dr (Dr.n wr 1)) hil1 hil22).mono ?_; rintro e w' ⟨rfl, hd⟩; rw [HD.out]))
          have hdw : Dr wr w' := by obtain ⟨n, rfl⟩ := hd; exact (Dr.n wr 1).drewN n
          go_wp2_with fail
          go_ret
          exact ⟨ret_bool (by rw [decide_eq_false (HNE.out HX.out)]), by obtain ⟨n, rfl⟩ := hdw; exact hdr.drewN n⟩
      · obtain rfl : k = A.length := by omega
        go_wp2
        go_ret
        exact ⟨ret_bool (by rw [decide_eq_true (ll_ext HL.out HT.out)]), hdr⟩
  · have hne : ((A.length : Int) != (B.length : Int)) = true := by simp; omega
    have HL := Lib.hid hlen
    clear hlen
    go_enter Try.func28, Try.ntmps28
    go_wp2
    go_ret
    exact ⟨ret_bool (by rw [decide_eq_false (fun e => HL.out (by rw [e]))]), Dr.refl _⟩
end Go.Proofs.Ytgkghebjaedjmaa
namespace Go.Proofs.Ytgkghebjaedjmaa
namespace NP
set_option linter.unusedVariables false
/-- how many parts of n, none greater than k -/
def ct : Nat → Nat → Nat
  | 0, _ => 1
  | _ + 1, 0 => 0
  | n + 1, k + 1 => ct (n + 1) k + (if k ≤ n then ct (n - k) (k + 1) else 0)
termination_by n k => n + k
decreasing_by all_goals omega
theorem ct_zero (k : Nat) : ct 0 k = 1 := by unfold ct; rfl
theorem ct_none (n : Nat) (h : 0 < n) : ct n 0 = 0 := by
  cases n with
  | zero => omega
  | succ n => unfold ct; rfl
theorem ct_rec (n k : Nat) (hk : 1 ≤ k) (h : k ≤ n) : ct n k = ct n (k - 1) + ct (n - k) k := by
  cases n with
  | zero => omega
  | succ n =>
    cases k with
    | zero => omega
    | succ k =>
      rw [ct, if_pos (by omega)]
      simp
theorem ct_big (n k : Nat) (hk : 1 ≤ k) (h : n < k) : ct n k = ct n (k - 1) := by
  cases n with
  | zero => rw [ct_zero, ct_zero]
  | succ n =>
    cases k with
    | zero => omega
    | succ k =>
      rw [ct, if_neg (by omega)]
      simp
theorem ct_pow (m : Nat) : ∀ n k, n + k = m → 1 ≤ n → ct n k + 2 ^ (n - k) ≤ 2 ^ n := by
  induction m using Nat.strongRecOn with
  | _ m ih =>
    intro n k hm hn
    cases k with
    | zero => rw [ct_none n hn]; simp
    | succ k =>
      have i1 := ih (n + k) (by omega) n k rfl hn
      rcases Nat.lt_or_ge n (k + 1) with h | h
      · rw [ct_big n (k + 1) (by omega) h, Nat.add_sub_cancel]
        have e : n - (k + 1) = n - k := by omega
        rw [e]; exact i1
      · rw [ct_rec n (k + 1) (by omega) h, Nat.add_sub_cancel]
        have e1 : n - k = n - (k + 1) + 1 := by omega
        rw [e1, Nat.pow_succ] at i1
        rcases Nat.eq_zero_or_pos (n - (k + 1)) with h0 | h0
        · rw [h0, ct_zero]
          rw [h0] at i1
          omega
        · have i2 := ih (n - (k + 1) + (k + 1)) (by omega) (n - (k + 1)) (k + 1) rfl h0
          have := Nat.two_pow_pos (n - (k + 1) - (k + 1))
          omega
theorem ct_le (n k : Nat) (h : n ≤ 40) : ct n k ≤ 1099511627776 := by
  rcases Nat.eq_zero_or_pos n with rfl | h0
  · rw [ct_zero]; decide
  · have h1 := ct_pow _ n k rfl h0
    have h2 : 2 ^ n ≤ 2 ^ 40 := Nat.pow_le_pow_right (by decide) h
    have h3 : (2 : Nat) ^ 40 = 1099511627776 := by decide
    have h4 := Nat.two_pow_pos (n - k)
    omega
/-- counts when a further number may come -/
def wv (D : List Int) (p : Nat) (s : Nat) : Int := if h : p = 0 ∨ s < p then D.getD s 0 else D.getD s 0 + wv D p (s - p)
termination_by s
decreasing_by have := h; omega
theorem wv_low (D : List Int) (p s : Nat) (h : s < p) : wv D p s = D.getD s 0 := by rw [wv, dif_pos (.inr h)]
theorem wv_high (D : List Int) (p s : Nat) (hp : 1 ≤ p) (h : p ≤ s) : wv D p s = D.getD s 0 + wv D p (s - p) := by rw [wv, dif_neg (by omega)]
def wrow (D : List Int) (p : Nat) : List Int := (List.range 41).map (wv D p)
def wmid (D : List Int) (p l : Nat) : List Int := (List.range 41).map fun s => if s < p + l then wv D p s else D.getD s 0
theorem wrow_len (D : List Int) (p : Nat) : (wrow D p).length = 41 := by simp [wrow]
theorem wmid_len (D : List Int) (p l : Nat) : (wmid D p l).length = 41 := by simp [wmid]
theorem wmid_zero {D : List Int} (hD : D.length = 41) (p : Nat) : wmid D p 0 = D := by
  apply List.ext_getElem
  · rw [wmid_len, hD]
  · intro j h1 h2
    simp only [wmid, List.getElem_map, List.getElem_range]
    rw [← getD_lt h2]
    split
    · exact wv_low D p j (by omega)
    · rfl
theorem wmid_end (D : List Int) (p l : Nat) (h : 41 ≤ p + l) : wmid D p l = wrow D p := by
  apply List.map_congr_left
  intro s hs
  rw [List.mem_range] at hs
  rw [if_pos (by omega)]
theorem wmid_lo (D : List Int) (p l : Nat) (hp : 1 ≤ p) (h : l < 41) : (wmid D p l)[l]'(by rw [wmid_len]; exact h) = wv D p l := by
  simp only [wmid, List.getElem_map, List.getElem_range]
  rw [if_pos (by omega)]
theorem wmid_hi (D : List Int) (p l : Nat) (h : l + p < 41) : (wmid D p l)[l + p]'(by rw [wmid_len]; exact h) = D.getD (l + p) 0 := by
  simp only [wmid, List.getElem_map, List.getElem_range]
  rw [if_neg (by omega)]
theorem wmid_set (D : List Int) (p l : Nat) (hp : 1 ≤ p) (h : l + p < 41) : (wmid D p l).set (l + p) (D.getD (l + p) 0 + wv D p l) = wmid D p (l + 1) := by
  apply List.ext_getElem
  · rw [List.length_set, wmid_len, wmid_len]
  · intro j h1 h2
    by_cases hj : l + p = j
    · subst hj
      rw [List.getElem_set_self]
      simp only [wmid, List.getElem_map, List.getElem_range]
      rw [if_pos (by omega), wv_high D p (l + p) hp (by omega), Nat.add_sub_cancel]
    · rw [List.getElem_set_ne hj]
      simp only [wmid, List.getElem_map, List.getElem_range]
      split <;> split <;> first | rfl | omega
/-- the counts of all parts, none greater than k -/
def crow (k : Nat) : List Int := (List.range 41).map fun s => (ct s k : Int)
theorem crow_len (k : Nat) : (crow k).length = 41 := by simp [crow]
theorem crow_getD (k s : Nat) (h : s < 41) : (crow k).getD s 0 = ct s k := by rw [getD_lt (by rw [crow_len]; exact h)]; simp [crow]
theorem crow_get (k s : Nat) (h : s < (crow k).length) : (crow k)[s] = ct s k := by simp [crow]
theorem wv_crow (k : Nat) (s : Nat) (h : s < 41) : wv (crow k) (k + 1) s = ct s (k + 1) := by
  induction s using Nat.strongRecOn with
  | _ s ih =>
    rcases Nat.lt_or_ge s (k + 1) with h1 | h1
    · rw [wv_low _ _ _ h1, crow_getD _ _ h, ct_big s (k + 1) (by omega) h1]; rfl
    · rw [wv_high _ _ _ (by omega) h1, crow_getD _ _ h, ih (s - (k + 1)) (by omega) (by omega), ct_rec s (k + 1) (by omega) h1]
      simp
theorem wrow_crow (k : Nat) : wrow (crow k) (k + 1) = crow (k + 1) := by
  apply List.map_congr_left
  intro s hs
  rw [List.mem_range] at hs
  exact wv_crow k s hs
theorem crow_zero : crow 0 = 1 :: List.replicate 40 0 := by
  have e : ∀ n, (List.range (n + 1)).map (fun s => ((ct s 0 : Nat) : Int)) = 1 :: List.replicate n 0 := by
    intro n
    induction n with
    | zero => simp [ct_zero]
    | succ n ih => rw [List.range_succ, List.map_append, ih, List.replicate_succ', List.map_cons, List.map_nil, ct_none _ (by omega)]; rfl
  exact e 40
end NP
end Go.Proofs.Ytgkghebjaedjmaa
namespace Go.Proofs.Ytgkghebjaedjmaa
namespace NP
set_option linter.unusedVariables false
def ctZ (n k : Int) : Int := if n < 0 then 0 else (ct n.toNat k.toNat : Int)
theorem ctZ_zero (k : Int) : ctZ 0 k = 1 := by unfold ctZ; rw [if_neg (by omega)]; simp [ct_zero]
theorem ctZ_neg (n k : Int) (h : n < 0) : ctZ n k = 0 := by unfold ctZ; rw [if_pos h]
theorem ctZ_none (n : Int) (h : 0 < n) : ctZ n 0 = 0 := by unfold ctZ; rw [if_neg (by omega), Int.toNat_zero, ct_none _ (by omega)]; rfl
theorem ctZ_nat (n k : Nat) : ctZ n k = ct n k := by unfold ctZ; rw [if_neg (by omega)]; simp
theorem ctZ_rec (n k : Int) (hn : 1 ≤ n) (hk : 1 ≤ k) : ctZ n k = ctZ n (k - 1) + ctZ (n - k) k := by
  obtain ⟨n, rfl⟩ := Int.eq_ofNat_of_zero_le (by omega : 0 ≤ n)
  obtain ⟨k, rfl⟩ := Int.eq_ofNat_of_zero_le (by omega : 0 ≤ k)
  have e : (k : Int) - 1 = ((k - 1 : Nat) : Int) := by omega
  rw [e, ctZ_nat, ctZ_nat]
  rcases Nat.lt_or_ge n k with h | h
  · rw [ctZ_neg _ _ (by omega), ct_big n k (by omega) h]; omega
  · have e2 : (n : Int) - k = ((n - k : Nat) : Int) := by omega
    rw [e2, ctZ_nat, ct_rec n k (by omega) h]; omega
theorem ctZ_bd (n k : Int) (h : n ≤ 40) : 0 ≤ ctZ n k ∧ ctZ n k ≤ 1099511627776 := by
  unfold ctZ
  split
  · omega
  · have := ct_le n.toNat k.toNat (by omega)
    omega
theorem ctZ_crow (n k : Int) (h0 : 0 ≤ n) (h : n ≤ 40) : (crow k.toNat).getD n.toNat 0 = ctZ n k := by
  rw [crow_getD _ _ (by omega)]
  unfold ctZ
  rw [if_neg (by omega)]
/-- how many parts have a sum -/
def cpF (n : Int) : Int := if 0 ≤ n ∧ n ≤ 40 then ctZ n n else -1
/-- at most so many -/
def amF (n k : Int) : Int := if (0 ≤ n ∧ n ≤ 40) ∧ (0 ≤ k ∧ k ≤ 40) then ctZ n k else -1
/-- just so many -/
def jpF (n k : Int) : Int := if (0 ≤ n ∧ n ≤ 40) ∧ (0 ≤ k ∧ k ≤ 40) then ctZ (n - k) k else -1
theorem jp_spec (n k : Int) (hn : 0 ≤ n) (hk : 0 < k) : ctZ n k - ctZ n (k - 1) = ctZ (n - k) k := by
  rcases Int.lt_or_le 0 n with h | h
  · rw [ctZ_rec n k (by omega) (by omega)]; omega
  · obtain rfl : n = 0 := by omega
    rw [ctZ_zero, ctZ_zero, ctZ_neg _ _ (by omega)]; rfl
end NP
end Go.Proofs.Ytgkghebjaedjmaa
namespace Go.Proofs.Ytgkghebjaedjmaa
namespace NP
set_option linter.unusedVariables false
def sqn (n : Int) : Nat → Int
  | 0 => 0
  | m + 1 => sqn n m + ctZ (n - (m : Int) * m) m
def scs (n : Int) : Nat → Int
  | 0 => 0
  | m + 1 => scs n m + (if (n - (m : Int) * m) % 2 = 0 then ctZ ((n - (m : Int) * m) / 2) m else 0)
def isq (n : Int) : Nat := ff (fun k => decide ((k : Int) * k ≤ n)) 7
def sqF (n : Int) : Int := if 0 ≤ n ∧ n ≤ 40 then sqn n (isq n) else -1
def scF (n : Int) : Int := if 0 ≤ n ∧ n ≤ 40 then scs n (isq n) else -1
theorem sq_nn (m : Nat) : 0 ≤ (m : Int) * m := Int.mul_nonneg (by omega) (by omega)
theorem sqn_bd (n : Int) (hn : n ≤ 40) (m : Nat) : 0 ≤ sqn n m ∧ sqn n m ≤ 1099511627776 * m := by
  induction m with
  | zero => simp [sqn]
  | succ m ih =>
    have := sq_nn m
    have := ctZ_bd (n - (m : Int) * m) m (by omega)
    simp only [sqn]
    omega
theorem scs_bd (n : Int) (hn : n ≤ 40) (m : Nat) : 0 ≤ scs n m ∧ scs n m ≤ 1099511627776 * m := by
  induction m with
  | zero => simp [scs]
  | succ m ih =>
    have := sq_nn m
    have := ctZ_bd ((n - (m : Int) * m) / 2) m (by omega)
    simp only [scs]
    split <;> omega
theorem sq_lt (k : Nat) (hk : k < 7) : (k : Int) * k ≤ 36 := by
  have : ∀ k : Nat, k < 7 → (k : Int) * k ≤ 36 := by decide
  exact this k hk
theorem isq_eq {n : Int} (hn : n ≤ 40) {k : Nat} (hk : k ≤ 7) (h : ∀ j, j < k → (j : Int) * j ≤ n) (h2 : k = 7 ∨ n < (k : Int) * k) : isq n = k := by
  unfold isq
  refine ff_eq (fun j hj => decide_eq_true (h j hj)) hk ?_
  rcases h2 with h2 | h2
  · exact .inl h2
  · exact .inr (decide_eq_false (by omega))
/-- the sum of the divisors, up to m -/
def dvs (n : Int) : Nat → Int
  | 0 => 0
  | m + 1 => dvs n m + (if n % ((m : Int) + 1) = 0 then (m : Int) + 1 else 0)
def dvF (n : Int) : Int := if 1 ≤ n ∧ n ≤ 40 then dvs n n.toNat else -1
theorem dvs_bd (n : Int) (m : Nat) (hm : m ≤ 41) : 0 ≤ dvs n m ∧ dvs n m ≤ 50 * m := by
  induction m with
  | zero => simp [dvs]
  | succ m ih =>
    have := ih (by omega)
    simp only [dvs]
    split <;> omega
def pnF (k : Int) : Int := if -100 ≤ k ∧ k ≤ 100 then k * (3 * k - 1) / 2 else -1
theorem pn_bd (k : Int) (h1 : -100 ≤ k) (h2 : k ≤ 100) : 0 ≤ k * (3 * k - 1) ∧ k * (3 * k - 1) ≤ 30100 := by
  rcases Int.lt_or_le k 1 with h | h
  · have e : k * (3 * k - 1) = (-k) * (3 * (-k) + 1) := by rw [Int.mul_add, Int.mul_sub, Int.mul_one, Int.mul_one, Int.mul_neg, Int.mul_neg, Int.neg_mul]; omega
    rw [e]
    have a := Int.mul_nonneg (a := -k) (b := 3 * (-k) + 1) (by omega) (by omega)
    have b := Int.mul_le_mul (a := -k) (b := 3 * (-k) + 1) (c := 100) (d := 301) (by omega) (by omega) (by omega) (by omega)
    omega
  · have a := Int.mul_nonneg (a := k) (b := 3 * k - 1) (by omega) (by omega)
    have b := Int.mul_le_mul (a := k) (b := 3 * k - 1) (c := 100) (d := 299) (by omega) (by omega) (by omega) (by omega)
    omega
end NP
end Go.Proofs.Ytgkghebjaedjmaa
namespace Go.Proofs.Ytgkghebjaedjmaa
namespace NP
set_option linter.unusedVariables false
/-- counts when a further number may come once -/
def wo (D : List Int) (p : Nat) (sg : Int) (s : Nat) : Int := if s < p then D.getD s 0 else D.getD s 0 + sg * D.getD (s - p) 0
def worow (D : List Int) (p : Nat) (sg : Int) : List Int := (List.range 41).map (wo D p sg)
def womid (D : List Int) (p : Nat) (sg : Int) (l : Nat) : List Int := (List.range 41).map fun s => if s < p + l then wo D p sg s else D.getD s 0
theorem worow_len (D : List Int) (p : Nat) (sg : Int) : (worow D p sg).length = 41 := by simp [worow]
theorem womid_len (D : List Int) (p : Nat) (sg : Int) (l : Nat) : (womid D p sg l).length = 41 := by simp [womid]
theorem womid_zero {D : List Int} (hD : D.length = 41) (p : Nat) (sg : Int) : womid D p sg 0 = D := by
  apply List.ext_getElem
  · rw [womid_len, hD]
  · intro j h1 h2
    simp only [womid, List.getElem_map, List.getElem_range]
    rw [← getD_lt h2]
    split
    · unfold wo; rw [if_pos (by omega)]
    · rfl
theorem womid_end (D : List Int) (p : Nat) (sg : Int) (l : Nat) (h : 41 ≤ p + l) : womid D p sg l = worow D p sg := by
  apply List.map_congr_left
  intro s hs
  rw [List.mem_range] at hs
  rw [if_pos (by omega)]
theorem womid_hi (D : List Int) (p : Nat) (sg : Int) (l : Nat) (h : l + p < 41) : (womid D p sg l)[l + p]'(by rw [womid_len]; exact h) = D.getD (l + p) 0 := by
  simp only [womid, List.getElem_map, List.getElem_range]
  rw [if_neg (by omega)]
theorem womid_set (D : List Int) (p : Nat) (sg : Int) (l : Nat) (hp : 1 ≤ p) (h : l + p < 41) : (womid D p sg l).set (l + p) (D.getD (l + p) 0 + sg * D.getD l 0) = womid D p sg (l + 1) := by
  apply List.ext_getElem
  · rw [List.length_set, womid_len, womid_len]
  · intro j h1 h2
    by_cases hj : l + p = j
    · subst hj
      rw [List.getElem_set_self]
      simp only [womid, List.getElem_map, List.getElem_range]
      rw [if_pos (by omega)]
      unfold wo
      rw [if_neg (by omega), Nat.add_sub_cancel]
    · rw [List.getElem_set_ne hj]
      simp only [womid, List.getElem_map, List.getElem_range]
      split <;> split <;> first | rfl | omega
theorem worow_getD (D : List Int) (p : Nat) (sg : Int) (s : Nat) (h : s < 41) : (worow D p sg).getD s 0 = wo D p sg s := by
  rw [getD_lt (by rw [worow_len]; exact h)]
  simp [worow]
/-- the different parts, none greater than d, with signs -/
def srow : Nat → List Int
  | 0 => 1 :: List.replicate 40 0
  | d + 1 => worow (srow d) (d + 1) (-1)
theorem srow_len (d : Nat) : (srow d).length = 41 := by
  cases d with
  | zero => rfl
  | succ d => exact worow_len _ _ _
theorem srow_bd (d : Nat) : ∀ s, -(2 ^ d : Int) ≤ (srow d).getD s 0 ∧ (srow d).getD s 0 ≤ 2 ^ d := by
  induction d with
  | zero =>
    intro s
    rcases Nat.lt_or_ge s 41 with h | h
    · have : ∀ s, s < 41 → -(2 ^ 0 : Int) ≤ (srow 0).getD s 0 ∧ (srow 0).getD s 0 ≤ 2 ^ 0 := by decide
      exact this s h
    · rw [getD_ge (by rw [srow_len]; exact h)]; decide
  | succ d ih =>
    intro s
    have hp : (2 : Int) ^ (d + 1) = 2 * 2 ^ d := by rw [Int.pow_succ]; omega
    have h0 : (0 : Int) < 2 ^ d := Int.pow_pos (by decide)
    rw [hp]
    rcases Nat.lt_or_ge s 41 with h | h
    · show -(2 * 2 ^ d : Int) ≤ (worow (srow d) (d + 1) (-1)).getD s 0 ∧ _
      rw [show srow (d + 1) = worow (srow d) (d + 1) (-1) from rfl, worow_getD _ _ _ _ h]
      unfold wo
      have a := ih s
      have b := ih (s - (d + 1))
      split <;> omega
    · rw [getD_ge (by rw [srow_len]; exact h)]; omega
theorem pow40 (d : Nat) (h : d ≤ 40) : (2 : Int) ^ d ≤ 1099511627776 := by
  have : ∀ d : Nat, d < 41 → (2 : Int) ^ d ≤ 1099511627776 := by decide
  exact this d (by omega)
theorem srow_bd40 (d : Nat) (h : d ≤ 40) (s : Nat) : -1099511627776 ≤ (srow d).getD s 0 ∧ (srow d).getD s 0 ≤ 1099511627776 := by
  have := srow_bd d s
  have := pow40 d h
  omega
def sdF (n : Int) : Int := if 0 ≤ n ∧ n ≤ 40 then (srow n.toNat).getD n.toNat 0 else 0
/-- what stands in the model's table of n+1 numbers when those from x up have been done -/
def smid (D : List Int) (n d x : Nat) : List Int := (List.range (n + 1)).map fun s => if x ≤ s then wo D d (-1) s else D.getD s 0
theorem smid_len (D : List Int) (n d x : Nat) : (smid D n d x).length = n + 1 := by simp [smid]
theorem smid_get (D : List Int) (n d x k : Nat) (h : k < (smid D n d x).length) : (smid D n d x)[k] = if x ≤ k then wo D d (-1) k else D.getD k 0 := by simp [smid]
theorem smid_set (D : List Int) (n d x : Nat) (hd : 1 ≤ d) (hx : d ≤ x) (hn : x ≤ n) : (smid D n d (x + 1)).set x (D.getD x 0 - D.getD (x - d) 0) = smid D n d x := by
  apply List.ext_getElem
  · rw [List.length_set, smid_len, smid_len]
  · intro j h1 h2
    by_cases hj : x = j
    · subst hj
      rw [List.getElem_set_self, smid_get, if_pos (Nat.le_refl _)]
      unfold wo
      rw [if_neg (by omega)]
      omega
    · rw [List.getElem_set_ne hj, smid_get, smid_get]
      split <;> split <;> first | rfl | omega
theorem smid_next (D : List Int) (hD : D.length = 41) (n d : Nat) (hn : n ≤ 40) : smid D n d d = smid (worow D d (-1)) n (d + 1) (n + 1) := by
  apply List.ext_getElem
  · rw [smid_len, smid_len]
  · intro j h1 h2
    rw [smid_len] at h1
    rw [smid_get, smid_get, if_neg (by omega : ¬ n + 1 ≤ j), worow_getD _ _ _ _ (by omega)]
    split
    · rfl
    · unfold wo; rw [if_pos (by omega)]
theorem smid_start (n : Nat) (hn : n ≤ 40) : (List.replicate (n + 1) (0 : Int)).set 0 1 = smid (srow 0) n 1 (n + 1) := by
  apply List.ext_getElem
  · rw [List.length_set, List.length_replicate, smid_len]
  · intro j h1 h2
    rw [smid_len] at h2
    rw [smid_get, if_neg (by omega)]
    cases j with
    | zero => rfl
    | succ j =>
      rw [List.getElem_set_ne (by omega), List.getElem_replicate]
      have : ∀ j, j < 40 → (0 : Int) = (srow 0).getD (j + 1) 0 := by decide
      exact this j (by omega)
end NP
end Go.Proofs.Ytgkghebjaedjmaa
namespace Go.Proofs.Ytgkghebjaedjmaa
namespace NP
set_option linter.unusedVariables false
theorem ctZ_mono1 (n k : Int) (hk : 1 ≤ k) (hn40 : n ≤ 40) : ctZ n (k - 1) ≤ ctZ n k := by
  rcases Int.lt_or_le n 1 with h | h
  · rcases Int.lt_or_le n 0 with h2 | h2
    · rw [ctZ_neg n _ h2, ctZ_neg n _ h2]; exact Int.le_refl _
    · obtain rfl : n = 0 := by omega
      rw [ctZ_zero, ctZ_zero]; exact Int.le_refl _
  · rw [ctZ_rec n k h hk]
    have := (ctZ_bd (n - k) k (by omega)).1
    omega
theorem ctZ_mono (n : Int) (hn40 : n ≤ 40) (d : Nat) : ∀ k : Int, 0 ≤ k → ctZ n k ≤ ctZ n (k + d) := by
  induction d with
  | zero => intro k _; simp
  | succ d ih =>
    intro k hk
    have h1 := ih k hk
    have h2 := ctZ_mono1 n (k + (d + 1 : Nat)) (by omega) hn40
    have e : k + ((d + 1 : Nat) : Int) - 1 = k + d := by omega
    rw [e] at h2
    omega
theorem ctZ_le {n j k : Int} (hn40 : n ≤ 40) (hj : 0 ≤ j) (h : j ≤ k) : ctZ n j ≤ ctZ n k := by
  have := ctZ_mono n hn40 (k - j).toNat j hj
  have e : j + ((k - j).toNat : Int) = k := by omega
  rwa [e] at this
theorem ctZ_cap {n m : Int} (hn : 0 ≤ n) (h : n ≤ m) : ctZ n m = ctZ n n := by
  have key : ∀ d : Nat, ctZ n (n + d) = ctZ n n := by
    intro d
    induction d with
    | zero => simp
    | succ d ih =>
      rcases Int.lt_or_le n 1 with h1 | h1
      · obtain rfl : n = 0 := by omega
        rw [ctZ_zero, ctZ_zero]
      · rw [ctZ_rec n _ h1 (by omega), ctZ_neg (n - (n + ((d + 1 : Nat) : Int))) _ (by omega)]
        have e : n + ((d + 1 : Nat) : Int) - 1 = n + d := by omega
        rw [e, ih]; omega
  have := key (m - n).toNat
  have e : n + ((m - n).toNat : Int) = m := by omega
  rwa [e] at this
theorem ctZ_min {n m : Int} (hn : 0 ≤ n) : ctZ n (min n m) = ctZ n m := by
  rcases Int.le_total n m with h | h
  · rw [Int.min_eq_left h, ctZ_cap hn h]
  · rw [Int.min_eq_right h]
def plc : Int → Int → List Int → Int
  | _, _, [] => 0
  | n, m, x :: r => ctZ n m - ctZ n x + plc (n - x) x r
theorem plc_append (n m : Int) (A : List Int) (x : Int) : plc n m (A ++ [x]) = plc n m A + (ctZ (n - sumL A) (A.getLastD m) - ctZ (n - sumL A) x) := by
  induction A generalizing n m with
  | nil => simp [plc, sumL]
  | cons y r ih =>
    rw [List.cons_append, plc, ih, plc, sumL]
    have e : (y :: r).getLastD m = r.getLastD y := by cases r <;> simp [List.getLastD]
    rw [e, show n - y - sumL r = n - (y + sumL r) by omega]
    omega
/-- parts, none greater than m, with the sum n -/
def ex (n m : Int) (L : List Int) : Prop := vb m n L = true ∧ sumL L = n
theorem ex_nil {n m : Int} (h : ex n m []) : n = 0 := by have := h.2; simp [sumL] at this; omega
theorem ex_cons {n m x : Int} {r : List Int} (h : ex n m (x :: r)) : 1 ≤ x ∧ x ≤ n ∧ x ≤ m ∧ ex (n - x) x r := by
  obtain ⟨h1, h2⟩ := h
  simp only [vb, Bool.and_eq_true, decide_eq_true_eq] at h1
  simp only [sumL] at h2
  exact ⟨h1.1.1.1, h1.1.1.2, h1.1.2, h1.2, by omega⟩
theorem ex_mk {n m x : Int} {r : List Int} (h1 : 1 ≤ x) (h2 : x ≤ n) (h3 : x ≤ m) (h4 : ex (n - x) x r) : ex n m (x :: r) := by
  refine ⟨?_, ?_⟩
  · simp only [vb, Bool.and_eq_true, decide_eq_true_eq]
    exact ⟨⟨⟨h1, h2⟩, h3⟩, h4.1⟩
  · simp only [sumL]
    have := h4.2
    omega
theorem ex_valid {L : List Int} (h : valid L = true) : ex (sumL L) (sumL L) L := by
  refine ⟨?_, rfl⟩
  rw [vb_iff]
  have h2 := h
  unfold valid at h2
  rw [vb_iff] at h2
  refine ⟨fun k hk => ⟨(h2.1 k hk).1, ?_, (h2.1 k hk).2.2⟩, fun _ => Int.le_refl _⟩
  exact (elem_le_sum (valid_nonneg h) hk).1
theorem valid_ex {n m : Int} {L : List Int} (hn : n ≤ 16) (h : ex n m L) : valid L = true := by
  obtain ⟨h1, h2⟩ := h
  unfold valid
  rw [vb_iff] at h1 ⊢
  have hnn : ∀ x ∈ L, 0 ≤ x := fun x hx => by
    obtain ⟨k, hk, rfl⟩ := List.getElem_of_mem hx
    have := (h1.1 k hk).1
    omega
  refine ⟨fun k hk => ⟨(h1.1 k hk).1, ?_, (h1.1 k hk).2.2⟩, fun _ => by omega⟩
  have := (elem_le_sum hnn hk).1
  omega
theorem plc_bd {n m : Int} {L : List Int} (hn : n ≤ 40) (hm : 0 ≤ m) (h : ex n m L) : 0 ≤ plc n m L ∧ plc n m L < ctZ n m := by
  induction L generalizing n m with
  | nil =>
    obtain rfl := ex_nil h
    rw [ctZ_zero]; simp [plc]
  | cons x r ih =>
    obtain ⟨h1, h2, h3, h4⟩ := ex_cons h
    have := ih (by omega) (by omega) h4
    have e := ctZ_rec n x (by omega) h1
    have l1 := ctZ_le (n := n) hn (by omega) h3
    have l2 := (ctZ_bd n (x - 1) hn).1
    simp only [plc]
    omega
/-- from x on, the first part down from which the place k is within -/
def fx : Nat → Int → Int → Int → Int × Int
  | 0, _, x, k => (x, k)
  | f + 1, n, x, k => if ctZ (n - x) x ≤ k then fx f n (x - 1) (k - ctZ (n - x) x) else (x, k)
theorem fx_eq (n y k' : Int) (hn : n ≤ 40) (hy : 1 ≤ y) (hk' : 0 ≤ k' ∧ k' < ctZ (n - y) y) : ∀ (f d : Nat), d < f → y + d ≤ n → fx f n (y + d) (ctZ n (y + d) - ctZ n y + k') = (y, k') := by
  intro f
  induction f with
  | zero => intro d h; omega
  | succ f ih =>
    intro d hd hdn
    cases d with
    | zero =>
      have e : y + ((0 : Nat) : Int) = y := by omega
      rw [e, fx, if_neg (by omega)]
      congr 1; omega
    | succ d =>
      have e1 := ctZ_rec n (y + ((d + 1 : Nat) : Int)) (by omega) (by omega)
      have e2 : y + ((d + 1 : Nat) : Int) - 1 = y + d := by omega
      rw [e2] at e1
      have l1 := ctZ_le (n := n) (j := y) (k := y + d) hn (by omega) (by omega)
      rw [fx, if_pos (by omega), e2]
      have e3 : ctZ n (y + ((d + 1 : Nat) : Int)) - ctZ n y + k' - ctZ (n - (y + ((d + 1 : Nat) : Int))) (y + ((d + 1 : Nat) : Int)) = ctZ n (y + d) - ctZ n y + k' := by omega
      rw [e3]
      exact ih d (by omega) (by omega)
theorem fx_ex (n : Int) (hn : n ≤ 40) : ∀ (x : Nat) (k : Int), 1 ≤ n → (x : Int) ≤ n → 0 ≤ k → k < ctZ n x → ∃ y k' : Int, 1 ≤ y ∧ y ≤ x ∧ 0 ≤ k' ∧ k' < ctZ (n - y) y ∧ k = ctZ n x - ctZ n y + k' := by
  intro x
  induction x with
  | zero =>
    intro k h1 _ h3 h4
    have e : ((0 : Nat) : Int) = 0 := rfl
    rw [e, ctZ_none n (by omega)] at h4
    omega
  | succ x ih =>
    intro k h1 h2 h3 h4
    have e1 := ctZ_rec n ((x + 1 : Nat) : Int) h1 (by omega)
    have e2 : ((x + 1 : Nat) : Int) - 1 = x := by omega
    rw [e2] at e1
    rcases Int.lt_or_le k (ctZ (n - ((x + 1 : Nat) : Int)) ((x + 1 : Nat) : Int)) with h5 | h5
    · exact ⟨_, k, by omega, Int.le_refl _, h3, h5, by omega⟩
    · obtain ⟨y, k', a1, a2, a3, a4, a5⟩ := ih (k - ctZ (n - ((x + 1 : Nat) : Int)) ((x + 1 : Nat) : Int)) h1 (by omega) (by omega) (by omega)
      exact ⟨y, k', a1, by omega, a3, a4, by omega⟩
/-- the parts at place k among those with the sum n, none greater than m -/
def pat : Nat → Int → Int → Int → List Int
  | 0, _, _, _ => []
  | f + 1, n, m, k => if n ≤ 0 then [] else (fx 41 n (min n m) k).1 :: pat f (n - (fx 41 n (min n m) k).1) (fx 41 n (min n m) k).1 (fx 41 n (min n m) k).2
theorem pat_step {n m k : Int} (hn1 : 1 ≤ n) (hn : n ≤ 40) (hm : 1 ≤ m) (hk : 0 ≤ k) (hk2 : k < ctZ n m) : ∃ y k' : Int, fx 41 n (min n m) k = (y, k') ∧ 1 ≤ y ∧ y ≤ n ∧ y ≤ m ∧ 0 ≤ k' ∧ k' < ctZ (n - y) y ∧ k = ctZ n m - ctZ n y + k' := by
  have hc := ctZ_min (n := n) (m := m) (by omega)
  obtain ⟨X, hX⟩ : ∃ X : Nat, (X : Int) = min n m := ⟨(min n m).toNat, by omega⟩
  rw [← hX] at hc ⊢
  obtain ⟨y, k', a1, a2, a3, a4, a5⟩ := fx_ex n hn X k hn1 (by omega) hk (by omega)
  refine ⟨y, k', ?_, a1, by omega, by omega, a3, a4, by omega⟩
  have := fx_eq n y k' hn a1 ⟨a3, a4⟩ 41 ((X : Int) - y).toNat (by omega) (by omega)
  have e : y + (((X : Int) - y).toNat : Int) = X := by omega
  rw [e] at this
  rw [a5, this]
theorem pat_ex : ∀ (f : Nat) (n m k : Int), n ≤ f → 0 ≤ n → n ≤ 40 → 0 ≤ m → 0 ≤ k → k < ctZ n m → ex n m (pat f n m k) ∧ plc n m (pat f n m k) = k := by
  intro f
  induction f with
  | zero =>
    intro n m k h1 h2 h3 hm h4 h5
    obtain rfl : n = 0 := by omega
    rw [ctZ_zero] at h5
    exact ⟨⟨rfl, rfl⟩, by show (0 : Int) = k; omega⟩
  | succ f ih =>
    intro n m k h1 h2 h3 hm h4 h5
    rcases Int.lt_or_le n 1 with h6 | h6
    · obtain rfl : n = 0 := by omega
      rw [ctZ_zero] at h5
      rw [pat, if_pos (Int.le_refl _)]
      exact ⟨⟨rfl, rfl⟩, by show (0 : Int) = k; omega⟩
    · have hm1 : 1 ≤ m := by
        rcases Int.lt_or_le m 1 with h7 | h7
        · obtain rfl : m = 0 := by omega
          rw [ctZ_none n (by omega)] at h5
          omega
        · exact h7
      obtain ⟨y, k', he, a1, a2, a3, a4, a5, a6⟩ := pat_step h6 h3 hm1 h4 h5
      rw [pat, if_neg (by omega), he]
      have := ih (n - y) y k' (by omega) (by omega) (by omega) (by omega) a4 a5
      refine ⟨ex_mk a1 a2 a3 this.1, ?_⟩
      show ctZ n m - ctZ n y + plc (n - y) y (pat f (n - y) y k') = k
      rw [this.2]
      omega
theorem pat_plc : ∀ (f : Nat) (n m : Int) (L : List Int), n ≤ f → n ≤ 40 → 0 ≤ m → ex n m L → pat f n m (plc n m L) = L := by
  intro f
  induction f with
  | zero =>
    intro n m L h1 h2 hm h
    cases L with
    | nil => rfl
    | cons x r => have := ex_cons h; omega
  | succ f ih =>
    intro n m L h1 h2 hm h
    cases L with
    | nil =>
      obtain rfl := ex_nil h
      rw [pat, if_pos (Int.le_refl _)]
    | cons x r =>
      obtain ⟨a1, a2, a3, a4⟩ := ex_cons h
      have hb := plc_bd (by omega) (by omega) a4
      have hc := ctZ_min (n := n) (m := m) (by omega)
      have hfx := fx_eq n x (plc (n - x) x r) h2 a1 hb 41 (min n m - x).toNat (by omega) (by omega)
      have e : x + ((min n m - x).toNat : Int) = min n m := by omega
      rw [e, hc] at hfx
      rw [pat, if_neg (by omega), plc, hfx, ih (n - x) x r (by omega) (by omega) (by omega) a4]
def plcF (L : List Int) : Int := if valid L then plc (sumL L) (sumL L) L else -1
theorem plcF_yes {L : List Int} (h : valid L = true) : plcF L = plc (sumL L) (sumL L) L := by simp [plcF, h]
theorem plcF_no {L : List Int} (h : valid L = false) : plcF L = -1 := by simp [plcF, h]
def patOk (n k : Int) : Bool := decide (0 ≤ n) && decide (n ≤ 16) && decide (0 ≤ k) && decide (k < ctZ n n)
def patF (n k : Int) : List Int := if patOk n k then pat 16 n n k else []
theorem patOk_out {n k : Int} (h : patOk n k = true) : 0 ≤ n ∧ n ≤ 16 ∧ 0 ≤ k ∧ k < ctZ n n := by
  unfold patOk at h
  simp only [Bool.and_eq_true, decide_eq_true_eq] at h
  exact ⟨h.1.1.1, h.1.1.2, h.1.2, h.2⟩
theorem patOk_no {n k : Int} (h : ¬ (0 ≤ n ∧ n ≤ 16 ∧ 0 ≤ k ∧ k < ctZ n n)) : patOk n k = false := by
  cases hk : patOk n k with
  | false => rfl
  | true => exact absurd (patOk_out hk) h
theorem patOk_yes {n k : Int} (h : 0 ≤ n ∧ n ≤ 16 ∧ 0 ≤ k ∧ k < ctZ n n) : patOk n k = true := by
  unfold patOk
  rw [decide_eq_true h.1, decide_eq_true h.2.1, decide_eq_true h.2.2.1, decide_eq_true h.2.2.2]; rfl
theorem patF_yes {n k : Int} (h : patOk n k = true) : patF n k = pat 16 n n k := by simp [patF, h]
theorem patF_no {n k : Int} (h : patOk n k = false) : patF n k = [] := by simp [patF, h]
theorem pat_valid {n k : Int} (h : patOk n k = true) : valid (pat 16 n n k) = true ∧ sumL (pat 16 n n k) = n ∧ plc n n (pat 16 n n k) = k := by
  obtain ⟨h1, h2, h3, h4⟩ := patOk_out h
  obtain ⟨e1, e2⟩ := pat_ex 16 n n k (by omega) h1 (by omega) h1 h3 h4
  exact ⟨valid_ex h2 e1, e1.2, e2⟩
theorem plcF_patF {n k : Int} (h : patOk n k = true) : plcF (patF n k) = k := by
  obtain ⟨h1, h2, h3⟩ := pat_valid h
  rw [patF_yes h, plcF_yes h1, h2, h3]
theorem patF_plcF {L : List Int} (h : valid L = true) : patOk (sumL L) (plcF L) = true ∧ patF (sumL L) (plcF L) = L := by
  have hb := valid_bd h
  have he := ex_valid h
  have hp := plc_bd (by omega) hb.1 he
  have hok : patOk (sumL L) (plcF L) = true := by rw [plcF_yes h]; exact patOk_yes ⟨hb.1, hb.2.1, hp.1, hp.2⟩
  refine ⟨hok, ?_⟩
  rw [patF_yes hok, plcF_yes h]
  exact pat_plc 16 _ _ L (by omega) (by omega) hb.1 he
theorem patF_len (n k : Int) : (patF n k).length ≤ 16 := by
  cases h : patOk n k with
  | true => rw [patF_yes h]; exact (valid_bd (pat_valid h).1).2.2.2
  | false => rw [patF_no h]; simp
end NP
end Go.Proofs.Ytgkghebjaedjmaa
namespace Go.Proofs.Ytgkghebjaedjmaa
namespace NP
set_option linter.unusedVariables false
/-- D is at least 0 and at most E -/
def leR (D E : List Int) : Prop := ∀ s, s < 41 → 0 ≤ D.getD s 0 ∧ D.getD s 0 ≤ E.getD s 0
theorem wv_leR {D E : List Int} (h : leR D E) {p : Nat} (hp : 1 ≤ p) (s : Nat) (hs : s < 41) : 0 ≤ wv D p s ∧ wv D p s ≤ wv E p s := by
  induction s using Nat.strongRecOn with
  | _ s ih =>
    have h0 := h s hs
    rcases Nat.lt_or_ge s p with h1 | h1
    · rw [wv_low _ _ _ h1, wv_low _ _ _ h1]; exact h0
    · rw [wv_high _ _ _ hp h1, wv_high _ _ _ hp h1]
      have := ih (s - p) (by omega) (by omega)
      omega
theorem wv_ge {D E : List Int} (h : leR D E) {p : Nat} (hp : 1 ≤ p) (s : Nat) (hs : s < 41) : D.getD s 0 ≤ wv D p s := by
  rcases Nat.lt_or_ge s p with h1 | h1
  · rw [wv_low _ _ _ h1]; exact Int.le_refl _
  · rw [wv_high _ _ _ hp h1]
    have := (wv_leR h hp (s - p) (by omega)).1
    omega
/-- what a further number p makes of the counts: once, or again and again -/
def nv (once : Bool) (D : List Int) (p s : Nat) : Int := if once then wo D p 1 s else wv D p s
def mrow (once : Bool) (D : List Int) (p : Nat) : List Int := (List.range 41).map (nv once D p)
theorem mrow_len (once : Bool) (D : List Int) (p : Nat) : (mrow once D p).length = 41 := by simp [mrow]
theorem mrow_getD (once : Bool) (D : List Int) (p s : Nat) (h : s < 41) : (mrow once D p).getD s 0 = nv once D p s := by
  rw [getD_lt (by rw [mrow_len]; exact h)]; simp [mrow]
theorem mrow_many (D : List Int) (p : Nat) : mrow false D p = wrow D p := rfl
theorem mrow_once (D : List Int) (p : Nat) : mrow true D p = worow D p 1 := rfl
theorem nv_bd {D E : List Int} (h : leR D E) {p : Nat} (hp : 1 ≤ p) (once : Bool) (s : Nat) (hs : s < 41) : 0 ≤ nv once D p s ∧ nv once D p s ≤ wv D p s := by
  have h1 := wv_leR h hp s hs
  unfold nv
  cases once with
  | false => exact ⟨h1.1, Int.le_refl _⟩
  | true =>
    simp only [if_true]
    unfold wo
    have h2 := h s hs
    split
    · rename_i h3
      rw [wv_low _ _ _ h3]
      exact ⟨h2.1, Int.le_refl _⟩
    · rename_i h3
      have h4 := h (s - p) (by omega)
      have h5 := wv_ge h hp (s - p) (by omega)
      rw [wv_high _ _ _ hp (by omega)]
      omega
theorem crow_leR {j k : Nat} (h : j ≤ k) : leR (crow j) (crow k) := fun s hs => by
  rw [crow_getD _ _ hs, crow_getD _ _ hs, ← ctZ_nat, ← ctZ_nat]
  exact ⟨(ctZ_bd _ _ (by omega)).1, ctZ_le (by omega) (by omega) (by omega)⟩
theorem leR_trans {A B C : List Int} (h : leR A B) (k : leR B C) : leR A C := fun s hs => ⟨(h s hs).1, Int.le_trans (h s hs).2 (k s hs).2⟩
theorem mrow_leR {D : List Int} {p : Nat} (h : leR D (crow p)) (once : Bool) : leR (mrow once D (p + 1)) (crow (p + 1)) := fun s hs => by
  rw [mrow_getD _ _ _ _ hs, crow_getD _ _ hs]
  have h1 := nv_bd h (p := p + 1) (by omega) once s hs
  have h2 := (wv_leR h (p := p + 1) (by omega) s hs).2
  rw [wv_crow _ _ hs] at h2
  omega
/-- ascending numbers in 1..40 -/
def stB (S : List Int) : Bool := decide (∀ i, i < S.length → (1 ≤ S.getD i 0 ∧ S.getD i 0 ≤ 40 ∧ (0 < i → S.getD (i - 1) 0 < S.getD i 0)))
theorem stB_iff (S : List Int) : stB S = true ↔ ∀ i, i < S.length → (1 ≤ S.getD i 0 ∧ S.getD i 0 ≤ 40 ∧ (0 < i → S.getD (i - 1) 0 < S.getD i 0)) := by simp [stB]
theorem stB_at {S : List Int} {i : Nat} (hi : i < S.length) (h : ¬ (1 ≤ S.getD i 0 ∧ S.getD i 0 ≤ 40 ∧ (0 < i → S.getD (i - 1) 0 < S.getD i 0))) : stB S = false := by
  cases hd : stB S with
  | false => rfl
  | true => exact absurd ((stB_iff S).1 hd i hi) h
theorem stB_ge {S : List Int} (h : stB S = true) : ∀ i, i < S.length → ((i : Int) + 1 ≤ S.getD i 0) := by
  intro i
  induction i with
  | zero => intro hi; have := ((stB_iff S).1 h 0 hi).1; omega
  | succ i ih =>
    intro hi
    have h1 := ih (by omega)
    have h2 := ((stB_iff S).1 h (i + 1) hi).2.2 (by omega)
    simp only [Nat.add_sub_cancel] at h2
    omega
theorem stB_len {S : List Int} (h : stB S = true) : S.length ≤ 40 := by
  rcases Nat.eq_zero_or_pos S.length with h0 | h0
  · omega
  · have h1 := stB_ge h (S.length - 1) (by omega)
    have h2 := ((stB_iff S).1 h (S.length - 1) (by omega)).2.1
    omega
def setRows (once : Bool) (S : List Int) : List Int := S.foldl (fun D x => mrow once D x.toNat) (crow 0)
theorem setRows_succ (once : Bool) {S : List Int} {i : Nat} (h : i < S.length) : setRows once (S.take (i + 1)) = mrow once (setRows once (S.take i)) S[i].toNat := by
  unfold setRows
  rw [List.take_succ_eq_append_getElem h, List.foldl_append]; rfl
theorem setRows_len (once : Bool) (S : List Int) : (setRows once S).length = 41 := by
  unfold setRows
  have : ∀ (S D : List Int), D.length = 41 → (S.foldl (fun D x => mrow once D x.toNat) D).length = 41 := by
    intro S
    induction S with
    | nil => intro D h; exact h
    | cons x r ih => intro D h; exact ih _ (mrow_len _ _ _)
  exact this S _ (crow_len 0)
/-- the last one of the first i -/
def lastOf (S : List Int) (i : Nat) : Nat := if i = 0 then 0 else (S.getD (i - 1) 0).toNat
theorem setRows_bd {S : List Int} (h : stB S = true) (once : Bool) : ∀ i, i ≤ S.length → leR (setRows once (S.take i)) (crow (lastOf S i)) := by
  intro i
  induction i with
  | zero => intro _; exact crow_leR (Nat.le_refl _)
  | succ i ih =>
    intro hi
    have h1 := (stB_iff S).1 h i (by omega)
    have h2 := ih (by omega)
    have h3 : lastOf S i ≤ S[i].toNat - 1 := by
      unfold lastOf
      rw [getD_lt (by omega)] at h1
      split
      · omega
      · have := h1.2.2 (by omega); omega
    have h4 := mrow_leR (leR_trans h2 (crow_leR h3)) once
    rw [getD_lt (by omega)] at h1
    have e : S[i].toNat - 1 + 1 = S[i].toNat := by omega
    rw [e] at h4
    rw [setRows_succ once (by omega)]
    have e2 : lastOf S (i + 1) = S[i].toNat := by unfold lastOf; rw [if_neg (by omega), Nat.add_sub_cancel, getD_lt (by omega)]
    rw [e2]
    exact h4
theorem crow_bd40 (k s : Nat) (hs : s < 41) : (crow k).getD s 0 ≤ 1099511627776 := by
  rw [crow_getD _ _ hs, ← ctZ_nat]; exact (ctZ_bd _ _ (by omega)).2
/-- the bounds that a step wants -/
theorem setRows_step {S : List Int} (h : stB S = true) (once : Bool) {i : Nat} (hi : i < S.length) : ∀ s, s < 41 → (0 ≤ (setRows once (S.take i)).getD s 0 ∧ (setRows once (S.take i)).getD s 0 ≤ 1099511627776) ∧ 0 ≤ wv (setRows once (S.take i)) S[i].toNat s ∧ wv (setRows once (S.take i)) S[i].toNat s ≤ 1099511627776 := fun s hs => by
  have h1 := (stB_iff S).1 h i hi
  rw [getD_lt hi] at h1
  have h2 := setRows_bd h once i (by omega)
  have h3 : lastOf S i ≤ S[i].toNat - 1 := by
    unfold lastOf
    split
    · omega
    · have := h1.2.2 (by omega); omega
  have h4 := leR_trans h2 (crow_leR h3)
  have h5 := wv_leR h4 (p := S[i].toNat) (by omega) s hs
  have h6 := wv_crow (S[i].toNat - 1) s hs
  have e : S[i].toNat - 1 + 1 = S[i].toNat := by omega
  rw [e] at h6
  have h7 := h4 s hs
  have h8 := crow_bd40 (S[i].toNat - 1) s hs
  have h9 := crow_bd40 S[i].toNat s hs
  rw [crow_getD _ _ hs] at h9
  omega
def cntF (once : Bool) (S : List Int) (n : Int) : Int := if stB S = true ∧ 0 ≤ n ∧ n ≤ 40 then (setRows once S).getD n.toNat 0 else -1
theorem cntF_in (once : Bool) {S : List Int} {n : Int} (h : stB S = true) (h0 : 0 ≤ n) (h1 : n ≤ 40) : cntF once S n = (setRows once S).getD n.toNat 0 := by unfold cntF; rw [if_pos ⟨h, h0, h1⟩]
theorem cntF_out (once : Bool) {S : List Int} {n : Int} (h : ¬ (stB S = true ∧ 0 ≤ n ∧ n ≤ 40)) : cntF once S n = -1 := by unfold cntF; rw [if_neg h]
/-- the model's table: which places are new -/
def prD (once : Bool) (n k s : Nat) : Bool := if once then decide (n < s + k) else decide (s < k)
def tmD (once : Bool) (D : List Int) (n p k : Nat) : List Int := (List.range (n + 1)).map fun s => if prD once n k s then nv once D p s else D.getD s 0
theorem tmD_len (once : Bool) (D : List Int) (n p k : Nat) : (tmD once D n p k).length = n + 1 := by simp [tmD]
theorem tmD_get (once : Bool) (D : List Int) (n p k s : Nat) (h : s < (tmD once D n p k).length) : (tmD once D n p k)[s] = if prD once n k s then nv once D p s else D.getD s 0 := by simp [tmD]
def xD (once : Bool) (n k : Nat) : Nat := if once then n - k else k
theorem prD_next (once : Bool) {n k s : Nat} (hk : k ≤ n) (hs : s ≤ n) : prD once n (k + 1) s = (prD once n k s || decide (s = xD once n k)) := by
  unfold prD xD
  cases once with
  | false =>
    simp only [Bool.false_eq_true, if_false]
    rw [← Bool.decide_or]
    exact decide_eq_decide.2 (by omega)
  | true =>
    simp only [if_true]
    rw [← Bool.decide_or]
    exact decide_eq_decide.2 (by omega)
theorem prD_at (once : Bool) {n k : Nat} (hk : k ≤ n) : prD once n k (xD once n k) = false := by
  unfold prD xD
  cases once with
  | false => simp
  | true => simp only [if_true]; exact decide_eq_false (by omega)
theorem xD_le (once : Bool) {n k : Nat} (hk : k ≤ n) : xD once n k ≤ n := by unfold xD; split <;> omega
/-- the number is put in -/
theorem tmD_set (once : Bool) (D : List Int) {n p k : Nat} (hk : k ≤ n) : (tmD once D n p k).set (xD once n k) (nv once D p (xD once n k)) = tmD once D n p (k + 1) := by
  apply List.ext_getElem
  · rw [List.length_set, tmD_len, tmD_len]
  · intro s h1 h2
    have hs : s ≤ n := by rw [tmD_len] at h2; omega
    by_cases hx : xD once n k = s
    · subst hx
      rw [List.getElem_set_self, tmD_get, prD_next once hk hs, decide_eq_true rfl, Bool.or_true, if_pos rfl]
    · rw [List.getElem_set_ne hx, tmD_get, tmD_get, prD_next once hk hs, decide_eq_false (fun e => hx e.symm), Bool.or_false]
theorem tmD_same (once : Bool) (D : List Int) {n p k : Nat} (hk : k ≤ n) (hp : xD once n k < p) : tmD once D n p k = tmD once D n p (k + 1) := by
  rw [← tmD_set once D hk]
  have hx := xD_le once hk
  have hl : xD once n k < (tmD once D n p k).length := by rw [tmD_len]; omega
  have e : (tmD once D n p k)[xD once n k] = nv once D p (xD once n k) := by
    rw [tmD_get, prD_at once hk]
    unfold nv
    cases once with
    | false => simp only [Bool.false_eq_true, if_false]; rw [wv_low _ _ _ hp]
    | true => simp only [Bool.false_eq_true, if_false, if_true]; unfold wo; rw [if_pos hp]
  rw [← e, List.set_getElem_self]
theorem tmD_val (once : Bool) (D : List Int) {n p k : Nat} (hk : k ≤ n) (hp1 : 1 ≤ p) (hp : p ≤ xD once n k) : nv once D p (xD once n k) = D.getD (xD once n k) 0 + (if prD once n k (xD once n k - p) then nv once D p (xD once n k - p) else D.getD (xD once n k - p) 0) := by
  unfold nv prD xD at *
  cases once with
  | false =>
    simp only [Bool.false_eq_true, if_false] at *
    rw [decide_eq_true (by omega), wv_high _ _ _ hp1 hp]
    simp
  | true =>
    simp only [if_true] at *
    rw [decide_eq_false (by omega)]
    conv => lhs; unfold wo
    rw [if_neg (by omega)]
    simp
theorem tmD_zero (once : Bool) {D : List Int} (n p : Nat) : tmD once D n p 0 = (List.range (n + 1)).map fun s => D.getD s 0 := by
  unfold tmD
  apply List.map_congr_left
  intro s hs
  rw [List.mem_range] at hs
  have : prD once n 0 s = false := by
    unfold prD
    cases once with
    | false => simp
    | true => simp only [if_true]; exact decide_eq_false (by omega)
  rw [this]
  simp
theorem tmD_end (once : Bool) {D : List Int} (n p : Nat) (hn : n ≤ 40) : tmD once D n p (n + 1) = (List.range (n + 1)).map fun s => (mrow once D p).getD s 0 := by
  unfold tmD
  apply List.map_congr_left
  intro s hs
  rw [List.mem_range] at hs
  have : prD once n (n + 1) s = true := by
    unfold prD
    cases once with
    | false => simp only [Bool.false_eq_true, if_false]; exact decide_eq_true hs
    | true => simp only [if_true]; exact decide_eq_true (by omega)
  rw [this, mrow_getD _ _ _ _ (by omega)]
  simp
def cutR (D : List Int) (n : Nat) : List Int := (List.range (n + 1)).map fun s => D.getD s 0
theorem cutR_len (D : List Int) (n : Nat) : (cutR D n).length = n + 1 := by simp [cutR]
theorem cutR_get (D : List Int) (n s : Nat) (h : s < (cutR D n).length) : (cutR D n)[s] = D.getD s 0 := by simp [cutR]
theorem rep_getD (m t : Nat) : (List.replicate m (0 : Int)).getD t 0 = 0 := by
  rw [List.getD_eq_getElem?_getD, List.getElem?_replicate]
  split <;> rfl
theorem cutR_start (n : Nat) (hn : n ≤ 40) : (List.replicate (n + 1) (0 : Int)).set 0 1 = cutR (crow 0) n := by
  apply List.ext_getElem
  · rw [cutR_len]; simp
  · intro s h1 h2
    have hs : s < 41 := by rw [cutR_len] at h2; omega
    rw [cutR_get, crow_zero]
    rcases Nat.eq_zero_or_pos s with h0 | h0
    · subst h0; simp
    · rw [List.getElem_set_ne (by omega), List.getElem_replicate]
      obtain ⟨t, rfl⟩ : ∃ t, s = t + 1 := ⟨s - 1, by omega⟩
      rw [List.getD_cons_succ, rep_getD]
end NP
end Go.Proofs.Ytgkghebjaedjmaa
namespace Go.Proofs.Ytgkghebjaedjmaa
namespace NP
set_option linter.unusedVariables false
theorem ct_ge (n k : Nat) (h : n ≤ k) : ct n k = ct n n := by
  induction k with
  | zero => obtain rfl : n = 0 := by omega
            rfl
  | succ k ih =>
    rcases Nat.lt_or_ge k n with h1 | h1
    · obtain rfl : n = k + 1 := by omega
      rfl
    · rw [ct_big n (k + 1) (by omega) (by omega), Nat.add_sub_cancel]
      exact ih h1
theorem ctZ_ge (n k : Int) (h0 : 0 ≤ n) (h : n ≤ k) : ctZ n k = ctZ n n := by
  obtain ⟨a, rfl⟩ := Int.eq_ofNat_of_zero_le h0
  obtain ⟨b, rfl⟩ := Int.eq_ofNat_of_zero_le (by omega : 0 ≤ k)
  rw [ctZ_nat, ctZ_nat, ct_ge a b (by omega)]
/-- a row of counts out of the one ahead -/
def nrow (p : Nat) (old : List Nat) (n : Nat) : List Nat := (List.range n).foldl (fun acc s => acc ++ [old.getD s 0 + (if s < p then 0 else acc.getD (s - p) 0)]) []
theorem nrow_succ (p : Nat) (old : List Nat) (n : Nat) : nrow p old (n + 1) = nrow p old n ++ [old.getD n 0 + (if n < p then 0 else (nrow p old n).getD (n - p) 0)] := by
  unfold nrow
  rw [List.range_succ, List.foldl_append]
  rfl
def crowN (k : Nat) : List Nat := (List.range 41).map fun s => ct s k
theorem crowN_getD (k s : Nat) (h : s < 41) : (crowN k).getD s 0 = ct s k := by
  rw [List.getD_eq_getElem?_getD, List.getElem?_eq_getElem (by simp [crowN]; exact h), Option.getD_some]
  simp [crowN]
theorem nrow_crow (k : Nat) (n : Nat) (hn : n ≤ 41) : nrow (k + 1) (crowN k) n = (List.range n).map fun s => ct s (k + 1) := by
  induction n with
  | zero => rfl
  | succ n ih =>
    rw [nrow_succ, ih (by omega), List.range_succ, List.map_append]
    congr 1
    rw [crowN_getD k n (by omega)]
    simp only [List.map_cons, List.map_nil]
    congr 1
    split
    · rename_i h
      rw [ct_big n (k + 1) (by omega) h]; rfl
    · rename_i h
      rw [List.getD_eq_getElem?_getD, List.getElem?_eq_getElem (by simp; omega), Option.getD_some, ct_rec n (k + 1) (by omega) (by omega)]
      simp
def rowc : Nat → List Nat
  | 0 => 1 :: List.replicate 40 0
  | k + 1 => nrow (k + 1) (rowc k) 41
theorem rowc_eq (k : Nat) : rowc k = crowN k := by
  induction k with
  | zero =>
    have e : ∀ n, (List.range (n + 1)).map (fun s => ct s 0) = 1 :: List.replicate n 0 := by
      intro n
      induction n with
      | zero => simp [ct_zero]
      | succ n ih => rw [List.range_succ, List.map_append, ih, List.replicate_succ', List.map_cons, List.map_nil, ct_none _ (by omega)]; rfl
    exact (e 40).symm
  | succ k ih =>
    show nrow (k + 1) (rowc k) 41 = _
    rw [ih, nrow_crow k 41 (Nat.le_refl _)]
    rfl
def ptab : List Nat := [1, 1, 2, 3, 5, 7, 11, 15, 22, 30, 42, 56, 77, 101, 135, 176, 231, 297, 385, 490, 627, 792, 1002, 1255, 1575, 1958, 2436, 3010, 3718, 4565, 5604, 6842, 8349, 10143, 12310, 14883, 17977, 21637, 26015, 31185, 37338]
theorem ptab_ok : rowc 40 = ptab := by decide +kernel
theorem cp_tab (n : Nat) (h : n ≤ 40) : cpF n = ((ptab.getD n 0 : Nat) : Int) := by
  unfold cpF
  rw [if_pos (by omega), ctZ_nat, ← ct_ge n 40 h, ← ptab_ok, rowc_eq, crowN_getD 40 n (by omega)]
def stab : List Int := [1, -1, -1, 0, 0, 1, 0, 1, 0, 0, 0, 0, -1, 0, 0, -1, 0, 0, 0, 0, 0, 0, 1, 0, 0, 0, 1, 0, 0, 0, 0, 0, 0, 0, 0, -1, 0, 0, 0, 0, -1]
theorem srow_keep (s d : Nat) (h : s ≤ d) (h41 : s < 41) : (srow d).getD s 0 = (srow s).getD s 0 := by
  induction d with
  | zero => obtain rfl : s = 0 := by omega
            rfl
  | succ d ih =>
    rcases Nat.lt_or_ge d s with h1 | h1
    · obtain rfl : s = d + 1 := by omega
      rfl
    · rw [show srow (d + 1) = worow (srow d) (d + 1) (-1) from rfl, worow_getD _ _ _ _ h41]
      unfold wo
      rw [if_pos (by omega)]
      exact ih h1
theorem stab_ok : srow 40 = stab := by decide +kernel
theorem sd_tab (n : Nat) (h : n ≤ 40) : sdF n = stab.getD n 0 := by
  unfold sdF
  rw [if_pos (by omega), Int.toNat_natCast, ← srow_keep n 40 h (by omega), stab_ok]
end NP
end Go.Proofs.Ytgkghebjaedjmaa
namespace Go.Proofs.Ytgkghebjaedjmaa
namespace NP
set_option linter.unusedVariables false
/-- a row when a further number may come, by one pass -/
def nrI (p : Nat) (D : List Int) (n : Nat) : List Int := (List.range n).foldl (fun acc s => acc ++ [D.getD s 0 + (if s < p then 0 else acc.getD (s - p) 0)]) []
theorem nrI_succ (p : Nat) (D : List Int) (n : Nat) : nrI p D (n + 1) = nrI p D n ++ [D.getD n 0 + (if n < p then 0 else (nrI p D n).getD (n - p) 0)] := by
  unfold nrI
  rw [List.range_succ, List.foldl_append]
  rfl
theorem nrI_eq (p : Nat) (D : List Int) (hp : 1 ≤ p) (n : Nat) : nrI p D n = (List.range n).map (wv D p) := by
  induction n with
  | zero => rfl
  | succ n ih =>
    rw [nrI_succ, ih, List.range_succ, List.map_append]
    congr 1
    simp only [List.map_cons, List.map_nil]
    congr 1
    split
    · rename_i h
      rw [wv_low _ _ _ h]; omega
    · rename_i h
      rw [getD_lt (L := (List.range n).map (wv D p)) (by simp; omega), wv_high _ _ _ hp (by omega)]
      simp
theorem wrow_nrI (D : List Int) (p : Nat) (hp : 1 ≤ p) : wrow D p = nrI p D 41 := (nrI_eq p D hp 41).symm
/-- the counts of marked parts, none greater than k -/
def mkrow : Nat → List Int
  | 0 => 1 :: List.replicate 40 0
  | k + 1 => worow (wrow (mkrow k) (k + 1)) (k + 1) 1
theorem mkrow_len (k : Nat) : (mkrow k).length = 41 := by
  cases k with
  | zero => rfl
  | succ k => exact worow_len _ _ _
def okR (D : List Int) : Bool := D.all fun x => decide (0 ≤ x) && decide (x ≤ 1099511627776)
theorem okR_get {D : List Int} (h : okR D = true) (s : Nat) : 0 ≤ D.getD s 0 ∧ D.getD s 0 ≤ 1099511627776 := by
  rcases Nat.lt_or_ge s D.length with h1 | h1
  · have := List.all_eq_true.1 h (D.getD s 0) (by rw [getD_lt h1]; exact List.getElem_mem _)
    simpa using this
  · rw [getD_ge h1]; omega
/-- the different parts, none greater than k -/
def orow : Nat → List Int
  | 0 => 1 :: List.replicate 40 0
  | k + 1 => worow (orow k) (k + 1) 1
theorem orow_len (k : Nat) : (orow k).length = 41 := by
  cases k with
  | zero => rfl
  | succ k => exact worow_len _ _ _
/-- the sum of products: marked ones of k, others of what is left -/
def mkS (O C : List Int) (n : Nat) : Nat → Int
  | 0 => 0
  | k + 1 => mkS O C n k + O.getD k 0 * C.getD (n - k) 0
def mkOk (O C M : List Int) (n : Nat) : Bool := ((List.range (n + 2)).all fun k => decide (0 ≤ mkS O C n k) && decide (mkS O C n k ≤ 1099511627776)) && ((List.range (n + 1)).all fun k => decide (0 ≤ O.getD k 0 * C.getD (n - k) 0) && decide (O.getD k 0 * C.getD (n - k) 0 ≤ 1099511627776)) && decide (mkS O C n (n + 1) = M.getD n 0)
def mkChk : Nat → Nat → List Int → List Int → List Int → Bool
  | 0, _, _, _, _ => true
  | f + 1, j, O, C, M => okR M && okR (nrI (j + 1) M 41) && okR O && mkOk O C M j && mkChk f (j + 1) (worow O (j + 1) 1) (nrI (j + 1) C 41) (worow (nrI (j + 1) M 41) (j + 1) 1)
theorem mkChk_at : ∀ (f j : Nat), mkChk f j (orow j) (crow j) (mkrow j) = true → ∀ i, i < f → okR (mkrow (j + i)) = true ∧ okR (wrow (mkrow (j + i)) (j + i + 1)) = true ∧ okR (orow (j + i)) = true ∧ mkOk (orow (j + i)) (crow (j + i)) (mkrow (j + i)) (j + i) = true := by
  intro f
  induction f with
  | zero => intro j _ i hi; omega
  | succ f ih =>
    intro j h i hi
    unfold mkChk at h
    simp only [Bool.and_eq_true] at h
    obtain ⟨⟨⟨⟨h1, h2⟩, h3⟩, h4⟩, h5⟩ := h
    rw [← wrow_nrI _ _ (by omega)] at h2 h5
    rw [← wrow_nrI _ _ (by omega), wrow_crow] at h5
    cases i with
    | zero => exact ⟨h1, h2, h3, h4⟩
    | succ i =>
      have := ih (j + 1) h5 i (by omega)
      have e : j + (i + 1) = j + 1 + i := by omega
      rw [e]
      exact this
set_option maxRecDepth 100000 in
theorem mkChk_all : mkChk 41 0 (orow 0) (1 :: List.replicate 40 0) (mkrow 0) = true := by decide +kernel
theorem mk_all {j : Nat} (h : j ≤ 40) : okR (mkrow j) = true ∧ okR (wrow (mkrow j) (j + 1)) = true ∧ okR (orow j) = true ∧ mkOk (orow j) (crow j) (mkrow j) j = true := by
  have := mkChk_at 41 0 (by rw [crow_zero]; exact mkChk_all) j (by omega)
  simpa using this
theorem mkrow_bd {j : Nat} (h : j ≤ 40) : ∀ s, s < 41 → (0 ≤ (mkrow j).getD s 0 ∧ (mkrow j).getD s 0 ≤ 1099511627776) ∧ 0 ≤ wv (mkrow j) (j + 1) s ∧ wv (mkrow j) (j + 1) s ≤ 1099511627776 := fun s hs => by
  have h1 := mk_all h
  refine ⟨okR_get h1.1 s, ?_⟩
  have h2 := okR_get h1.2.1 s
  rwa [getD_lt (by rw [wrow_len]; exact hs), show (wrow (mkrow j) (j + 1))[s]'(by rw [wrow_len]; exact hs) = wv (mkrow j) (j + 1) s by simp [wrow]] at h2
theorem wmk_bd {j : Nat} (h : j ≤ 40) (s : Nat) : -1099511627776 ≤ (wrow (mkrow j) (j + 1)).getD s 0 ∧ (wrow (mkrow j) (j + 1)).getD s 0 ≤ 1099511627776 := by
  have := okR_get (mk_all h).2.1 s
  omega
theorem mkS_bd {n : Nat} (h : n ≤ 40) {k : Nat} (hk : k ≤ n + 1) : 0 ≤ mkS (orow n) (crow n) n k ∧ mkS (orow n) (crow n) n k ≤ 1099511627776 := by
  have h1 := (mk_all h).2.2.2
  unfold mkOk at h1
  simp only [Bool.and_eq_true] at h1
  have := List.all_eq_true.1 h1.1.1 k (by simp; omega)
  simpa using this
theorem mkT_bd {n : Nat} (h : n ≤ 40) {k : Nat} (hk : k ≤ n) : 0 ≤ (orow n).getD k 0 * (crow n).getD (n - k) 0 ∧ (orow n).getD k 0 * (crow n).getD (n - k) 0 ≤ 1099511627776 := by
  have h1 := (mk_all h).2.2.2
  unfold mkOk at h1
  simp only [Bool.and_eq_true] at h1
  have := List.all_eq_true.1 h1.1.2 k (by simp; omega)
  simpa using this
theorem mkS_end {n : Nat} (h : n ≤ 40) : mkS (orow n) (crow n) n (n + 1) = (mkrow n).getD n 0 := by
  have h1 := (mk_all h).2.2.2
  unfold mkOk at h1
  simp only [Bool.and_eq_true] at h1
  exact of_decide_eq_true h1.2
def mkF (n : Int) : Int := if 0 ≤ n ∧ n ≤ 40 then (mkrow n.toNat).getD n.toNat 0 else -1
/-- the numbers from 1 up -/
def upto (n : Nat) : List Int := (List.range n).map fun (j : Nat) => (j : Int) + 1
theorem upto_len (n : Nat) : (upto n).length = n := by simp [upto]
theorem upto_get (n j : Nat) (h : j < (upto n).length) : (upto n)[j] = (j : Int) + 1 := by simp [upto]
theorem upto_stB {n : Nat} (h : n ≤ 40) : stB (upto n) = true := (stB_iff _).2 fun i hi => by
  rw [getD_lt hi, upto_get]
  rw [upto_len] at hi
  refine ⟨by omega, by omega, fun h0 => ?_⟩
  rw [getD_lt (by rw [upto_len]; omega), upto_get]
  omega
theorem setRows_upto (n : Nat) : setRows true (upto n) = orow n := by
  induction n with
  | zero => exact crow_zero
  | succ n ih =>
    have e : upto (n + 1) = upto n ++ [(n : Int) + 1] := by unfold upto; rw [List.range_succ, List.map_append]; rfl
    rw [e]
    unfold setRows at ih ⊢
    rw [List.foldl_append, ih]
    show mrow true (orow n) ((n : Int) + 1).toNat = _
    have e2 : ((n : Int) + 1).toNat = n + 1 := by omega
    rw [e2, mrow_once]
    rfl
theorem cntF_upto {n k : Nat} (hn : n ≤ 40) (hk : k ≤ 40) : cntF true (upto n) k = (orow n).getD k 0 := by
  rw [cntF_in true (upto_stB hn) (by omega) (by omega), setRows_upto]
  rfl
theorem crow_diag {n k : Nat} (hn : n ≤ 40) (hk : k ≤ n) : (crow n).getD (n - k) 0 = ctZ ((n : Int) - k) ((n : Int) - k) := by
  have e : (n : Int) - k = ((n - k : Nat) : Int) := by omega
  rw [e, crow_getD _ _ (by omega), ctZ_nat, ct_ge (n - k) n (by omega)]
/-- the counts of piles: parts in as many colors as they tell -/
def wpow (D : List Int) (p : Nat) : Nat → List Int
  | 0 => D
  | i + 1 => wrow (wpow D p i) p
def plrow : Nat → List Int
  | 0 => 1 :: List.replicate 40 0
  | k + 1 => wpow (plrow k) (k + 1) (k + 1)
theorem wpow_len {D : List Int} (h : D.length = 41) (p i : Nat) : (wpow D p i).length = 41 := by
  cases i with
  | zero => exact h
  | succ i => exact wrow_len _ _
theorem plrow_len (k : Nat) : (plrow k).length = 41 := by
  induction k with
  | zero => rfl
  | succ k ih => exact wpow_len ih _ _
def wpChk : Nat → Nat → List Int → Bool
  | 0, _, D => okR D
  | f + 1, p, D => okR D && wpChk f p (nrI p D 41)
def wpEnd : Nat → Nat → List Int → List Int
  | 0, _, D => D
  | f + 1, p, D => wpEnd f p (nrI p D 41)
theorem wpEnd_eq {p : Nat} (hp : 1 ≤ p) : ∀ (f i : Nat) (D : List Int), wpEnd f p (wpow D p i) = wpow D p (i + f) := by
  intro f
  induction f with
  | zero => intro i D; rfl
  | succ f ih =>
    intro i D
    show wpEnd f p (nrI p (wpow D p i) 41) = _
    rw [← wrow_nrI _ _ hp, show wrow (wpow D p i) p = wpow D p (i + 1) from rfl, ih]
    congr 1
    omega
theorem wpChk_at {p : Nat} (hp : 1 ≤ p) : ∀ (f i : Nat) (D : List Int), wpChk f p (wpow D p i) = true → ∀ j, j ≤ f → okR (wpow D p (i + j)) = true := by
  intro f
  induction f with
  | zero =>
    intro i D h j hj
    obtain rfl : j = 0 := by omega
    exact h
  | succ f ih =>
    intro i D h j hj
    unfold wpChk at h
    rw [Bool.and_eq_true, ← wrow_nrI _ _ hp] at h
    cases j with
    | zero => exact h.1
    | succ j =>
      have := ih (i + 1) D h.2 j (by omega)
      have e : i + (j + 1) = i + 1 + j := by omega
      rw [e]
      exact this
def plChk : Nat → Nat → List Int → Bool
  | 0, _, _ => true
  | f + 1, j, D => wpChk (j + 1) (j + 1) D && plChk f (j + 1) (wpEnd (j + 1) (j + 1) D)
theorem plChk_at : ∀ (f j : Nat), plChk f j (plrow j) = true → ∀ i, i < f → wpChk (j + i + 1) (j + i + 1) (plrow (j + i)) = true := by
  intro f
  induction f with
  | zero => intro j _ i hi; omega
  | succ f ih =>
    intro j h i hi
    unfold plChk at h
    rw [Bool.and_eq_true] at h
    have e0 : wpEnd (j + 1) (j + 1) (plrow j) = plrow (j + 1) := by
      have := wpEnd_eq (p := j + 1) (by omega) (j + 1) 0 (plrow j)
      rw [Nat.zero_add] at this
      exact this
    rw [e0] at h
    cases i with
    | zero => exact h.1
    | succ i =>
      have := ih (j + 1) h.2 i (by omega)
      have e : j + (i + 1) = j + 1 + i := by omega
      rw [e]
      exact this
set_option maxRecDepth 100000 in
theorem plChk_all : plChk 16 0 (plrow 0) = true := by decide +kernel
theorem pl_ok {j i : Nat} (hj : j < 16) (hi : i ≤ j + 1) : okR (wpow (plrow j) (j + 1) i) = true := by
  have h := plChk_at 16 0 plChk_all j hj
  rw [Nat.zero_add] at h
  have := wpChk_at (p := j + 1) (by omega) (j + 1) 0 (plrow j) h i hi
  rwa [Nat.zero_add] at this
theorem wpow_bd {j i : Nat} (hj : j < 16) (hi : i < j + 1) : ∀ s, s < 41 → (0 ≤ (wpow (plrow j) (j + 1) i).getD s 0 ∧ (wpow (plrow j) (j + 1) i).getD s 0 ≤ 1099511627776) ∧ 0 ≤ wv (wpow (plrow j) (j + 1) i) (j + 1) s ∧ wv (wpow (plrow j) (j + 1) i) (j + 1) s ≤ 1099511627776 := fun s hs => by
  refine ⟨okR_get (pl_ok hj (by omega)) s, ?_⟩
  have h2 := okR_get (pl_ok hj (i := i + 1) (by omega)) s
  rw [show wpow (plrow j) (j + 1) (i + 1) = wrow (wpow (plrow j) (j + 1) i) (j + 1) from rfl] at h2
  rwa [getD_lt (by rw [wrow_len]; exact hs), show (wrow (wpow (plrow j) (j + 1) i) (j + 1))[s]'(by rw [wrow_len]; exact hs) = wv (wpow (plrow j) (j + 1) i) (j + 1) s by simp [wrow]] at h2
def plF (n : Int) : Int := if 0 ≤ n ∧ n ≤ 16 then (plrow n.toNat).getD n.toNat 0 else -1
end NP
end Go.Proofs.Ytgkghebjaedjmaa
namespace Go.Proofs.Ytgkghebjaedjmaa
open Go.RowKit NP
set_option maxRecDepth 8000
set_option linter.unusedVariables false

theorem scorners_any (a : Option Addr) (c B : Nat) (L : List Int) (w : World) (h : Rd w B a (ints L)) (hB : B ≤ w.heap.size) (hl : L.length ≤ 1000) :
    Calls Try.prog 70 #[.slice a L.length c] w fun e w' => ∃ a' c', e = .returned (.slice a' (crn L).length c') ∧ Own w' w.heap.size w'.heap.size 3 (.slice a' (crn L).length c') (ints (crn L)) ∧ Below w.heap.size w w' := by
  obtain ⟨i0, hi, hz0, hz1, hz2⟩ := T_int'
  go_enter Try.func70, Try.ntmps70
  go_wp2_with fail
  go_loopw [3, 4] (fun v i wr => ∃ k : Nat, k ≤ L.length ∧ i = .int .i64 (k : Int) ∧ Below w.heap.size w wr ∧ Own wr w.heap.size wr.heap.size 3 v (ints (crnTo L k))) (fun _ i _ => L.length - (intOf i).toNat)
  case atStart => exact ⟨0, Nat.zero_le _, rfl, (Below.refl _ _).alloc (Nat.le_refl _) _, (Own.empty w 3).more⟩
  case round =>
    obtain ⟨k, hk, rfl, hbel, hown⟩ := hrel
    by_cases hlt : k < L.length
    · have hR := (h.more hB).below hbel
      obtain ⟨b, o, rfl, _, hc0⟩ := hR.at_ hlt
      have hlen2 : (crnTo L k).length ≤ k := crnTo_len L k
      have HS := Lib.hid (crnTo_succ L k)
      obtain ⟨vs, hvs⟩ : ∃ vs, vs = ints (crnTo L k) := ⟨_, rfl⟩
      have hlv : vs.length ≤ k := by rw [hvs]; simpa using hlen2
      rw [← hvs] at hown
      have HVS := Lib.hid hvs
      clear hvs hlen2
      have HO := Lib.hid hown
      clear hown
      by_cases h1 : k + 1 = L.length
      · have h1' : (k : Int) + 1 = (L.length : Int) := by omega
        have e1 : ((k : Int) + 1 == (L.length : Int)) = true := beq_iff_eq.2 h1'
        have HC : Hid (isC L k = true) := Lib.hid (by unfold isC; rw [decide_eq_true h1, Bool.true_or])
        clear h1 h1'
        go_wp2_with fail
        go_quiet (fail)
        go_wp2_with (at_builtin; go_loud (refine wpList_append_o _ rfl (.tmp 29) (.tmp 31) 30 rfl w.heap.size wr.heap.size 3 i0 (.int .i64 0) 8 Try.underlying30 hi hz0 hz1 hz2 rfl _ vs rfl ((HO.out.drewN _).alloc _) (wr.heap.size + 1) (some ⟨wr.heap.size, 0, none⟩) 1 1 [.int .i64 (k : Int)] rfl (Rd.one _ _ _) rfl (by simp; rfl) (by unfold maxLen; omega) (by omega) (by have := hbel.size; simp; omega) ?_); intro v' w1 ho1 hg1 hat1)
        go_roundw
        case rel =>
          refine ⟨k + 1, by omega, by go_num, below_push (hbel.trans ((Dr.n wr _).below _)) (Nat.le_refl _) hg1 HO.out.base, ?_⟩
          rw [HVS.out] at ho1
          rw [HS.out, if_pos HC.out]
          simpa [ints] using ho1
        case measure => simp [intOf]; omega
      · have hk1 : k + 1 < L.length := by omega
        have e1 : ((k : Int) + 1 == (L.length : Int)) = false := beq_eq_false_iff_ne.2 (by omega)
        obtain ⟨b', o', e', -, hc1⟩ := hR.at_ hk1
        injection e' with e'; injection e' with e2 e3; subst e2 e3
        by_cases hx : L[k + 1] < L[k]
        · have HC : Hid (isC L k = true) := Lib.hid (by unfold isC; rw [List.getD_eq_getElem?_getD, List.getD_eq_getElem?_getD, List.getElem?_eq_getElem hk1, List.getElem?_eq_getElem hlt, Option.getD_some, Option.getD_some, decide_eq_true hx, Bool.or_true])
          clear h1
          go_wp2_with fail
          go_quiet (fail)
          go_wp2_with (at_builtin; go_loud (refine wpList_append_o _ rfl (.tmp 29) (.tmp 31) 30 rfl w.heap.size wr.heap.size 3 i0 (.int .i64 0) 8 Try.underlying30 hi hz0 hz1 hz2 rfl _ vs rfl ((HO.out.drewN _).alloc _) (wr.heap.size + 1) (some ⟨wr.heap.size, 0, none⟩) 1 1 [.int .i64 (k : Int)] rfl (Rd.one _ _ _) rfl (by simp; rfl) (by unfold maxLen; omega) (by omega) (by have := hbel.size; simp; omega) ?_); intro v' w1 ho1 hg1 hat1)
          go_roundw
          case rel =>
            refine ⟨k + 1, by omega, by go_num, below_push (hbel.trans ((Dr.n wr _).below _)) (Nat.le_refl _) hg1 HO.out.base, ?_⟩
            rw [HVS.out] at ho1
            rw [HS.out, if_pos HC.out]
            simpa [ints] using ho1
          case measure => simp [intOf]; omega
        · have HC : Hid (isC L k = false) := Lib.hid (by unfold isC; rw [List.getD_eq_getElem?_getD, List.getD_eq_getElem?_getD, List.getElem?_eq_getElem hk1, List.getElem?_eq_getElem hlt, Option.getD_some, Option.getD_some, decide_eq_false hx, decide_eq_false h1]; rfl)
          clear h1
          have hx' : L[k] ≤ L[k + 1] := by omega
          clear hx
          go_wp2_with fail
          go_quiet (fail)
          go_wp2
          go_roundw
          case rel =>
            refine ⟨k + 1, by omega, by go_num, hbel.trans ((Dr.n wr _).below _), ?_⟩
            rw [HS.out, if_neg (by rw [HC.out]; decide), List.append_nil, ← HVS.out]
            exact HO.out.drewN _
          case measure => simp [intOf]; omega
    · obtain rfl : k = L.length := by omega
      obtain ⟨a', c', rfl⟩ := hown.form
      have HO := Lib.hid hown
      clear hown
      go_wp2
      go_ret
      have hlc : (crn L).length = (ints (crnTo L L.length)).length := by simp [crn]
      refine ⟨a', c', by rw [hlc]; rfl, ?_, hbel⟩
      rw [hlc]
      exact HO.out


theorem isCorner_any (D : List Int) (hD : D.length = 16) (i : Nat) (hi : i < 16) (w : World) :
    Calls Try.prog 74 #[.agg (arr D), .int .i64 i] w fun e w' => e = .returned (.bool (isCD D i)) ∧ Below w.heap.size w w' := by
  have hiD : i < D.length := by omega
  have hc := box_cell w D i hiD
  have hi' : (i : Int) < 16 := by omega
  have g0 : D.getD i 0 = D[i] := by rw [List.getD_eq_getElem?_getD, List.getElem?_eq_getElem hiD, Option.getD_some]
  by_cases h0 : 0 < D[i]
  · by_cases h15 : i = 15
    · have e1 : ((i : Int) == 15) = true := beq_iff_eq.2 (by omega)
      have HC : Hid (isCD D i = true) := Lib.hid (by unfold isCD; rw [g0, decide_eq_true h0, decide_eq_true h15]; rfl)
      clear h15 g0
      go_enter Try.func74, Try.ntmps74
      go_wp2_with fail
      go_quiet (fail)
      go_wp2
      go_ret
      exact ⟨ret_bool HC.out.symm, ((Below.refl _ _).alloc (Nat.le_refl _) _).trans ((Dr.n _ _).below _)⟩
    · have e1 : ((i : Int) == 15) = false := beq_eq_false_iff_ne.2 (by omega)
      have hi1 : i + 1 < D.length := by omega
      have hc1 := box_cell w D (i + 1) hi1
      have HC : Hid (isCD D i = decide (D[i + 1] < D[i])) := Lib.hid (by unfold isCD; rw [g0, List.getD_eq_getElem?_getD, List.getElem?_eq_getElem hi1, Option.getD_some, decide_eq_true h0, decide_eq_false h15]; rfl)
      clear h15 g0
      go_enter Try.func74, Try.ntmps74
      go_wp2_with fail
      go_quiet (fail)
      go_wp2
      go_ret
      exact ⟨ret_bool HC.out.symm, ((Below.refl _ _).alloc (Nat.le_refl _) _).trans ((Dr.n _ _).below _)⟩
  · have HC : Hid (isCD D i = false) := Lib.hid (by unfold isCD; rw [g0, decide_eq_false h0]; rfl)
    clear g0
    have h0' : decide (0 < D[i]) = false := decide_eq_false h0
    clear h0
    go_enter Try.func74, Try.ntmps74
    go_wp2_with fail
    go_quiet (fail)
    go_wp2
    go_ret
    exact ⟨ret_bool HC.out.symm, ((Below.refl _ _).alloc (Nat.le_refl _) _).trans ((Dr.n _ _).below _)⟩

theorem dcorners_any (D : List Int) (hD : D.length = 16) (w : World) :
    Calls Try.prog 42 #[.agg (arr D)] w fun e w' => ∃ a' c', e = .returned (.slice a' (fl (isCD D) 16).length c') ∧ Own w' w.heap.size w'.heap.size 3 (.slice a' (fl (isCD D) 16).length c') (ints (fl (isCD D) 16)) ∧ Below w.heap.size w w' := by
  obtain ⟨i0, hi, hz0, hz1, hz2⟩ := T_int'
  have HD := Lib.hid hD
  have hd16 : 16 ≤ D.length := by omega
  have hi16 : (Try.prog.info? 60).map (·.size) = some (arr D).size := by rw [arr_size, hD]; exact T_info35
  clear hD
  go_enter Try.func42, Try.ntmps42
  go_wp2
  go_loopw [3, 4, 5] (fun v u i wr => ∃ k : Nat, k ≤ 16 ∧ i = .int .i64 (k : Int) ∧ Below w.heap.size w wr ∧ Blk wr w.heap.size 60 (arr D) ∧ Own wr (w.heap.size + 1) wr.heap.size 3 v (ints (fl (isCD D) k))) (fun _ _ i _ => 20 - (intOf i).toNat)
  case atStart => exact ⟨0, Nat.zero_le _, rfl, (Below.refl _ _).alloc (Nat.le_refl _) _, Blk.new _ _ _, Own.nil _ _ _⟩
  case round =>
    obtain ⟨k, hk, rfl, hbel, hblk, hown⟩ := hrel
    by_cases hlt : k < 16
    · have hlen2 : (fl (isCD D) k).length ≤ k := fl_len _ k
      have HS := Lib.hid (fl_succ (isCD D) k)
      obtain ⟨vs, hvs⟩ : ∃ vs, vs = ints (fl (isCD D) k) := ⟨_, rfl⟩
      have hlv : vs.length ≤ k := by rw [hvs]; simpa using hlen2
      rw [← hvs] at hown
      have HVS := Lib.hid hvs
      clear hvs hlen2
      have HO := Lib.hid hown
      clear hown
      cases hcb : isCD D k with
      | true =>
        have HC := Lib.hid hcb
        clear hcb
        go_wp2_with (first | (refine wpList_load_row rfl 60 (.tmp 1) rfl w.heap.size rfl 60 (arr D) (0, 0) _ hblk Try.underlying60 rfl hi16 ?_) | (go_at_call 74; refine (isCorner_any D HD.out k hlt _).mono ?_; rintro e w2 ⟨rfl, hb2⟩; rw [HC.out]; have ho2 := (HO.out.below hb2).more) | (at_builtin; refine wpList_append_o _ rfl (.tmp 11) (.tmp 13) 30 rfl (w.heap.size + 1) w2.heap.size 3 i0 (.int .i64 0) 8 Try.underlying30 hi hz0 hz1 hz2 rfl _ vs rfl (ho2.alloc _) (w2.heap.size + 1) (some ⟨w2.heap.size, 0, none⟩) 1 1 [.int .i64 (k : Int)] rfl (Rd.one _ _ _) rfl (by simp; rfl) (by unfold maxLen; omega) (by omega) (by have := hbel.size; have := hb2.size; simp; omega) ?_; intro v' w3 ho3 hg3 hat3))
        go_roundw
        case rel =>
          have hz := hbel.size
          have hb12 : Below w.heap.size w w2 := hbel.trans (hb2.mono (by omega))
          have hblk2 : Blk w2 w.heap.size 60 (arr D) := hblk.below hb2 hblk.lt
          refine ⟨k + 1, by omega, by go_num, below_push hb12 (Nat.le_refl _) hg3 (fun g hg => by have := HO.out.base g hg; omega), (hblk2.alloc _).grown hg3 (fun e => by have := HO.out.base _ e.symm; omega), ?_⟩
          rw [HVS.out] at ho3
          rw [HS.out, if_pos HC.out]
          simpa [ints] using ho3
        case measure => simp [intOf]; omega
      | false =>
        have HC := Lib.hid hcb
        clear hcb
        go_wp2_with (first | (refine wpList_load_row rfl 60 (.tmp 1) rfl w.heap.size rfl 60 (arr D) (0, 0) _ hblk Try.underlying60 rfl hi16 ?_) | (go_at_call 74; refine (isCorner_any D HD.out k hlt _).mono ?_; rintro e w2 ⟨rfl, hb2⟩; rw [HC.out]))
        go_roundw
        case rel =>
          refine ⟨k + 1, by omega, by go_num, hbel.trans (hb2.mono (by have := hbel.size; omega)), hblk.below hb2 hblk.lt, ?_⟩
          rw [HS.out, if_neg (by rw [HC.out]; decide), List.append_nil, ← HVS.out]
          exact (HO.out.below hb2).more
        case measure => simp [intOf]; omega
    · obtain rfl : k = 16 := by omega
      obtain ⟨a', c', rfl⟩ := hown.form
      have HO := Lib.hid hown
      clear hown
      go_wp2
      go_ret
      have hlc : (fl (isCD D) 16).length = (ints (fl (isCD D) 16)).length := by simp
      refine ⟨a', c', by rw [hlc]; rfl, ?_, hbel⟩
      rw [hlc]
      exact HO.out.lower (by omega)

end Go.Proofs.Ytgkghebjaedjmaa
namespace Go.Proofs.Ytgkghebjaedjmaa
open Go.RowKit NP
set_option maxRecDepth 8000
set_option linter.unusedVariables false

theorem Own.take {w : World} {lo hi : Nat} {e : TypeId} {a : Option Addr} {n c : Nat} {vs : List Value} (h : Own w lo hi e (.slice a n c) vs) (k : Nat) (hk : k ≤ vs.length) : Own w lo hi e (.slice a k c) (vs.take k) := by
  refine ⟨?_, fun g hg => h.lt g (by cases a with | none => cases hg | some b => exact hg), h.le⟩
  have hlen : (vs.take k).length = k := by simp; omega
  rw [hlen]
  refine ⟨by rw [hlen]; omega, ?_⟩
  rcases h.row.2 with ⟨e1, e2⟩ | ⟨g, cap, cur, e1, hb, hg, hc, hm, hs, ht⟩
  · injection e1 with e3 e4 e5
    subst e3; subst e5
    have : k = 0 := by omega
    subst this
    exact .inl ⟨rfl, rfl⟩
  · injection e1 with e3 e4 e5
    subst e3; subst e5
    refine .inr ⟨g, c, cur, rfl, hb, hg, by omega, hm, hs, ?_⟩
    rw [← ht, List.take_take]
    congr 1
    omega



theorem rmvOk_no {L : List Int} (h : valid L = false) (i : Int) : rmvOk L i = false := by simp [rmvOk, h]
theorem rmvOk_yes {L : List Int} (h : valid L = true) (i : Int) : rmvOk L i = hasI (crn L) i := by
  unfold rmvOk crn
  rw [h, Bool.true_and, crnTo_fl, hasI_fl]
theorem rmv_no {L : List Int} {i : Int} (h : rmvOk L i = false) : rmv L i = [] := by simp [rmv, h]
theorem rmv_yes {L : List Int} {i : Int} (h : rmvOk L i = true) : ∃ k : Nat, i = k ∧ k < L.length ∧ isC L k = true ∧ valid L = true ∧ rmv L i = lessL L k := by
  have h2 := h
  unfold rmvOk at h
  simp only [Bool.and_eq_true, decide_eq_true_eq] at h
  obtain ⟨hv, ⟨h0, hlt⟩, hc⟩ := h
  obtain ⟨k, rfl⟩ := Int.eq_ofNat_of_zero_le h0
  refine ⟨k, rfl, by omega, hc, hv, ?_⟩
  unfold rmv
  rw [if_pos h2]
  rfl
theorem own_nil0 (w : World) (lo : Nat) (e : TypeId) : Own w lo w.heap.size e (.slice none ([] : List Int).length 0) (ints []) := Own.nil w lo e

theorem addOk_no {L : List Int} (h : valid L = false) (i : Int) : addOk L i = false := by simp [addOk, h]
theorem addC_no {L : List Int} {i : Int} (h : addOk L i = false) : addC L i = [] := by simp [addC, h]
theorem addC_yes {L : List Int} {i : Int} (h : addOk L i = true) : addC L i = addL L i.toNat := by simp [addC, h]
theorem addOk_at {L : List Int} (hv : valid L = true) {k : Nat} (hk : k ≤ L.length) : addOk L k = valid (addL L k) := by
  unfold addOk
  rw [hv, decide_eq_true (by omega : (0 : Int) ≤ (k : Int)), decide_eq_true (by omega : (k : Int) ≤ (L.length : Int))]
  rfl
theorem addOk_out {L : List Int} {i : Int} (h : ¬ (0 ≤ i ∧ i ≤ L.length)) : addOk L i = false := by
  unfold addOk
  rcases Int.lt_or_le i 0 with h0 | h0
  · rw [decide_eq_false (by omega : ¬ 0 ≤ i)]; simp
  · rw [decide_eq_false (by omega : ¬ i ≤ (L.length : Int))]; simp
theorem Blk.drs {w : World} {g : Nat} {t : TypeId} {cs : Array Value} (h : Blk w g t cs) (n : Nat) : Blk (w.drewN n) g t cs := h

end Go.Proofs.Ytgkghebjaedjmaa
namespace Go.Proofs.Ytgkghebjaedjmaa
open Go.RowKit NP
set_option maxRecDepth 8000
set_option linter.unusedVariables false
set_option linter.unusedSimpArgs false
end Go.Proofs.Ytgkghebjaedjmaa
