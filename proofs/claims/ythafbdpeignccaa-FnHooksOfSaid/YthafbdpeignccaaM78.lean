/-
  Plain mathematics: in how many ways parts grow, by hooks; levels of growths.
-/
import Derived.Test.YthafbdpeignccaaM14
import Derived.Test.YthafbdpeignccaaM28
import Derived.Test.YthafbdpeignccaaM3
namespace Go.Proofs.Ythafbdpeignccaa
open Go.RowKit NP
set_option linter.unusedVariables false
def hookN (N : List Nat) : Nat := (List.range N.length).foldl (fun a i => (List.range (N.getD i 0)).foldl (fun b k => b * (N.getD i 0 - k + (N.countP fun x => Nat.blt k x) - i - 1)) a) 1
def factN (n : Nat) : Nat := (List.range n).foldl (fun a i => a * (i + 1)) 1
def gNat (N : List Nat) : Nat := factN (N.foldl (· + ·) 0) / hookN N
/-- in how many ways parts grow from none -/
def gF (L : List Int) : Int := (gNat (L.map Int.toNat) : Int)
def sumBy (f : Int → Int) : List Int → Int
  | [] => 0
  | x :: r => f x + sumBy f r
def gTab (N : List Nat) : Bool :=
  let L := N.map Int.ofNat
  Nat.blt 12 (N.foldl (· + ·) 0) || (decide (gF L = if N.isEmpty then 1 else sumBy (fun k => gF (lessL L k.toNat)) (crn L)) && decide (1 ≤ gF L) && decide (gF L ≤ 10000) && decide (gF (conj L) = gF L))
set_option maxRecDepth 100000 in
theorem gTab_all : all16.all gTab = true := by decide +kernel
theorem sum_ofNat (N : List Nat) : sumL (N.map Int.ofNat) = ((N.foldl (· + ·) 0 : Nat) : Int) := by
  have : ∀ (N : List Nat) (a : Nat), ((N.foldl (· + ·) a : Nat) : Int) = (a : Int) + sumL (N.map Int.ofNat) := by
    intro N
    induction N with
    | nil => intro a; simp [sumL]
    | cons x r ih => intro a; rw [List.foldl_cons, ih, List.map_cons, sumL]; simp only [Int.ofNat_eq_natCast]; omega
  rw [this N 0]; omega
theorem gF_facts {L : List Int} (hv : valid L = true) (h : sumL L ≤ 12) : (gF L = if L = [] then 1 else sumBy (fun k => gF (lessL L k.toNat)) (crn L)) ∧ 1 ≤ gF L ∧ gF L ≤ 10000 ∧ gF (conj L) = gF L := by
  obtain ⟨N, hN, rfl⟩ := of_all gTab_all hv
  rw [sum_ofNat] at h
  have hlt : ¬ Nat.blt 12 (N.foldl (· + ·) 0) = true := by rw [Nat.blt_eq]; omega
  unfold gTab at hN
  simp only [Bool.or_eq_true, Bool.and_eq_true, decide_eq_true_eq] at hN
  obtain ⟨⟨⟨h1, h2⟩, h3⟩, h4⟩ := hN.resolve_left hlt
  refine ⟨?_, h2, h3, h4⟩
  rw [h1]
  cases N <;> simp
/-- one more growth among a level's -/
def addG : List (List Int × Int) → List Int → Int → List (List Int × Int)
  | [], S, w => [(S, w)]
  | (T, x) :: r, S, w => if T = S then (T, x + w) :: r else (T, x) :: addG r S w
theorem addG_at {G : List (List Int × Int)} {S : List Int} {w : Int} : ∀ {k : Nat} (hk : k < G.length), (∀ j (h : j < G.length), j < k → G[j].1 ≠ S) → G[k].1 = S → addG G S w = G.set k (S, G[k].2 + w) := by
  induction G with
  | nil => intro k hk; simp at hk
  | cons g r ih =>
    obtain ⟨T, x⟩ := g
    intro k hk hn he
    cases k with
    | zero =>
      simp only [List.getElem_cons_zero] at he
      subst he
      simp [addG]
    | succ k =>
      have h0 := hn 0 (by simp) (by omega)
      simp only [List.getElem_cons_zero] at h0
      simp only [List.getElem_cons_succ, List.set_cons_succ, addG, if_neg h0]
      rw [ih (by simpa using hk) (fun j h1 h2 => by have := hn (j + 1) (by simpa using h1) (by omega); simpa using this) (by simpa using he)]
theorem addG_new {G : List (List Int × Int)} {S : List Int} {w : Int} (hn : ∀ j (h : j < G.length), G[j].1 ≠ S) : addG G S w = G ++ [(S, w)] := by
  induction G with
  | nil => rfl
  | cons g r ih =>
    obtain ⟨T, x⟩ := g
    have h0 := hn 0 (by simp)
    simp only [List.getElem_cons_zero] at h0
    simp only [addG, if_neg h0, List.cons_append]
    rw [ih fun j h => by have := hn (j + 1) (by simpa using h); simpa using this]
/-- the ways of all, weighed -/
def gSum : List (List Int × Int) → Int
  | [] => 0
  | g :: r => g.2 * gF g.1 + gSum r
theorem gSum_append (A B : List (List Int × Int)) : gSum (A ++ B) = gSum A + gSum B := by
  induction A with
  | nil => simp [gSum]
  | cons g r ih => simp only [List.cons_append, gSum, ih]; omega
theorem gSum_add (G : List (List Int × Int)) (S : List Int) (w : Int) : gSum (addG G S w) = gSum G + w * gF S := by
  induction G with
  | nil => simp [addG, gSum]
  | cons g r ih =>
    obtain ⟨T, x⟩ := g
    unfold addG
    split
    · rename_i h
      subst h
      simp only [gSum, Int.add_mul]; omega
    · simp only [gSum, ih]; omega
/-- what a level holds: parts of a sum, each in some way, no parts twice -/
def gLv (m : Int) (G : List (List Int × Int)) : Prop := (∀ g ∈ G, valid g.1 = true ∧ sumL g.1 = m ∧ 1 ≤ g.2) ∧ G.Pairwise fun a b => a.1 ≠ b.1
theorem addG_mem {G : List (List Int × Int)} {S : List Int} {w : Int} {g : List Int × Int} (h : g ∈ addG G S w) : g.1 = S ∨ ∃ g' ∈ G, g'.1 = g.1 := by
  induction G with
  | nil => simp [addG] at h; left; rw [h]
  | cons g0 r ih =>
    obtain ⟨T, x⟩ := g0
    unfold addG at h
    split at h
    · rename_i e
      rcases List.mem_cons.1 h with rfl | h
      · exact .inl e
      · exact .inr ⟨g, by simp [h], rfl⟩
    · rcases List.mem_cons.1 h with rfl | h
      · exact .inr ⟨(T, x), by simp, rfl⟩
      · rcases ih h with h1 | ⟨g', h1, h2⟩
        · exact .inl h1
        · exact .inr ⟨g', by simp [h1], h2⟩
theorem gLv_add {m : Int} {G : List (List Int × Int)} (h : gLv m G) {S : List Int} {w : Int} (hS : valid S = true) (hs : sumL S = m) (hw : 1 ≤ w) : gLv m (addG G S w) := by
  induction G with
  | nil => exact ⟨fun g hg => by simp [addG] at hg; subst hg; exact ⟨hS, hs, hw⟩, by simp [addG]⟩
  | cons g0 r ih =>
    obtain ⟨T, x⟩ := g0
    obtain ⟨h1, h2⟩ := h
    rw [List.pairwise_cons] at h2
    have hr : gLv m r := ⟨fun g hg => h1 g (by simp [hg]), h2.2⟩
    have h0 := h1 (T, x) (by simp)
    unfold addG
    split
    · rename_i e
      refine ⟨fun g hg => ?_, ?_⟩
      · rcases List.mem_cons.1 hg with rfl | hg
        · exact ⟨h0.1, h0.2.1, by have := h0.2.2; simp only at this ⊢; omega⟩
        · exact h1 g (by simp [hg])
      · rw [List.pairwise_cons]; exact h2
    · rename_i e
      obtain ⟨h3, h4⟩ := ih hr
      refine ⟨fun g hg => ?_, ?_⟩
      · rcases List.mem_cons.1 hg with rfl | hg
        · exact h0
        · exact h3 g hg
      · rw [List.pairwise_cons]
        refine ⟨fun g hg => ?_, h4⟩
        rcases addG_mem hg with h5 | ⟨g', h5, h6⟩
        · rw [h5]; exact e
        · rw [← h6]; exact h2.1 g' h5
theorem mul_ge1 {a b : Int} (ha : 1 ≤ a) (hb : 1 ≤ b) : a ≤ a * b ∧ 1 ≤ a * b := by
  have h1 := Int.mul_le_mul_of_nonneg_left hb (show 0 ≤ a by omega)
  omega
/-- each way, and how many there are, are at most the sum -/
theorem gLv_bd {m : Int} (hm : m ≤ 12) {G : List (List Int × Int)} (h : gLv m G) : (G.length : Int) ≤ gSum G ∧ ∀ g ∈ G, g.2 ≤ gSum G := by
  induction G with
  | nil => exact ⟨by simp [gSum], fun g hg => by simp at hg⟩
  | cons g0 r ih =>
    obtain ⟨h1, h2⟩ := h
    rw [List.pairwise_cons] at h2
    obtain ⟨h3, h4⟩ := ih ⟨fun g hg => h1 g (by simp [hg]), h2.2⟩
    have h0 := h1 g0 (by simp)
    have h5 := gF_facts h0.1 (by omega)
    have h6 := mul_ge1 h0.2.2 h5.2.1
    refine ⟨by rw [List.length_cons, gSum]; omega, fun g hg => ?_⟩
    rw [gSum]
    rcases List.mem_cons.1 hg with rfl | hg
    · omega
    · have := h4 g hg; omega
/-- the first n corners of parts put among the level below -/
def lvK (S : List Int) (w : Int) (A : List (List Int × Int)) (n : Nat) : List (List Int × Int) := ((crn S).take n).foldl (fun A k => addG A (lessL S k.toNat) w) A
def lvN (G : List (List Int × Int)) (n : Nat) : List (List Int × Int) := (G.take n).foldl (fun A g => lvK g.1 g.2 A (crn g.1).length) []
theorem lvK_succ (S : List Int) (w : Int) (A : List (List Int × Int)) (n : Nat) (h : n < (crn S).length) : lvK S w A (n + 1) = addG (lvK S w A n) (lessL S (crn S)[n].toNat) w := by
  unfold lvK
  rw [List.take_succ_eq_append_getElem h, List.foldl_append]; rfl
theorem lvN_succ (G : List (List Int × Int)) (n : Nat) (h : n < G.length) : lvN G (n + 1) = lvK G[n].1 G[n].2 (lvN G n) (crn G[n].1).length := by
  unfold lvN
  rw [List.take_succ_eq_append_getElem h, List.foldl_append]; rfl
theorem crn_at {L : List Int} {n : Nat} (h : n < (crn L).length) : ∃ k : Nat, (crn L)[n] = (k : Int) ∧ k < L.length ∧ isC L k = true := by
  have hm : (crn L)[n] ∈ crn L := List.getElem_mem h
  unfold crn crnTo at hm
  rw [List.mem_map] at hm
  obtain ⟨k, hk, e⟩ := hm
  rw [List.mem_filter, List.mem_range] at hk
  exact ⟨k, e.symm, hk.1, hk.2⟩
theorem lvK_ok {m : Int} {S : List Int} (hS : valid S = true) (hs : sumL S = m + 1) {w : Int} (hw : 1 ≤ w) {A : List (List Int × Int)} (hA : gLv m A) : ∀ n, n ≤ (crn S).length → gLv m (lvK S w A n) ∧ gSum (lvK S w A n) = gSum A + w * sumBy (fun k => gF (lessL S k.toNat)) ((crn S).take n)
  | 0, _ => ⟨by simpa [lvK] using hA, by simp [lvK, sumBy]⟩
  | n + 1, h => by
    obtain ⟨h1, h2⟩ := lvK_ok hS hs hw hA n (by omega)
    have hn : n < (crn S).length := by omega
    obtain ⟨k, hk, hkl, hkc⟩ := crn_at hn
    rw [lvK_succ S w A n hn]
    have e : (crn S)[n].toNat = k := by rw [hk]; simp
    rw [e]
    refine ⟨gLv_add h1 (valid_less hS hkl hkc) (by rw [less_sum hS hkl hkc]; omega) hw, ?_⟩
    rw [gSum_add, h2, List.take_succ_eq_append_getElem hn]
    have : ∀ (f : Int → Int) (a b : List Int), sumBy f (a ++ b) = sumBy f a + sumBy f b := by
      intro f a b
      induction a with
      | nil => simp [sumBy]
      | cons x r ih => simp only [List.cons_append, sumBy, ih]; omega
    rw [this, Int.mul_add]
    simp only [sumBy, e, Int.add_zero]
    omega
theorem lvN_ok {m : Int} (hm : 0 ≤ m ∧ m + 1 ≤ 12) {G : List (List Int × Int)} (hG : gLv (m + 1) G) : ∀ n, n ≤ G.length → gLv m (lvN G n) ∧ gSum (lvN G n) = gSum (G.take n)
  | 0, _ => ⟨⟨fun g hg => by simp [lvN] at hg, by simp [lvN]⟩, by simp [lvN]⟩
  | n + 1, h => by
    obtain ⟨h1, h2⟩ := lvN_ok hm hG n (by omega)
    have hn : n < G.length := by omega
    have hg := hG.1 G[n] (List.getElem_mem hn)
    obtain ⟨h3, h4⟩ := lvK_ok hg.1 hg.2.1 hg.2.2 h1 (crn G[n].1).length (Nat.le_refl _)
    rw [lvN_succ G n hn]
    refine ⟨h3, ?_⟩
    rw [h4, h2, List.take_succ_eq_append_getElem hn, gSum_append, List.take_length]
    have h5 := (gF_facts hg.1 (by omega)).1
    rw [if_neg (by intro e; rw [e] at hg; simp [sumL] at hg; omega)] at h5
    simp only [gSum]
    rw [← h5]; omega
/-- the sums grow -/
theorem gSum_take {m : Int} (hm : m ≤ 12) {G : List (List Int × Int)} (hG : gLv m G) (n : Nat) : gSum (G.take n) ≤ gSum G := by
  have h : gLv m (G.drop n) := ⟨fun g hg => hG.1 g (List.mem_of_mem_drop hg), hG.2.sublist (List.drop_sublist n G)⟩
  have h1 := (gLv_bd hm h).1
  have h2 := gSum_append (G.take n) (G.drop n)
  rw [List.take_append_drop] at h2
  omega
theorem lvK_le {m : Int} (hm : m + 1 ≤ 12) {S : List Int} (hS : valid S = true) (hs : sumL S = m + 1) {w : Int} (hw : 1 ≤ w) {A : List (List Int × Int)} (hA : gLv m A) {n : Nat} (hn : n ≤ (crn S).length) : gSum (lvK S w A n) ≤ gSum (lvK S w A (crn S).length) := by
  have : ∀ d, n + d ≤ (crn S).length → gSum (lvK S w A n) ≤ gSum (lvK S w A (n + d)) := by
    intro d
    induction d with
    | zero => intro _; exact Int.le_refl _
    | succ d ih =>
      intro hd
      have h1 := ih (by omega)
      obtain ⟨k, hk, hkl, hkc⟩ := crn_at (show n + d < (crn S).length by omega)
      rw [show n + (d + 1) = n + d + 1 from rfl, lvK_succ S w A (n + d) (by omega), gSum_add]
      have e : (crn S)[n + d].toNat = k := by rw [hk]; simp
      rw [e]
      have h2 := (gF_facts (valid_less hS hkl hkc) (by rw [less_sum hS hkl hkc]; omega)).2.1
      have h3 := mul_ge1 hw h2
      omega
  have h := this ((crn S).length - n) (by omega)
  rwa [show n + ((crn S).length - n) = (crn S).length from by omega] at h
/-- the level when t cells are gone -/
def lvT (P : List Int) : Nat → List (List Int × Int)
  | 0 => [(P, 1)]
  | t + 1 => lvN (lvT P t) (lvT P t).length
theorem lvT_ok {P : List Int} (hv : valid P = true) (h : sumL P ≤ 12) : ∀ t : Nat, (t : Int) ≤ sumL P → gLv (sumL P - t) (lvT P t) ∧ gSum (lvT P t) = gF P
  | 0, _ => ⟨⟨fun g hg => by simp [lvT] at hg; subst hg; exact ⟨hv, by simp, by simp⟩, by simp [lvT]⟩, by simp [lvT, gSum]⟩
  | t + 1, ht => by
    obtain ⟨h1, h2⟩ := lvT_ok hv h t (by omega)
    have e : sumL P - (t : Int) = (sumL P - ((t + 1 : Nat) : Int)) + 1 := by omega
    rw [e] at h1
    obtain ⟨h3, h4⟩ := lvN_ok (by omega) h1 (lvT P t).length (Nat.le_refl _)
    exact ⟨h3, by rw [lvT, h4, List.take_length, h2]⟩
theorem lvT_end {P : List Int} (hv : valid P = true) (h : sumL P ≤ 12) {t : Nat} (ht : (t : Int) = sumL P) : ∃ S, lvT P t = [(S, gF P)] := by
  obtain ⟨⟨h1, h2⟩, h3⟩ := lvT_ok hv h t (by omega)
  rw [show sumL P - (t : Int) = 0 from by omega] at h1
  have hnil : ∀ g ∈ lvT P t, g.1 = [] := fun g hg => by
    obtain ⟨a, b, _⟩ := h1 g hg
    cases hg1 : g.1 with
    | nil => rfl
    | cons x r =>
      rw [hg1] at a b
      have := (valid_bd a).2.2.1
      simp at this
      omega
  have hpos := (gF_facts hv h).2.1
  match hG : lvT P t, h2, h3, hnil with
  | [], _, h3, _ => simp [gSum] at h3; omega
  | [g], _, h3, hnil =>
    have e := hnil g (by simp)
    have e2 : gF [] = 1 := by decide
    simp only [gSum, e, e2] at h3
    exact ⟨g.1, by congr 1; cases g; simp only at h3 ⊢; rw [show (gF P) = _ from h3.symm]; simp⟩
  | g :: g' :: r, h2, _, hnil =>
    rw [List.pairwise_cons] at h2
    exact absurd ((hnil g (by simp)).trans (hnil g' (by simp)).symm) (h2.1 g' (by simp))
end Go.Proofs.Ythafbdpeignccaa
