/-
  Walks: the draws of a list and an index: RemoveCell, AddCell.
-/
import Derived.Test.YtbldnjcjdnlhgaaD3
import Derived.Test.YtbldnjcjdnlhgaaW6
import Derived.Deep.RegionHeld3
namespace Go.Proofs.Ytbldnjcjdnlhgaa
open Go.RowKit NP
set_option linter.unusedVariables false

theorem fl_mem_bd (p : Nat → Bool) (n : Nat) : ∀ x ∈ fl p n, 0 ≤ x ∧ x < n := by
  intro x hx
  unfold fl at hx
  simp only [List.mem_map, List.mem_filter, List.mem_range] at hx
  obtain ⟨a, ha, e⟩ := hx
  have : (a : Int) = x := e
  omega
theorem chg_low3 {B : Nat} {b c : World} {w0 : World} {g : Nat} (hb : Below B w0 b) (hB : B ≤ w0.heap.size) (hg : B ≤ g) (h : b.grownBy c (some g)) : Below B w0 c := hb.grown h (by have := hb.size; omega) fun k hk => by injection hk with hk; omega

set_option maxHeartbeats 400000 in
theorem DrawRemoveCell_any (a : Option Addr) (c B : Nat) (bs : List Int) (w : World) (h : Rd w B a (bs.map (Value.int .u8))) (hB : B ≤ w.heap.size) (hb : ∀ n ∈ bs, (Lit.int .u8 n).wf = true) (hl : bs.length ≤ 1048576) (hc : bs.length ≤ c) :
    Calls Try.prog 31 #[.slice a bs.length c] w fun e w' => ∃ a' c' M x, e = .returned (.tuple #[.slice a' M.length c', .int .i64 x]) ∧ Own w' w.heap.size w'.heap.size 3 (.slice a' M.length c') (ints M) ∧ (Small M ∧ -1000 ≤ x ∧ x ≤ 1000) ∧ Below w.heap.size w w' := by
  go_enter Try.func31, Try.ntmps31
  go_wp2_with fail
  refine (newReader_any _ _ B bs _ h hB hb hl hc).mono ?_
  rintro e w1 ⟨rfl, h1, hb1, hs1⟩
  clear hb hl hc h
  go_wp2_with fail
  refine (someParts_any _ 0 _ _ (by omega) h1).mono ?_
  rintro e w2 ⟨a', c', M, rfl, ho, hs, ⟨q, hq, h2⟩, hb2⟩
  have hM := hs.1
  have HS := Lib.hid hs
  clear hs h1
  go_wp2_with fail
  refine (scorners_any _ _ _ M _ ho.rd (Nat.le_refl _) (by omega)).mono ?_
  rintro e w3 ⟨a3, c3, rfl, en, hb3⟩
  have hcl := crnTo_len M M.length
  have hE : ∀ x ∈ crn M, 0 ≤ x ∧ x < M.length := fl_mem_bd _ _
  have HE := Lib.hid hE
  clear hE
  have hcl' : (crn M).length ≤ 40 := by unfold crn; omega
  clear hcl
  have ho3 := (ho.below hb3).more
  have h3 := h2.below (hb3.mono h2.lt)
  have hlo1 : w.heap.size < w1.heap.size := by omega
  have hlo2 : w1.heap.size ≤ w2.heap.size := hb2.size
  have hbel3 : Below w.heap.size w w3 := (hb1.trans hb2).trans (hb3.mono (by omega))
  clear ho h2 hb1 hb2 hb3
  have HO := Lib.hid ho3
  have HN := Lib.hid en
  clear ho3 en
  by_cases h0 : 0 < (crn M).length
  · have g0 : decide (0 < (crn M).length) = true := decide_eq_true h0
    go_wp2_with fail
    refine (pick_any w.heap.size q 4 _ _ (by omega) (by omega) h3).mono ?_
    rintro e w4 ⟨y, rfl, hy0, -, h4, hg4, hs4⟩
    have ho4 := (HO.out.chg hg4 (by omega)).more
    have en4 := (HN.out.chg hg4 (by omega)).more
    have hbel4 := chg_low3 hbel3 (Nat.le_refl _) (Nat.le_refl _) hg4
    clear HO HN h3 hg4 hs4
    by_cases hy : 0 < y
    · have g1 : decide (0 < y) = true := decide_eq_true hy
      clear hy
      obtain ⟨ge, rfl, hc4⟩ := en4.read (k := 0) (by simpa using h0)
      obtain ⟨z0, hz0⟩ : ∃ z, z = (ints (crn M))[0]'(by simpa using h0) := ⟨_, rfl⟩
      rw [← hz0] at hc4
      have HZ0 := Lib.hid hz0
      clear hz0
      have HO4 := Lib.hid ho4
      have HN4 := Lib.hid en4
      clear ho4 en4
      go_wp2_with fail
      go_region_with (first | (go_at_call 47; refine (pick_any w.heap.size (q + 1) _ _ _ (by omega) (by omega) (h4.dr (Dr.n w4 1))).mono ?_; rintro e w5 ⟨x5, rfl, hx0, hx1, h5, hg5, hs5⟩; obtain ⟨k, rfl⟩ := Int.eq_ofNat_of_zero_le hx0; have hk : k < (crn M).length := (by have := hx1 (by omega); omega); have hk' : (k : Int) < ((crn M).length : Int) := (by omega); have en5 := ((HN4.out.drewN 1).chg hg5 (by omega)).more; have hc5 : w5.cell? ⟨ge, k, none⟩ = some (.int .i64 (crn M)[k]) := (by obtain ⟨g', e', hc'⟩ := en5.read (k := k) (by simpa using hk); injection e' with e'; injection e' with e'; subst e'; rw [hc']; simp); have hc50 : w5.cell? ⟨ge, 0, none⟩ = some z0 := (by obtain ⟨g', e', hc'⟩ := en5.read (k := 0) (by simpa using h0); injection e' with e'; injection e' with e'; subst e'; rw [hc', HZ0.out]); clear hx1))
      go_wp2_with fail
      go_ret2
      have hbel5 := chg_low3 (hbel4.trans ((Dr.n w4 1).below _)) (Nat.le_refl _) (Nat.le_refl _) hg5
      have ho5 := ((HO4.out.drewN 1).chg hg5 (by omega)).more
      have hx := HE.out _ (List.getElem_mem hk)
      exact ⟨a', c', M, _, rfl, ho5.lower (by omega), ⟨HS.out, by omega, by omega⟩, hbel5⟩
    · have g1 : decide (0 < y) = false := decide_eq_false hy
      clear hy
      go_wp2_with fail
      refine (one_any w.heap.size (q + 1) _ _ _ [0, 1, 2, -1, 16] _ _ (by simp) (by simp) (by omega) (h4.below ((Below.refl _ _).alloc h4.lt _)) (rd_new w4 _ _) (by intro b o e; injection e with e; injection e with e; have := h4.lt; omega)).mono ?_
      rintro e w6 ⟨k, hk, rfl, h6, hg6, -⟩
      have hx : ∀ x ∈ ([0, 1, 2, -1, 16] : List Int), -1000 ≤ x ∧ x ≤ 1000 := by decide
      have hx6 := hx _ (List.getElem_mem hk)
      obtain ⟨x6, hxx⟩ : ∃ x, x = ([0, 1, 2, -1, 16] : List Int)[k] := ⟨_, rfl⟩
      rw [← hxx] at hx6 ⊢
      clear hx hxx hk
      have hbel6 := chg_low3 (hbel4.alloc hbel4.size (.cells (ints [0, 1, 2, -1, 16]).toArray 3)) (Nat.le_refl _) (Nat.le_refl _) hg6
      have ho6 := ((ho4.alloc (.cells (ints [0, 1, 2, -1, 16]).toArray 3)).chg hg6 (by omega)).more
      clear hg6
      go_wp2_with fail
      go_ret2
      exact ⟨a', c', M, x6, rfl, ho6.lower (by omega), ⟨HS.out, hx6⟩, hbel6⟩
  · have g0 : decide (0 < (crn M).length) = false := decide_eq_false h0
    have h0' : ((crn M).length : Int) ≤ 0 := by omega
    go_wp2_with fail
    refine (one_any w.heap.size (q) _ _ _ [0, 1, 2, -1, 16] _ _ (by simp) (by simp) (by omega) (h3.below ((Below.refl _ _).alloc h3.lt _)) (rd_new w3 _ _) (by intro b o e; injection e with e; injection e with e; have := h3.lt; omega)).mono ?_
    rintro e w6 ⟨k, hk, rfl, h6, hg6, -⟩
    have hx : ∀ x ∈ ([0, 1, 2, -1, 16] : List Int), -1000 ≤ x ∧ x ≤ 1000 := by decide
    have hx6 := hx _ (List.getElem_mem hk)
    obtain ⟨x6, hxx⟩ : ∃ x, x = ([0, 1, 2, -1, 16] : List Int)[k] := ⟨_, rfl⟩
    rw [← hxx] at hx6 ⊢
    clear hx hxx hk
    have hbel6 := chg_low3 (hbel3.alloc hbel3.size (.cells (ints [0, 1, 2, -1, 16]).toArray 3)) (Nat.le_refl _) (Nat.le_refl _) hg6
    have ho6 := ((HO.out.alloc (.cells (ints [0, 1, 2, -1, 16]).toArray 3)).chg hg6 (by omega)).more
    clear hg6
    go_wp2_with fail
    go_ret2
    exact ⟨a', c', M, x6, rfl, ho6.lower (by omega), ⟨HS.out, hx6⟩, hbel6⟩
end Go.Proofs.Ytbldnjcjdnlhgaa
