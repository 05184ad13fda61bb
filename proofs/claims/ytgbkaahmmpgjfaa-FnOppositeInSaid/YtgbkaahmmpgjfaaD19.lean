/-
  Walks: the draw of parts and a box.
-/
import Derived.Test.YtgbkaahmmpgjfaaD18
import Derived.OwnWalk
import Derived.Deep.RegionWith
namespace Go.Proofs.Ytgbkaahmmpgjfaa
open Go.RowKit NP
set_option linter.unusedVariables false
theorem grown_dr {b c : World} (hd : Dr b c) (g : Nat) : b.grownBy c (some g) :=
  have hb := Dr.below hd b.heap.size
  ⟨hb.os, hb.tape, hb.output, hb.size, fun k hk _ => hb.block k hk⟩
theorem trans_drg {a b c : World} {g : Nat} (h : a.grownBy b (some g)) (hd : Dr b c) : a.grownBy c (some g) := chg_trans h (grown_dr hd g)
set_option maxHeartbeats 16000000 in
theorem DrawOppositeIn_any (a : Option Addr) (c B : Nat) (bs : List Int) (w : World) (h : Rd w B a (bs.map (Value.int .u8))) (hB : B ≤ w.heap.size) (hb : ∀ n ∈ bs, (Lit.int .u8 n).wf = true) (hl : bs.length ≤ 1048576) (hc : bs.length ≤ c) :
    Calls Try.prog 25 #[.slice a bs.length c] w fun e w' => ∃ a' c' M x y, e = .returned (.tuple #[.slice a' M.length c', .int .i64 x, .int .i64 y]) ∧ Own w' w.heap.size w'.heap.size 3 (.slice a' M.length c') (ints M) ∧ Small M ∧ Below w.heap.size w w' := by
  go_enter Try.func25, Try.ntmps25
  go_wp2_with fail
  refine (newReader_any _ _ B bs _ h hB hb hl hc).mono ?_
  rintro e w1 ⟨rfl, h1, hb1, -⟩
  generalize bs.take 2000 = rs at h1
  have hlt := h1.lt
  have hs0 := hb1.size
  clear hb hl hc h hB
  go_wp2_with fail
  refine (one_any w.heap.size _ _ _ _ [4, 5, 3, 6, 2, 8, 1, 0] rs _ (by simp) (by simp) (by omega) (h1.below ((Below.refl _ _).alloc hlt _)) (rd_new w1 _ _) (by intro b o e; injection e with e; injection e with e; omega)).mono ?_
  rintro e w2 ⟨k, hk, rfl, h2, hg2, -⟩
  have hx : ∀ x ∈ ([4, 5, 3, 6, 2, 8, 1, 0] : List Int), 0 ≤ x ∧ x ≤ 16 := by decide
  have hx1 := hx _ (List.getElem_mem hk)
  obtain ⟨x, hxx⟩ : ∃ x, x = ([4, 5, 3, 6, 2, 8, 1, 0] : List Int)[k] := ⟨_, rfl⟩
  rw [← hxx] at hx1 ⊢
  clear hx hxx hk
  have hG2 := chg_trans (World.grownBy_alloc w1 (.cells (ints [4, 5, 3, 6, 2, 8, 1, 0]).toArray 3) (some w.heap.size)) hg2
  clear hg2
  go_wp2_with fail
  refine (partsOf_any w.heap.size _ x rs _ hx1.1 hx1.2 (by omega) h2).mono ?_
  rintro e w3 ⟨a1, c1, M1, rfl, ho1, hs1, ⟨q3, hq3, h3⟩, hg3⟩
  have hG3 := chg_trans hG2 hg3
  replace ho1 := ho1.lower hG2.size
  have hC3 : Chg w.heap.size w1.heap.size w1 w3 := .of hG3 (Nat.le_refl _)
  have hz3 := hG3.size
  clear hx1 h2 hG2 hg3
  go_wp2_with fail
  refine (bent_any w.heap.size q3 w1.heap.size _ _ M1 rs _ (by omega) h3 hs1 ho1 hlt hz3).mono ?_
  rintro e w4 ⟨a2, c2, M2, rfl, ho2, hs2, ⟨q4, hq4, h4⟩, hb4⟩
  have hG4 := (hC3.trans hb4).grown
  clear hC3 hb4 hG3 ho1
  have hq9 : q4 ≤ 900 := by omega
  have hM2 : M2.length ≤ 4611686018427387904 := by have := hs2.1; omega
  by_cases h0 : 0 < M2.length
  · have g0 : decide (0 < M2.length) = true := decide_eq_true h0
    go_wp2_with fail
    refine (pick_any w.heap.size q4 4 rs _ (by omega) (by omega) h4).mono ?_
    rintro e w5 ⟨y, rfl, hy0, -, h5, hg5, hs5⟩
    have ho5 := (ho2.chg hg5 hlt).more
    have hG5 := chg_trans hG4 hg5
    clear hg5 hs5 ho2 hG4 h4
    by_cases hy : 0 < y
    · have g1 : decide (0 < y) = true := decide_eq_true hy
      clear hy
      obtain ⟨gp, rfl, hc5⟩ := ho5.read (k := 0) (by simpa using h0)
      obtain ⟨z0, hz0⟩ : ∃ z, z = M2[0] := ⟨_, rfl⟩
      rw [List.getElem_map, ← hz0] at hc5
      have HZ0 := Lib.hid hz0
      clear hz0
      have HO5 := Lib.hid ho5
      have HG5 := Lib.hid hG5
      clear ho5 hG5
      go_wp2_with fail
      go_region_with (first
        | (go_at_call 54; (with_reducible refine (pick_any w.heap.size (q4 + 1 + 1) _ rs _ (by omega) (by omega) h6).mono ?_); rintro e w7 ⟨x7, rfl, hx70, hx71, h7, hg7, -⟩; obtain ⟨s7, es7⟩ : ∃ s7 : Int, IntKind.i64.wrap (z0 + x7) = s7 := ⟨_, rfl⟩; obtain ⟨m7, em7⟩ : ∃ m7 : Int, (if (4 : Int) < s7 then (4 : Int) else s7) = m7 := ⟨_, rfl⟩; have ho7 := (HO6.out.chg hg7 hlt).more; have hc7 : w7.cell? ⟨gp, 0, none⟩ = some (.int .i64 z0) := (by obtain ⟨g', e', hc'⟩ := ho7.read (k := 0) (by simpa using h0); injection e' with e'; injection e' with e'; subst e'; rw [hc', List.getElem_map, HZ0.out]); have HO7 := Lib.hid ho7; have HG7 := Lib.hid (chg_trans HG6.out hg7); clear ho7 hg7)
        | (go_at_call 54; (refine (pick_any w.heap.size (q4 + 1) _ rs _ (by omega) (by omega) (h5.dr (Dr.n w5 1))).mono ?_); rintro e w6 ⟨x6, rfl, hx60, hx61, h6, hg6, -⟩; obtain ⟨s6, es6⟩ : ∃ s6 : Int, IntKind.i64.wrap ((M2.length : Int) + x6) = s6 := ⟨_, rfl⟩; obtain ⟨m6, em6⟩ : ∃ m6 : Int, (if (4 : Int) < s6 then (4 : Int) else s6) = m6 := ⟨_, rfl⟩; have ho6 := ((HO5.out.drewN 1).chg hg6 hlt).more; have hc6 : w6.cell? ⟨gp, 0, none⟩ = some (.int .i64 z0) := (by obtain ⟨g', e', hc'⟩ := ho6.read (k := 0) (by simpa using h0); injection e' with e'; injection e' with e'; subst e'; rw [hc', List.getElem_map, HZ0.out]); have HO6 := Lib.hid ho6; have HG6 := Lib.hid (chg_trans (trans_drg HG5.out (Dr.n w5 1)) hg6); clear ho6 hg6))
      all_goals
        go_wp2_with fail
        go_ret3
        exact ⟨_, c2, M2, _, _, rfl, HO7.out.lower hs0, hs2, chg_low5 hb1 (Nat.le_refl _) (Nat.le_refl _) HG7.out⟩
    · have g1 : decide (0 < y) = false := decide_eq_false hy
      clear hy
      go_wp2_with fail
      refine (aSide_any w.heap.size _ rs _ (by omega) h5).mono ?_
      rintro e w8 ⟨y8, rfl, hy8, h8, hg8⟩
      have ho8 := (ho5.chg hg8 hlt).more
      have hG8 := chg_trans hG5 hg8
      clear hg8
      go_wp2_with fail
      refine (aSide_any w.heap.size _ rs _ (by omega) h8).mono ?_
      rintro e w9 ⟨z, rfl, hz, h9, hg9⟩
      have ho9 := (ho8.chg hg9 hlt).more
      have hG9 := chg_trans hG8 hg9
      clear hg9
      go_wp2_with fail
      go_ret3
      exact ⟨a2, c2, M2, y8, z, rfl, ho9.lower hs0, hs2, chg_low5 hb1 (Nat.le_refl _) (Nat.le_refl _) hG9⟩
  · have g0 : decide (0 < M2.length) = false := decide_eq_false h0
    have h0' : (M2.length : Int) ≤ 0 := by omega
    go_wp2_with fail
    refine (aSide_any w.heap.size _ rs _ (by omega) h4).mono ?_
    rintro e w8 ⟨y8, rfl, hy8, h8, hg8⟩
    have ho8 := (ho2.chg hg8 hlt).more
    have hG8 := chg_trans hG4 hg8
    clear hg8
    go_wp2_with fail
    refine (aSide_any w.heap.size _ rs _ (by omega) h8).mono ?_
    rintro e w9 ⟨z, rfl, hz, h9, hg9⟩
    have ho9 := (ho8.chg hg9 hlt).more
    have hG9 := chg_trans hG8 hg9
    clear hg9
    go_wp2_with fail
    go_ret3
    exact ⟨a2, c2, M2, y8, z, rfl, ho9.lower hs0, hs2, chg_low5 hb1 (Nat.le_refl _) (Nat.le_refl _) hG9⟩
end Go.Proofs.Ytgbkaahmmpgjfaa
