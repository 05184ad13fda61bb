/-
  Walks: the draw of a sum and bits.
-/
import Derived.Test.YtcjnmconehfbgaaD1
import Derived.Test.YtcjnmconehfbgaaL1
import Derived.Test.YtcjnmconehfbgaaW68
import Derived.Deep.RegionHeld3
namespace Go.Proofs.Ytcjnmconehfbgaa
open Go.RowKit NP
set_option maxRecDepth 8000
set_option linter.unusedVariables false
set_option linter.unusedSimpArgs false
theorem chg_low5 {B : Nat} {b c : World} {w0 : World} {g : Nat} (hb : Below B w0 b) (hB : B ≤ w0.heap.size) (hg : B ≤ g) (h : b.grownBy c (some g)) : Below B w0 c := hb.grown h (by have := hb.size; omega) fun k hk => by injection hk with hk; omega
set_option maxRecDepth 100000 in
set_option maxHeartbeats 4000000 in
theorem DrawSumsOfMask_any (a : Option Addr) (c B : Nat) (bs : List Int) (w : World) (h : Rd w B a (bs.map (Value.int .u8))) (hB : B ≤ w.heap.size) (hb : ∀ n ∈ bs, (Lit.int .u8 n).wf = true) (hl : bs.length ≤ 1048576) (hc : bs.length ≤ c) :
    Calls Try.prog 43 #[.slice a bs.length c] w fun e w' => ∃ n k : Int, e = .returned (.tuple #[.int .i64 n, .int .i64 k]) ∧ (-1 ≤ n ∧ n ≤ 17) ∧ (-1 ≤ k ∧ k ≤ 65536) ∧ Below w.heap.size w w' := by
  go_enter Try.func43, Try.ntmps43
  go_wp2_with fail
  refine (newReader_any _ _ B bs _ h hB hb hl hc).mono ?_
  rintro e w1 ⟨rfl, h1, hb1, -⟩
  generalize bs.take 2000 = rs at h1
  have hlt1 := h1.lt
  have hs1 := hb1.size
  clear hb hl hc h hB
  go_wp2_with fail
  refine (one_any w.heap.size _ _ _ _ [5, 6, 4, 8, 3, 2, 1, 0, 16, 17, -1] rs _ (by simp) (by simp) (by omega) (h1.below ((Below.refl _ _).alloc hlt1 _)) (rd_new w1 _ _) (by intro b o e; injection e with e; injection e with e; omega)).mono ?_
  rintro e w2 ⟨i, hi, rfl, h2, hg2, -⟩
  have hx1 := List.getElem_mem hi
  obtain ⟨n, hxx⟩ : ∃ x, x = ([5, 6, 4, 8, 3, 2, 1, 0, 16, 17, -1] : List Int)[i] := ⟨_, rfl⟩
  rw [← hxx] at hx1 ⊢
  have hbel2 := chg_low5 (hb1.alloc hs1 (.cells (ints [5, 6, 4, 8, 3, 2, 1, 0, 16, 17, -1]).toArray 3)) (Nat.le_refl _) (Nat.le_refl _) hg2
  have hlt2 := h2.lt
  have hs2 := hbel2.size
  clear hxx hi h1 hg2 hb1 hs1 hlt1
  have h2d : Rdr w2.drew w.heap.size rs (0 + 1) := h2.dr (Dr.n w2 1)
  have hn : -1 ≤ n ∧ n ≤ 17 := by
    simp only [List.mem_cons, List.not_mem_nil, or_false] at hx1
    omega
  clear hx1
  obtain ⟨u, hu⟩ : ∃ u, (if (16 : Int) < n then (16 : Int) else n) = u := ⟨_, rfl⟩
  have hub : -1 ≤ u ∧ u ≤ 16 := by rw [← hu]; split <;> omega
  obtain ⟨v, hv⟩ : ∃ v, IntKind.i64.wrap (u - 1) = v := ⟨_, rfl⟩
  have hvb : v = u - 1 := by rw [← hv]; exact IntWalk.i64_in _ (by omega)
  obtain ⟨j, hj⟩ : ∃ j : Nat, (if v < (0 : Int) then (0 : Int) else v) = (j : Int) := ⟨(if v < (0 : Int) then (0 : Int) else v).toNat, by split <;> omega⟩
  have hj15 : j ≤ 15 := by
    have : (if v < (0 : Int) then (0 : Int) else v) ≤ 15 := by split <;> omega
    omega
  have hpp : (2 : Nat) ^ j ≤ 2 ^ 15 := Nat.pow_le_pow_right (by omega) hj15
  have hp0 := Nat.two_pow_pos j
  obtain ⟨p, hp⟩ : ∃ p, p = 2 ^ j := ⟨_, rfl⟩
  have HPW := Lib.hid (fun w => power_any j w (by omega))
  rw [← hp] at hpp hp0 HPW
  have hp1 : (1 : Int) ≤ (p : Int) := by omega
  have hp2 : (p : Int) ≤ 32768 := by omega
  have hpz : ¬ ((p : Int) = 0) := by omega
  have hpz' : ¬ (p = 0) := by omega
  obtain ⟨d, hd⟩ : ∃ d, (p : Int) - 1 = d := ⟨_, rfl⟩
  have hdw : IntKind.i64.wrap d = d := IntWalk.i64_in _ (by omega)
  have hdb : 0 ≤ d ∧ d ≤ 32767 := by omega
  clear hp hub hpp hp0 hp1 hvb
  go_wp2_with fail
  refine wp_region_held_drew (S := (fun _ => True)) (by kernel_rfl) (trivial) (fun hS0 => ?_)
  refine wpAnyH_take (i := 0) (v := .int .i64 n) (by simp only [List.getElem?_toArray, List.getElem?_cons_succ, List.getElem?_cons_zero]; exact rfl) (by kernel_rfl) (by kernel_rfl) (by kernel_rfl) (by intro _ _ _ h; exact h) (Or.inl ⟨by kernel_rfl, by intro w hSw; go_simp⟩) (by assumption) ?_
  simp only [Act.put, List.setIfInBounds_toArray, List.set_cons_zero, List.set_cons_succ, List.toList_toArray]
  refine wpAnyH_take (i := 1) (v := .pointer (some ⟨w.heap.size, 0, none⟩)) (by simp only [List.getElem?_toArray, List.getElem?_cons_succ, List.getElem?_cons_zero]; exact rfl) (by kernel_rfl) (by kernel_rfl) (by kernel_rfl) (by intro _ _ _ h; exact h) (Or.inl ⟨by kernel_rfl, by intro w hSw; go_simp⟩) (by assumption) ?_
  simp only [Act.put, List.setIfInBounds_toArray, List.set_cons_zero, List.set_cons_succ, List.toList_toArray]
  refine wpAnyH_take (i := 2) (v := .pointer (some ⟨w.heap.size, 0, none⟩)) (by simp only [List.getElem?_toArray, List.getElem?_cons_succ, List.getElem?_cons_zero]; exact rfl) (by kernel_rfl) (by kernel_rfl) (by kernel_rfl) (by intro _ _ _ h; exact h) (Or.inl ⟨by kernel_rfl, by intro w hSw; go_simp⟩) (by assumption) ?_
  simp only [Act.put, List.setIfInBounds_toArray, List.set_cons_zero, List.set_cons_succ, List.toList_toArray]
  refine wpAnyH_take (i := 4) (v := .int .i64 n) (by simp only [List.getElem?_toArray, List.getElem?_cons_succ, List.getElem?_cons_zero]; exact rfl) (by kernel_rfl) (by kernel_rfl) (by kernel_rfl) (by intro _ _ _ h; exact h) (Or.inl ⟨by kernel_rfl, by intro w hSw; go_simp⟩) (by assumption) ?_
  simp only [Act.put, List.setIfInBounds_toArray, List.set_cons_zero, List.set_cons_succ, List.toList_toArray]
  refine wpAnyH_take (i := 10) (v := .pointer (some ⟨w.heap.size, 0, none⟩)) (by simp only [List.getElem?_toArray, List.getElem?_cons_succ, List.getElem?_cons_zero]; exact rfl) (by kernel_rfl) (by kernel_rfl) (by kernel_rfl) (by intro _ _ _ h; exact h) (Or.inl ⟨by kernel_rfl, by intro w hSw; go_simp⟩) (by assumption) ?_
  simp only [Act.put, List.setIfInBounds_toArray, List.set_cons_zero, List.set_cons_succ, List.toList_toArray]
  refine wpAnyH_take (i := 12) (v := .int .i64 n) (by simp only [List.getElem?_toArray, List.getElem?_cons_succ, List.getElem?_cons_zero]; exact rfl) (by kernel_rfl) (by kernel_rfl) (by kernel_rfl) (by intro _ _ _ h; exact h) (Or.inl ⟨by kernel_rfl, by intro w hSw; go_simp⟩) (by assumption) ?_
  simp only [Act.put, List.setIfInBounds_toArray, List.set_cons_zero, List.set_cons_succ, List.toList_toArray]
  refine wpAnyH_take (i := 5) (v := .int .i64 u) (by simp only [List.getElem?_toArray, List.getElem?_cons_succ, List.getElem?_cons_zero]; exact rfl) (by kernel_rfl) (by kernel_rfl) (by kernel_rfl) (by intro _ _ _ h; exact h) (Or.inl ⟨by kernel_rfl, by intro w hSw; go_simp⟩) (by assumption) ?_
  simp only [Act.put, List.setIfInBounds_toArray, List.set_cons_zero, List.set_cons_succ, List.toList_toArray]
  refine wpAnyH_take (i := 13) (v := .int .i64 u) (by simp only [List.getElem?_toArray, List.getElem?_cons_succ, List.getElem?_cons_zero]; exact rfl) (by kernel_rfl) (by kernel_rfl) (by kernel_rfl) (by intro _ _ _ h; exact h) (Or.inl ⟨by kernel_rfl, by intro w hSw; go_simp⟩) (by assumption) ?_
  simp only [Act.put, List.setIfInBounds_toArray, List.set_cons_zero, List.set_cons_succ, List.toList_toArray]
  refine wpAnyH_take (i := 6) (v := .int .i64 v) (by simp only [List.getElem?_toArray, List.getElem?_cons_succ, List.getElem?_cons_zero]; exact rfl) (by kernel_rfl) (by kernel_rfl) (by kernel_rfl) (by intro _ _ _ h; exact h) (Or.inl ⟨by kernel_rfl, by intro w hSw; go_simp⟩) (by assumption) ?_
  simp only [Act.put, List.setIfInBounds_toArray, List.set_cons_zero, List.set_cons_succ, List.toList_toArray]
  refine wpAnyH_take (i := 14) (v := .int .i64 v) (by simp only [List.getElem?_toArray, List.getElem?_cons_succ, List.getElem?_cons_zero]; exact rfl) (by kernel_rfl) (by kernel_rfl) (by kernel_rfl) (by intro _ _ _ h; exact h) (Or.inl ⟨by kernel_rfl, by intro w hSw; go_simp⟩) (by assumption) ?_
  simp only [Act.put, List.setIfInBounds_toArray, List.set_cons_zero, List.set_cons_succ, List.toList_toArray]
  refine wpAnyH_take (i := 7) (v := .int .i64 (j : Int)) (by simp only [List.getElem?_toArray, List.getElem?_cons_succ, List.getElem?_cons_zero]; exact rfl) (by kernel_rfl) (by kernel_rfl) (by kernel_rfl) (by intro _ _ _ h; exact h) (Or.inl ⟨by kernel_rfl, by intro w hSw; go_simp⟩) (by assumption) ?_
  simp only [Act.put, List.setIfInBounds_toArray, List.set_cons_zero, List.set_cons_succ, List.toList_toArray]
  refine wpAnyH_take (i := 15) (v := .int .i64 (j : Int)) (by simp only [List.getElem?_toArray, List.getElem?_cons_succ, List.getElem?_cons_zero]; exact rfl) (by kernel_rfl) (by kernel_rfl) (by kernel_rfl) (by intro _ _ _ h; exact h) (Or.inl ⟨by kernel_rfl, by intro w hSw; go_simp⟩) (by assumption) ?_
  simp only [Act.put, List.setIfInBounds_toArray, List.set_cons_zero, List.set_cons_succ, List.toList_toArray]
  refine wpAnyH_ready (rs := [3]) (by kernel_rfl) (by simp) ?_
  refine AllReadyH.cons (o := _) (by simp only [List.getElem?_toArray, List.getElem?_cons_succ, List.getElem?_cons_zero]; exact rfl) (fun K hK => ?_) AllReadyH.nil
  rw [if_pos (by rfl)]
  go_simp
  go_at_call 66
  refine (pick_any w.heap.size (0 + 1) _ rs _ (by omega) (by omega) h2d).mono ?_
  rintro e wq0 ⟨y, rfl, hy0, hy1, hy2, hy3, hb0⟩
  have hq0 := Nat.le_of_eq hb0.symm
  clear hb0
  have hS1 := True.intro
  refine hK.out _ _ hS1 (fun _ => ?_)
  clear hK K
  try simp only [Act.put, List.setIfInBounds_toArray, List.set_cons_zero, List.set_cons_succ, List.toList_toArray]
  refine wpAnyH_ready (rs := [8]) (by kernel_rfl) (by simp) ?_
  refine AllReadyH.cons (o := _) (by simp only [List.getElem?_toArray, List.getElem?_cons_succ, List.getElem?_cons_zero]; exact rfl) (fun K hK => ?_) AllReadyH.nil
  rw [if_pos (by rfl)]
  go_simp
  go_at_call 67
  refine (HPW.out _).mono ?_
  rintro e wq1 ⟨rfl, hb1⟩
  subst hb1
  obtain ⟨r0, hr0⟩ : ∃ r0, y.tmod (p : Int) = r0 := ⟨_, rfl⟩
  have hr1 : y % (p : Int) = r0 := by rw [← hr0, Int.tmod_eq_emod_of_nonneg hy0]
  have hrb : 0 ≤ r0 ∧ r0 < (p : Int) := by rw [← hr1]; exact ⟨Int.emod_nonneg _ (by omega), Int.emod_lt_of_pos _ (by omega)⟩
  have hrw : IntKind.i64.wrap r0 = r0 := IntWalk.i64_in _ (by omega)
  have hS2 := True.intro
  refine hK.out _ _ hS2 (fun _ => ?_)
  clear hK K
  try simp only [Act.put, List.setIfInBounds_toArray, List.set_cons_zero, List.set_cons_succ, List.toList_toArray]
  refine wpAnyH_take (i := 9) (v := .int .i64 r0) (by simp only [List.getElem?_toArray, List.getElem?_cons_succ, List.getElem?_cons_zero]; exact rfl) (by kernel_rfl) (by kernel_rfl) (by kernel_rfl) (by intro _ _ _ h; exact h) (Or.inl ⟨by kernel_rfl, by intro w hSw; go_simp⟩) (by assumption) ?_
  simp only [Act.put, List.setIfInBounds_toArray, List.set_cons_zero, List.set_cons_succ, List.toList_toArray]
  refine wpAnyH_ready (rs := [11]) (by kernel_rfl) (by simp) ?_
  refine AllReadyH.cons (o := _) (by simp only [List.getElem?_toArray, List.getElem?_cons_succ, List.getElem?_cons_zero]; exact rfl) (fun K hK => ?_) AllReadyH.nil
  rw [if_pos (by rfl)]
  go_simp
  go_at_call 66
  refine (pick_any w.heap.size (0 + 1 + 1) _ rs _ (by omega) (by omega) hy2).mono ?_
  rintro e wq2 ⟨z, rfl, hz0, hz1, hz2, hz3, hb2⟩
  have hq2 := Nat.le_of_eq hb2.symm
  clear hb2
  have hS3 := True.intro
  refine hK.out _ _ hS3 (fun _ => ?_)
  clear hK K
  try simp only [Act.put, List.setIfInBounds_toArray, List.set_cons_zero, List.set_cons_succ, List.toList_toArray]
  refine wpAnyH_ready (rs := [16]) (by kernel_rfl) (by simp) ?_
  refine AllReadyH.cons (o := _) (by simp only [List.getElem?_toArray, List.getElem?_cons_succ, List.getElem?_cons_zero]; exact rfl) (fun K hK => ?_) AllReadyH.nil
  rw [if_pos (by rfl)]
  go_simp
  go_at_call 67
  refine (HPW.out _).mono ?_
  rintro e wq3 ⟨rfl, hb3⟩
  subst hb3
  have hS4 := True.intro
  refine hK.out _ _ hS4 (fun _ => ?_)
  clear hK K
  try simp only [Act.put, List.setIfInBounds_toArray, List.set_cons_zero, List.set_cons_succ, List.toList_toArray]
  refine wpAnyH_take (i := 17) (v := .int .i64 d) (by simp only [List.getElem?_toArray, List.getElem?_cons_succ, List.getElem?_cons_zero]; exact rfl) (by kernel_rfl) (by kernel_rfl) (by kernel_rfl) (by intro _ _ _ h; exact h) (Or.inl ⟨by kernel_rfl, by intro w hSw; go_simp⟩) (by assumption) ?_
  simp only [Act.put, List.setIfInBounds_toArray, List.set_cons_zero, List.set_cons_succ, List.toList_toArray]
  refine wpAnyH_ready (rs := [18]) (by kernel_rfl) (by simp) ?_
  refine AllReadyH.cons (o := _) (by simp only [List.getElem?_toArray, List.getElem?_cons_succ, List.getElem?_cons_zero]; exact rfl) (fun K hK => ?_) AllReadyH.nil
  rw [if_pos (by rfl)]
  go_simp
  refine hK.out _ _ trivial (fun _ => ?_)
  clear hK K
  try simp only [Act.put, List.setIfInBounds_toArray, List.set_cons_zero, List.set_cons_succ, List.toList_toArray]
  have hs5 : d ≤ 40000 := by omega
  obtain ⟨w4, hw4⟩ : ∃ w4, w4 = wq2.alloc (.cells #[.int .i64 r0, .int .i64 z, .int .i64 0, .int .i64 (-1), .int .i64 d] 3) := ⟨_, rfl⟩
  have hz4 : Rdr w4 w.heap.size rs (0 + 1 + 1 + 1) := by rw [hw4]; exact hz2.below ((Below.refl _ _).alloc hz2.lt _)
  have hrd4 : Rd w4 (wq2.heap.size + 1) (some ⟨wq2.heap.size, 0, none⟩) (ints [r0, z, 0, -1, d]) := by rw [hw4]; exact rd_new wq2 (ints [r0, z, 0, -1, d]).toArray 3
  have hbe4 : Below wq2.heap.size wq2 w4 := by rw [hw4]; exact (Below.refl _ _).alloc (Nat.le_refl _) _
  have hlt4 := hz2.lt
  rw [← hw4]
  clear hw4
  refine wpAnyH_ready (rs := [19]) (by kernel_rfl) (by simp) ?_
  refine AllReadyH.cons (o := _) (by simp only [List.getElem?_toArray, List.getElem?_cons_succ, List.getElem?_cons_zero]; exact rfl) (fun K hK => ?_) AllReadyH.nil
  rw [if_pos (by rfl)]
  go_simp
  go_at_call 52
  refine (one_any w.heap.size (0 + 1 + 1 + 1) _ _ _ [r0, z, 0, -1, d] rs _ (by simp) (by simp) (by omega) hz4 hrd4 (by intro b o e; injection e with e; injection e with e; omega)).mono ?_
  rintro e wq4 ⟨k, hk, rfl, h6, hg6, hb4⟩
  clear hb4
  have hS5 := True.intro
  refine hK.out _ _ hS5 (fun _ => ?_)
  clear hK K
  try simp only [Act.put, List.setIfInBounds_toArray, List.set_cons_zero, List.set_cons_succ, List.toList_toArray]
  have hzb := hz1 (by omega)
  have hx : ∀ x ∈ ([r0, z, 0, -1, d] : List Int), -1 ≤ x ∧ x ≤ 65536 := by
    intro x hx
    simp only [List.mem_cons, List.not_mem_nil, or_false] at hx
    rcases hx with rfl | rfl | rfl | rfl | rfl <;> omega
  have hx6 := hx _ (List.getElem_mem hk)
  obtain ⟨x6, hxx⟩ : ∃ x, x = ([r0, z, 0, -1, d] : List Int)[k] := ⟨_, rfl⟩
  rw [← hxx] at hx6 ⊢
  have hbd : Below w.heap.size w w2.drew := hbel2.trans ((Dr.n w2 1).below _)
  have hbel3 := chg_low5 hbd (Nat.le_refl _) (Nat.le_refl _) hy3
  have hbel4 := chg_low5 hbel3 (Nat.le_refl _) (Nat.le_refl _) hz3
  have hbel5 := hbel4.trans (hbe4.mono hbel4.size)
  have hbel6 := chg_low5 hbel5 (Nat.le_refl _) (Nat.le_refl _) hg6
  clear hx hxx
  refine wpAnyH_take (i := 20) (v := .int .i64 n) (by simp only [List.getElem?_toArray, List.getElem?_cons_succ, List.getElem?_cons_zero]; exact rfl) (by kernel_rfl) (by kernel_rfl) (by kernel_rfl) (by intro _ _ _ h; exact h) (Or.inl ⟨by kernel_rfl, by intro w hSw; go_simp⟩) (by assumption) ?_
  simp only [Act.put, List.setIfInBounds_toArray, List.set_cons_zero, List.set_cons_succ, List.toList_toArray]
  refine wpAnyH_take (i := 21) (v := .int .i64 x6) (by simp only [List.getElem?_toArray, List.getElem?_cons_succ, List.getElem?_cons_zero]; exact rfl) (by kernel_rfl) (by kernel_rfl) (by kernel_rfl) (by intro _ _ _ h; exact h) (Or.inl ⟨by kernel_rfl, by intro w hSw; go_simp⟩) (by assumption) ?_
  simp only [Act.put, List.setIfInBounds_toArray, List.set_cons_zero, List.set_cons_succ, List.toList_toArray]
  refine wpAnyH_done (by kernel_rfl) ?_ _
  try simp only [Act.put, List.setIfInBounds_toArray, List.set_cons_zero, List.set_cons_succ]
  go_wp2_with fail
  go_ret2
  exact ⟨n, x6, rfl, hn, hx6, hbel6⟩
end Go.Proofs.Ytcjnmconehfbgaa
