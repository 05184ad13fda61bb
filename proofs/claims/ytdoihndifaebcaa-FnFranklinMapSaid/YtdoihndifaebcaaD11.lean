/-
  Walks: the draws of parts of a kind.
-/
import Derived.Test.YtdoihndifaebcaaW40
import Derived.Test.YtdoihndifaebcaaD5
namespace Go.Proofs.Ytdoihndifaebcaa
open Go.RowKit NP
set_option linter.unusedVariables false
set_option linter.unusedSimpArgs false

set_option maxHeartbeats 1000000 in
theorem partsOfKind_any (g q : Nat) (bs : List Int) (s : ByteArray) (K : List Int → Bool) (hSK : SK s K) (w : World) (hq : q ≤ 800000) (h : Rdr w g bs q) :
    Calls Try.prog 66 #[.pointer (some ⟨g, 0, none⟩), .string s] w (Drawn g bs SmallParts (q + 4) w) := by
  have hlt := h.lt
  go_enter Try.func66, Try.ntmps66
  go_wp2_with fail
  refine (one_any g _ _ _ _ [6, 8, 9, 5, 10, 4, 12, 3, 1, 0] bs _ (by simp) (by simp) (by omega) (h.below ((Below.refl _ _).alloc hlt _)) (rd_new w _ _) (by intro b o e; injection e with e; injection e with e; omega)).mono ?_
  rintro e w1 ⟨k, hk, rfl, h1, hg1, -⟩
  have hx : ∀ x ∈ ([6, 8, 9, 5, 10, 4, 12, 3, 1, 0] : List Int), 0 ≤ x ∧ x ≤ 12 := by decide
  have hx1 := hx _ (List.getElem_mem hk)
  obtain ⟨x, hxx⟩ : ∃ x, x = ([6, 8, 9, 5, 10, 4, 12, 3, 1, 0] : List Int)[k] := ⟨_, rfl⟩
  rw [← hxx] at hx1 ⊢
  clear hx hxx hk h
  obtain ⟨n, rfl⟩ := Int.eq_ofNat_of_zero_le hx1.1
  have hG1 := chg_trans (World.grownBy_alloc w (.cells (ints [6, 8, 9, 5, 10, 4, 12, 3, 1, 0]).toArray 3) (some g)) hg1
  clear hg1
  go_wp2_with fail
  refine (kindList_any s K hSK n (by omega) _).mono ?_
  rintro e w2 ⟨a2, c2, us, rfl, hul, ho, hin, hb2⟩
  have h2 := h1.below (hb2.mono h1.lt)
  have hG2 := chg_below hG1 (hb2.mono hG1.size)
  have hz1 := hG1.size
  have hz2 := hG2.size
  clear h1 hG1 hb2 hx1
  by_cases h0 : us.length = 0
  · have b0 : ((us.length : Int) == 0) = true := beq_iff_eq.2 (by omega)
    clear ho hin
    go_wp2_with fail
    go_ret
    exact ⟨_, _, [], rfl, ((Own.empty w2 3).lower hz2).more, ⟨by simp, by simp⟩, ⟨q + 1, by omega, h2.below ((Below.refl _ _).alloc h2.lt _)⟩, chg_alloc hG2 _⟩
  · have b0 : ((us.length : Int) == 0) = false := beq_eq_false_iff_ne.2 (by omega)
    have HO := Lib.hid ho
    have HIN := Lib.hid hin
    clear ho hin
    go_wp2_with fail
    refine (pick_any g _ _ bs _ (by omega) (by omega) h2).mono ?_
    rintro e w3 ⟨y, rfl, hy0, hy1, h3, hg3, -⟩
    obtain ⟨j, rfl⟩ := Int.eq_ofNat_of_zero_le hy0
    have hj : j < us.length := by have := hy1 (by omega); omega
    have hlt2 : g < w1.heap.size := by omega
    have HO3 := Lib.hid (HO.out.chg hg3 hlt2).more
    obtain ⟨M, hs, hM⟩ := HIN.out _ (List.getElem_mem hj)
    obtain ⟨gA, cA, hv, hlo, hhi, hc, -⟩ := HO3.out.at_ hj
    have hM3 := (hM.chg hg3 hlt2).more
    obtain ⟨aM, cM, hf⟩ := hM3.form
    rw [List.length_map] at hf
    rw [hf] at hM3 hc
    injection hv with hv _ _
    subst hv
    have HM := Lib.hid (hM3.lower hz1)
    have HS := Lib.hid hs
    have hG3 := chg_trans hG2 hg3
    clear hM hM3 hf hG2 hg3 h2 hs
    go_wp2_with fail
    go_ret
    exact ⟨aM, cM, M, rfl, HM.out, HS.out, ⟨_, by omega, h3⟩, hG3⟩

set_option maxHeartbeats 1000000 in
theorem DrawHooksToOdd_any (a : Option Addr) (c B : Nat) (bs : List Int) (w : World) (h : Rd w B a (bs.map (Value.int .u8))) (hB : B ≤ w.heap.size) (hb : ∀ n ∈ bs, (Lit.int .u8 n).wf = true) (hl : bs.length ≤ 1048576) (hc : bs.length ≤ c) :
    Calls Try.prog 36 #[.slice a bs.length c] w fun e w' => ∃ a' c' M, e = .returned (.slice a' M.length c') ∧ Own w' w.heap.size w'.heap.size 3 (.slice a' M.length c') (ints M) ∧ Small M ∧ Below w.heap.size w w' := by
  go_enter Try.func36, Try.ntmps36
  go_wp2_with fail
  refine (newReader_any _ _ B bs _ h hB hb hl hc).mono ?_
  rintro e w1 ⟨rfl, h1, hb1, -⟩
  clear hb hl hc h
  have hlt := h1.lt
  have hz := hb1.size
  obtain ⟨rs, hrs⟩ : ∃ rs, rs = bs.take 2000 := ⟨_, rfl⟩
  rw [← hrs] at h1
  clear hrs
  go_wp2_with fail
  refine (pick_any w.heap.size _ _ rs _ (by omega) (by omega) h1).mono ?_
  rintro e w4 ⟨z, rfl, hz0, -, h4, hg4, -⟩
  clear h1
  by_cases hzz : z = 0
  · have b0 : (z == 0) = true := beq_iff_eq.2 hzz
    clear hzz
    go_wp2_with fail
    refine (someParts_grown w.heap.size _ rs _ (by omega) h4).mono ?_
    rintro e w6 ⟨a3, c3, M3, rfl, ho3, hs3, -, hg6⟩
    have hG6 := chg_trans hg4 hg6
    have hz4 := hg4.size
    go_wp2_with fail
    go_ret
    exact ⟨a3, c3, M3, rfl, (ho3.lower hz4).lower hz, hs3, hb1.grown hG6 hz (fun k hk => by injection hk with hk; omega)⟩
  · have b0 : (z == 0) = false := beq_eq_false_iff_ne.2 hzz
    clear hzz
    go_wp2_with fail
    refine (partsOfKind_any w.heap.size _ rs ⟨#[115, 101, 108, 102]⟩ _ sk_self _ (by omega) h4).mono ?_
    rintro e w6 ⟨a3, c3, M3, rfl, ho3, hs3, -, hg6⟩
    have hG6 := chg_trans hg4 hg6
    have hz4 := hg4.size
    go_wp2_with fail
    go_ret
    exact ⟨a3, c3, M3, rfl, (ho3.lower hz4).lower hz, small_of_parts hs3, hb1.grown hG6 hz (fun k hk => by injection hk with hk; omega)⟩

set_option maxHeartbeats 1000000 in
theorem DrawOddToHooks_any (a : Option Addr) (c B : Nat) (bs : List Int) (w : World) (h : Rd w B a (bs.map (Value.int .u8))) (hB : B ≤ w.heap.size) (hb : ∀ n ∈ bs, (Lit.int .u8 n).wf = true) (hl : bs.length ≤ 1048576) (hc : bs.length ≤ c) :
    Calls Try.prog 40 #[.slice a bs.length c] w fun e w' => ∃ a' c' M, e = .returned (.slice a' M.length c') ∧ Own w' w.heap.size w'.heap.size 3 (.slice a' M.length c') (ints M) ∧ Small M ∧ Below w.heap.size w w' := by
  go_enter Try.func40, Try.ntmps40
  go_wp2_with fail
  refine (newReader_any _ _ B bs _ h hB hb hl hc).mono ?_
  rintro e w1 ⟨rfl, h1, hb1, -⟩
  clear hb hl hc h
  have hlt := h1.lt
  have hz := hb1.size
  obtain ⟨rs, hrs⟩ : ∃ rs, rs = bs.take 2000 := ⟨_, rfl⟩
  rw [← hrs] at h1
  clear hrs
  go_wp2_with fail
  refine (pick_any w.heap.size _ _ rs _ (by omega) (by omega) h1).mono ?_
  rintro e w4 ⟨z, rfl, hz0, -, h4, hg4, -⟩
  clear h1
  by_cases hzz : z = 0
  · have b0 : (z == 0) = true := beq_iff_eq.2 hzz
    clear hzz
    go_wp2_with fail
    refine (someParts_grown w.heap.size _ rs _ (by omega) h4).mono ?_
    rintro e w6 ⟨a3, c3, M3, rfl, ho3, hs3, -, hg6⟩
    have hG6 := chg_trans hg4 hg6
    have hz4 := hg4.size
    go_wp2_with fail
    go_ret
    exact ⟨a3, c3, M3, rfl, (ho3.lower hz4).lower hz, hs3, hb1.grown hG6 hz (fun k hk => by injection hk with hk; omega)⟩
  · have b0 : (z == 0) = false := beq_eq_false_iff_ne.2 hzz
    clear hzz
    go_wp2_with fail
    refine (partsOfKind_any w.heap.size _ rs ⟨#[100, 105, 115, 116, 105, 110, 99, 116, 111, 100, 100]⟩ _ sk_distinctodd _ (by omega) h4).mono ?_
    rintro e w6 ⟨a3, c3, M3, rfl, ho3, hs3, -, hg6⟩
    have hG6 := chg_trans hg4 hg6
    have hz4 := hg4.size
    go_wp2_with fail
    go_ret
    exact ⟨a3, c3, M3, rfl, (ho3.lower hz4).lower hz, small_of_parts hs3, hb1.grown hG6 hz (fun k hk => by injection hk with hk; omega)⟩

set_option maxHeartbeats 1000000 in
theorem DrawFranklinMap_any (a : Option Addr) (c B : Nat) (bs : List Int) (w : World) (h : Rd w B a (bs.map (Value.int .u8))) (hB : B ≤ w.heap.size) (hb : ∀ n ∈ bs, (Lit.int .u8 n).wf = true) (hl : bs.length ≤ 1048576) (hc : bs.length ≤ c) :
    Calls Try.prog 32 #[.slice a bs.length c] w fun e w' => ∃ a' c' M, e = .returned (.slice a' M.length c') ∧ Own w' w.heap.size w'.heap.size 3 (.slice a' M.length c') (ints M) ∧ Small M ∧ Below w.heap.size w w' := by
  go_enter Try.func32, Try.ntmps32
  go_wp2_with fail
  refine (newReader_any _ _ B bs _ h hB hb hl hc).mono ?_
  rintro e w1 ⟨rfl, h1, hb1, -⟩
  clear hb hl hc h
  have hlt := h1.lt
  have hz := hb1.size
  obtain ⟨rs, hrs⟩ : ∃ rs, rs = bs.take 2000 := ⟨_, rfl⟩
  rw [← hrs] at h1
  clear hrs
  go_wp2_with fail
  refine (pick_any w.heap.size _ _ rs _ (by omega) (by omega) h1).mono ?_
  rintro e w4 ⟨z, rfl, hz0, -, h4, hg4, -⟩
  clear h1
  by_cases hzz : z = 0
  · have b0 : (z == 0) = true := beq_iff_eq.2 hzz
    clear hzz
    go_wp2_with fail
    refine (someParts_grown w.heap.size _ rs _ (by omega) h4).mono ?_
    rintro e w6 ⟨a3, c3, M3, rfl, ho3, hs3, -, hg6⟩
    have hG6 := chg_trans hg4 hg6
    have hz4 := hg4.size
    go_wp2_with fail
    go_ret
    exact ⟨a3, c3, M3, rfl, (ho3.lower hz4).lower hz, hs3, hb1.grown hG6 hz (fun k hk => by injection hk with hk; omega)⟩
  · have b0 : (z == 0) = false := beq_eq_false_iff_ne.2 hzz
    clear hzz
    go_wp2_with fail
    refine (partsOfKind_any w.heap.size _ rs ⟨#[100, 105, 115, 116, 105, 110, 99, 116]⟩ _ sk_distinct _ (by omega) h4).mono ?_
    rintro e w6 ⟨a3, c3, M3, rfl, ho3, hs3, -, hg6⟩
    have hG6 := chg_trans hg4 hg6
    have hz4 := hg4.size
    go_wp2_with fail
    go_ret
    exact ⟨a3, c3, M3, rfl, (ho3.lower hz4).lower hz, small_of_parts hs3, hb1.grown hG6 hz (fun k hk => by injection hk with hk; omega)⟩

theorem DrawStairCut_any (a : Option Addr) (c B : Nat) (bs : List Int) (w : World) (h : Rd w B a (bs.map (Value.int .u8))) (hB : B ≤ w.heap.size) (hb : ∀ n ∈ bs, (Lit.int .u8 n).wf = true) (hl : bs.length ≤ 1048576) (hc : bs.length ≤ c) :
    Calls Try.prog 23 #[.slice a bs.length c] w fun e w' => ∃ a' c' M, e = .returned (.slice a' M.length c') ∧ Own w' w.heap.size w'.heap.size 3 (.slice a' M.length c') (ints M) ∧ Small M ∧ Below w.heap.size w w' := by
  go_enter Try.func23, Try.ntmps23
  go_wp2_with fail
  refine (DrawFranklinMap_any a c B bs _ h hB hb hl hc).mono ?_
  rintro e w1 ⟨a', c', M, rfl, ho, hs, hb1⟩
  go_wp2_with fail
  go_ret
  exact ⟨a', c', M, rfl, ho, hs, hb1⟩
end Go.Proofs.Ytdoihndifaebcaa
