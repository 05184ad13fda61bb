/-
  Walks: the draw of StairPut.
-/
import Derived.Test.YtdoihndifaebcaaD5
import Derived.Test.YtdoihndifaebcaaD4
namespace Go.Proofs.Ytdoihndifaebcaa
open Go.RowKit NP
set_option linter.unusedVariables false
set_option linter.unusedSimpArgs false

set_option maxHeartbeats 1000000 in
theorem DrawStairPut_any (a : Option Addr) (c B : Nat) (bs : List Int) (w : World) (h : Rd w B a (bs.map (Value.int .u8))) (hB : B ≤ w.heap.size) (hb : ∀ n ∈ bs, (Lit.int .u8 n).wf = true) (hl : bs.length ≤ 1048576) (hc : bs.length ≤ c) :
    Calls Try.prog 28 #[.slice a bs.length c] w fun e w' => ∃ a' c' M x, e = .returned (.tuple #[.slice a' M.length c', .int .i64 x]) ∧ Own w' w.heap.size w'.heap.size 3 (.slice a' M.length c') (ints M) ∧ (Small M ∧ -1000 ≤ x ∧ x ≤ 1000) ∧ Below w.heap.size w w' := by
  go_enter Try.func28, Try.ntmps28
  go_wp2_with fail
  refine (newReader_any _ _ B bs _ h hB hb hl hc).mono ?_
  rintro e w1 ⟨rfl, h1, hb1, -⟩
  clear hb hl hc h
  have hlt := h1.lt
  have hz := hb1.size
  obtain ⟨rs, hrs⟩ : ∃ rs, rs = bs.take 2000 := ⟨_, rfl⟩
  rw [← hrs] at h1
  clear hrs
  go_wp2_with fail
  refine (one_any w.heap.size _ _ _ _ [3, 2, 4, 1, 0, 5, 8] rs _ (by simp) (by simp) (by omega) (h1.below ((Below.refl _ _).alloc hlt _)) (rd_new w1 _ _) (by intro b o e; injection e with e; injection e with e; omega)).mono ?_
  rintro e w2 ⟨k, hk, rfl, h2, hg2, -⟩
  have hx : ∀ x ∈ ([3, 2, 4, 1, 0, 5, 8] : List Int), 0 ≤ x ∧ x ≤ 16 := by decide
  have hx1 := hx _ (List.getElem_mem hk)
  obtain ⟨x, hxx⟩ : ∃ x, x = ([3, 2, 4, 1, 0, 5, 8] : List Int)[k] := ⟨_, rfl⟩
  rw [← hxx] at hx1 ⊢
  clear hx hxx hk h1
  have hG2 := chg_trans (World.grownBy_alloc w1 (.cells (ints [3, 2, 4, 1, 0, 5, 8]).toArray 3) (some w.heap.size)) hg2
  clear hg2
  go_wp2_with fail
  refine (partsOf_any w.heap.size _ x rs _ hx1.1 hx1.2 (by omega) h2).mono ?_
  rintro e w3 ⟨a1, c1, M1, rfl, ho1, hs1, ⟨q3, hq3, h3⟩, hg3⟩
  have hG3 := chg_trans hG2 hg3
  have hz2 := hG2.size
  replace ho1 := ho1.lower hz2
  clear hx1 h2 hG2 hg3
  have hs1 := small_of_parts hs1
  have HO1 := Lib.hid ho1
  clear ho1
  go_wp2_with fail
  refine (pick_any w.heap.size _ _ rs _ (by omega) (by omega) h3).mono ?_
  rintro e w4 ⟨z, rfl, hz0, -, h4, hg4, -⟩
  have HO2 := Lib.hid ((HO1.out.chg hg4 hlt).more)
  have hG4 := chg_trans hG3 hg4
  clear HO1 hG3 hg4 h3
  by_cases hzz : z = 0
  · have b0 : (z == 0) = true := beq_iff_eq.2 hzz
    clear hzz
    go_wp2_with fail
    refine (someParts_grown w.heap.size _ rs _ (by omega) h4).mono ?_
    rintro e w6 ⟨a3, c3, M3, rfl, ho3, hs3, ⟨q6, hq6, h6⟩, hg6⟩
    have hG6 := chg_trans hG4 hg6
    have hz4 := hG4.size
    have HSM := Lib.hid hs3
    replace ho3 := ho3.lower hz4
    clear hg6 hG4 hs1 hs3 HO2 h4
    have hM := HSM.out.1
    go_wp2_with fail
    refine (one_any w.heap.size _ _ _ _ [(M3.length : Int), (M3.length : Int) + 1, 3, 2, (M3.length : Int) - 1, 0, -1, 5] rs _ (by simp) (by simp) (by omega) (h6.below ((Below.refl _ _).alloc h6.lt _)) (rd_new w6 _ _) (by intro b o e; injection e with e; injection e with e; have := h6.lt; omega)).mono ?_
    rintro e w9 ⟨k, hk, rfl, h9, hg9, -⟩
    have hx : ∀ x ∈ ([(M3.length : Int), (M3.length : Int) + 1, 3, 2, (M3.length : Int) - 1, 0, -1, 5] : List Int), -1000 ≤ x ∧ x ≤ 1000 := by
      intro x hx
      have := HSM.out.1
      simp at hx
      omega
    have hx6 := hx _ (List.getElem_mem hk)
    obtain ⟨x6, hxx⟩ : ∃ x, x = ([(M3.length : Int), (M3.length : Int) + 1, 3, 2, (M3.length : Int) - 1, 0, -1, 5] : List Int)[k] := ⟨_, rfl⟩
    rw [← hxx] at hx6 ⊢
    clear hx hxx hk
    have ho9 := ((ho3.alloc (.cells (ints [(M3.length : Int), (M3.length : Int) + 1, 3, 2, (M3.length : Int) - 1, 0, -1, 5]).toArray 3)).chg hg9 hlt).more
    have hG9 := chg_trans (chg_alloc hG6 (.cells (ints [(M3.length : Int), (M3.length : Int) + 1, 3, 2, (M3.length : Int) - 1, 0, -1, 5]).toArray 3)) hg9
    have hB9 : Below w.heap.size w w9 := hb1.grown hG9 hz (fun k hk => by injection hk with hk; omega)
    clear hg9 hG9 ho3
    go_wp2_with fail
    go_ret2
    exact ⟨a3, c3, M3, x6, rfl, ho9.lower hz, ⟨HSM.out, hx6⟩, hB9⟩
  · have b0 : (z == 0) = false := beq_eq_false_iff_ne.2 hzz
    clear hzz
    have HSM := Lib.hid hs1
    have ho2 := HO2.out
    clear hs1
    have hM := HSM.out.1
    go_wp2_with fail
    refine (one_any w.heap.size _ _ _ _ [(M1.length : Int), (M1.length : Int) + 1, 3, 2, (M1.length : Int) - 1, 0, -1, 5] rs _ (by simp) (by simp) (by omega) (h4.below ((Below.refl _ _).alloc h4.lt _)) (rd_new w4 _ _) (by intro b o e; injection e with e; injection e with e; have := h4.lt; omega)).mono ?_
    rintro e w9 ⟨k, hk, rfl, h9, hg9, -⟩
    have hx : ∀ x ∈ ([(M1.length : Int), (M1.length : Int) + 1, 3, 2, (M1.length : Int) - 1, 0, -1, 5] : List Int), -1000 ≤ x ∧ x ≤ 1000 := by
      intro x hx
      have := HSM.out.1
      simp at hx
      omega
    have hx6 := hx _ (List.getElem_mem hk)
    obtain ⟨x6, hxx⟩ : ∃ x, x = ([(M1.length : Int), (M1.length : Int) + 1, 3, 2, (M1.length : Int) - 1, 0, -1, 5] : List Int)[k] := ⟨_, rfl⟩
    rw [← hxx] at hx6 ⊢
    clear hx hxx hk
    have ho9 := ((ho2.alloc (.cells (ints [(M1.length : Int), (M1.length : Int) + 1, 3, 2, (M1.length : Int) - 1, 0, -1, 5]).toArray 3)).chg hg9 hlt).more
    have hG9 := chg_trans (chg_alloc hG4 (.cells (ints [(M1.length : Int), (M1.length : Int) + 1, 3, 2, (M1.length : Int) - 1, 0, -1, 5]).toArray 3)) hg9
    have hB9 : Below w.heap.size w w9 := hb1.grown hG9 hz (fun k hk => by injection hk with hk; omega)
    clear hg9 hG9 ho2
    go_wp2_with fail
    go_ret2
    exact ⟨a1, c1, M1, x6, rfl, ho9.lower hz, ⟨HSM.out, hx6⟩, hB9⟩
end Go.Proofs.Ytdoihndifaebcaa
