/-
  Walks: the draws of numbers: CountParts, AtMostParts, JustParts, DivisorSum, Pentagonal, SignedDistinct.
-/
import Derived.Test.YtmdalnkjpbjcdaaC4
import Derived.Test.YtmdalnkjpbjcdaaD1
namespace Go.Proofs.Ytmdalnkjpbjcdaa
open Go.RowKit NP
set_option linter.unusedVariables false

theorem chg_low2 {a b c : World} {g : Nat} (hb : Below a.heap.size a b) (hg : a.heap.size ≤ g) (h : b.grownBy c (some g)) : Below a.heap.size a c := hb.grown h hb.size fun k hk => by injection hk with hk; omega

theorem DrawCountParts_any (a : Option Addr) (c B : Nat) (bs : List Int) (w : World) (h : Rd w B a (bs.map (Value.int .u8))) (hB : B ≤ w.heap.size) (hb : ∀ n ∈ bs, (Lit.int .u8 n).wf = true) (hl : bs.length ≤ 1048576) (hc : bs.length ≤ c) :
    Calls Try.prog 17 #[.slice a bs.length c] w fun e w' => ∃ x : Int, e = .returned (.int .i64 x) ∧ (-1000 ≤ x ∧ x ≤ 1000) ∧ Below w.heap.size w w' := by
  go_enter Try.func17, Try.ntmps17
  go_wp2_with fail
  refine (newReader_any _ _ B bs _ h hB hb hl hc).mono ?_
  rintro e w1 ⟨rfl, h1, hb1, -⟩
  go_wp2_with fail
  refine (one_any w.heap.size 0 _ _ _ [8, 12, 5, 20, 3, 16, 25, 1, 0, 30, 10, 41, -1] _ _ (by simp) (by simp) (by omega) (h1.below ((Below.refl _ _).alloc h1.lt _)) (rd_new w1 _ _) (by intro b o e; injection e with e; injection e with e; have := h1.lt; omega)).mono ?_
  rintro e w2 ⟨k, hk, rfl, h2, hg2, -⟩
  have hx : ∀ x ∈ ([8, 12, 5, 20, 3, 16, 25, 1, 0, 30, 10, 41, -1] : List Int), -1000 ≤ x ∧ x ≤ 1000 := by intro x hx; simp only [List.mem_cons, List.not_mem_nil, or_false] at hx; omega
  have hx2 := hx _ (List.getElem_mem hk)
  obtain ⟨x2, hxx⟩ : ∃ x, x = ([8, 12, 5, 20, 3, 16, 25, 1, 0, 30, 10, 41, -1] : List Int)[k] := ⟨_, rfl⟩
  rw [← hxx] at hx2 ⊢
  clear hx hxx hk
  have hb2 : Below w.heap.size w w2 := chg_low2 (hb1.alloc hb1.size _) (Nat.le_refl _) hg2
  clear hg2
  go_wp2_with fail
  go_ret
  exact ⟨x2, rfl, hx2, hb2⟩

theorem DrawPentagonal_any (a : Option Addr) (c B : Nat) (bs : List Int) (w : World) (h : Rd w B a (bs.map (Value.int .u8))) (hB : B ≤ w.heap.size) (hb : ∀ n ∈ bs, (Lit.int .u8 n).wf = true) (hl : bs.length ≤ 1048576) (hc : bs.length ≤ c) :
    Calls Try.prog 28 #[.slice a bs.length c] w fun e w' => ∃ x : Int, e = .returned (.int .i64 x) ∧ (-1000 ≤ x ∧ x ≤ 1000) ∧ Below w.heap.size w w' := by
  go_enter Try.func28, Try.ntmps28
  go_wp2_with fail
  refine (newReader_any _ _ B bs _ h hB hb hl hc).mono ?_
  rintro e w1 ⟨rfl, h1, hb1, -⟩
  go_wp2_with fail
  refine (one_any w.heap.size 0 _ _ _ [1, 2, -1, 0, 3, -2, -5, 100, -100, 101, -101] _ _ (by simp) (by simp) (by omega) (h1.below ((Below.refl _ _).alloc h1.lt _)) (rd_new w1 _ _) (by intro b o e; injection e with e; injection e with e; have := h1.lt; omega)).mono ?_
  rintro e w2 ⟨k, hk, rfl, h2, hg2, -⟩
  have hx : ∀ x ∈ ([1, 2, -1, 0, 3, -2, -5, 100, -100, 101, -101] : List Int), -1000 ≤ x ∧ x ≤ 1000 := by intro x hx; simp only [List.mem_cons, List.not_mem_nil, or_false] at hx; omega
  have hx2 := hx _ (List.getElem_mem hk)
  obtain ⟨x2, hxx⟩ : ∃ x, x = ([1, 2, -1, 0, 3, -2, -5, 100, -100, 101, -101] : List Int)[k] := ⟨_, rfl⟩
  rw [← hxx] at hx2 ⊢
  clear hx hxx hk
  have hb2 : Below w.heap.size w w2 := chg_low2 (hb1.alloc hb1.size _) (Nat.le_refl _) hg2
  clear hg2
  go_wp2_with fail
  go_ret
  exact ⟨x2, rfl, hx2, hb2⟩

theorem DrawDivisorSum_any (a : Option Addr) (c B : Nat) (bs : List Int) (w : World) (h : Rd w B a (bs.map (Value.int .u8))) (hB : B ≤ w.heap.size) (hb : ∀ n ∈ bs, (Lit.int .u8 n).wf = true) (hl : bs.length ≤ 1048576) (hc : bs.length ≤ c) :
    Calls Try.prog 30 #[.slice a bs.length c] w fun e w' => ∃ x : Int, e = .returned (.int .i64 x) ∧ (-1000 ≤ x ∧ x ≤ 1000) ∧ Below w.heap.size w w' := by
  go_enter Try.func30, Try.ntmps30
  go_wp2_with fail
  refine (newReader_any _ _ B bs _ h hB hb hl hc).mono ?_
  rintro e w1 ⟨rfl, h1, hb1, -⟩
  go_wp2_with fail
  refine (pick_any w.heap.size 0 40 _ _ (by omega) (by omega) h1).mono ?_
  rintro e w2 ⟨y0, rfl, hy0y0, hy1y0, h2, hg2, -⟩
  have hy2y0 : y0 < 40 := hy1y0 (by omega)
  clear hy1y0
  have hb2 : Below w.heap.size w w2 := chg_low2 hb1 (Nat.le_refl _) hg2
  clear hg2
  go_wp2_with fail
  refine (pick_any w.heap.size 1 40 _ _ (by omega) (by omega) h2).mono ?_
  rintro e w3 ⟨y1, rfl, hy0y1, hy1y1, h3, hg3, -⟩
  have hy2y1 : y1 < 40 := hy1y1 (by omega)
  clear hy1y1
  have hb3 : Below w.heap.size w w3 := chg_low2 hb2 (Nat.le_refl _) hg3
  clear hg3
  go_wp2_with fail
  refine (one_any w.heap.size 2 _ _ _ [6, 12, 1, 7, 28, 40, 9, 0, 41, -1, 1 + y0, 1 + y1] _ _ (by simp) (by simp) (by omega) (h3.below ((Below.refl _ _).alloc h3.lt _)) (rd_new w3 _ _) (by intro b o e; injection e with e; injection e with e; have := h3.lt; omega)).mono ?_
  rintro e w4 ⟨k, hk, rfl, h4, hg4, -⟩
  have hx : ∀ x ∈ ([6, 12, 1, 7, 28, 40, 9, 0, 41, -1, 1 + y0, 1 + y1] : List Int), -1000 ≤ x ∧ x ≤ 1000 := by intro x hx; simp only [List.mem_cons, List.not_mem_nil, or_false] at hx; omega
  have hx4 := hx _ (List.getElem_mem hk)
  obtain ⟨x4, hxx⟩ : ∃ x, x = ([6, 12, 1, 7, 28, 40, 9, 0, 41, -1, 1 + y0, 1 + y1] : List Int)[k] := ⟨_, rfl⟩
  rw [← hxx] at hx4 ⊢
  clear hx hxx hk
  have hb4 : Below w.heap.size w w4 := chg_low2 (hb3.alloc hb3.size _) (Nat.le_refl _) hg4
  clear hg4
  go_wp2_with fail
  go_ret
  exact ⟨x4, rfl, hx4, hb4⟩

theorem DrawSignedDistinct_any (a : Option Addr) (c B : Nat) (bs : List Int) (w : World) (h : Rd w B a (bs.map (Value.int .u8))) (hB : B ≤ w.heap.size) (hb : ∀ n ∈ bs, (Lit.int .u8 n).wf = true) (hl : bs.length ≤ 1048576) (hc : bs.length ≤ c) :
    Calls Try.prog 26 #[.slice a bs.length c] w fun e w' => ∃ x : Int, e = .returned (.int .i64 x) ∧ (-1000 ≤ x ∧ x ≤ 1000) ∧ Below w.heap.size w w' := by
  go_enter Try.func26, Try.ntmps26
  go_wp2_with fail
  refine (newReader_any _ _ B bs _ h hB hb hl hc).mono ?_
  rintro e w1 ⟨rfl, h1, hb1, -⟩
  go_wp2_with fail
  refine (pick_any w.heap.size 0 41 _ _ (by omega) (by omega) h1).mono ?_
  rintro e w2 ⟨y0, rfl, hy0y0, hy1y0, h2, hg2, -⟩
  have hy2y0 : y0 < 41 := hy1y0 (by omega)
  clear hy1y0
  have hb2 : Below w.heap.size w w2 := chg_low2 hb1 (Nat.le_refl _) hg2
  clear hg2
  go_wp2_with fail
  refine (pick_any w.heap.size 1 41 _ _ (by omega) (by omega) h2).mono ?_
  rintro e w3 ⟨y1, rfl, hy0y1, hy1y1, h3, hg3, -⟩
  have hy2y1 : y1 < 41 := hy1y1 (by omega)
  clear hy1y1
  have hb3 : Below w.heap.size w w3 := chg_low2 hb2 (Nat.le_refl _) hg3
  clear hg3
  go_wp2_with fail
  refine (pick_any w.heap.size 2 41 _ _ (by omega) (by omega) h3).mono ?_
  rintro e w4 ⟨y2, rfl, hy0y2, hy1y2, h4, hg4, -⟩
  have hy2y2 : y2 < 41 := hy1y2 (by omega)
  clear hy1y2
  have hb4 : Below w.heap.size w w4 := chg_low2 hb3 (Nat.le_refl _) hg4
  clear hg4
  go_wp2_with fail
  refine (one_any w.heap.size 3 _ _ _ [y0, y1, y2, 5, 7, 12, 40, 41, -1] _ _ (by simp) (by simp) (by omega) (h4.below ((Below.refl _ _).alloc h4.lt _)) (rd_new w4 _ _) (by intro b o e; injection e with e; injection e with e; have := h4.lt; omega)).mono ?_
  rintro e w5 ⟨k, hk, rfl, h5, hg5, -⟩
  have hx : ∀ x ∈ ([y0, y1, y2, 5, 7, 12, 40, 41, -1] : List Int), -1000 ≤ x ∧ x ≤ 1000 := by intro x hx; simp only [List.mem_cons, List.not_mem_nil, or_false] at hx; omega
  have hx5 := hx _ (List.getElem_mem hk)
  obtain ⟨x5, hxx⟩ : ∃ x, x = ([y0, y1, y2, 5, 7, 12, 40, 41, -1] : List Int)[k] := ⟨_, rfl⟩
  rw [← hxx] at hx5 ⊢
  clear hx hxx hk
  have hb5 : Below w.heap.size w w5 := chg_low2 (hb4.alloc hb4.size _) (Nat.le_refl _) hg5
  clear hg5
  go_wp2_with fail
  go_ret
  exact ⟨x5, rfl, hx5, hb5⟩



theorem twoNumbers_any (bs : List Int) (w w1 : World) (h1 : Rdr w1 w.heap.size bs 0) (hb1 : Below w.heap.size w w1) :
    Calls Try.prog 45 #[.pointer (some ⟨w.heap.size, 0, none⟩)] w1 fun e w' => ∃ x y : Int, e = .returned (.tuple #[.int .i64 x, .int .i64 y]) ∧ (-1000 ≤ x ∧ x ≤ 1000) ∧ (-1000 ≤ y ∧ y ≤ 1000) ∧ Below w.heap.size w w' := by
  go_enter Try.func45, Try.ntmps45
  go_wp2_with fail
  refine (one_any w.heap.size 0 _ _ _ [8, 5, 12, 10, 3, 16, 1, 0, 24, 41, -1] _ _ (by simp) (by simp) (by omega) (h1.below ((Below.refl _ _).alloc h1.lt _)) (rd_new w1 _ _) (by intro b o e; injection e with e; injection e with e; have := h1.lt; omega)).mono ?_
  rintro e w2 ⟨k, hk, rfl, h2, hg2, -⟩
  have hx : ∀ x ∈ ([8, 5, 12, 10, 3, 16, 1, 0, 24, 41, -1] : List Int), -1000 ≤ x ∧ x ≤ 1000 := by intro x hx; simp only [List.mem_cons, List.not_mem_nil, or_false] at hx; omega
  have hx2 := hx _ (List.getElem_mem hk)
  obtain ⟨x2, hxx⟩ : ∃ x, x = ([8, 5, 12, 10, 3, 16, 1, 0, 24, 41, -1] : List Int)[k] := ⟨_, rfl⟩
  rw [← hxx] at hx2 ⊢
  clear hx hxx hk
  have hb2 : Below w.heap.size w w2 := chg_low2 (hb1.alloc hb1.size _) (Nat.le_refl _) hg2
  clear hg2
  go_wp2_with fail
  refine (one_any w.heap.size 1 _ _ _ [3, 2, 4, 1, 0, 6, 9, 40, 41, -1] _ _ (by simp) (by simp) (by omega) (h2.below ((Below.refl _ _).alloc h2.lt _)) (rd_new w2 _ _) (by intro b o e; injection e with e; injection e with e; have := h2.lt; omega)).mono ?_
  rintro e w3 ⟨k, hk, rfl, h3, hg3, -⟩
  have hx : ∀ x ∈ ([3, 2, 4, 1, 0, 6, 9, 40, 41, -1] : List Int), -1000 ≤ x ∧ x ≤ 1000 := by intro x hx; simp only [List.mem_cons, List.not_mem_nil, or_false] at hx; omega
  have hx3 := hx _ (List.getElem_mem hk)
  obtain ⟨x3, hxx⟩ : ∃ x, x = ([3, 2, 4, 1, 0, 6, 9, 40, 41, -1] : List Int)[k] := ⟨_, rfl⟩
  rw [← hxx] at hx3 ⊢
  clear hx hxx hk
  have hb3 : Below w.heap.size w w3 := chg_low2 (hb2.alloc hb2.size _) (Nat.le_refl _) hg3
  clear hg3
  go_wp2_with fail
  go_ret2
  exact ⟨x2, x3, rfl, hx2, hx3, hb3⟩

theorem DrawAtMostParts_any (a : Option Addr) (c B : Nat) (bs : List Int) (w : World) (h : Rd w B a (bs.map (Value.int .u8))) (hB : B ≤ w.heap.size) (hb : ∀ n ∈ bs, (Lit.int .u8 n).wf = true) (hl : bs.length ≤ 1048576) (hc : bs.length ≤ c) :
    Calls Try.prog 21 #[.slice a bs.length c] w fun e w' => ∃ x y : Int, e = .returned (.tuple #[.int .i64 x, .int .i64 y]) ∧ (-1000 ≤ x ∧ x ≤ 1000) ∧ (-1000 ≤ y ∧ y ≤ 1000) ∧ Below w.heap.size w w' := by
  go_enter Try.func21, Try.ntmps21
  go_wp2_with fail
  refine (newReader_any _ _ B bs _ h hB hb hl hc).mono ?_
  rintro e w1 ⟨rfl, h1, hb1, -⟩
  go_wp2_with fail
  refine (twoNumbers_any _ w w1 h1 hb1).mono ?_
  rintro e w2 ⟨x, y, rfl, hx, hy, hb2⟩
  go_wp2_with fail
  go_ret2
  exact ⟨x, y, rfl, hx, hy, hb2⟩

theorem DrawJustParts_any (a : Option Addr) (c B : Nat) (bs : List Int) (w : World) (h : Rd w B a (bs.map (Value.int .u8))) (hB : B ≤ w.heap.size) (hb : ∀ n ∈ bs, (Lit.int .u8 n).wf = true) (hl : bs.length ≤ 1048576) (hc : bs.length ≤ c) :
    Calls Try.prog 24 #[.slice a bs.length c] w fun e w' => ∃ x y : Int, e = .returned (.tuple #[.int .i64 x, .int .i64 y]) ∧ (-1000 ≤ x ∧ x ≤ 1000) ∧ (-1000 ≤ y ∧ y ≤ 1000) ∧ Below w.heap.size w w' := by
  go_enter Try.func24, Try.ntmps24
  go_wp2_with fail
  refine (newReader_any _ _ B bs _ h hB hb hl hc).mono ?_
  rintro e w1 ⟨rfl, h1, hb1, -⟩
  go_wp2_with fail
  refine (twoNumbers_any _ w w1 h1 hb1).mono ?_
  rintro e w2 ⟨x, y, rfl, hx, hy, hb2⟩
  go_wp2_with fail
  go_ret2
  exact ⟨x, y, rfl, hx, hy, hb2⟩
end Go.Proofs.Ytmdalnkjpbjcdaa
