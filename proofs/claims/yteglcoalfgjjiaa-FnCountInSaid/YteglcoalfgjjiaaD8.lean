/-
  Walks: the draws of a set and a sum.
-/
import Derived.Test.YteglcoalfgjjiaaD4
namespace Go.Proofs.Yteglcoalfgjjiaa
open Go.RowKit NP
set_option linter.unusedVariables false

def SmallSet (M : List Int) : Prop := M.length ≤ 8 ∧ ∀ x ∈ M, 0 ≤ x ∧ x ≤ 41

set_option maxHeartbeats 1000000 in
theorem aSet_any (g q : Nat) (rs : List Int) (w : World) (hq : q ≤ 600000) (h : Rdr w g rs q) :
    Calls Try.prog 54 #[.pointer (some ⟨g, 0, none⟩)] w fun e w' => ∃ a' c' M, e = .returned (.slice a' M.length c') ∧ Own w' w.heap.size w'.heap.size 3 (.slice a' M.length c') (ints M) ∧ SmallSet M ∧ (∃ q', q' ≤ q + 20 ∧ Rdr w' g rs q') ∧ w.grownBy w' (some g) := by
  obtain ⟨i0, hi, hz0, hz1, hz2⟩ := T_int'
  have hlt := h.lt
  go_enter Try.func54, Try.ntmps54
  go_wp2_with fail
  have e1 := (Own.empty w 3).alloc (.cells (ints [3, 4, 2, 5, 1, 0, 8]).toArray 3)
  have r1 := h.below ((Below.refl _ _).alloc hlt (.cells #[] 3))
  have hG1 := chg_alloc (chg_alloc (World.grownBy.refl w (some g)) (.cells #[] 3)) (.cells (ints [3, 4, 2, 5, 1, 0, 8]).toArray 3)
  have rdx := rd_new (w.alloc (.cells #[] 3)) (ints [3, 4, 2, 5, 1, 0, 8]).toArray 3
  rw [World.size_alloc] at rdx
  refine (one_any g _ _ _ _ [3, 4, 2, 5, 1, 0, 8] rs _ (by simp) (by simp) (by omega) (r1.below ((Below.refl _ _).alloc (by simp; omega) _)) rdx (by intro b o e; injection e with e; injection e with e; omega)).mono ?_
  rintro e w3 ⟨k, hk, rfl, h3, hg3, -⟩
  have hx : ∀ x ∈ ([3, 4, 2, 5, 1, 0, 8] : List Int), 0 ≤ x ∧ x ≤ 8 := by decide
  have hx1 := hx _ (List.getElem_mem hk)
  obtain ⟨n, hxx⟩ : ∃ x, x = ([3, 4, 2, 5, 1, 0, 8] : List Int)[k] := ⟨_, rfl⟩
  rw [← hxx] at hx1 ⊢
  clear hx hxx hk r1 rdx
  have f1 := (e1.chg hg3 hlt).more
  have hG3 := chg_trans hG1 hg3
  clear e1 hg3 hG1 h
  have HG3 := Lib.hid hG3
  have HF1 := Lib.hid f1
  clear hG3 f1
  go_wp2_with fail
  go_loopw [3, 4] (fun v3 v4 wr => ∃ (x : Int) (A : List Int) (q' : Nat), v4 = .int .i64 x ∧ (0 ≤ x ∧ x ≤ 3 * A.length) ∧ A.length ≤ 8 ∧ Hid (∀ y ∈ A, 0 ≤ y ∧ y ≤ 41) ∧ q' ≤ q + 1 + A.length ∧ Rdr wr g rs q' ∧ w.grownBy wr (some g) ∧ (∃ a5 c5, v3 = .slice a5 A.length c5 ∧ Own wr w.heap.size wr.heap.size 3 (.slice a5 A.length c5) (ints A))) (fun _ v4 _ => 50 - (intOf v4).toNat)
  case atStart => exact ⟨0, [], q + 1, rfl, by simp, by simp, Lib.hid (by simp), by simp, h3, HG3.out, _, _, rfl, HF1.out⟩
  case round =>
    obtain ⟨x, A, q', rfl, hx, hA, HFA, hq', hr, hG, a5, c5, rfl, hown⟩ := hrel
    have hlr := hr.lt
    have hsz := hG.size
    have HO1 := Lib.hid hown
    have hAl : (ints A).length = A.length := by simp
    clear hown h3 HG3 HF1
    by_cases hAn : (A.length : Int) < n
    · have d1 : decide ((A.length : Int) < n) = true := decide_eq_true hAn
      go_wp2_with fail
      refine (pick_any g q' _ rs _ (by omega) (by omega) hr).mono ?_
      rintro e w5 ⟨y, rfl, hy0, hy1, h5, hg5, -⟩
      have hy3 := hy1 (by omega)
      have hs5 := hg5.size
      have hl5 := h5.lt
      have g1 := (HO1.out.chg hg5 hlt).more
      have hG5 := chg_trans hG hg5
      have G1 := Lib.hid g1
      clear hy1 hg5 hr g1 hG HO1
      go_wp2_with (at_builtin; refine wpList_append_o _ rfl (.tmp 19) (.tmp 21) 22 rfl w.heap.size w5.heap.size 3 i0 (.int .i64 0) 8 Try.underlying22 hi hz0 hz1 hz2 rfl _ (ints A) rfl (G1.out.alloc _) (w5.heap.size + 1) (some ⟨w5.heap.size, 0, none⟩) 1 1 [.int .i64 (x + 1 + y)] rfl (Rd.one _ _ _) rfl (by simp; rfl) (by rw [hAl]; unfold maxLen; omega) (by rw [hAl]; omega) (by simp; omega) ?_; intro v4 w4 ho4 hg4 hat4; have hr4 := (h5.row (World.grownBy_alloc w5 (.cells #[.int .i64 (x + 1 + y)] 3) none) (by simp)).row hg4 (fun k hk => by have := G1.out.base k hk; omega); have hG4 : w.grownBy w4 (some g) := chg_row (chg_alloc hG5 _) hg4 G1.out.base; have HO4 := Lib.hid ho4; clear ho4 hat4 hg4)
      go_roundw
      case rel =>
        obtain ⟨a6, c6, hf⟩ := HO4.out.form
        have e := HO4.out
        have e8 : ints A ++ [Value.int .i64 (x + 1 + y)] = ints (A ++ [x + 1 + y]) := by simp [ints]
        rw [hf, e8] at e
        have hl8 : (ints (A ++ [x + 1 + y])).length = (A ++ [x + 1 + y]).length := by simp
        refine ⟨x + 1 + y, A ++ [x + 1 + y], q' + 1, by go_num, by simp; omega, by simp; omega, Lib.hid (fun z hz => ?_), by simp; omega, hr4, hG4, a6, c6, ?_, ?_⟩
        · rcases List.mem_append.1 hz with hz | hz
          · exact HFA.out z hz
          · rw [List.mem_singleton] at hz; omega
        · rw [hf, e8, hl8]
        · rw [hl8] at e; exact e
      case measure => simp [intOf]; omega
    · have d1 : decide ((A.length : Int) < n) = false := decide_eq_false hAn
      have hAn' : n ≤ (A.length : Int) := by omega
      by_cases hA0 : 0 < A.length
      · have d2 : decide (0 < A.length) = true := decide_eq_true hA0
        have hA0' : (0 : Int) < (A.length : Int) := by omega
        clear hAn
        go_wp2_with fail
        refine (pick_any g q' _ rs _ (by omega) (by omega) hr).mono ?_
        rintro e w5 ⟨z, rfl, hz0', -, h5, hg5, -⟩
        have hl5 := h5.lt
        have g1 := (HO1.out.chg hg5 hlt).more
        have hG5 := chg_trans hG hg5
        have G1 := Lib.hid g1
        clear hg5 hr g1 hG HO1
        by_cases hz : z = 0
        · have b0 : (z == 0) = true := beq_iff_eq.2 hz
          clear hz
          go_wp2_with fail
          refine (pick_any g _ _ rs _ (by omega) (by omega) h5).mono ?_
          rintro e w6 ⟨y2, rfl, hy20, hy21, h6, hg6, -⟩
          obtain ⟨j, rfl⟩ := Int.eq_ofNat_of_zero_le hy20
          have hjA : j < A.length := by have := hy21 (by omega); omega
          have hl6 := h6.lt
          have g1 := (G1.out.chg hg6 hlt).more
          have hG6 := chg_trans hG5 hg6
          have G2 := Lib.hid g1
          clear hy21 hg6 h5 g1 hG5 G1
          go_wp2_with fail
          refine (one_any g _ _ _ _ [0, 41, 1, 40] rs _ (by simp) (by simp) (by omega) (h6.below ((Below.refl _ _).alloc hl6 _)) (rd_new w6 _ _) (by intro b o e; injection e with e; injection e with e; omega)).mono ?_
          rintro e w7 ⟨k, hk, rfl, h7, hg7, -⟩
          have hx : ∀ x ∈ ([0, 41, 1, 40] : List Int), 0 ≤ x ∧ x ≤ 41 := by decide
          have hx1 := hx _ (List.getElem_mem hk)
          obtain ⟨u, hxx⟩ : ∃ x, x = ([0, 41, 1, 40] : List Int)[k] := ⟨_, rfl⟩
          rw [← hxx] at hx1 ⊢
          clear hx hxx hk
          have g1 := ((G2.out.alloc (.cells (ints [0, 41, 1, 40]).toArray 3)).chg hg7 hlt).more
          have hG7 := chg_trans (chg_alloc hG6 (.cells (ints [0, 41, 1, 40]).toArray 3)) hg7
          clear hg7 hG6 G2 h6
          obtain ⟨g2, u2, rfl, hlo2, hhi2, hc2, hf2⟩ := g1.spot (k := j) (by simpa using hjA)
          have HO3 := Lib.hid g1
          clear g1
          have hjA' : (j : Int) < (A.length : Int) := by omega
          have HRS : Hid (∀ v, Rdr (w7.setCell ⟨g2, j, none⟩ v) g rs (q' + 1 + 1 + 1)) := Lib.hid fun v => h7.below ((Below.refl _ _).setCell (by show g + 1 ≤ g2; omega) v)
          have HGS : Hid (∀ v, w.grownBy (w7.setCell ⟨g2, j, none⟩ v) (some g)) := Lib.hid fun v => chg_below hG7 ((Below.refl _ _).setCell (by show w.heap.size ≤ g2; exact hlo2) v)
          go_wp2_with fail
          go_ret
          have e := HO3.out.set j (.int .i64 u)
          have hset : (ints A).set j (.int .i64 u) = ints (A.set j u) := by simp [ints, List.map_set]
          rw [hset] at e
          refine ⟨some ⟨g2, 0, none⟩, c5, A.set j u, by simp, by simpa using e.more, ⟨by simpa using hA, fun z hz => ?_⟩, ⟨_, by omega, HRS.out _⟩, HGS.out _⟩
          rcases List.mem_or_eq_of_mem_set hz with hz | rfl
          · exact HFA.out z hz
          · exact hx1
        · have b0 : (z == 0) = false := beq_eq_false_iff_ne.2 hz
          clear hz
          go_wp2_with fail
          go_ret
          exact ⟨a5, c5, A, rfl, G1.out, ⟨hA, HFA.out⟩, ⟨q' + 1, by omega, h5⟩, hG5⟩
      · have d2 : decide (0 < A.length) = false := decide_eq_false hA0
        have hA0' : (A.length : Int) ≤ 0 := by omega
        clear hAn
        go_wp2_with fail
        go_ret
        exact ⟨a5, c5, A, rfl, HO1.out, ⟨hA, HFA.out⟩, ⟨q', by omega, hr⟩, hG⟩

theorem DrawCountIn_any (a : Option Addr) (c B : Nat) (bs : List Int) (w : World) (h : Rd w B a (bs.map (Value.int .u8))) (hB : B ≤ w.heap.size) (hb : ∀ n ∈ bs, (Lit.int .u8 n).wf = true) (hl : bs.length ≤ 1048576) (hc : bs.length ≤ c) :
    Calls Try.prog 30 #[.slice a bs.length c] w fun e w' => ∃ a' c' M x, e = .returned (.tuple #[.slice a' M.length c', .int .i64 x]) ∧ Own w' w.heap.size w'.heap.size 3 (.slice a' M.length c') (ints M) ∧ (SmallSet M ∧ -1 ≤ x ∧ x ≤ 41) ∧ Below w.heap.size w w' := by
  go_enter Try.func30, Try.ntmps30
  go_wp2_with fail
  refine (newReader_any _ _ B bs _ h hB hb hl hc).mono ?_
  rintro e w1 ⟨rfl, h1, hb1, -⟩
  generalize bs.take 2000 = rs at h1
  have hs1 := hb1.size
  clear h hB hb hl hc
  go_wp2_with fail
  refine (aSet_any w.heap.size _ rs _ (by omega) h1).mono ?_
  rintro e w2 ⟨a', c', M, rfl, ho, hsm, ⟨q, hq, h2⟩, hg2⟩
  have hl2 := h2.lt
  have hbel2 := chg_low3 hb1 (Nat.le_refl _) (Nat.le_refl _) hg2
  have ho2 := ho
  have hl1 := h1.lt
  have hs12 : w.heap.size < w1.heap.size := hl1
  have hs2 := hbel2.size
  clear ho h1 hg2 hb1
  have HO := Lib.hid ho2
  clear ho2
  go_wp2_with fail
  refine (one_any w.heap.size _ _ _ _ [8, 10, 6, 12, 20, 5, 3, 1, 0, 40, 41, -1] rs _ (by simp) (by simp) (by omega) (h2.below ((Below.refl _ _).alloc hl2 _)) (rd_new w2 _ _) (by intro b o e; injection e with e; injection e with e; omega)).mono ?_
  rintro e w6 ⟨k, hk, rfl, h6, hg6, -⟩
  have hx : ∀ x ∈ ([8, 10, 6, 12, 20, 5, 3, 1, 0, 40, 41, -1] : List Int), -1 ≤ x ∧ x ≤ 41 := by decide
  have hx6 := hx _ (List.getElem_mem hk)
  obtain ⟨x6, hxx⟩ : ∃ x, x = ([8, 10, 6, 12, 20, 5, 3, 1, 0, 40, 41, -1] : List Int)[k] := ⟨_, rfl⟩
  rw [← hxx] at hx6 ⊢
  clear hx hxx hk
  have hbel6 := chg_low3 (hbel2.alloc hs2 (.cells (ints [8, 10, 6, 12, 20, 5, 3, 1, 0, 40, 41, -1]).toArray 3)) (Nat.le_refl _) (Nat.le_refl _) hg6
  have ho6 : Own w6 w.heap.size w6.heap.size 3 (.slice a' M.length c') (ints M) := (((HO.out.alloc (.cells (ints [8, 10, 6, 12, 20, 5, 3, 1, 0, 40, 41, -1]).toArray 3)).chg hg6 hs12).more).lower hs1
  clear hg6
  go_wp2_with fail
  go_ret2
  exact ⟨a', c', M, x6, rfl, ho6, ⟨hsm, hx6⟩, hbel6⟩


end Go.Proofs.Yteglcoalfgjjiaa
