/-
  Walks: the draws of arms and legs.
-/
import Derived.Test.YtemkchihbnneeaaD5
import Derived.Test.YtemkchihbnneeaaW15
namespace Go.Proofs.Ytemkchihbnneeaa
open Go.RowKit NP
set_option linter.unusedVariables false

/-- few small numbers -/
def Few (M : List Int) : Prop := M.length ≤ 4 ∧ ∀ x ∈ M, -1 ≤ x ∧ x ≤ 9
theorem few_push {M : List Int} {x : Int} (h : Few M) (hl : M.length ≤ 3) (hx : -1 ≤ x ∧ x ≤ 9) : Few (M ++ [x]) :=
  ⟨by simp; omega, fun y hy => by
    rcases List.mem_append.1 hy with hy | hy
    · exact h.2 y hy
    · rw [List.mem_singleton] at hy; subst hy; exact hx⟩
theorem chg_push {a w w1 : World} {g lo : Nat} {o : Obj} {row : Option Nat} (h : a.grownBy w (some g)) (hg : (w.alloc o).grownBy w1 row) (hlo : a.heap.size ≤ lo) (hr : ∀ x, row = some x → lo ≤ x) : a.grownBy w1 (some g) :=
  chg_row (chg_alloc h o) hg fun x hx => Nat.le_trans hlo (hr x hx)

set_option maxHeartbeats 2000000 in
theorem DrawPartsOfFrobenius_any (a : Option Addr) (c B : Nat) (bs : List Int) (w : World) (h : Rd w B a (bs.map (Value.int .u8))) (hB : B ≤ w.heap.size) (hb : ∀ n ∈ bs, (Lit.int .u8 n).wf = true) (hl : bs.length ≤ 1048576) (hc : bs.length ≤ c) :
    Calls Try.prog 21 #[.slice a bs.length c] w fun e w' => ∃ a1 c1 M1 a2 c2 M2, e = .returned (.tuple #[.slice a1 M1.length c1, .slice a2 M2.length c2]) ∧ Own w' w.heap.size w'.heap.size 3 (.slice a1 M1.length c1) (ints M1) ∧ Own w' w.heap.size w'.heap.size 3 (.slice a2 M2.length c2) (ints M2) ∧ Few M1 ∧ Few M2 ∧ Below w.heap.size w w' := by
  obtain ⟨i0, hi, hz0, hz1, hz2⟩ := T_int'
  go_enter Try.func21, Try.ntmps21
  go_wp2_with fail
  refine (newReader_any _ _ B bs _ h hB hb hl hc).mono ?_
  rintro e w1 ⟨rfl, h1, hb1, -⟩
  generalize bs.take 2000 = rs at h1
  have hlw : w.heap.size ≤ w1.heap.size := hb1.size
  have hlt1 := h1.lt
  obtain ⟨g, hg⟩ : ∃ g, g = w.heap.size := ⟨_, rfl⟩
  rw [← hg] at h1 hb1 hlt1 ⊢
  have HG := Lib.hid hg
  have hB1 := hb1
  clear h hB hb hl hc hg
  go_wp2_with fail
  have e1 := ((Own.empty w1 3).alloc (.cells #[] 3)).alloc (.cells (ints [4, 3, 6, 2, 1, 9]).toArray 3)
  have e2 := (Own.empty (w1.alloc (.cells #[] 3)) 3).alloc (.cells (ints [4, 3, 6, 2, 1, 9]).toArray 3)
  rw [World.size_alloc] at e2
  have r1 := ((h1.below ((Below.refl _ _).alloc hlt1 (.cells #[] 3))).below ((Below.refl _ _).alloc (by simp; omega) (.cells #[] 3)))
  have hG1 := chg_alloc (chg_alloc (chg_alloc (World.grownBy.refl w1 (some g)) (.cells #[] 3)) (.cells #[] 3)) (.cells (ints [4, 3, 6, 2, 1, 9]).toArray 3)
  have rdx := rd_new ((w1.alloc (.cells #[] 3)).alloc (.cells #[] 3)) (ints [4, 3, 6, 2, 1, 9]).toArray 3
  rw [World.size_alloc, World.size_alloc] at rdx
  refine (one_any g _ _ _ _ [4, 3, 6, 2, 1, 9] rs _ (by simp) (by simp) (by omega) (r1.below ((Below.refl _ _).alloc (by simp; omega) _)) rdx (by intro b o e; injection e with e; injection e with e; omega)).mono ?_
  rintro e w3 ⟨k, hk, rfl, h3, hg3, -⟩
  have hx : ∀ x ∈ ([4, 3, 6, 2, 1, 9] : List Int), 0 ≤ x ∧ x ≤ 9 := by decide
  have hx1 := hx _ (List.getElem_mem hk)
  obtain ⟨x0, hxx⟩ : ∃ x, x = ([4, 3, 6, 2, 1, 9] : List Int)[k] := ⟨_, rfl⟩
  rw [← hxx] at hx1 ⊢
  clear hx hxx hk r1 h1 rdx
  have f1 := (e1.chg hg3 (by omega)).more
  have f2 := ((e2.chg hg3 (by omega)).lower (Nat.le_succ w1.heap.size)).more
  have hG3 := chg_trans hG1 hg3
  clear e1 e2 hg3 hG1
  have HG3 := Lib.hid hG3
  have HF1 := Lib.hid f1
  have HF2 := Lib.hid f2
  clear hG3 f1 f2
  go_wp2_with fail
  go_loopw [5, 7] (fun v5 v7 wr => ∃ (x : Int) (A : List Int) (q : Nat), v7 = .int .i64 x ∧ (-4 ≤ x ∧ x ≤ 9) ∧ A.length ≤ 3 ∧ Hid (Few A) ∧ q ≤ 1 + A.length ∧ Rdr wr g rs q ∧ w1.grownBy wr (some g) ∧ Own wr w1.heap.size wr.heap.size 3 v5 (ints A) ∧ Own wr w1.heap.size wr.heap.size 3 (.slice (some ⟨w1.heap.size + 1, 0, none⟩) 0 0) [] ∧ (∀ k, v5.ownBlock = some k → (Value.slice (some ⟨w1.heap.size + 1, 0, none⟩) 0 0).ownBlock = some k → False)) (fun _ v7 _ => (intOf v7 + 5).toNat)
  case atStart =>
    refine ⟨x0, [], 1, rfl, by omega, by simp, Lib.hid ⟨by simp, by simp⟩, by simp, h3, HG3.out, HF1.out, HF2.out, ?_⟩
    intro k h h'
    simp [Value.ownBlock] at h h'
    omega
  case round =>
    obtain ⟨x, A, q, rfl, hx, hA, HFA, hq, hr, hG, ho1, ho2, hne⟩ := hrel
    have hlr := hr.lt
    have hsz := hG.size
    have HO1 := Lib.hid ho1
    have HO2 := Lib.hid ho2
    have HNE := Lib.hid hne
    have hAl : (ints A).length = A.length := by simp
    clear ho2 hne h3 HG3 HF1 HF2 hx1
    by_cases hlt : 0 ≤ x ∧ A.length < 3
    · obtain ⟨hx0, hA3⟩ := hlt
      have hA3' : (A.length : Int) < 3 := by omega
      have d1 : decide (0 ≤ x) = true := decide_eq_true hx0
      have d2 : decide ((A.length : Int) < 3) = true := decide_eq_true hA3'
      obtain ⟨a5, c5, rfl⟩ := ho1.form
      rw [hAl] at HO1 HNE ⊢
      clear ho1
      go_wp2_with (at_builtin; refine wpList_append_o _ rfl (.tmp 28) (.tmp 30) 22 rfl w1.heap.size wr.heap.size 3 i0 (.int .i64 0) 8 Try.underlying22 hi hz0 hz1 hz2 rfl _ (ints A) rfl (HO1.out.alloc _) (wr.heap.size + 1) (some ⟨wr.heap.size, 0, none⟩) 1 1 [.int .i64 x] rfl (Rd.one _ _ _) rfl (by simp; rfl) (by rw [hAl]; unfold maxLen; omega) (by rw [hAl]; omega) (by simp; omega) ?_; intro v4 w4 ho4 hg4 hat4; have ho2b := (HO2.out.aside hg4 HNE.out).more; have hne4 := apart_push HO2.out HNE.out hat4 (by simp); have hr4 := (hr.row (World.grownBy_alloc wr (.cells #[.int .i64 x] 3) none) (by simp)).row hg4 (fun k hk => by have := HO1.out.base k hk; omega); have hG4 := chg_push hG hg4 (Nat.le_refl _) HO1.out.base; have HO4 := Lib.hid ho4; have HO2b := Lib.hid ho2b; have HNE4 := Lib.hid hne4; clear ho4 ho2b hne4 hat4 hg4)
      go_wp2_with fail
      refine (pick_any g q _ rs _ (by omega) (by omega) hr4).mono ?_
      rintro e w5 ⟨y, rfl, hy0, hy1, h5, hg5, -⟩
      have hy3 := hy1 (by omega)
      have g1 := (HO4.out.chg hg5 (by omega)).more
      have g2 := (HO2b.out.chg hg5 (by omega)).more
      have hG5 := chg_trans hG4 hg5
      have G1 := Lib.hid g1
      have G2 := Lib.hid g2
      clear hy1 hg5 hG4 hr4 g1 g2 hG hr
      go_wp2_with fail
      go_roundw
      case rel =>
        refine ⟨x - 1 - y, A ++ [x], q + 1, by go_num, by omega, by simp; omega, Lib.hid (few_push HFA.out (by omega) (by omega)), by simp; omega, h5, hG5, ?_, G2.out, HNE4.out⟩
        have e := G1.out
        simpa [ints] using e
      case measure => simp [intOf]; omega
    · by_cases hx0 : 0 ≤ x
      · have d1 : decide (0 ≤ x) = true := decide_eq_true hx0
        have d2 : decide ((A.length : Int) < 3) = false := decide_eq_false (by omega)
        obtain ⟨w5, rfl⟩ : ∃ w5 : World, w5 = wr := ⟨_, rfl⟩
        obtain ⟨a5, c5, rfl⟩ := ho1.form
        rw [hAl] at HO1 HNE ⊢
        clear ho1 hlt
        go_wp2_with fail
        refine (one_any g _ _ _ _ [3, 4, 2, 5, 1] rs _ (by simp) (by simp) (by omega) (hr.below ((Below.refl _ _).alloc hlr _)) (rd_new w5 _ _) (by intro b o e; injection e with e; injection e with e; omega)).mono ?_
        rintro e w6 ⟨k, hk, rfl, h6, hg6, -⟩
        have hx : ∀ x ∈ ([3, 4, 2, 5, 1] : List Int), 0 ≤ x ∧ x ≤ 9 := by decide
        have hx1 := hx _ (List.getElem_mem hk)
        obtain ⟨y0, hxx⟩ : ∃ x, x = ([3, 4, 2, 5, 1] : List Int)[k] := ⟨_, rfl⟩
        rw [← hxx] at hx1 ⊢
        clear hx hxx hk hr
        have g1 := ((HO1.out.alloc (.cells (ints [3, 4, 2, 5, 1]).toArray 3)).chg hg6 (by omega)).more
        have g2 := ((HO2.out.alloc (.cells (ints [3, 4, 2, 5, 1]).toArray 3)).chg hg6 (by omega)).more
        have hG6 := chg_trans (chg_alloc hG (.cells (ints [3, 4, 2, 5, 1]).toArray 3)) hg6
        have G1 := Lib.hid g1
        have G2 := Lib.hid g2
        have HG6 := Lib.hid hG6
        clear g1 g2 hg6 hG hsz hG6
        have HNE1 := HNE
        clear HNE HO1 HO2
        go_wp2_with fail
        go_loopw [6, 8] (fun v6 v8 wr => ∃ (y : Int) (C : List Int) (q : Nat), v8 = .int .i64 y ∧ (-4 ≤ y ∧ y ≤ 9) ∧ C.length ≤ 3 ∧ Hid (Few C) ∧ q ≤ 5 + C.length ∧ Rdr wr g rs q ∧ w1.grownBy wr (some g) ∧ Own wr w1.heap.size wr.heap.size 3 (.slice a5 A.length c5) (ints A) ∧ Own wr w1.heap.size wr.heap.size 3 v6 (ints C) ∧ (∀ k, v6.ownBlock = some k → (Value.slice a5 A.length c5).ownBlock = some k → False)) (fun _ v8 _ => (intOf v8 + 5).toNat)
        case atStart =>
          refine ⟨y0, [], q + 1, rfl, by omega, by simp, Lib.hid ⟨by simp, by simp⟩, by simp; omega, h6, HG6.out, G1.out, G2.out, fun k h h' => HNE1.out k h' h⟩
        case round =>
          obtain ⟨y, C, q, rfl, hy, hC, HFC, hq, hr, hG, ho1, ho2, hne⟩ := hrel
          have hlr := hr.lt
          have hsz := hG.size
          have HO1 := Lib.hid ho1
          have HO2 := Lib.hid ho2
          have HNE := Lib.hid hne
          have hCl : (ints C).length = C.length := by simp
          clear ho1 hne h6 HG6 G1 G2 hx1 HNE1
          by_cases hy0 : 0 ≤ y
          · have d1 : decide (0 ≤ y) = true := decide_eq_true hy0
            by_cases hC3 : C.length < A.length
            · have hC3' : (C.length : Int) < (A.length : Int) := by omega
              have d2 : decide ((C.length : Int) < (A.length : Int)) = true := decide_eq_true hC3'
              obtain ⟨a6, c6, rfl⟩ := ho2.form
              rw [hCl] at HO2 HNE ⊢
              clear ho2
              go_wp2_with (at_builtin; refine wpList_append_o _ rfl (.tmp 49) (.tmp 51) 22 rfl w1.heap.size wr.heap.size 3 i0 (.int .i64 0) 8 Try.underlying22 hi hz0 hz1 hz2 rfl _ (ints C) rfl (HO2.out.alloc _) (wr.heap.size + 1) (some ⟨wr.heap.size, 0, none⟩) 1 1 [.int .i64 y] rfl (Rd.one _ _ _) rfl (by simp; rfl) (by rw [hCl]; unfold maxLen; omega) (by rw [hCl]; omega) (by simp; omega) ?_; intro v4 w4 ho4 hg4 hat4; have ho1b := (HO1.out.aside hg4 HNE.out).more; have hne4 := apart_push HO1.out HNE.out hat4 (by simp); have hr4 := (hr.row (World.grownBy_alloc wr (.cells #[.int .i64 y] 3) none) (by simp)).row hg4 (fun k hk => by have := HO2.out.base k hk; omega); have hG4 := chg_push hG hg4 (Nat.le_refl _) HO2.out.base; have HO4 := Lib.hid ho4; have HO1b := Lib.hid ho1b; have HNE4 := Lib.hid hne4; clear ho4 ho1b hne4 hat4 hg4)
              go_wp2_with fail
              refine (pick_any g q _ rs _ (by omega) (by omega) hr4).mono ?_
              rintro e w5 ⟨t, rfl, ht0, ht1, h5, hg5, -⟩
              have ht3 := ht1 (by omega)
              have g1 := (HO4.out.chg hg5 (by omega)).more
              have g2 := (HO1b.out.chg hg5 (by omega)).more
              have hG5 := chg_trans hG4 hg5
              have G1 := Lib.hid g1
              have G2 := Lib.hid g2
              clear ht1 hg5 hG4 hr4 g1 g2 hG hr
              go_wp2_with fail
              go_roundw
              case rel =>
                refine ⟨y - 1 - t, C ++ [y], q + 1, by go_num, by omega, by simp; omega, Lib.hid (few_push HFC.out (by omega) (by omega)), by simp; omega, h5, hG5, G2.out, ?_, HNE4.out⟩
                have e := G1.out
                simpa [ints] using e
              case measure => simp [intOf]; omega
            · have d2 : decide (C.length < A.length) = false := decide_eq_false hC3
              obtain ⟨w5, rfl⟩ : ∃ w5 : World, w5 = wr := ⟨_, rfl⟩
              obtain ⟨a6, c6, rfl⟩ := ho2.form
              rw [hCl] at HO2 HNE ⊢
              clear ho2 hC3
              go_wp2_with fail
              refine (pick_any g q _ rs _ (by omega) (by omega) hr).mono ?_
              rintro e w6 ⟨z, rfl, hz0', -, h6, hg6, -⟩
              have g1 := (HO1.out.chg hg6 (by omega)).more
              have g2 := (HO2.out.chg hg6 (by omega)).more
              have hG6 := chg_trans hG hg6
              have G1 := Lib.hid g1
              have G2 := Lib.hid g2
              have hlt6 := h6.lt
              have hs6 := hG6.size
              clear hr hg6 hG g1 g2
              by_cases hz : z = 0
              · have b0 : (z == 0) = true := beq_iff_eq.2 hz
                clear hz
                go_wp2_with fail
                refine (one_any g _ _ _ _ [0, -1, 2] rs _ (by simp) (by simp) (by omega) (h6.below ((Below.refl _ _).alloc hlt6 _)) (rd_new w6 _ _) (by intro b o e; injection e with e; injection e with e; omega)).mono ?_
                rintro e w7 ⟨k, hk, rfl, h7, hg7, -⟩
                have hx : ∀ x ∈ ([0, -1, 2] : List Int), -1 ≤ x ∧ x ≤ 9 := by decide
                have hx1 := hx _ (List.getElem_mem hk)
                obtain ⟨u, hxx⟩ : ∃ x, x = ([0, -1, 2] : List Int)[k] := ⟨_, rfl⟩
                rw [← hxx] at hx1 ⊢
                clear hx hxx hk
                have g1 := ((G1.out.alloc (.cells (ints [0, -1, 2]).toArray 3)).chg hg7 (by omega)).more
                have g2 := ((G2.out.alloc (.cells (ints [0, -1, 2]).toArray 3)).chg hg7 (by omega)).more
                have hG7 := chg_trans (chg_alloc hG6 (.cells (ints [0, -1, 2]).toArray 3)) hg7
                have hs7 := hG7.size
                have HO1 := Lib.hid g1
                have HO2 := Lib.hid g2
                clear g1 g2 hg7 hG6 G1 G2 h6
                go_wp2_with (at_builtin; refine wpList_append_o _ rfl (.tmp 57) (.tmp 61) 22 rfl w1.heap.size w7.heap.size 3 i0 (.int .i64 0) 8 Try.underlying22 hi hz0 hz1 hz2 rfl _ (ints C) rfl (HO2.out.alloc _) (w7.heap.size + 1) (some ⟨w7.heap.size, 0, none⟩) 1 1 [.int .i64 u] rfl (Rd.one _ _ _) rfl (by simp; rfl) (by rw [hCl]; unfold maxLen; omega) (by rw [hCl]; omega) (by simp; omega) ?_; intro v4 w8 ho4 hg4 hat4; have ho1b := (HO1.out.aside hg4 HNE.out).more; have hG8 := chg_push hG7 hg4 (Nat.le_refl _) HO2.out.base; have HO4 := Lib.hid ho4; have HO1b := Lib.hid ho1b; clear ho4 ho1b hat4 hg4)
                go_ret2
                have hgg := HG.out
                subst hgg
                have hB8 := hB1.grown hG8 (Nat.le_of_lt hlt1) (fun k hk => by injection hk with hk; omega)
                have e := HO4.out
                have e8 : ints C ++ [Value.int .i64 u] = ints (C ++ [u]) := by simp [ints]
                rw [e8] at e
                obtain ⟨a8, c8, rfl⟩ := e.form
                have hl8 : (ints (C ++ [u])).length = (C ++ [u]).length := by simp
                rw [hl8] at e ⊢
                exact ⟨a5, c5, A, a8, c8, C ++ [u], rfl, HO1b.out.lower hlw, e.lower hlw, HFA.out, few_push HFC.out (by omega) hx1, hB8⟩
              · have b0 : (z == 0) = false := beq_eq_false_iff_ne.2 hz
                clear hz
                go_wp2_with fail
                refine (pick_any g _ _ rs _ (by omega) (by omega) h6).mono ?_
                rintro e w7 ⟨z2, rfl, hz0', -, h7, hg7, -⟩
                have g1 := (G1.out.chg hg7 (by omega)).more
                have g2 := (G2.out.chg hg7 (by omega)).more
                have hG7 := chg_trans hG6 hg7
                have HO1 := Lib.hid g1
                have HO2 := Lib.hid g2
                have hs7 := hG7.size
                clear g1 g2 hg7 hG6 G1 G2 h6
                have hB7 := hB1.grown hG7 (Nat.le_of_lt hlt1) (fun k hk => by injection hk with hk; omega)
                have HB7 := Lib.hid hB7
                clear hB7
                by_cases hz : z2 = 0
                · have b1 : (z2 == 0) = true := beq_iff_eq.2 hz
                  clear hz
                  go_wp2_with fail
                  go_ret2
                  have hgg := HG.out
                  subst hgg
                  have e1 := (Own.empty w7 3).alloc (.cells #[] 3)
                  have e2 := Own.empty (w7.alloc (.cells #[] 3)) 3
                  rw [World.size_alloc] at e2
                  have hgw : w.heap.size ≤ w7.heap.size := HB7.out.size
                  exact ⟨_, 0, [], _, 0, [], rfl, (e1.lower hgw).more, (e2.lower (by omega)).more, ⟨by simp, by simp⟩, ⟨by simp, by simp⟩, (HB7.out.alloc hgw _).alloc (by simp; omega) _⟩
                · have b1 : (z2 == 0) = false := beq_eq_false_iff_ne.2 hz
                  clear hz
                  go_wp2_with fail
                  go_ret2
                  have hgg := HG.out
                  subst hgg
                  exact ⟨a5, c5, A, a6, c6, C, rfl, HO1.out.lower hlw, HO2.out.lower hlw, HFA.out, HFC.out, HB7.out⟩
          · have d1 : decide (0 ≤ y) = false := decide_eq_false hy0
            obtain ⟨w5, rfl⟩ : ∃ w5 : World, w5 = wr := ⟨_, rfl⟩
            obtain ⟨a6, c6, rfl⟩ := ho2.form
            rw [hCl] at HO2 HNE ⊢
            clear ho2
            go_wp2_with fail
            refine (pick_any g q _ rs _ (by omega) (by omega) hr).mono ?_
            rintro e w6 ⟨z, rfl, hz0', -, h6, hg6, -⟩
            have g1 := (HO1.out.chg hg6 (by omega)).more
            have g2 := (HO2.out.chg hg6 (by omega)).more
            have hG6 := chg_trans hG hg6
            have G1 := Lib.hid g1
            have G2 := Lib.hid g2
            have hlt6 := h6.lt
            have hs6 := hG6.size
            clear hr hg6 hG g1 g2
            by_cases hz : z = 0
            · have b0 : (z == 0) = true := beq_iff_eq.2 hz
              clear hz
              go_wp2_with fail
              refine (one_any g _ _ _ _ [0, -1, 2] rs _ (by simp) (by simp) (by omega) (h6.below ((Below.refl _ _).alloc hlt6 _)) (rd_new w6 _ _) (by intro b o e; injection e with e; injection e with e; omega)).mono ?_
              rintro e w7 ⟨k, hk, rfl, h7, hg7, -⟩
              have hx : ∀ x ∈ ([0, -1, 2] : List Int), -1 ≤ x ∧ x ≤ 9 := by decide
              have hx1 := hx _ (List.getElem_mem hk)
              obtain ⟨u, hxx⟩ : ∃ x, x = ([0, -1, 2] : List Int)[k] := ⟨_, rfl⟩
              rw [← hxx] at hx1 ⊢
              clear hx hxx hk
              have g1 := ((G1.out.alloc (.cells (ints [0, -1, 2]).toArray 3)).chg hg7 (by omega)).more
              have g2 := ((G2.out.alloc (.cells (ints [0, -1, 2]).toArray 3)).chg hg7 (by omega)).more
              have hG7 := chg_trans (chg_alloc hG6 (.cells (ints [0, -1, 2]).toArray 3)) hg7
              have hs7 := hG7.size
              have HO1 := Lib.hid g1
              have HO2 := Lib.hid g2
              clear g1 g2 hg7 hG6 G1 G2 h6
              go_wp2_with (at_builtin; refine wpList_append_o _ rfl (.tmp 57) (.tmp 61) 22 rfl w1.heap.size w7.heap.size 3 i0 (.int .i64 0) 8 Try.underlying22 hi hz0 hz1 hz2 rfl _ (ints C) rfl (HO2.out.alloc _) (w7.heap.size + 1) (some ⟨w7.heap.size, 0, none⟩) 1 1 [.int .i64 u] rfl (Rd.one _ _ _) rfl (by simp; rfl) (by rw [hCl]; unfold maxLen; omega) (by rw [hCl]; omega) (by simp; omega) ?_; intro v4 w8 ho4 hg4 hat4; have ho1b := (HO1.out.aside hg4 HNE.out).more; have hG8 := chg_push hG7 hg4 (Nat.le_refl _) HO2.out.base; have HO4 := Lib.hid ho4; have HO1b := Lib.hid ho1b; clear ho4 ho1b hat4 hg4)
              go_ret2
              have hgg := HG.out
              subst hgg
              have hB8 := hB1.grown hG8 (Nat.le_of_lt hlt1) (fun k hk => by injection hk with hk; omega)
              have e := HO4.out
              have e8 : ints C ++ [Value.int .i64 u] = ints (C ++ [u]) := by simp [ints]
              rw [e8] at e
              obtain ⟨a8, c8, rfl⟩ := e.form
              have hl8 : (ints (C ++ [u])).length = (C ++ [u]).length := by simp
              rw [hl8] at e ⊢
              exact ⟨a5, c5, A, a8, c8, C ++ [u], rfl, HO1b.out.lower hlw, e.lower hlw, HFA.out, few_push HFC.out (by omega) hx1, hB8⟩
            · have b0 : (z == 0) = false := beq_eq_false_iff_ne.2 hz
              clear hz
              go_wp2_with fail
              refine (pick_any g _ _ rs _ (by omega) (by omega) h6).mono ?_
              rintro e w7 ⟨z2, rfl, hz0', -, h7, hg7, -⟩
              have g1 := (G1.out.chg hg7 (by omega)).more
              have g2 := (G2.out.chg hg7 (by omega)).more
              have hG7 := chg_trans hG6 hg7
              have HO1 := Lib.hid g1
              have HO2 := Lib.hid g2
              have hs7 := hG7.size
              clear g1 g2 hg7 hG6 G1 G2 h6
              have hB7 := hB1.grown hG7 (Nat.le_of_lt hlt1) (fun k hk => by injection hk with hk; omega)
              have HB7 := Lib.hid hB7
              clear hB7
              by_cases hz : z2 = 0
              · have b1 : (z2 == 0) = true := beq_iff_eq.2 hz
                clear hz
                go_wp2_with fail
                go_ret2
                have hgg := HG.out
                subst hgg
                have e1 := (Own.empty w7 3).alloc (.cells #[] 3)
                have e2 := Own.empty (w7.alloc (.cells #[] 3)) 3
                rw [World.size_alloc] at e2
                have hgw : w.heap.size ≤ w7.heap.size := HB7.out.size
                exact ⟨_, 0, [], _, 0, [], rfl, (e1.lower hgw).more, (e2.lower (by omega)).more, ⟨by simp, by simp⟩, ⟨by simp, by simp⟩, (HB7.out.alloc hgw _).alloc (by simp; omega) _⟩
              · have b1 : (z2 == 0) = false := beq_eq_false_iff_ne.2 hz
                clear hz
                go_wp2_with fail
                go_ret2
                have hgg := HG.out
                subst hgg
                exact ⟨a5, c5, A, a6, c6, C, rfl, HO1.out.lower hlw, HO2.out.lower hlw, HFA.out, HFC.out, HB7.out⟩
      · have d1 : decide (0 ≤ x) = false := decide_eq_false hx0
        obtain ⟨w5, rfl⟩ : ∃ w5 : World, w5 = wr := ⟨_, rfl⟩
        obtain ⟨a5, c5, rfl⟩ := ho1.form
        rw [hAl] at HO1 HNE ⊢
        clear ho1 hlt
        go_wp2_with fail
        refine (one_any g _ _ _ _ [3, 4, 2, 5, 1] rs _ (by simp) (by simp) (by omega) (hr.below ((Below.refl _ _).alloc hlr _)) (rd_new w5 _ _) (by intro b o e; injection e with e; injection e with e; omega)).mono ?_
        rintro e w6 ⟨k, hk, rfl, h6, hg6, -⟩
        have hx : ∀ x ∈ ([3, 4, 2, 5, 1] : List Int), 0 ≤ x ∧ x ≤ 9 := by decide
        have hx1 := hx _ (List.getElem_mem hk)
        obtain ⟨y0, hxx⟩ : ∃ x, x = ([3, 4, 2, 5, 1] : List Int)[k] := ⟨_, rfl⟩
        rw [← hxx] at hx1 ⊢
        clear hx hxx hk hr
        have g1 := ((HO1.out.alloc (.cells (ints [3, 4, 2, 5, 1]).toArray 3)).chg hg6 (by omega)).more
        have g2 := ((HO2.out.alloc (.cells (ints [3, 4, 2, 5, 1]).toArray 3)).chg hg6 (by omega)).more
        have hG6 := chg_trans (chg_alloc hG (.cells (ints [3, 4, 2, 5, 1]).toArray 3)) hg6
        have G1 := Lib.hid g1
        have G2 := Lib.hid g2
        have HG6 := Lib.hid hG6
        clear g1 g2 hg6 hG hsz hG6
        have HNE1 := HNE
        clear HNE HO1 HO2
        go_wp2_with fail
        go_loopw [6, 8] (fun v6 v8 wr => ∃ (y : Int) (C : List Int) (q : Nat), v8 = .int .i64 y ∧ (-4 ≤ y ∧ y ≤ 9) ∧ C.length ≤ 3 ∧ Hid (Few C) ∧ q ≤ 5 + C.length ∧ Rdr wr g rs q ∧ w1.grownBy wr (some g) ∧ Own wr w1.heap.size wr.heap.size 3 (.slice a5 A.length c5) (ints A) ∧ Own wr w1.heap.size wr.heap.size 3 v6 (ints C) ∧ (∀ k, v6.ownBlock = some k → (Value.slice a5 A.length c5).ownBlock = some k → False)) (fun _ v8 _ => (intOf v8 + 5).toNat)
        case atStart =>
          refine ⟨y0, [], q + 1, rfl, by omega, by simp, Lib.hid ⟨by simp, by simp⟩, by simp; omega, h6, HG6.out, G1.out, G2.out, fun k h h' => HNE1.out k h' h⟩
        case round =>
          obtain ⟨y, C, q, rfl, hy, hC, HFC, hq, hr, hG, ho1, ho2, hne⟩ := hrel
          have hlr := hr.lt
          have hsz := hG.size
          have HO1 := Lib.hid ho1
          have HO2 := Lib.hid ho2
          have HNE := Lib.hid hne
          have hCl : (ints C).length = C.length := by simp
          clear ho1 hne h6 HG6 G1 G2 hx1 HNE1
          by_cases hy0 : 0 ≤ y
          · have d1 : decide (0 ≤ y) = true := decide_eq_true hy0
            by_cases hC3 : C.length < A.length
            · have hC3' : (C.length : Int) < (A.length : Int) := by omega
              have d2 : decide ((C.length : Int) < (A.length : Int)) = true := decide_eq_true hC3'
              obtain ⟨a6, c6, rfl⟩ := ho2.form
              rw [hCl] at HO2 HNE ⊢
              clear ho2
              go_wp2_with (at_builtin; refine wpList_append_o _ rfl (.tmp 49) (.tmp 51) 22 rfl w1.heap.size wr.heap.size 3 i0 (.int .i64 0) 8 Try.underlying22 hi hz0 hz1 hz2 rfl _ (ints C) rfl (HO2.out.alloc _) (wr.heap.size + 1) (some ⟨wr.heap.size, 0, none⟩) 1 1 [.int .i64 y] rfl (Rd.one _ _ _) rfl (by simp; rfl) (by rw [hCl]; unfold maxLen; omega) (by rw [hCl]; omega) (by simp; omega) ?_; intro v4 w4 ho4 hg4 hat4; have ho1b := (HO1.out.aside hg4 HNE.out).more; have hne4 := apart_push HO1.out HNE.out hat4 (by simp); have hr4 := (hr.row (World.grownBy_alloc wr (.cells #[.int .i64 y] 3) none) (by simp)).row hg4 (fun k hk => by have := HO2.out.base k hk; omega); have hG4 := chg_push hG hg4 (Nat.le_refl _) HO2.out.base; have HO4 := Lib.hid ho4; have HO1b := Lib.hid ho1b; have HNE4 := Lib.hid hne4; clear ho4 ho1b hne4 hat4 hg4)
              go_wp2_with fail
              refine (pick_any g q _ rs _ (by omega) (by omega) hr4).mono ?_
              rintro e w5 ⟨t, rfl, ht0, ht1, h5, hg5, -⟩
              have ht3 := ht1 (by omega)
              have g1 := (HO4.out.chg hg5 (by omega)).more
              have g2 := (HO1b.out.chg hg5 (by omega)).more
              have hG5 := chg_trans hG4 hg5
              have G1 := Lib.hid g1
              have G2 := Lib.hid g2
              clear ht1 hg5 hG4 hr4 g1 g2 hG hr
              go_wp2_with fail
              go_roundw
              case rel =>
                refine ⟨y - 1 - t, C ++ [y], q + 1, by go_num, by omega, by simp; omega, Lib.hid (few_push HFC.out (by omega) (by omega)), by simp; omega, h5, hG5, G2.out, ?_, HNE4.out⟩
                have e := G1.out
                simpa [ints] using e
              case measure => simp [intOf]; omega
            · have d2 : decide (C.length < A.length) = false := decide_eq_false hC3
              obtain ⟨w5, rfl⟩ : ∃ w5 : World, w5 = wr := ⟨_, rfl⟩
              obtain ⟨a6, c6, rfl⟩ := ho2.form
              rw [hCl] at HO2 HNE ⊢
              clear ho2 hC3
              go_wp2_with fail
              refine (pick_any g q _ rs _ (by omega) (by omega) hr).mono ?_
              rintro e w6 ⟨z, rfl, hz0', -, h6, hg6, -⟩
              have g1 := (HO1.out.chg hg6 (by omega)).more
              have g2 := (HO2.out.chg hg6 (by omega)).more
              have hG6 := chg_trans hG hg6
              have G1 := Lib.hid g1
              have G2 := Lib.hid g2
              have hlt6 := h6.lt
              have hs6 := hG6.size
              clear hr hg6 hG g1 g2
              by_cases hz : z = 0
              · have b0 : (z == 0) = true := beq_iff_eq.2 hz
                clear hz
                go_wp2_with fail
                refine (one_any g _ _ _ _ [0, -1, 2] rs _ (by simp) (by simp) (by omega) (h6.below ((Below.refl _ _).alloc hlt6 _)) (rd_new w6 _ _) (by intro b o e; injection e with e; injection e with e; omega)).mono ?_
                rintro e w7 ⟨k, hk, rfl, h7, hg7, -⟩
                have hx : ∀ x ∈ ([0, -1, 2] : List Int), -1 ≤ x ∧ x ≤ 9 := by decide
                have hx1 := hx _ (List.getElem_mem hk)
                obtain ⟨u, hxx⟩ : ∃ x, x = ([0, -1, 2] : List Int)[k] := ⟨_, rfl⟩
                rw [← hxx] at hx1 ⊢
                clear hx hxx hk
                have g1 := ((G1.out.alloc (.cells (ints [0, -1, 2]).toArray 3)).chg hg7 (by omega)).more
                have g2 := ((G2.out.alloc (.cells (ints [0, -1, 2]).toArray 3)).chg hg7 (by omega)).more
                have hG7 := chg_trans (chg_alloc hG6 (.cells (ints [0, -1, 2]).toArray 3)) hg7
                have hs7 := hG7.size
                have HO1 := Lib.hid g1
                have HO2 := Lib.hid g2
                clear g1 g2 hg7 hG6 G1 G2 h6
                go_wp2_with (at_builtin; refine wpList_append_o _ rfl (.tmp 57) (.tmp 61) 22 rfl w1.heap.size w7.heap.size 3 i0 (.int .i64 0) 8 Try.underlying22 hi hz0 hz1 hz2 rfl _ (ints C) rfl (HO2.out.alloc _) (w7.heap.size + 1) (some ⟨w7.heap.size, 0, none⟩) 1 1 [.int .i64 u] rfl (Rd.one _ _ _) rfl (by simp; rfl) (by rw [hCl]; unfold maxLen; omega) (by rw [hCl]; omega) (by simp; omega) ?_; intro v4 w8 ho4 hg4 hat4; have ho1b := (HO1.out.aside hg4 HNE.out).more; have hG8 := chg_push hG7 hg4 (Nat.le_refl _) HO2.out.base; have HO4 := Lib.hid ho4; have HO1b := Lib.hid ho1b; clear ho4 ho1b hat4 hg4)
                go_ret2
                have hgg := HG.out
                subst hgg
                have hB8 := hB1.grown hG8 (Nat.le_of_lt hlt1) (fun k hk => by injection hk with hk; omega)
                have e := HO4.out
                have e8 : ints C ++ [Value.int .i64 u] = ints (C ++ [u]) := by simp [ints]
                rw [e8] at e
                obtain ⟨a8, c8, rfl⟩ := e.form
                have hl8 : (ints (C ++ [u])).length = (C ++ [u]).length := by simp
                rw [hl8] at e ⊢
                exact ⟨a5, c5, A, a8, c8, C ++ [u], rfl, HO1b.out.lower hlw, e.lower hlw, HFA.out, few_push HFC.out (by omega) hx1, hB8⟩
              · have b0 : (z == 0) = false := beq_eq_false_iff_ne.2 hz
                clear hz
                go_wp2_with fail
                refine (pick_any g _ _ rs _ (by omega) (by omega) h6).mono ?_
                rintro e w7 ⟨z2, rfl, hz0', -, h7, hg7, -⟩
                have g1 := (G1.out.chg hg7 (by omega)).more
                have g2 := (G2.out.chg hg7 (by omega)).more
                have hG7 := chg_trans hG6 hg7
                have HO1 := Lib.hid g1
                have HO2 := Lib.hid g2
                have hs7 := hG7.size
                clear g1 g2 hg7 hG6 G1 G2 h6
                have hB7 := hB1.grown hG7 (Nat.le_of_lt hlt1) (fun k hk => by injection hk with hk; omega)
                have HB7 := Lib.hid hB7
                clear hB7
                by_cases hz : z2 = 0
                · have b1 : (z2 == 0) = true := beq_iff_eq.2 hz
                  clear hz
                  go_wp2_with fail
                  go_ret2
                  have hgg := HG.out
                  subst hgg
                  have e1 := (Own.empty w7 3).alloc (.cells #[] 3)
                  have e2 := Own.empty (w7.alloc (.cells #[] 3)) 3
                  rw [World.size_alloc] at e2
                  have hgw : w.heap.size ≤ w7.heap.size := HB7.out.size
                  exact ⟨_, 0, [], _, 0, [], rfl, (e1.lower hgw).more, (e2.lower (by omega)).more, ⟨by simp, by simp⟩, ⟨by simp, by simp⟩, (HB7.out.alloc hgw _).alloc (by simp; omega) _⟩
                · have b1 : (z2 == 0) = false := beq_eq_false_iff_ne.2 hz
                  clear hz
                  go_wp2_with fail
                  go_ret2
                  have hgg := HG.out
                  subst hgg
                  exact ⟨a5, c5, A, a6, c6, C, rfl, HO1.out.lower hlw, HO2.out.lower hlw, HFA.out, HFC.out, HB7.out⟩
          · have d1 : decide (0 ≤ y) = false := decide_eq_false hy0
            obtain ⟨w5, rfl⟩ : ∃ w5 : World, w5 = wr := ⟨_, rfl⟩
            obtain ⟨a6, c6, rfl⟩ := ho2.form
            rw [hCl] at HO2 HNE ⊢
            clear ho2
            go_wp2_with fail
            refine (pick_any g q _ rs _ (by omega) (by omega) hr).mono ?_
            rintro e w6 ⟨z, rfl, hz0', -, h6, hg6, -⟩
            have g1 := (HO1.out.chg hg6 (by omega)).more
            have g2 := (HO2.out.chg hg6 (by omega)).more
            have hG6 := chg_trans hG hg6
            have G1 := Lib.hid g1
            have G2 := Lib.hid g2
            have hlt6 := h6.lt
            have hs6 := hG6.size
            clear hr hg6 hG g1 g2
            by_cases hz : z = 0
            · have b0 : (z == 0) = true := beq_iff_eq.2 hz
              clear hz
              go_wp2_with fail
              refine (one_any g _ _ _ _ [0, -1, 2] rs _ (by simp) (by simp) (by omega) (h6.below ((Below.refl _ _).alloc hlt6 _)) (rd_new w6 _ _) (by intro b o e; injection e with e; injection e with e; omega)).mono ?_
              rintro e w7 ⟨k, hk, rfl, h7, hg7, -⟩
              have hx : ∀ x ∈ ([0, -1, 2] : List Int), -1 ≤ x ∧ x ≤ 9 := by decide
              have hx1 := hx _ (List.getElem_mem hk)
              obtain ⟨u, hxx⟩ : ∃ x, x = ([0, -1, 2] : List Int)[k] := ⟨_, rfl⟩
              rw [← hxx] at hx1 ⊢
              clear hx hxx hk
              have g1 := ((G1.out.alloc (.cells (ints [0, -1, 2]).toArray 3)).chg hg7 (by omega)).more
              have g2 := ((G2.out.alloc (.cells (ints [0, -1, 2]).toArray 3)).chg hg7 (by omega)).more
              have hG7 := chg_trans (chg_alloc hG6 (.cells (ints [0, -1, 2]).toArray 3)) hg7
              have hs7 := hG7.size
              have HO1 := Lib.hid g1
              have HO2 := Lib.hid g2
              clear g1 g2 hg7 hG6 G1 G2 h6
              go_wp2_with (at_builtin; refine wpList_append_o _ rfl (.tmp 57) (.tmp 61) 22 rfl w1.heap.size w7.heap.size 3 i0 (.int .i64 0) 8 Try.underlying22 hi hz0 hz1 hz2 rfl _ (ints C) rfl (HO2.out.alloc _) (w7.heap.size + 1) (some ⟨w7.heap.size, 0, none⟩) 1 1 [.int .i64 u] rfl (Rd.one _ _ _) rfl (by simp; rfl) (by rw [hCl]; unfold maxLen; omega) (by rw [hCl]; omega) (by simp; omega) ?_; intro v4 w8 ho4 hg4 hat4; have ho1b := (HO1.out.aside hg4 HNE.out).more; have hG8 := chg_push hG7 hg4 (Nat.le_refl _) HO2.out.base; have HO4 := Lib.hid ho4; have HO1b := Lib.hid ho1b; clear ho4 ho1b hat4 hg4)
              go_ret2
              have hgg := HG.out
              subst hgg
              have hB8 := hB1.grown hG8 (Nat.le_of_lt hlt1) (fun k hk => by injection hk with hk; omega)
              have e := HO4.out
              have e8 : ints C ++ [Value.int .i64 u] = ints (C ++ [u]) := by simp [ints]
              rw [e8] at e
              obtain ⟨a8, c8, rfl⟩ := e.form
              have hl8 : (ints (C ++ [u])).length = (C ++ [u]).length := by simp
              rw [hl8] at e ⊢
              exact ⟨a5, c5, A, a8, c8, C ++ [u], rfl, HO1b.out.lower hlw, e.lower hlw, HFA.out, few_push HFC.out (by omega) hx1, hB8⟩
            · have b0 : (z == 0) = false := beq_eq_false_iff_ne.2 hz
              clear hz
              go_wp2_with fail
              refine (pick_any g _ _ rs _ (by omega) (by omega) h6).mono ?_
              rintro e w7 ⟨z2, rfl, hz0', -, h7, hg7, -⟩
              have g1 := (G1.out.chg hg7 (by omega)).more
              have g2 := (G2.out.chg hg7 (by omega)).more
              have hG7 := chg_trans hG6 hg7
              have HO1 := Lib.hid g1
              have HO2 := Lib.hid g2
              have hs7 := hG7.size
              clear g1 g2 hg7 hG6 G1 G2 h6
              have hB7 := hB1.grown hG7 (Nat.le_of_lt hlt1) (fun k hk => by injection hk with hk; omega)
              have HB7 := Lib.hid hB7
              clear hB7
              by_cases hz : z2 = 0
              · have b1 : (z2 == 0) = true := beq_iff_eq.2 hz
                clear hz
                go_wp2_with fail
                go_ret2
                have hgg := HG.out
                subst hgg
                have e1 := (Own.empty w7 3).alloc (.cells #[] 3)
                have e2 := Own.empty (w7.alloc (.cells #[] 3)) 3
                rw [World.size_alloc] at e2
                have hgw : w.heap.size ≤ w7.heap.size := HB7.out.size
                exact ⟨_, 0, [], _, 0, [], rfl, (e1.lower hgw).more, (e2.lower (by omega)).more, ⟨by simp, by simp⟩, ⟨by simp, by simp⟩, (HB7.out.alloc hgw _).alloc (by simp; omega) _⟩
              · have b1 : (z2 == 0) = false := beq_eq_false_iff_ne.2 hz
                clear hz
                go_wp2_with fail
                go_ret2
                have hgg := HG.out
                subst hgg
                exact ⟨a5, c5, A, a6, c6, C, rfl, HO1.out.lower hlw, HO2.out.lower hlw, HFA.out, HFC.out, HB7.out⟩
end Go.Proofs.Ytemkchihbnneeaa
