/-
  Walks: the draws of squares and doubled parts.
-/
import Derived.Test.YtldbjnnolebfbaaD5
import Derived.Test.YtldbjnnolebfbaaD4
import Derived.Test.YtldbjnnolebfbaaW28
namespace Go.Proofs.Ytldbjnnolebfbaa
open Go.RowKit NP
set_option linter.unusedVariables false
set_option linter.unusedSimpArgs false



theorem Own.apartU {w w' : World} {lo hi lo2 hi2 : Nat} {e e2 : TypeId} {v u : Value} {vs us : List Value} {o : Obj} (h : Own w lo hi e v vs) (k : Own w lo2 hi2 e2 u us) (hlo : hi2 ≤ lo) (hg : (w.alloc o).grownBy w' u.ownBlock) : Own w' lo w'.heap.size e v vs :=
  ((h.alloc o).grown hg (by
    cases hb : v.ownBlock with
    | none => exact .inl rfl
    | some g => exact .inr fun e => by have h1 := h.base g hb; have h2 := k.lt g e.symm; omega)).more
theorem keep_off' {w w1 : World} {lo : Nat} {e : TypeId} {v : Value} {vs : List Value} {o : Obj} {n c : Nat} (h : Own w lo w.heap.size e v vs) (hg : (w.alloc o).grownBy w1 (Value.slice (some ⟨w.heap.size, 0, none⟩) n c).ownBlock) : Own w1 lo w.heap.size e v vs :=
  (h.alloc o).grown hg (by
    cases hb : v.ownBlock with
    | none => exact .inl rfl
    | some g => exact .inr fun e => by have := h.lt g hb; simp [Value.ownBlock] at e; omega)

set_option maxHeartbeats 4000000 in
theorem DrawSquarePut_any (a : Option Addr) (c B : Nat) (bs : List Int) (w : World) (h : Rd w B a (bs.map (Value.int .u8))) (hB : B ≤ w.heap.size) (hb : ∀ n ∈ bs, (Lit.int .u8 n).wf = true) (hl : bs.length ≤ 1048576) (hc : bs.length ≤ c) :
    Calls Try.prog 23 #[.slice a bs.length c] w fun e w' => ∃ d a1 c1 M1 a2 c2 M2, e = .returned (.tuple #[.int .i64 d, .slice a1 M1.length c1, .slice a2 M2.length c2]) ∧ Own w' w.heap.size w'.heap.size 3 (.slice a1 M1.length c1) (ints M1) ∧ Own w' w.heap.size w'.heap.size 3 (.slice a2 M2.length c2) (ints M2) ∧ M1.length ≤ 100 ∧ M2.length ≤ 100 ∧ Below w.heap.size w w' := by
  obtain ⟨i0, hi, hz0', hz1', hz2'⟩ := T_int'
  go_enter Try.func23, Try.ntmps23
  go_wp2_with fail
  refine (newReader_any _ _ B bs _ h hB hb hl hc).mono ?_
  rintro e w1 ⟨rfl, h1, hb1, -⟩
  clear hb hl hc h
  have hlt := h1.lt
  obtain ⟨rs, hrs⟩ : ∃ rs, rs = bs.take 2000 := ⟨_, rfl⟩
  rw [← hrs] at h1
  clear hrs
  go_wp2_with fail
  refine (goodParts_any w.heap.size 0 rs _ (by omega) h1).mono ?_
  rintro e w2 ⟨a2, c2, M, rfl, ho2, hs2, ⟨q2, hq2, h2⟩, hg2⟩
  have hlen := hs2.1
  have HEL := Lib.hid hs2.2
  have hcap := ho2.cap
  replace ho2 := ho2.lower (lo' := w1.heap.size) (Nat.le_refl _)
  have hG2 : w1.grownBy w2 (some w.heap.size) := hg2
  have hz22 := hg2.size
  clear hg2 hs2 h1
  have HO2 := Lib.hid ho2
  go_wp2_with fail
  refine (sdurfee_any _ _ w2.heap.size M _ ho2.rd (by omega)).mono ?_
  rintro e w' ⟨rfl, rfl⟩
  have hdl : durS M ≤ M.length := (durS_spec M).1
  obtain ⟨d, hd⟩ : ∃ d, d = durS M := ⟨_, rfl⟩
  rw [← hd] at hdl ⊢
  clear hd
  have hMr := ho2.rd
  clear ho2
  go_wp2_with fail
  go_loopw [8, 9] (fun v vi wr => ∃ k : Nat, k ≤ d ∧ vi = .int .i64 (k : Int) ∧ Below w2.heap.size w2 wr ∧ ∃ R : List Int, R.length ≤ k ∧ Own wr w2.heap.size wr.heap.size 3 v (ints R)) (fun _ vi _ => 20 - (intOf vi).toNat)
  case atStart => exact ⟨0, Nat.zero_le _, rfl, (Below.refl _ _).alloc (Nat.le_refl _) _, [], by simp, (Own.empty w2 3).more⟩
  case round =>
    obtain ⟨k, hk, rfl, hbel, R, hRk, hown⟩ := hrel
    by_cases hlt1 : k < d
    · have hkL : k < M.length := by omega
      have hlt' : (k : Int) < (d : Int) := by omega
      have hx := HEL.out _ (List.getElem_mem hkL)
      obtain ⟨b1, o1, rfl, _, hc1⟩ := (hMr.below hbel).at_ hkL
      have HO := Lib.hid hown
      clear hown
      generalize M[k] = x at *
      have hvl : (ints R).length ≤ 16 := by rw [List.length_map]; omega
      by_cases hx2 : (d : Int) < x
      · go_wp2_with (at_builtin; refine wpList_append_o _ rfl (.tmp 29) (.tmp 36) 22 rfl w2.heap.size wr.heap.size 3 i0 (.int .i64 0) 8 Try.underlying22 hi hz0' hz1' hz2' rfl _ (ints R) rfl (HO.out.alloc _) (wr.heap.size + 1) (some ⟨wr.heap.size, 0, none⟩) 1 1 [.int .i64 (x - (d : Int))] rfl (Rd.one _ _ _) rfl (by simp; rfl) (by unfold maxLen; omega) (by omega) (by have := hbel.size; simp; omega) ?_; intro v' w1' ho1 hg1 hat1)
        go_roundw
        case rel => exact ⟨k + 1, by omega, by go_num, below_push hbel (Nat.le_refl _) hg1 HO.out.base, R ++ [x - (d : Int)], by simp; omega, by simpa [ints] using ho1⟩
        case measure => simp [intOf]; omega
      · have hx3 : x ≤ (d : Int) := by omega
        go_wp2_with fail
        go_roundw
        case rel => exact ⟨k + 1, by omega, by go_num, hbel, R, by omega, HO.out⟩
        case measure => simp [intOf]; omega
    · obtain rfl : k = d := by omega
      obtain ⟨a', c', rfl⟩ := hown.form
      have hl4 : (ints R).length = R.length := by simp
      rw [hl4] at hown ⊢
      have hsz := hbel.size
      have HO := Lib.hid (hown.lower (lo' := w1.heap.size) hz22)
      have hR16 : R.length ≤ 16 := by omega
      clear hown hl4 hlt1 hk hRk
      have h3 : Rdr wr w.heap.size rs q2 := h2.below (hbel.mono (by omega))
      have hG3 : w1.grownBy wr (some w.heap.size) := chg_below hG2 (hbel.mono hz22)
      have e0 := Own.empty wr 3
      have hltr : w.heap.size < wr.heap.size := by omega
      have hwr : w.heap.size ≤ wr.heap.size := by omega
      clear h2 hG2
      -- the parts behind
      have hal : w1.grownBy (wr.alloc (.cells #[] 3)) (some w.heap.size) := chg_alloc hG3 _
      by_cases hL0 : 0 < M.length
      · obtain ⟨b, ob, rfl, _, _⟩ := hMr.at_ hL0
        by_cases hck : c2 = k
        · have h0 : M.length - k = 0 := by omega
          have h1n : ¬ 0 < M.length - k := by omega
          have hA0 := HO.out.alloc (.cells #[] 3)
          have hB0 := e0
          have h30 := h3.below ((Below.refl _ _).alloc h3.lt (.cells #[] 3))
          clear hMr hbel h3 e0
          have hA := Lib.hid (hA0)
          have hBB := Lib.hid (hB0)
          have h3x := h30
          have Gx := hal
          clear HO HO2
          have hvl : (ints R).length ≤ 16 := by rw [List.length_map]; omega
          go_wp2_with fail
          refine (pick_any w.heap.size q2 12 rs _ (by omega) (by omega) h3x).mono ?_
          rintro e w5 ⟨z, rfl, hz0, -, h5, hg5, -⟩
          have hA5 := Lib.hid (hA.out.chg hg5 hlt)
          have hB5 := Lib.hid ((hBB.out.chg hg5 hltr).more)
          have G5 := chg_trans Gx hg5
          have hlt5 := h5.lt
          have hzz := G5.size
          have hfin : Below w.heap.size w w5 := chg_low3 hb1 (Nat.le_refl _) (Nat.le_refl _) G5
          clear hA hBB h3x Gx hg5
          by_cases hz : z = 0
          · have b0 : (z == 0) = true := beq_iff_eq.2 hz
            clear hz
            go_wp2_with fail
            refine (one_any w.heap.size _ _ _ _ [(k : Int) + 1, (k : Int) - 1, -1] rs _ (by simp) (by simp) (by omega) (h5.below ((Below.refl _ _).alloc hlt5 _)) (rd_new w5 _ _) (by intro b o e; injection e with e; injection e with e; omega)).mono ?_
            rintro e w6 ⟨kk, hkk, rfl, h6, hg6, -⟩
            obtain ⟨x, hxx⟩ : ∃ x, x = ([(k : Int) + 1, (k : Int) - 1, -1] : List Int)[kk] := ⟨_, rfl⟩
            rw [← hxx]
            clear hxx
            have hA6 := Lib.hid ((((hA5.out.alloc (.cells (ints [(k : Int) + 1, (k : Int) - 1, -1]).toArray 3))).chg hg6 hlt).more)
            have hB6 := Lib.hid ((((hB5.out.alloc (.cells (ints [(k : Int) + 1, (k : Int) - 1, -1]).toArray 3))).chg hg6 hltr).more)
            have G6 := chg_trans (chg_alloc G5 (.cells (ints [(k : Int) + 1, (k : Int) - 1, -1]).toArray 3)) hg6
            clear hg6 hA5 hB5
            go_wp2_with fail
            go_ret3
            exact ⟨x, a', c', R, _, 0, [], rfl, hA6.out.lower hb1.size, hB6.out.lower hwr, by omega, by first | (simp; done) | omega, chg_low3 hb1 (Nat.le_refl _) (Nat.le_refl _) G6⟩
          · have b0 : (z == 0) = false := beq_eq_false_iff_ne.2 hz
            by_cases hz1 : z = 1
            · have b1 : (z == 1) = true := beq_iff_eq.2 hz1
              clear hz hz1
              go_wp2_with (at_builtin; refine wpList_append_o _ rfl (.tmp 59) (.tmp 60) 22 rfl w1.heap.size wr.heap.size 3 i0 (.int .i64 0) 8 Try.underlying22 hi hz0' hz1' hz2' rfl _ (ints R) rfl (hA5.out.alloc _) (w5.heap.size + 1) (some ⟨w5.heap.size, 0, none⟩) 1 1 [.int .i64 1] rfl (Rd.one _ _ _) rfl (by simp; rfl) (by unfold maxLen; omega) (by omega) (by rw [World.size_alloc]; omega) ?_; intro v' w6 ho6 hg6 hat6; obtain ⟨a6, c6, rfl⟩ := ho6.form; obtain ⟨R1, hR1⟩ : ∃ R1 : List Int, R1 = R ++ [1] := ⟨_, rfl⟩; have hl6 : (ints R ++ [Value.int .i64 1]).length = R1.length := (by rw [hR1]; simp); have hi6 : ints R ++ [Value.int .i64 1] = ints R1 := (by rw [hR1]; simp [ints]); rw [hl6] at ho6 ⊢; rw [hi6] at ho6; have hR17 : R1.length ≤ 17 := (by rw [hR1]; simp; omega); clear hR1 hi6)
              have hB6 := Lib.hid (Own.apartU hB5.out hA5.out (Nat.le_refl _) hg6)
              have hb6 : Below w.heap.size w w6 := below_push hfin (Nat.le_refl _) hg6 (fun g hg => Nat.le_trans hb1.size (hA5.out.base g hg))
              have hA6 := Lib.hid ho6
              clear ho6 hg6 hA5 hB5 hl6
              go_ret3
              exact ⟨_, a6, c6, R1, _, 0, [], rfl, hA6.out.lower hb1.size, hB6.out.lower hwr, by omega, by first | (simp; done) | omega, hb6⟩
            · have b1 : (z == 1) = false := beq_eq_false_iff_ne.2 hz1
              by_cases hz2 : z = 2
              · have b2 : (z == 2) = true := beq_iff_eq.2 hz2
                clear hz hz1 hz2
                go_wp2_with fail
                refine (someParts_grown w.heap.size _ rs _ (by omega) h5).mono ?_
                rintro e w6 ⟨a6, c6, M6, rfl, ho6, hs6, -, hg6⟩
                have hA6 := Lib.hid ((hA5.out.chg hg6 hlt).more)
                have G6 := chg_trans G5 hg6
                have h40 := hs6.1
                clear hg6 hA5 hB5
                go_wp2_with fail
                go_ret3
                exact ⟨_, a', c', R, a6, c6, M6, rfl, hA6.out.lower hb1.size, ho6.lower (Nat.le_trans hb1.size hzz), by omega, by omega, chg_low3 hb1 (Nat.le_refl _) (Nat.le_refl _) G6⟩
              · have b2 : (z == 2) = false := beq_eq_false_iff_ne.2 hz2
                clear hz hz1 hz2
                go_wp2_with fail
                go_ret3
                exact ⟨_, a', c', R, _, 0, [], rfl, hA5.out.more.lower hb1.size, hB5.out.lower hwr, by omega, by first | (simp; done) | omega, hfin⟩
        · have hcut := ((hMr.below hbel).alloc hbel.size (.cells #[] 3)).cutAny k (cap := c2) (by simpa using hcap)
          rw [if_neg hck, ← List.map_drop] at hcut
          have HLB : Hid (M.length - k = (ints (M.drop k)).length) := Lib.hid (by simp)
          have hdl16 : (M.drop k).length ≤ 16 := by simp <;> omega
          obtain ⟨N, hN⟩ : ∃ N, N = M.drop k := ⟨_, rfl⟩
          rw [← hN] at HLB hdl16 hcut
          clear hN
          have HCUT := Lib.hid hcut
          clear hcut
          go_wp2_with (at_builtin; refine wpList_append_o _ rfl (.tmp 38) (.tmp 41) 22 rfl wr.heap.size (wr.heap.size + 1) 3 i0 (.int .i64 0) 8 Try.underlying22 hi hz0' hz1' hz2' rfl _ [] rfl e0 w2.heap.size (some ⟨b, ob + k, none⟩) (M.length - k) (c2 - k) (ints N) rfl HCUT.out HLB.out (ints_one _) (by simp only [List.length_nil, Nat.zero_add]; unfold maxLen; omega) (by simp only [List.length_nil, Nat.zero_add]; omega) (by simp <;> omega) ?_; intro v' w3 ho1 hg1 hat1; rw [List.nil_append] at ho1; obtain ⟨a3, c3, rfl⟩ := ho1.form; rw [List.length_map] at ho1 ⊢)
          have hA0 := keep_off' HO.out hg1
          have hB0 := ho1
          have h30 := (h3.below ((Below.refl _ _).alloc h3.lt (.cells #[] 3))).row hg1 (by intro x hx; cases hx; exact Nat.lt_of_lt_of_le hlt (Nat.le_trans hz22 hsz))
          have hal3 : w1.grownBy w3 (some w.heap.size) := chg_row hal hg1 (by intro x hx; cases hx; exact Nat.le_trans hz22 hsz)
          clear hMr hbel h3 e0 hal ho1 hg1 HCUT HLB
          have hA := Lib.hid (hA0)
          have hBB := Lib.hid (hB0)
          have h3x := h30
          have Gx := hal3
          clear HO HO2
          have hvl : (ints R).length ≤ 16 := by rw [List.length_map]; omega
          go_wp2_with fail
          refine (pick_any w.heap.size q2 12 rs _ (by omega) (by omega) h3x).mono ?_
          rintro e w5 ⟨z, rfl, hz0, -, h5, hg5, -⟩
          have hA5 := Lib.hid (hA.out.chg hg5 hlt)
          have hB5 := Lib.hid ((hBB.out.chg hg5 hltr).more)
          have G5 := chg_trans Gx hg5
          have hlt5 := h5.lt
          have hzz := G5.size
          have hfin : Below w.heap.size w w5 := chg_low3 hb1 (Nat.le_refl _) (Nat.le_refl _) G5
          clear hA hBB h3x Gx hg5
          by_cases hz : z = 0
          · have b0 : (z == 0) = true := beq_iff_eq.2 hz
            clear hz
            go_wp2_with fail
            refine (one_any w.heap.size _ _ _ _ [(k : Int) + 1, (k : Int) - 1, -1] rs _ (by simp) (by simp) (by omega) (h5.below ((Below.refl _ _).alloc hlt5 _)) (rd_new w5 _ _) (by intro b o e; injection e with e; injection e with e; omega)).mono ?_
            rintro e w6 ⟨kk, hkk, rfl, h6, hg6, -⟩
            obtain ⟨x, hxx⟩ : ∃ x, x = ([(k : Int) + 1, (k : Int) - 1, -1] : List Int)[kk] := ⟨_, rfl⟩
            rw [← hxx]
            clear hxx
            have hA6 := Lib.hid ((((hA5.out.alloc (.cells (ints [(k : Int) + 1, (k : Int) - 1, -1]).toArray 3))).chg hg6 hlt).more)
            have hB6 := Lib.hid ((((hB5.out.alloc (.cells (ints [(k : Int) + 1, (k : Int) - 1, -1]).toArray 3))).chg hg6 hltr).more)
            have G6 := chg_trans (chg_alloc G5 (.cells (ints [(k : Int) + 1, (k : Int) - 1, -1]).toArray 3)) hg6
            clear hg6 hA5 hB5
            go_wp2_with fail
            go_ret3
            exact ⟨x, a', c', R, a3, c3, N, rfl, hA6.out.lower hb1.size, hB6.out.lower hwr, by omega, by first | (simp; done) | omega, chg_low3 hb1 (Nat.le_refl _) (Nat.le_refl _) G6⟩
          · have b0 : (z == 0) = false := beq_eq_false_iff_ne.2 hz
            by_cases hz1 : z = 1
            · have b1 : (z == 1) = true := beq_iff_eq.2 hz1
              clear hz hz1
              go_wp2_with (at_builtin; refine wpList_append_o _ rfl (.tmp 59) (.tmp 60) 22 rfl w1.heap.size wr.heap.size 3 i0 (.int .i64 0) 8 Try.underlying22 hi hz0' hz1' hz2' rfl _ (ints R) rfl (hA5.out.alloc _) (w5.heap.size + 1) (some ⟨w5.heap.size, 0, none⟩) 1 1 [.int .i64 1] rfl (Rd.one _ _ _) rfl (by simp; rfl) (by unfold maxLen; omega) (by omega) (by rw [World.size_alloc]; omega) ?_; intro v' w6 ho6 hg6 hat6; obtain ⟨a6, c6, rfl⟩ := ho6.form; obtain ⟨R1, hR1⟩ : ∃ R1 : List Int, R1 = R ++ [1] := ⟨_, rfl⟩; have hl6 : (ints R ++ [Value.int .i64 1]).length = R1.length := (by rw [hR1]; simp); have hi6 : ints R ++ [Value.int .i64 1] = ints R1 := (by rw [hR1]; simp [ints]); rw [hl6] at ho6 ⊢; rw [hi6] at ho6; have hR17 : R1.length ≤ 17 := (by rw [hR1]; simp; omega); clear hR1 hi6)
              have hB6 := Lib.hid (Own.apartU hB5.out hA5.out (Nat.le_refl _) hg6)
              have hb6 : Below w.heap.size w w6 := below_push hfin (Nat.le_refl _) hg6 (fun g hg => Nat.le_trans hb1.size (hA5.out.base g hg))
              have hA6 := Lib.hid ho6
              clear ho6 hg6 hA5 hB5 hl6
              go_ret3
              exact ⟨_, a6, c6, R1, a3, c3, N, rfl, hA6.out.lower hb1.size, hB6.out.lower hwr, by omega, by first | (simp; done) | omega, hb6⟩
            · have b1 : (z == 1) = false := beq_eq_false_iff_ne.2 hz1
              by_cases hz2 : z = 2
              · have b2 : (z == 2) = true := beq_iff_eq.2 hz2
                clear hz hz1 hz2
                go_wp2_with fail
                refine (someParts_grown w.heap.size _ rs _ (by omega) h5).mono ?_
                rintro e w6 ⟨a6, c6, M6, rfl, ho6, hs6, -, hg6⟩
                have hA6 := Lib.hid ((hA5.out.chg hg6 hlt).more)
                have G6 := chg_trans G5 hg6
                have h40 := hs6.1
                clear hg6 hA5 hB5
                go_wp2_with fail
                go_ret3
                exact ⟨_, a', c', R, a6, c6, M6, rfl, hA6.out.lower hb1.size, ho6.lower (Nat.le_trans hb1.size hzz), by omega, by omega, chg_low3 hb1 (Nat.le_refl _) (Nat.le_refl _) G6⟩
              · have b2 : (z == 2) = false := beq_eq_false_iff_ne.2 hz2
                clear hz hz1 hz2
                go_wp2_with fail
                go_ret3
                exact ⟨_, a', c', R, a3, c3, N, rfl, hA5.out.more.lower hb1.size, hB5.out.lower hwr, by omega, by first | (simp; done) | omega, hfin⟩
      · obtain rfl : M = [] := List.eq_nil_of_length_eq_zero (by omega)
        obtain rfl : k = 0 := by simpa using hdl
        have hA0 := HO.out.alloc (.cells #[] 3)
        have hB0 := e0
        have h30 := h3.below ((Below.refl _ _).alloc h3.lt (.cells #[] 3))
        clear hMr hbel h3 e0
        cases a2 with
        | none =>
          have hA := Lib.hid (hA0)
          have hBB := Lib.hid (hB0)
          have h3x := h30
          have Gx := hal
          clear HO HO2
          have hvl : (ints R).length ≤ 16 := by rw [List.length_map]; omega
          go_wp2_with fail
          refine (pick_any w.heap.size q2 12 rs _ (by omega) (by omega) h3x).mono ?_
          rintro e w5 ⟨z, rfl, hz0, -, h5, hg5, -⟩
          have hA5 := Lib.hid (hA.out.chg hg5 hlt)
          have hB5 := Lib.hid ((hBB.out.chg hg5 hltr).more)
          have G5 := chg_trans Gx hg5
          have hlt5 := h5.lt
          have hzz := G5.size
          have hfin : Below w.heap.size w w5 := chg_low3 hb1 (Nat.le_refl _) (Nat.le_refl _) G5
          clear hA hBB h3x Gx hg5
          by_cases hz : z = 0
          · have b0 : (z == 0) = true := beq_iff_eq.2 hz
            clear hz
            go_wp2_with fail
            refine (one_any w.heap.size _ _ _ _ [((0 : Nat) : Int) + 1, ((0 : Nat) : Int) - 1, -1] rs _ (by simp) (by simp) (by omega) (h5.below ((Below.refl _ _).alloc hlt5 _)) (rd_new w5 _ _) (by intro b o e; injection e with e; injection e with e; omega)).mono ?_
            rintro e w6 ⟨kk, hkk, rfl, h6, hg6, -⟩
            obtain ⟨x, hxx⟩ : ∃ x, x = ([((0 : Nat) : Int) + 1, ((0 : Nat) : Int) - 1, -1] : List Int)[kk] := ⟨_, rfl⟩
            rw [← hxx]
            clear hxx
            have hA6 := Lib.hid ((((hA5.out.alloc (.cells (ints [((0 : Nat) : Int) + 1, ((0 : Nat) : Int) - 1, -1]).toArray 3))).chg hg6 hlt).more)
            have hB6 := Lib.hid ((((hB5.out.alloc (.cells (ints [((0 : Nat) : Int) + 1, ((0 : Nat) : Int) - 1, -1]).toArray 3))).chg hg6 hltr).more)
            have G6 := chg_trans (chg_alloc G5 (.cells (ints [((0 : Nat) : Int) + 1, ((0 : Nat) : Int) - 1, -1]).toArray 3)) hg6
            clear hg6 hA5 hB5
            go_wp2_with fail
            go_ret3
            exact ⟨x, a', c', R, _, 0, [], rfl, hA6.out.lower hb1.size, hB6.out.lower hwr, by omega, by first | (simp; done) | omega, chg_low3 hb1 (Nat.le_refl _) (Nat.le_refl _) G6⟩
          · have b0 : (z == 0) = false := beq_eq_false_iff_ne.2 hz
            by_cases hz1 : z = 1
            · have b1 : (z == 1) = true := beq_iff_eq.2 hz1
              clear hz hz1
              go_wp2_with (at_builtin; refine wpList_append_o _ rfl (.tmp 59) (.tmp 60) 22 rfl w1.heap.size wr.heap.size 3 i0 (.int .i64 0) 8 Try.underlying22 hi hz0' hz1' hz2' rfl _ (ints R) rfl (hA5.out.alloc _) (w5.heap.size + 1) (some ⟨w5.heap.size, 0, none⟩) 1 1 [.int .i64 1] rfl (Rd.one _ _ _) rfl (by simp; rfl) (by unfold maxLen; omega) (by omega) (by rw [World.size_alloc]; omega) ?_; intro v' w6 ho6 hg6 hat6; obtain ⟨a6, c6, rfl⟩ := ho6.form; obtain ⟨R1, hR1⟩ : ∃ R1 : List Int, R1 = R ++ [1] := ⟨_, rfl⟩; have hl6 : (ints R ++ [Value.int .i64 1]).length = R1.length := (by rw [hR1]; simp); have hi6 : ints R ++ [Value.int .i64 1] = ints R1 := (by rw [hR1]; simp [ints]); rw [hl6] at ho6 ⊢; rw [hi6] at ho6; have hR17 : R1.length ≤ 17 := (by rw [hR1]; simp; omega); clear hR1 hi6)
              have hB6 := Lib.hid (Own.apartU hB5.out hA5.out (Nat.le_refl _) hg6)
              have hb6 : Below w.heap.size w w6 := below_push hfin (Nat.le_refl _) hg6 (fun g hg => Nat.le_trans hb1.size (hA5.out.base g hg))
              have hA6 := Lib.hid ho6
              clear ho6 hg6 hA5 hB5 hl6
              go_ret3
              exact ⟨_, a6, c6, R1, _, 0, [], rfl, hA6.out.lower hb1.size, hB6.out.lower hwr, by omega, by first | (simp; done) | omega, hb6⟩
            · have b1 : (z == 1) = false := beq_eq_false_iff_ne.2 hz1
              by_cases hz2 : z = 2
              · have b2 : (z == 2) = true := beq_iff_eq.2 hz2
                clear hz hz1 hz2
                go_wp2_with fail
                refine (someParts_grown w.heap.size _ rs _ (by omega) h5).mono ?_
                rintro e w6 ⟨a6, c6, M6, rfl, ho6, hs6, -, hg6⟩
                have hA6 := Lib.hid ((hA5.out.chg hg6 hlt).more)
                have G6 := chg_trans G5 hg6
                have h40 := hs6.1
                clear hg6 hA5 hB5
                go_wp2_with fail
                go_ret3
                exact ⟨_, a', c', R, a6, c6, M6, rfl, hA6.out.lower hb1.size, ho6.lower (Nat.le_trans hb1.size hzz), by omega, by omega, chg_low3 hb1 (Nat.le_refl _) (Nat.le_refl _) G6⟩
              · have b2 : (z == 2) = false := beq_eq_false_iff_ne.2 hz2
                clear hz hz1 hz2
                go_wp2_with fail
                go_ret3
                exact ⟨_, a', c', R, _, 0, [], rfl, hA5.out.more.lower hb1.size, hB5.out.lower hwr, by omega, by first | (simp; done) | omega, hfin⟩
        | some x0 =>
          have hA := Lib.hid (hA0)
          have hBB := Lib.hid (hB0)
          have h3x := h30
          have Gx := hal
          clear HO HO2
          have hvl : (ints R).length ≤ 16 := by rw [List.length_map]; omega
          go_wp2_with fail
          refine (pick_any w.heap.size q2 12 rs _ (by omega) (by omega) h3x).mono ?_
          rintro e w5 ⟨z, rfl, hz0, -, h5, hg5, -⟩
          have hA5 := Lib.hid (hA.out.chg hg5 hlt)
          have hB5 := Lib.hid ((hBB.out.chg hg5 hltr).more)
          have G5 := chg_trans Gx hg5
          have hlt5 := h5.lt
          have hzz := G5.size
          have hfin : Below w.heap.size w w5 := chg_low3 hb1 (Nat.le_refl _) (Nat.le_refl _) G5
          clear hA hBB h3x Gx hg5
          by_cases hz : z = 0
          · have b0 : (z == 0) = true := beq_iff_eq.2 hz
            clear hz
            go_wp2_with fail
            refine (one_any w.heap.size _ _ _ _ [((0 : Nat) : Int) + 1, ((0 : Nat) : Int) - 1, -1] rs _ (by simp) (by simp) (by omega) (h5.below ((Below.refl _ _).alloc hlt5 _)) (rd_new w5 _ _) (by intro b o e; injection e with e; injection e with e; omega)).mono ?_
            rintro e w6 ⟨kk, hkk, rfl, h6, hg6, -⟩
            obtain ⟨x, hxx⟩ : ∃ x, x = ([((0 : Nat) : Int) + 1, ((0 : Nat) : Int) - 1, -1] : List Int)[kk] := ⟨_, rfl⟩
            rw [← hxx]
            clear hxx
            have hA6 := Lib.hid ((((hA5.out.alloc (.cells (ints [((0 : Nat) : Int) + 1, ((0 : Nat) : Int) - 1, -1]).toArray 3))).chg hg6 hlt).more)
            have hB6 := Lib.hid ((((hB5.out.alloc (.cells (ints [((0 : Nat) : Int) + 1, ((0 : Nat) : Int) - 1, -1]).toArray 3))).chg hg6 hltr).more)
            have G6 := chg_trans (chg_alloc G5 (.cells (ints [((0 : Nat) : Int) + 1, ((0 : Nat) : Int) - 1, -1]).toArray 3)) hg6
            clear hg6 hA5 hB5
            go_wp2_with fail
            go_ret3
            exact ⟨x, a', c', R, _, 0, [], rfl, hA6.out.lower hb1.size, hB6.out.lower hwr, by omega, by first | (simp; done) | omega, chg_low3 hb1 (Nat.le_refl _) (Nat.le_refl _) G6⟩
          · have b0 : (z == 0) = false := beq_eq_false_iff_ne.2 hz
            by_cases hz1 : z = 1
            · have b1 : (z == 1) = true := beq_iff_eq.2 hz1
              clear hz hz1
              go_wp2_with (at_builtin; refine wpList_append_o _ rfl (.tmp 59) (.tmp 60) 22 rfl w1.heap.size wr.heap.size 3 i0 (.int .i64 0) 8 Try.underlying22 hi hz0' hz1' hz2' rfl _ (ints R) rfl (hA5.out.alloc _) (w5.heap.size + 1) (some ⟨w5.heap.size, 0, none⟩) 1 1 [.int .i64 1] rfl (Rd.one _ _ _) rfl (by simp; rfl) (by unfold maxLen; omega) (by omega) (by rw [World.size_alloc]; omega) ?_; intro v' w6 ho6 hg6 hat6; obtain ⟨a6, c6, rfl⟩ := ho6.form; obtain ⟨R1, hR1⟩ : ∃ R1 : List Int, R1 = R ++ [1] := ⟨_, rfl⟩; have hl6 : (ints R ++ [Value.int .i64 1]).length = R1.length := (by rw [hR1]; simp); have hi6 : ints R ++ [Value.int .i64 1] = ints R1 := (by rw [hR1]; simp [ints]); rw [hl6] at ho6 ⊢; rw [hi6] at ho6; have hR17 : R1.length ≤ 17 := (by rw [hR1]; simp; omega); clear hR1 hi6)
              have hB6 := Lib.hid (Own.apartU hB5.out hA5.out (Nat.le_refl _) hg6)
              have hb6 : Below w.heap.size w w6 := below_push hfin (Nat.le_refl _) hg6 (fun g hg => Nat.le_trans hb1.size (hA5.out.base g hg))
              have hA6 := Lib.hid ho6
              clear ho6 hg6 hA5 hB5 hl6
              go_ret3
              exact ⟨_, a6, c6, R1, _, 0, [], rfl, hA6.out.lower hb1.size, hB6.out.lower hwr, by omega, by first | (simp; done) | omega, hb6⟩
            · have b1 : (z == 1) = false := beq_eq_false_iff_ne.2 hz1
              by_cases hz2 : z = 2
              · have b2 : (z == 2) = true := beq_iff_eq.2 hz2
                clear hz hz1 hz2
                go_wp2_with fail
                refine (someParts_grown w.heap.size _ rs _ (by omega) h5).mono ?_
                rintro e w6 ⟨a6, c6, M6, rfl, ho6, hs6, -, hg6⟩
                have hA6 := Lib.hid ((hA5.out.chg hg6 hlt).more)
                have G6 := chg_trans G5 hg6
                have h40 := hs6.1
                clear hg6 hA5 hB5
                go_wp2_with fail
                go_ret3
                exact ⟨_, a', c', R, a6, c6, M6, rfl, hA6.out.lower hb1.size, ho6.lower (Nat.le_trans hb1.size hzz), by omega, by omega, chg_low3 hb1 (Nat.le_refl _) (Nat.le_refl _) G6⟩
              · have b2 : (z == 2) = false := beq_eq_false_iff_ne.2 hz2
                clear hz hz1 hz2
                go_wp2_with fail
                go_ret3
                exact ⟨_, a', c', R, _, 0, [], rfl, hA5.out.more.lower hb1.size, hB5.out.lower hwr, by omega, by first | (simp; done) | omega, hfin⟩

end Go.Proofs.Ytldbjnnolebfbaa
