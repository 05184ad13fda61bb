/-
  Walks: the draw of HasInside.
-/
import Derived.Test.YtlgglbgdopmkpaaD12
namespace Go.Proofs.Ytlgglbgdopmkpaa
open Go.RowKit NP
set_option linter.unusedVariables false
set_option linter.unusedSimpArgs false
set_option maxHeartbeats 4000000 in
theorem DrawHasInside_any (a : Option Addr) (c B : Nat) (bs : List Int) (w : World) (h : Rd w B a (bs.map (Value.int .u8))) (hB : B ≤ w.heap.size) (hb : ∀ n ∈ bs, (Lit.int .u8 n).wf = true) (hl : bs.length ≤ 1048576) (hc : bs.length ≤ c) :
    Calls Try.prog 30 #[.slice a bs.length c] w fun e w' => ∃ a1 c1 M1 a2 c2 M2, e = .returned (.tuple #[.slice a1 M1.length c1, .slice a2 M2.length c2]) ∧ Own w' w.heap.size w'.heap.size 3 (.slice a1 M1.length c1) (ints M1) ∧ Own w' w.heap.size w'.heap.size 3 (.slice a2 M2.length c2) (ints M2) ∧ Small M1 ∧ Small M2 ∧ Below w.heap.size w w' := by
  obtain ⟨i0, hi, hz0, hz1, hz2⟩ := T_int'
  go_enter Try.func30, Try.ntmps30
  go_wp2_with fail
  refine (newReader_any _ _ B bs _ h hB hb hl hc).mono ?_
  rintro e w1 ⟨rfl, h1, hb1, hsz1⟩
  obtain ⟨rs, hrs⟩ : ∃ rs, rs = bs.take 2000 := ⟨_, rfl⟩
  rw [← hrs] at h1
  clear hrs h hb hl hc
  have hlt : w.heap.size < w1.heap.size := h1.lt
  have hzz : w.heap.size ≤ w1.heap.size := by omega
  go_wp2_with fail
  refine (someParts_grown _ 0 rs _ (by omega) h1).mono ?_
  rintro e w2 ⟨a1, c1, M1, rfl, ho1, hs1, ⟨q2, hq2, h2⟩, hg2⟩
  have hlt2 := h2.lt
  clear h1
  go_wp2_with fail
  refine (one_any w.heap.size _ _ _ _ [2, 3, 1, 4, 0, 6] rs _ (by simp) (by simp) (by omega) (h2.below ((Below.refl _ _).alloc hlt2 _)) (rd_new w2 _ _) (by intro b o e; injection e with e; injection e with e; omega)).mono ?_
  rintro e w3 ⟨k, hk, rfl, h3, hg3, -⟩
  have hx : ∀ x ∈ ([2, 3, 1, 4, 0, 6] : List Int), 0 ≤ x ∧ x ≤ 16 := by decide
  have hx1 := hx _ (List.getElem_mem hk)
  obtain ⟨y, hxx⟩ : ∃ x, x = ([2, 3, 1, 4, 0, 6] : List Int)[k] := ⟨_, rfl⟩
  rw [← hxx] at hx1 ⊢
  clear hx hxx hk h2
  have ho3 := ((ho1.alloc (.cells (ints [2, 3, 1, 4, 0, 6]).toArray 3)).chg hg3 hlt).more
  have hG3 := chg_trans (chg_alloc hg2 (.cells (ints [2, 3, 1, 4, 0, 6]).toArray 3)) hg3
  have hz3 := hG3.size
  clear hg3 ho1 hg2
  go_wp2_with fail
  refine (partsOf_any w.heap.size _ y rs _ hx1.1 hx1.2 (by omega) h3).mono ?_
  rintro e w4 ⟨a2, c2, M2, rfl, ho2, hs2, ⟨q4, hq4, h4⟩, hg4⟩
  have ho4 := (ho3.chg hg4 hlt).more
  have hG4 := chg_trans hG3 hg4
  replace ho2 := ho2.lower hz3
  have hs2 := small_of_parts' hs2
  clear hx1 h3 hG3 hg4 ho3
  have HO1 := Lib.hid ho4
  have HO2 := Lib.hid ho2
  clear ho4 ho2
  go_wp2_with fail
  refine (pick_any w.heap.size _ _ rs _ (by omega) (by omega) h4).mono ?_
  rintro e w5 ⟨z, rfl, hz0', -, h5, hg5, -⟩
  have ho1 := (HO1.out.chg hg5 hlt).more
  have ho2 := (HO2.out.chg hg5 hlt).more
  have hG5 := chg_trans hG4 hg5
  have hz5 := hG5.size
  clear HO1 HO2 hG4 hg5 h4
  have hB5 : Below w.heap.size w w5 := hb1.grown hG5 hzz (fun k hk => by injection hk with hk; omega)
  have HO1 := Lib.hid ho1
  have HO2 := Lib.hid ho2
  clear ho1 ho2
  have hM1 := hs1.1
  by_cases hz : z = 0
  · have b0 : (z == 0) = true := beq_iff_eq.2 hz
    clear hz
    cases hv : valid M1 with
    | false =>
      have HV := Lib.hid hv
      clear hv
      go_wp2_with (go_at_call 47; refine (validParts_any _ _ _ M1 _ HO1.out.rd (by omega)).mono ?_; rintro e wv ⟨rfl, n1, rfl⟩; rw [HV.out])
      go_ret2
      exact ⟨a1, c1, M1, a2, c2, M2, rfl, (HO1.out.drewN n1).lower hzz, (HO2.out.drewN n1).lower hzz, hs1, hs2, hB5.trans ((Dr.n w5 n1).below _)⟩
    | true =>
      have HV := Lib.hid hv
      have HP := Lib.hid (preS_of_valid hv)
      have hl16 := (valid_bd hv).2.2.2
      clear hv
      go_wp2_with (go_at_call 47; refine (validParts_any _ _ _ M1 _ HO1.out.rd (by omega)).mono ?_; rintro e wv ⟨rfl, n1, rfl⟩; rw [HV.out])
      obtain ⟨w6, hw6⟩ : ∃ w6, w6 = w5.drewN n1 := ⟨_, rfl⟩
      have ho1 : Own w6 w1.heap.size w6.heap.size 3 (.slice a1 M1.length c1) (ints M1) := by rw [hw6]; exact HO1.out.drewN n1
      have h6 : Rdr w6 w.heap.size rs (q4 + 1) := by rw [hw6]; exact h5.dr (Dr.n w5 n1)
      have hG6 : w1.grownBy w6 (some w.heap.size) := by rw [hw6]; exact chg_below hG5 ((Dr.n w5 n1).below _)
      have hz6 : w1.heap.size ≤ w6.heap.size := hG6.size
      have e6 : Own (w6.alloc (.cells #[] 3)) w6.heap.size (w6.alloc (.cells #[] 3)).heap.size 3 (.slice (some ⟨w5.heap.size, 0, none⟩) 0 0) (ints []) := by
        have e : w6.heap.size = w5.heap.size := by rw [hw6]; rfl
        have e2 := (Own.empty w6 3).more
        rw [e] at e2 ⊢
        exact e2
      rw [← hw6]
      clear hw6 HO1 HO2 h5 hG5 hB5 hz5
      go_loopw [6, 7] (fun v vi wr => ∃ (k : Nat) (M : List Int), k ≤ M1.length ∧ M.length = k ∧ vi = .int .i64 k ∧ Hid (∀ x ∈ M, 1 ≤ x ∧ x ≤ 16) ∧ (∃ q', q' ≤ q4 + 1 + k ∧ Rdr wr w.heap.size rs q') ∧ w1.grownBy wr (some w.heap.size) ∧ Own wr w1.heap.size w6.heap.size 3 (.slice a1 M1.length c1) (ints M1) ∧ Own wr w6.heap.size wr.heap.size 3 v (ints M)) (fun _ vi _ => 40 - (intOf vi).toNat)
      case atStart => exact ⟨0, [], Nat.zero_le _, rfl, rfl, Lib.hid (by simp), ⟨q4 + 1, by omega, h6.below ((Below.refl _ _).alloc h6.lt _)⟩, chg_alloc hG6 _, ho1.alloc _, e6⟩
      case round =>
        obtain ⟨k, M, hk, hMk, rfl, HM, ⟨q', hq', hr⟩, hG, hop, hown⟩ := hrel
        clear ho1 h6 hG6 e6
        have HMK := Lib.hid hMk
        have hM16 : M.length ≤ 16 := by omega
        clear hMk
        by_cases hlt1 : k < M1.length
        · have hkL : (k : Int) < (M1.length : Int) := by omega
          obtain ⟨g1, rfl, hck⟩ := hop.read (k := k) (by simpa using hlt1)
          rw [List.getElem_map] at hck
          have hpk := HP.out k hlt1 hlt1
          have hltr := hr.lt
          obtain ⟨x, hxx⟩ : ∃ x, x = M1[k] := ⟨_, rfl⟩
          rw [← hxx] at hck hpk
          have HX := Lib.hid hxx
          clear hxx
          have HOP := Lib.hid hop
          have HON := Lib.hid hown
          clear hop hown
          go_wp2_with fail
          go_region_with (first | (go_at_call 61; refine (pick_any w.heap.size q' _ _ _ (by omega) (by omega) (hr.dr (Dr.n wr 1))).mono ?_; rintro e w7 ⟨x7, rfl, hx0, hx1, h7, hg7, hs7⟩; have hx8 := hx1 (by omega); have hop7 := ((HOP.out.drewN 1).chg hg7 (by omega)); have hc7 : w7.cell? ⟨g1, k, none⟩ = some (.int .i64 x) := (by obtain ⟨g', e', hc'⟩ := hop7.read (k := k) (by simpa using hlt1); injection e' with e'; injection e' with e'; subst e'; rw [hc', List.getElem_map, ← HX.out]); have hmn : (if 1 + x7 < x then 1 + x7 else x) = 1 + x7 := (by split <;> omega); have hwr : IntKind.i64.wrap (1 + x7) = 1 + x7 := IntWalk.i64_in _ (by omega); clear hx1))
          all_goals
            have own7 := ((HON.out.drewN 1).chg hg7 (by omega)).more
            have hG7 := chg_trans (chg_below hG ((Dr.n wr 1).below _)) hg7
            have hz7 := hG7.size
            have hz67 : w6.heap.size ≤ w7.heap.size := by have := HON.out.le; have := HON.out.row; have h9 := hs7; simp at h9; have := hop7.le; omega
            have HB7 := Lib.hid (own7.base)
            have HOP7 := Lib.hid hop7
            obtain ⟨av, cv, rfl⟩ := own7.form
            rw [List.length_map] at own7 ⊢
            clear HOP HON hG hg7 hs7 hop7 hr
            by_cases hk0 : 0 < M.length
            · have d1 : decide (0 < M.length) = true := decide_eq_true hk0
              obtain ⟨gv, hgv, hcv⟩ := own7.read (k := M.length - 1) (by simp; omega)
              rw [List.getElem_map] at hcv
              have hzz' := HM.out _ (List.getElem_mem (show M.length - 1 < M.length by omega))
              obtain ⟨z9, hz9⟩ : ∃ z, z = M[M.length - 1]'(by omega) := ⟨_, rfl⟩
              rw [← hz9] at hcv hzz'
              clear hz9
              obtain ⟨r, hr9⟩ : ∃ r, (if z9 < 1 + x7 then z9 else 1 + x7) = r := ⟨_, rfl⟩
              have hrb : 1 ≤ r ∧ r ≤ 16 := by rw [← hr9]; split <;> omega
              have hle1 : (0 : Int) ≤ (M.length : Int) - 1 := by omega
              have hle2 : (M.length : Int) - 1 < (M.length : Int) := by omega
              have hnl : ((M.length : Int) - 1).toNat = M.length - 1 := by omega
              subst hgv
              have HOW := Lib.hid own7
              clear own7
              go_wp2_with (at_builtin; refine wpList_append_o _ rfl (.tmp 55) (.tmp 57) 22 rfl w6.heap.size w7.heap.size 3 i0 (.int .i64 0) 8 Try.underlying22 hi hz0 hz1 hz2 rfl _ (ints M) rfl (HOW.out.alloc _) (w7.heap.size + 1) (some ⟨w7.heap.size, 0, none⟩) 1 1 [.int .i64 r] rfl (Rd.one _ _ _) rfl (by simp; rfl) (by simp only [List.length_map]; unfold maxLen; omega) (by simp only [List.length_map]; omega) (by simp; omega) ?_; intro v' w8 ho8 hg8 hat8)
              go_roundw
              case rel =>
                refine ⟨k + 1, M ++ [r], by omega, by have := HMK.out; simp; omega, by go_num, Lib.hid ?_, ⟨q' + 1, by omega, (h7.below ((Below.refl _ _).alloc h7.lt _)).below ((Below.refl _ _).grown hg8 (by simp; have := h7.lt; omega) (fun j hj => by have := HOW.out.base j hj; omega))⟩, chg_row (chg_alloc hG7 _) hg8 (fun j hj => by have := HOW.out.base j hj; omega), (HOP7.out.alloc _).grown hg8 (by
                  cases hb : (Value.slice (some ⟨g1, 0, none⟩) M1.length c1).ownBlock with
                  | none => exact .inl rfl
                  | some g => exact .inr fun e => by have := HOP7.out.lt g hb; have := HOW.out.base g e.symm; omega), by simpa [ints] using ho8⟩
                intro y hy
                simp at hy
                rcases hy with hy | hy
                · exact HM.out y hy
                · omega
              case measure => simp [intOf]; omega
            · have d1 : decide (0 < M.length) = false := decide_eq_false hk0
              have HOW := Lib.hid own7
              clear own7
              go_wp2_with (at_builtin; refine wpList_append_o _ rfl (.tmp 55) (.tmp 57) 22 rfl w6.heap.size w7.heap.size 3 i0 (.int .i64 0) 8 Try.underlying22 hi hz0 hz1 hz2 rfl _ (ints M) rfl (HOW.out.alloc _) (w7.heap.size + 1) (some ⟨w7.heap.size, 0, none⟩) 1 1 [.int .i64 (1 + x7)] rfl (Rd.one _ _ _) rfl (by simp; rfl) (by simp only [List.length_map]; unfold maxLen; omega) (by simp only [List.length_map]; omega) (by simp; omega) ?_; intro v' w8 ho8 hg8 hat8)
              go_roundw
              case rel =>
                refine ⟨k + 1, M ++ [1 + x7], by omega, by have := HMK.out; simp; omega, by go_num, Lib.hid ?_, ⟨q' + 1, by omega, (h7.below ((Below.refl _ _).alloc h7.lt _)).below ((Below.refl _ _).grown hg8 (by simp; have := h7.lt; omega) (fun j hj => by have := HOW.out.base j hj; omega))⟩, chg_row (chg_alloc hG7 _) hg8 (fun j hj => by have := HOW.out.base j hj; omega), (HOP7.out.alloc _).grown hg8 (by
                  cases hb : (Value.slice (some ⟨g1, 0, none⟩) M1.length c1).ownBlock with
                  | none => exact .inl rfl
                  | some g => exact .inr fun e => by have := HOP7.out.lt g hb; have := HOW.out.base g e.symm; omega), by simpa [ints] using ho8⟩
                intro y hy
                simp at hy
                rcases hy with hy | hy
                · exact HM.out y hy
                · omega
              case measure => simp [intOf]; omega
        · obtain rfl : k = M1.length := by omega
          obtain ⟨av, cv, rfl⟩ := hown.form
          rw [List.length_map] at hown ⊢
          have hBr : Below w.heap.size w wr := hb1.grown hG hzz (fun k hk => by injection hk with hk; omega)
          have hs3 : Small M := ⟨by omega, fun x hx => by have := HM.out x hx; omega⟩
          have HO1 := Lib.hid (hop.more.lower hzz)
          have HO2 := Lib.hid (hown.lower (lo' := w.heap.size) (by omega))
          clear hop hown
          go_wp2_with fail
          go_ret2
          exact ⟨a1, c1, M1, av, cv, M, rfl, HO1.out, HO2.out, hs1, hs3, hBr⟩
  · have b0 : (z == 0) = false := beq_eq_false_iff_ne.2 hz
    clear hz
    go_wp2_with fail
    go_ret2
    exact ⟨a1, c1, M1, a2, c2, M2, rfl, HO1.out.lower hzz, HO2.out.lower hzz, hs1, hs2, hB5⟩
end Go.Proofs.Ytlgglbgdopmkpaa
