/-
  Walks: the drawing of piles.
-/
import Derived.Test.YtnheolhgdinjgaaD3c
import Derived.Test.YtnheolhgdinjgaaLL2
import Derived.Test.YtnheolhgdinjgaaW8
import Derived.RegionTactic
import Derived.StillTailTactics
namespace Go.Proofs.Ytnheolhgdinjgaa
open Go.RowKit NP
set_option maxRecDepth 100000
set_option linter.unusedVariables false
set_option linter.unusedSimpArgs false
theorem mrg_length (L : List Int) : (mrg L).length = L.length := by
  have := (fold_ins L []).1
  simpa [mrg] using this
theorem sumL_bds (L : List Int) (hx : ∀ x ∈ L, 1 ≤ x ∧ x ≤ 16) : (L.length : Int) ≤ sumL L ∧ sumL L ≤ 16 * L.length := by
  induction L with
  | nil => simp [sumL]
  | cons y L ih =>
    have h1 := ih fun x h => hx x (List.mem_cons_of_mem _ h)
    have h2 := hx y List.mem_cons_self
    rw [show sumL (y :: L) = y + sumL L by simp [sumL], List.length_cons]
    omega
theorem sumFits_small (L : List Int) (h : L.length ≤ 16) (hx : ∀ x ∈ L, 1 ≤ x ∧ x ≤ 16) : sumFits L := fun k hk => by
  have h1 := sumL_bds (L.take k) fun x h => hx x (List.mem_of_mem_take h)
  rw [List.length_take] at h1
  omega
theorem sumL_small (L : List Int) (h : L.length ≤ 16) (hx : ∀ x ∈ L, 1 ≤ x ∧ x ≤ 16) (hn : 0 < L.length) : 1 ≤ sumL L ∧ sumL L ≤ 256 := by
  have := sumL_bds L hx
  omega
theorem OwnLL.chg {w w' : World} {g lo hi : Nat} {eo e : TypeId} {v : Value} {vs : List Value} {LL : List (List Int)} (h : OwnLL w lo hi eo e v vs LL) (hg : w.grownBy w' (some g)) (hlt : g < lo) : OwnLL w' lo hi eo e v vs LL :=
  ⟨h.outer.chg hg hlt, h.len, fun k u L a b => (h.inner k u L a b).chg hg hlt, h.apartO, h.apart⟩
theorem partsOfN_any (g q : Nat) (n : Int) (bs : List Int) (w : World) (hn0 : 0 ≤ n) (hn : n ≤ 16) (hq : q ≤ 900000) (h : Rdr w g bs q) :
    Calls Try.prog 68 #[.pointer (some ⟨g, 0, none⟩), .int .i64 n] w fun e w' => ∃ a' c' M, e = .returned (.slice a' M.length c') ∧ Own w' w.heap.size w'.heap.size 3 (.slice a' M.length c') (ints M) ∧ SmallParts M ∧ (0 < n → 0 < M.length) ∧ (∃ q', q' ≤ q + 32 ∧ Rdr w' g bs q') ∧ w.grownBy w' (some g) := by
  obtain ⟨i0, hi, hz0, hz1, hz2⟩ := T_int'
  have hlt := h.lt
  go_enter Try.func68, Try.ntmps68
  go_wp2_with fail
  go_loopw [1, 5] (fun nn v wr => ∃ (m : Nat) (q' : Nat) (M : List Int), nn = .int .i64 (m : Int) ∧ (M.length + m ≤ 16 ∧ (0 < n → 0 < M.length + m)) ∧ q' + 2 * m ≤ q + 32 ∧ Rdr wr g bs q' ∧ w.grownBy wr (some g) ∧ Own wr w.heap.size wr.heap.size 3 v (ints M) ∧ Hid (∀ x ∈ M, 1 ≤ x ∧ x ≤ 16)) (fun nn _ _ => (intOf nn).toNat)
  case atStart =>
    obtain ⟨m, rfl⟩ := Int.eq_ofNat_of_zero_le hn0
    exact ⟨m, q, [], rfl, by simp; omega, by omega, h.below ((Below.refl _ _).alloc hlt _), World.grownBy_alloc w _ _, (Own.empty w 3).more, Lib.hid (by simp)⟩
  case round =>
    obtain ⟨m, q', M, rfl, ⟨hMm, hNE⟩, hqm, hr, hg, hown, HM⟩ := hrel
    by_cases hm : 0 < m
    · have hm' : (0 : Int) < (m : Int) := by omega
      have hltr := hr.lt
      have HO := Lib.hid hown
      clear hown
      go_wp2_with fail
      refine (one_any g q' _ _ _ [3, 5, 9, 2, 16] bs _ (by simp) (by simp) (by omega) (hr.below ((Below.refl _ _).alloc hltr _)) (rd_new wr _ _) (by intro b o e; injection e with e; injection e with e; omega)).mono ?_
      rintro e w1 ⟨k, hk, rfl, h1, hg1, -⟩
      have hx : ∀ x ∈ ([3, 5, 9, 2, 16] : List Int), 2 ≤ x ∧ x ≤ 16 := by decide
      have hx1 := hx _ (List.getElem_mem hk)
      obtain ⟨x, hxx⟩ : ∃ x, x = ([3, 5, 9, 2, 16] : List Int)[k] := ⟨_, rfl⟩
      rw [← hxx] at hx1 ⊢
      clear hx hxx hk
      have hzr := hg.size
      have HO1 := Lib.hid ((HO.out.alloc (.cells (ints [3, 5, 9, 2, 16]).toArray 3)).chg hg1 (by omega)).more
      have hgw1 := chg_trans (chg_alloc hg (.cells (ints [3, 5, 9, 2, 16]).toArray 3)) hg1
      clear hg1 HO
      go_wp2_with fail
      all_goals
        refine (pick_any g _ _ bs _ (by omega) (by omega) h1).mono ?_
        rintro e w2 ⟨y, rfl, hy0, hy1, h2, hg2, -⟩
        obtain ⟨y, rfl⟩ := Int.eq_ofNat_of_zero_le hy0
        have hym : y + 1 ≤ m := by have := hy1 (by omega); omega
        clear hy1
        have hown2 := (HO1.out.chg hg2 (by omega)).more
        have hgw2 := chg_trans hgw1 hg2
        have hzw2 := hgw2.size
        clear hgw1 hg2 HO1
        go_wp2_with (at_builtin; refine wpList_append_o _ rfl (.tmp 18) (.tmp 20) 31 rfl w.heap.size w2.heap.size 3 i0 (.int .i64 0) 8 Try.underlying31 hi hz0 hz1 hz2 rfl _ (ints M) rfl (hown2.alloc _) (w2.heap.size + 1) (some ⟨w2.heap.size, 0, none⟩) 1 1 [.int .i64 (1 + (y : Int))] rfl (Rd.one w2 _ _) rfl (by simp; rfl) (by simp; unfold maxLen; omega) (by simp; omega) (by simp; omega) ?_; intro v' w3 ho3 hg3 hat3)
        go_roundw
        case rel =>
          refine ⟨m - (1 + y), q' + 2, M ++ [1 + (y : Int)], by go_num, ⟨by simp; omega, fun _ => by simp; omega⟩, by omega, (h2.row (World.grownBy_alloc w2 _ none) (by simp)).row hg3 (fun k hk => by have := hown2.base k hk; omega), chg_row (chg_alloc hgw2 _) hg3 hown2.base, by simpa [ints] using ho3, Lib.hid fun x hx => ?_⟩
          simp at hx
          rcases hx with hx | hx
          · exact HM.out x hx
          · omega
        case measure => simp [intOf]; omega
    · obtain rfl : m = 0 := by omega
      obtain ⟨a0, c0, rfl⟩ := hown.form
      have hs : SmallParts M := ⟨by omega, HM.out⟩
      have HS := Lib.hid (mrg_small hs)
      have HNE : Hid (0 < n → 0 < (mrg M).length) := Lib.hid (fun h9 => by have := hNE h9; rw [mrg_length]; omega)
      clear hNE
      have hlM : (ints M).length = M.length := by simp
      rw [hlM] at hown ⊢
      have HO := Lib.hid hown
      clear hown hlM
      go_wp2_with fail
      refine (merge_any _ _ _ M _ HO.out.rd (by omega) (by have := hs.1; omega)).mono ?_
      rintro e w1 ⟨a', c', rfl, ho1, hb1⟩
      go_wp2_with fail
      go_ret
      exact ⟨a', c', mrg M, rfl, ho1.lower hg.size, HS.out, HNE.out, ⟨q', by omega, hr.below (hb1.mono hr.lt)⟩, chg_below hg (hb1.mono hg.size)⟩
theorem T_intsD : (Try.prog.info? 31).map (fun i => (i.zero, i.size, i.bytes)) = some (some (.slice none 0 0), 1, 24) := by kernel_rfl
set_option maxHeartbeats 4000000 in
theorem aPile_any (g q : Nat) (bs : List Int) (w : World) (hq : q ≤ 800000) (h : Rdr w g bs q) :
    Calls Try.prog 59 #[.pointer (some ⟨g, 0, none⟩)] w fun e w' => ∃ a' c' us LL, e = .returned (.slice a' LL.length c') ∧ OwnLL w' w.heap.size w'.heap.size 31 3 (.slice a' LL.length c') us LL ∧ LL.length ≤ 16 ∧ (∀ M ∈ LL, SmallParts M ∧ 0 < M.length) ∧ (∃ q', q' ≤ q + 600 ∧ Rdr w' g bs q') ∧ w.grownBy w' (some g) := by
  obtain ⟨i0, hi, hz0, hz1, hz2⟩ := T_int'
  obtain ⟨i1, hj, hy0, hy1, hy2⟩ := info_parts T_intsD
  have hlt := h.lt
  go_enter Try.func59, Try.ntmps59
  go_wp2_with fail
  obtain ⟨wa, hwa⟩ : ∃ wa, wa = w.alloc (.cells #[] 31) := ⟨_, rfl⟩
  have hza : w.heap.size + 1 = wa.heap.size := by rw [hwa]; simp
  have hra : Rdr wa g bs q := hwa ▸ h.below ((Below.refl _ _).alloc hlt _)
  have hGa : w.grownBy wa (some g) := hwa ▸ World.grownBy_alloc w (.cells #[] 31) (some g)
  have hOa : OwnLL wa w.heap.size wa.heap.size 31 3 (.slice (some ⟨w.heap.size, 0, none⟩) 0 0) [] [] := by rw [hwa]; exact (OwnLL.empty w 31 3).more
  rw [← hwa]
  try rw [hza]
  clear hwa
  refine (one_any g _ _ _ _ [6, 8, 5, 10, 4, 3, 12, 1, 0, 16] bs _ (by simp) (by simp) (by omega) (hra.below ((Below.refl _ _).alloc hra.lt _)) (rd_new wa _ _) (by intro b o e; injection e with e; injection e with e; omega)).mono ?_
  rintro e w1 ⟨k, hk, rfl, h1, hg1, -⟩
  have hx : ∀ x ∈ ([6, 8, 5, 10, 4, 3, 12, 1, 0, 16] : List Int), 0 ≤ x ∧ x ≤ 16 := by decide
  have hx1 := hx _ (List.getElem_mem hk)
  obtain ⟨x, hxx⟩ : ∃ x, x = ([6, 8, 5, 10, 4, 3, 12, 1, 0, 16] : List Int)[k] := ⟨_, rfl⟩
  rw [← hxx] at hx1 ⊢
  clear hx hxx hk h
  have hG1 := chg_trans (chg_alloc hGa (.cells (ints [6, 8, 5, 10, 4, 3, 12, 1, 0, 16]).toArray 3)) hg1
  have hz1s := hG1.size
  have hO1 : OwnLL w1 w.heap.size w1.heap.size 31 3 (.slice (some ⟨w.heap.size, 0, none⟩) 0 0) [] [] := ((hOa.below ((Below.refl _ _).alloc (Nat.le_refl _) _)).chg hg1 hlt).more
  clear hg1 hOa hGa hra
  go_wp2_with fail
  go_loopw [3, 4] (fun v n wr => ∃ (m : Int) (q' : Nat) (us : List Value) (LL : List (List Int)), n = .int .i64 m ∧ (-300 ≤ m ∧ m ≤ 16 ∧ LL.length ≤ 16 ∧ (LL.length : Int) + m ≤ 16) ∧ us.length = LL.length ∧ q' + 33 * m.toNat ≤ q + 530 ∧ (∀ M ∈ LL, SmallParts M ∧ 0 < M.length) ∧ Rdr wr g bs q' ∧ w.grownBy wr (some g) ∧ OwnLL wr w.heap.size wr.heap.size 31 3 v us LL) (fun _ n _ => (intOf n).toNat)
  case atStart => exact ⟨x, q + 1, [], [], rfl, ⟨by omega, by omega, by simp, by simp; omega⟩, rfl, by omega, by simp, h1, hG1, hO1⟩
  case round =>
    obtain ⟨m, q1, us, LL, rfl, ⟨hm0, hm1, hl16, hlm⟩, hul, hqm, hsm, hr, hg, hoLL⟩ := hrel
    have HSM := Lib.hid hsm
    clear hsm hO1 hG1 h1
    obtain ⟨aO, cO, rfl⟩ := hoLL.form
    by_cases hm : 0 < m
    · have hHO := Lib.hid hoLL
      clear hoLL
      have hzr := hg.size
      go_wp2_with fail
      refine (pick_any g _ _ bs _ (by omega) (by omega) hr).mono ?_
      rintro e w2 ⟨y, rfl, hp0, hp1, h2, hg2, hz2s⟩
      have hym : y < m := hp1 (by omega)
      clear hp1
      have HO2 := Lib.hid (hHO.out.chg hg2 hlt)
      have hgw2 := chg_trans hg hg2
      clear hg hg2 hr hHO
      go_wp2_with fail
      refine (partsOfN_any g (q1 + 1) (1 + y) bs w2 (by omega) (by omega) (by omega) h2).mono ?_
      rintro e w3 ⟨aR, cR, R, rfl, hoR, hsR, hneR, ⟨q2, hq2, h3⟩, hg3⟩
      have hne := hneR (by omega)
      have HO3 := Lib.hid (HO2.out.chg hg3 hlt)
      have hgw3 := chg_trans hgw2 hg3
      have hz3 := hg3.size
      have HR3 := Lib.hid hoR
      clear hg3 hgw2 HO2 hneR h2 hoR
      by_cases h0 : LL.length = 0
      · have h0' : decide (0 < LL.length) = false := decide_eq_false (by omega)
        clear h0
        go_wp2_with (at_builtin; refine wpList_append_o _ rfl (.tmp 54) (.tmp 56) 22 rfl w.heap.size w3.heap.size 31 i1 (.slice none 0 0) 24 Try.underlying22 hj hy0 hy1 hy2 rfl _ us rfl (HO3.out.outer.more.alloc _) (w3.heap.size + 1) (some ⟨w3.heap.size, 0, none⟩) 1 1 [.slice aR R.length cR] rfl (Rd.one w3 _ _) rfl (by intro u hu; rw [List.mem_singleton.1 hu]; rfl) (by unfold maxLen; omega) (by omega) (by rw [World.size_alloc]; omega) ?_; intro v' w6 ho6 hg6 hat6)
        have hLL6 : OwnLL w6 w.heap.size w6.heap.size 31 3 v' (us ++ [.slice aR R.length cR]) (LL ++ [R]) :=
          OwnLL.append (HO3.out.below ((Below.refl _ _).alloc HO3.out.le _)) (HR3.out.alloc (.cells #[.slice aR R.length cR] 31)) (by omega) (by omega) (by simpa using ho6) hg6 hat6
        have hr6 := (h3.below ((Below.refl _ _).alloc h3.lt (.cells #[.slice aR R.length cR] 31))).row hg6 (fun x hx => by have := HO3.out.outer.base x hx; omega)
        have hgw6 := chg_row (chg_alloc hgw3 (.cells #[.slice aR R.length cR] 31)) hg6 HO3.out.outer.base
        have hs6 := hgw6.size
        obtain ⟨hsl, hsx⟩ := hsR
        have hro6 := hLL6.inner us.length (.slice aR R.length cR) R (by simp) (by rw [HO3.out.len]; simp)
        have hsf := sumFits_small R hsl hsx
        have hsum := sumL_small R hsl hsx hne
        have HLL := Lib.hid hLL6
        have HR := Lib.hid hr6
        have HG := Lib.hid hgw6
        clear hLL6 hr6 hgw6 ho6 hg6 hat6
        refine (sum_any aR cR _ R _ hro6.rd hsf (by omega)).mono ?_
        rintro e w7 ⟨rfl, rfl⟩
        clear hro6 hsf
        obtain ⟨sm, hsm2⟩ : ∃ sm, sm = sumL R := ⟨_, rfl⟩
        rw [← hsm2] at hsum ⊢
        clear hsm2
        have hwm : IntKind.i64.wrap (m - sm) = m - sm := IntWalk.i64_in _ (by omega)
        go_wp2_with fail
        go_roundw
        case rel => exact ⟨m - sm, q2, us ++ [.slice aR R.length cR], LL ++ [R], by go_num, by simp; omega, by simp; omega, by omega, fun M hM => by
            rcases List.mem_append.1 hM with h9 | h9
            · exact HSM.out M h9
            · rw [List.mem_singleton.1 h9]; exact ⟨⟨hsl, hsx⟩, hne⟩, HR.out, HG.out, HLL.out⟩
        case measure => simp [intOf]; omega
      · have h0' : decide (0 < LL.length) = true := decide_eq_true (by omega)
        have hLp : 0 < LL.length := by omega
        clear h0
        obtain ⟨kk, hkk⟩ : ∃ kk, LL.length = kk + 1 := ⟨LL.length - 1, by omega⟩
        have hkl : kk < LL.length := by omega
        obtain ⟨gO, aL, cL, eO, hgO1, hgO2, hcO, hoL, -⟩ := HO3.out.at_ hkl
        have hsP := HSM.out _ (List.getElem_mem hkl)
        subst eO
        have hwi : IntKind.i64.wrap ((LL.length : Int) - 1) = (kk : Int) := by rw [IntWalk.i64_in _ (by omega)]; omega
        have hki : (kk : Int) < (LL.length : Int) := by omega
        clear hkk
        generalize LL[kk] = P at hcO hoL hsP
        obtain ⟨⟨hpl, hpx⟩, hPN⟩ := hsP
        obtain ⟨r, hr⟩ : ∃ r : Nat, r = min R.length P.length := ⟨_, rfl⟩
        have hr1 : r ≤ R.length := by omega
        have hr2 : r ≤ P.length := by omega
        have hmn : (if P.length < R.length then (P.length : Int) else (R.length : Int)) = (r : Int) := by split <;> omega
        have hrn : 0 < r := by omega
        clear hr
        obtain ⟨gR, cR', eR, hcR⟩ := HR3.out.formN (by simpa using hne)
        injection eR with e1 e2 e3
        subst e1 e3
        rw [List.length_map] at hcR
        obtain ⟨gL, cL', eL, -⟩ := hoL.formN (by simpa using hPN)
        injection eL with e1 e4 e3
        subst e1 e3
        have hcr : (r : Int) ≤ (cR : Int) := by omega
        have hoT := HR3.out.take r (by simpa using hr1)
        rw [show (ints R).take r = ints (R.take r) by simp [ints, List.map_take]] at hoT
        have HOT := Lib.hid hoT
        have HP := Lib.hid hoL
        have hsN : ∀ x ∈ R.take r, 1 ≤ x ∧ x ≤ 16 := fun x hx => hsR.2 x (List.mem_of_mem_take hx)
        have hlN : (R.take r).length = r := by rw [List.length_take]; omega
        have HSN := Lib.hid hsN
        have HLN := Lib.hid hlN
        have hgR : w2.heap.size ≤ gR := hoT.base gR rfl
        clear hoT hoL hsN hlN e2 e4
        go_wp2_with fail
        go_loopw [7] (fun i wr => ∃ (k : Nat) (N : List Int), k ≤ r ∧ i = .int .i64 k ∧ N.length = r ∧ (∀ x ∈ N, 1 ≤ x ∧ x ≤ 16) ∧ Own wr w2.heap.size w3.heap.size 3 (.slice (some ⟨gR, 0, none⟩) r cR) (ints N) ∧ Below w2.heap.size w3 wr ∧ wr.heap.size = w3.heap.size) (fun i _ => 20 - (intOf i).toNat)
        case atStart => exact ⟨0, R.take r, Nat.zero_le _, rfl, HLN.out, HSN.out, HOT.out, Below.refl _ _, rfl⟩
        case round =>
          obtain ⟨k, N, hk, rfl, hNl, hNx, hoN, hbN, hzN⟩ := hrel
          by_cases hkr : k < r
          · have hkr' : (k : Int) < (r : Int) := by omega
            have hkN : k < N.length := by omega
            have hkP : k < P.length := by omega
            have hkPi : (k : Int) < (P.length : Int) := by omega
            obtain ⟨g1, c1, e1, hg11, hg12, hc1, hf1⟩ := hoN.at_ (k := k) (by simpa using hkN)
            injection e1 with e1 f1 f2
            clear f1 f2
            injection e1 with e1
            injection e1 with e1
            subst e1
            obtain ⟨g2, c2, e2, hg21, hg22, hc2, -⟩ := (HP.out.below (hbN.mono (by omega))).at_ (k := k) (by simpa using hkP)
            injection e2 with e2 f1 f2
            clear f1 f2
            injection e2 with e2
            injection e2 with e2
            subst e2
            rw [List.getElem_map] at hc1 hc2
            have hx := hNx _ (List.getElem_mem hkN)
            have hy := hpx _ (List.getElem_mem hkP)
            have hset : ∀ z : Int, 1 ≤ z ∧ z ≤ 16 → (N.set k z).length = r ∧ ∀ x ∈ N.set k z, 1 ≤ x ∧ x ≤ 16 := fun z hz => ⟨by rw [List.length_set]; exact hNl, fun x hx => by
              rcases List.mem_or_eq_of_mem_set hx with h9 | h9
              · exact hNx x h9
              · rw [h9]; exact hz⟩
            have HSET := Lib.hid hset
            generalize N[k] = x at hc1 hx
            generalize P[k] = y at hc2 hy
            obtain ⟨z, hz⟩ : ∃ z, (if y < x then y else x) = z := ⟨_, rfl⟩
            have hzb : 1 ≤ z ∧ z ≤ 16 := by rw [← hz]; split <;> omega
            have HZ := Lib.hid hzb
            have HOLD := Lib.hid hoN
            clear hset hNx hoN hx hy hzb
            go_wp2_with fail
            go_still_tail 12, (by kernel_rfl)
            change wpList _ _ _ _ _ wr.drew
            have hb5 : Below w2.heap.size w3 wr.drew := hbN.trans ((Dr.n wr 1).below _)
            have ho5 : Own wr.drew w2.heap.size w3.heap.size 3 (.slice (some ⟨gR, 0, none⟩) r cR) (ints N) := HOLD.out.drew
            have hz5 : wr.drew.heap.size = w3.heap.size := hzN
            replace hc1 : wr.drew.cell? ⟨gR, k, none⟩ = some (.int .i64 x) := hc1
            replace hf1 : wr.drew.frozen? ⟨gR, k, none⟩ = false := hf1
            replace hc2 : wr.drew.cell? ⟨gL, k, none⟩ = some (.int .i64 y) := hc2
            generalize wr.drew = w5 at *
            have HO5 := Lib.hid ho5
            clear ho5 HOLD hbN hzN
            go_wp2_with fail
            go_roundw
            case rel =>
              have e := HO5.out.set k (.int .i64 z)
              rw [show (ints N).set k (.int .i64 z) = ints (N.set k z) by simp [ints, List.map_set]] at e
              exact ⟨k + 1, N.set k z, by omega, by go_num, (HSET.out z HZ.out).1, (HSET.out z HZ.out).2, e, hb5.setCell (by exact hgR) _, by simpa [World.setCell] using hz5⟩
            case measure => simp [intOf]; omega
          · obtain rfl : k = r := by omega
            subst hNl
            have hne2 : 0 < N.length := hrn
            have hsR2 : N.length ≤ 16 ∧ ∀ x ∈ N, 1 ≤ x ∧ x ≤ 16 := ⟨by omega, hNx⟩
            have hkr' : ¬ (N.length : Int) < (N.length : Int) := by omega
            have h4 := h3.below (hbN.mono (by have := h3.lt; omega))
            have hgw4 := chg_below hgw3 (hbN.mono (by omega))
            have HO4 := Lib.hid (HO3.out.below (hbN.mono (by omega)))
            have HR4 := Lib.hid hoN.more
            have hzN2 : w3.heap.size ≤ wr.heap.size := by omega
            clear hsR hne hoN hNx hbN hgw3 h3 hzN
            go_wp2_with (at_builtin; refine wpList_append_o _ rfl (.tmp 54) (.tmp 56) 22 rfl w.heap.size wr.heap.size 31 i1 (.slice none 0 0) 24 Try.underlying22 hj hy0 hy1 hy2 rfl _ us rfl (HO4.out.outer.more.alloc _) (wr.heap.size + 1) (some ⟨wr.heap.size, 0, none⟩) 1 1 [.slice (some ⟨gR, 0, none⟩) N.length cR] rfl (Rd.one wr _ _) rfl (by intro u hu; rw [List.mem_singleton.1 hu]; rfl) (by unfold maxLen; omega) (by omega) (by rw [World.size_alloc]; omega) ?_; intro v' w6 ho6 hg6 hat6)
            have hLL6 : OwnLL w6 w.heap.size w6.heap.size 31 3 v' (us ++ [.slice (some ⟨gR, 0, none⟩) N.length cR]) (LL ++ [N]) :=
              OwnLL.append (HO4.out.below ((Below.refl _ _).alloc HO4.out.le _)) (HR4.out.alloc (.cells #[.slice (some ⟨gR, 0, none⟩) N.length cR] 31)) (by omega) (by omega) (by simpa using ho6) hg6 hat6
            have hr6 := (h4.below ((Below.refl _ _).alloc h4.lt (.cells #[.slice (some ⟨gR, 0, none⟩) N.length cR] 31))).row hg6 (fun x hx => by have := HO4.out.outer.base x hx; omega)
            have hgw6 := chg_row (chg_alloc hgw4 (.cells #[.slice (some ⟨gR, 0, none⟩) N.length cR] 31)) hg6 HO4.out.outer.base
            have hs6 := hgw6.size
            obtain ⟨hsl, hsx⟩ := hsR2
            have hro6 := hLL6.inner us.length (.slice (some ⟨gR, 0, none⟩) N.length cR) N (by simp) (by rw [HO4.out.len]; simp)
            have hsf := sumFits_small N hsl hsx
            have hsum := sumL_small N hsl hsx hne2
            have HLL := Lib.hid hLL6
            have HR := Lib.hid hr6
            have HG := Lib.hid hgw6
            clear hLL6 hr6 hgw6 ho6 hg6 hat6
            refine (sum_any (some ⟨gR, 0, none⟩) cR _ N _ hro6.rd hsf (by omega)).mono ?_
            rintro e w7 ⟨rfl, rfl⟩
            clear hro6 hsf
            obtain ⟨sm, hsm2⟩ : ∃ sm, sm = sumL N := ⟨_, rfl⟩
            rw [← hsm2] at hsum ⊢
            clear hsm2
            have hwm : IntKind.i64.wrap (m - sm) = m - sm := IntWalk.i64_in _ (by omega)
            go_wp2_with fail
            go_roundw
            case rel => exact ⟨m - sm, q2, us ++ [.slice (some ⟨gR, 0, none⟩) N.length cR], LL ++ [N], by go_num, by simp; omega, by simp; omega, by omega, fun M hM => by
                rcases List.mem_append.1 hM with h9 | h9
                · exact HSM.out M h9
                · rw [List.mem_singleton.1 h9]; exact ⟨⟨hsl, hsx⟩, hne2⟩, HR.out, HG.out, HLL.out⟩
            case measure => simp [intOf]; omega
    · have HO := Lib.hid hoLL
      have hl := hoLL.len
      clear hoLL
      go_wp2_with fail
      go_ret
      exact ⟨aO, cO, us, LL, rfl, HO.out, hl16, HSM.out, ⟨q1, by omega, hr⟩, hg⟩
end Go.Proofs.Ytnheolhgdinjgaa
