/-
  Walks: the draws of summands.
-/
import Derived.Test.YtgbkaahmmpgjfaaD3a
namespace Go.Proofs.Ytgbkaahmmpgjfaa
open Go.RowKit NP
set_option linter.unusedVariables false
set_option linter.unusedSimpArgs false
set_option maxHeartbeats 1600000 in
theorem sumsOf_any (g q : Nat) (bs : List Int) (w : World) (hq : q ≤ 900000) (h : Rdr w g bs q) :
    Calls Try.prog 61 #[.pointer (some ⟨g, 0, none⟩)] w fun e w' => ∃ a' c' M, e = .returned (.slice a' M.length c') ∧ Own w' w.heap.size w'.heap.size 3 (.slice a' M.length c') (ints M) ∧ Small M ∧ (∃ q', q' ≤ q + 40 ∧ Rdr w' g bs q') ∧ w.grownBy w' (some g) := by
  obtain ⟨i0, hi, hz0, hz1, hz2⟩ := T_int'
  have hlt := h.lt
  go_enter Try.func61, Try.ntmps61
  go_wp2_with fail
  refine (sumFor_any g q bs _ (by omega) (h.below ((Below.refl _ _).alloc hlt _))).mono ?_
  rintro e w1 ⟨n, rfl, hn, h1, hg1⟩
  obtain ⟨n, rfl⟩ := Int.eq_ofNat_of_zero_le hn.1
  have hE := ((Own.empty w 3).more.chg hg1 hlt).more
  have hg0 := chg_trans (chg_alloc (World.grownBy.refl w (some g)) (.cells #[] 3)) hg1
  have hz1' := hg1.size
  rw [World.size_alloc] at hz1'
  clear h hg1
  go_wp2_with fail
  go_loopw [3, 4, 5] (fun v nn _ wr => ∃ (m : Nat) (q' : Nat) (M : List Int), nn = .int .i64 (m : Int) ∧ M.length + m ≤ 16 ∧ q' + m ≤ q + 1 + 16 ∧ Rdr wr g bs q' ∧ w.grownBy wr (some g) ∧ Own wr w.heap.size wr.heap.size 3 v (ints M) ∧ Hid (∀ x ∈ M, 1 ≤ x ∧ x ≤ 16)) (fun _ nn _ _ => (intOf nn).toNat)
  case atStart => exact ⟨n, q + 1, [], rfl, by simp; omega, by omega, h1, hg0, hE, Lib.hid (by simp)⟩
  case round =>
    obtain ⟨m, q', M, rfl, hMm, hqm, hr, hg, hown, HM⟩ := hrel
    clear h1 hg0 hE hz1'
    have hltr := hr.lt
    have hzr := hg.size
    have hlo : w.heap.size ≤ wr.heap.size := hzr
    by_cases hm : 0 < m
    · have hm' : (0 : Int) < (m : Int) := by omega
      have HO := Lib.hid hown
      clear hown
      go_wp2_with fail
      all_goals
        refine (pick_any g _ _ bs _ (by omega) (by omega) hr).mono ?_
        rintro e w2 ⟨y, rfl, hy0, hy1, h2, hg2, -⟩
        obtain ⟨y, rfl⟩ := Int.eq_ofNat_of_zero_le hy0
        have hym : y + 1 ≤ m := by have := hy1 (by omega); omega
        clear hy1
        have hown2 := (HO.out.chg hg2 hlt).more
        have hgw2 := chg_trans hg hg2
        have hzw2 := hgw2.size
        clear hg2 HO
        go_wp2_with (at_builtin; refine wpList_append_o _ rfl (.tmp 16) (.tmp 18) 22 rfl w.heap.size w2.heap.size 3 i0 (.int .i64 0) 8 Try.underlying22 hi hz0 hz1 hz2 rfl _ (ints M) rfl (hown2.alloc _) (w2.heap.size + 1) (some ⟨w2.heap.size, 0, none⟩) 1 1 [.int .i64 (1 + (y : Int))] rfl (Rd.one w2 _ _) rfl (by simp; rfl) (by simp; unfold maxLen; omega) (by simp; omega) (by simp; omega) ?_; intro v' w3 ho3 hg3 hat3)
        go_roundw
        case rel =>
          refine ⟨m - (1 + y), q' + 1, M ++ [1 + (y : Int)], by go_num, by simp; omega, by omega, (h2.row (World.grownBy_alloc w2 _ none) (by simp)).row hg3 (fun k hk => by have := hown2.base k hk; omega), chg_row (chg_alloc hgw2 _) hg3 hown2.base, by simpa [ints] using ho3, Lib.hid fun x hx => ?_⟩
          simp at hx
          rcases hx with hx | hx
          · exact HM.out x hx
          · omega
        case measure => simp [intOf] <;> omega
    · obtain rfl : m = 0 := by omega
      have HSM : Hid (Small M) := Lib.hid ⟨by omega, fun x hx => by have := HM.out x hx; omega⟩
      have HO := Lib.hid hown
      clear hown
      go_wp2_with fail
      refine (pick_any g _ _ bs _ (by omega) (by omega) hr).mono ?_
      rintro e w2 ⟨y, rfl, hy0, hy1, h2, hg2, -⟩
      clear hy1
      have hown2 := (HO.out.chg hg2 hlt).more
      have hgw2 := chg_trans hg hg2
      have hzw2 := hgw2.size
      have hlt2 := h2.lt
      clear hg2 HO hr hg
      by_cases h0 : y = 0
      · subst h0
        have HO2 := Lib.hid hown2
        clear hown2
        go_wp2_with fail
        refine (one_any g _ _ _ _ [0, -1, 17] bs _ (by simp) (by simp) (by omega) (h2.below ((Below.refl _ _).alloc hlt2 _)) (rd_new w2 _ _) (by intro b o e; injection e with e; injection e with e; omega)).mono ?_
        rintro e w3 ⟨k, hk, rfl, h3, hg3, -⟩
        have hx : ∀ x ∈ ([0, -1, 17] : List Int), -1 ≤ x ∧ x ≤ 17 := by decide
        have hx1 := hx _ (List.getElem_mem hk)
        obtain ⟨x, hxx⟩ : ∃ x, x = ([0, -1, 17] : List Int)[k] := ⟨_, rfl⟩
        rw [← hxx] at hx1 ⊢
        clear hx hxx hk
        have hown3 := ((HO2.out.alloc (.cells (ints [0, -1, 17]).toArray 3)).chg hg3 hlt).more
        have hgw3 := chg_trans (chg_alloc hgw2 (.cells (ints [0, -1, 17]).toArray 3)) hg3
        have hzw3 := hgw3.size
        clear HO2 hg3
        go_wp2_with (at_builtin; refine wpList_append_o _ rfl (.tmp 27) (.tmp 31) 22 rfl w.heap.size w3.heap.size 3 i0 (.int .i64 0) 8 Try.underlying22 hi hz0 hz1 hz2 rfl _ (ints M) rfl (hown3.alloc _) (w3.heap.size + 1) (some ⟨w3.heap.size, 0, none⟩) 1 1 [.int .i64 x] rfl (Rd.one w3 _ _) rfl (by simp; rfl) (by simp; unfold maxLen; omega) (by simp; omega) (by simp; omega) ?_; intro v' w4 ho4 hg4 hat4)
        go_ret
        have e : ints M ++ [Value.int .i64 x] = ints (M ++ [x]) := by simp [ints]
        rw [e] at ho4
        obtain ⟨a', c', rfl⟩ := ho4.form
        have hl3 : (ints (M ++ [x])).length = (M ++ [x]).length := by simp
        rw [hl3] at ho4 ⊢
        refine ⟨a', c', M ++ [x], rfl, ho4, ⟨by have := HSM.out.1; simp; omega, fun z hz => ?_⟩, ⟨_, by omega, (h3.row (World.grownBy_alloc w3 _ none) (by simp)).row hg4 (fun k hk => by have := hown3.base k hk; omega)⟩, chg_row (chg_alloc hgw3 _) hg4 hown3.base⟩
        rcases List.mem_append.1 hz with hz | hz
        · exact HSM.out.2 z hz
        · simp at hz; omega
      · have e0 : (y == 0) = false := by simp; omega
        by_cases h1' : y = 1
        · subst h1'
          have hlen2 : (ints M).length = M.length := by simp
          have hM := HSM.out.1
          go_wp2_with (at_builtin; refine wpList_append_o _ rfl (.tmp 35) (.tmp 36) 22 rfl w.heap.size w2.heap.size 3 i0 (.int .i64 0) 8 Try.underlying22 hi hz0 hz1 hz2 rfl _ (ints M) rfl (hown2.alloc _) (w2.heap.size + 1) (some ⟨w2.heap.size, 0, none⟩) 2 2 (ints [9, 9]) rfl (rd_new w2 _ _) rfl (ints_one _) (by rw [hlen2]; unfold maxLen; omega) (by rw [hlen2]; omega) (by simp; omega) ?_; intro v' w4 ho4 hg4 hat4)
          go_ret
          have e : ints M ++ ints [9, 9] = ints (M ++ [9, 9]) := by simp [ints]
          rw [e] at ho4
          obtain ⟨a', c', rfl⟩ := ho4.form
          have hl3 : (ints (M ++ [9, 9])).length = (M ++ [9, 9]).length := by simp
          rw [hl3] at ho4 ⊢
          refine ⟨a', c', M ++ [9, 9], rfl, ho4, ⟨by simp; omega, fun x hx => ?_⟩, ⟨_, by omega, (h2.row (World.grownBy_alloc w2 _ none) (by simp)).row hg4 (fun k hk => by have := hown2.base k hk; omega)⟩, chg_row (chg_alloc hgw2 _) hg4 hown2.base⟩
          rcases List.mem_append.1 hx with hx | hx
          · exact HSM.out.2 x hx
          · simp at hx; omega
        · have e1 : (y == 1) = false := by simp; omega
          obtain ⟨a', c', hv⟩ := hown2.form
          have hl3 : (ints M).length = M.length := by simp
          rw [hl3] at hv
          subst hv
          have HO2 := Lib.hid hown2
          clear hown2
          go_wp2_with fail
          go_ret
          exact ⟨a', c', M, rfl, HO2.out, HSM.out, ⟨_, by omega, h2⟩, hgw2⟩
theorem DrawValidSums_any (a : Option Addr) (c B : Nat) (bs : List Int) (w : World) (h : Rd w B a (bs.map (Value.int .u8))) (hB : B ≤ w.heap.size) (hb : ∀ n ∈ bs, (Lit.int .u8 n).wf = true) (hl : bs.length ≤ 1048576) (hc : bs.length ≤ c) :
    Calls Try.prog 38 #[.slice a bs.length c] w fun e w' => ∃ a' c' M, e = .returned (.slice a' M.length c') ∧ Own w' w.heap.size w'.heap.size 3 (.slice a' M.length c') (ints M) ∧ Small M ∧ Below w.heap.size w w' := by
  go_enter Try.func38, Try.ntmps38
  go_wp2_with fail
  refine (newReader_any _ _ B bs _ h hB hb hl hc).mono ?_
  rintro e w1 ⟨rfl, h1, hb1, -⟩
  go_wp2_with fail
  refine (sumsOf_any _ 0 _ _ (by omega) h1).mono ?_
  rintro e w2 ⟨a', c', M, rfl, ho, hs, -, hg2⟩
  go_wp2_with fail
  go_ret
  exact ⟨a', c', M, rfl, ho.lower hb1.size, hs, hb1.trans ((Below.refl _ _).grown hg2 hb1.size (by intro k hk; injection hk with hk; omega))⟩
theorem DrawPartsOfSums_any (a : Option Addr) (c B : Nat) (bs : List Int) (w : World) (h : Rd w B a (bs.map (Value.int .u8))) (hB : B ≤ w.heap.size) (hb : ∀ n ∈ bs, (Lit.int .u8 n).wf = true) (hl : bs.length ≤ 1048576) (hc : bs.length ≤ c) :
    Calls Try.prog 31 #[.slice a bs.length c] w fun e w' => ∃ a' c' M, e = .returned (.slice a' M.length c') ∧ Own w' w.heap.size w'.heap.size 3 (.slice a' M.length c') (ints M) ∧ Small M ∧ Below w.heap.size w w' := by
  go_enter Try.func31, Try.ntmps31
  go_wp2_with fail
  refine (newReader_any _ _ B bs _ h hB hb hl hc).mono ?_
  rintro e w1 ⟨rfl, h1, hb1, -⟩
  go_wp2_with fail
  refine (sumsOf_any _ 0 _ _ (by omega) h1).mono ?_
  rintro e w2 ⟨a', c', M, rfl, ho, hs, -, hg2⟩
  go_wp2_with fail
  go_ret
  exact ⟨a', c', M, rfl, ho.lower hb1.size, hs, hb1.trans ((Below.refl _ _).grown hg2 hb1.size (by intro k hk; injection hk with hk; omega))⟩
end Go.Proofs.Ytgbkaahmmpgjfaa
