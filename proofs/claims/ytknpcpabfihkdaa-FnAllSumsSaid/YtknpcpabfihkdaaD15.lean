/-
  Walks: the draws of summands.
-/
import Derived.Test.YtknpcpabfihkdaaD3a
namespace Go.Proofs.Ytknpcpabfihkdaa
open Go.RowKit NP
set_option linter.unusedVariables false
set_option linter.unusedSimpArgs false
set_option maxHeartbeats 1600000 in
theorem sumsOf_any (g q : Nat) (bs : List Int) (w : World) (hq : q ≤ 900000) (h : Rdr w g bs q) :
    Calls Try.prog 63 #[.pointer (some ⟨g, 0, none⟩)] w fun e w' => ∃ a' c' M, e = .returned (.slice a' M.length c') ∧ Own w' w.heap.size w'.heap.size 3 (.slice a' M.length c') (ints M) ∧ Small M ∧ (∃ q', q' ≤ q + 40 ∧ Rdr w' g bs q') ∧ w.grownBy w' (some g) := by
  obtain ⟨i0, hi, hz0, hz1, hz2⟩ := T_int'
  have hlt := h.lt
  go_enter Try.func63, Try.ntmps63
  go_wp2_with fail
  refine (sumFor_any g q bs _ (by omega) (h.below ((Below.refl _ _).alloc hlt _))).mono ?_
  rintro e w1 ⟨n, rfl, hn, h1, hg1⟩
  obtain ⟨n, rfl⟩ := Int.eq_ofNat_of_zero_le hn.1
  have hE := ((Own.empty w 3).more.chg hg1 hlt).more
  have hg0 := chg_trans (chg_alloc (World.grownBy.refl w (some g)) (.cells #[] 3)) hg1
  have hz1' := hg1.size
  rw [World.size_alloc] at hz1'
  clear h hg1
  go_wp2_with fail
  go_loopw [3, 4, 5] (fun v nn _ wr => ∃ (m : Nat) (q' : Nat) (M : List Int), nn = .int .i64 (m : Int) ∧ M.length + m ≤ 16 ∧ q' + m ≤ q + 1 + 16 ∧ Rdr wr g bs q' ∧ w.grownBy wr (some g) ∧ Own wr w.heap.size wr.heap.size 3 v (ints M) ∧ Hid (∀ x ∈ M, 1 ≤ x ∧ x ≤ 16)) (fun _ nn _ _ => (intOf nn).toNat)
  case atStart => exact ⟨n, q + 1, [], rfl, by simp; omega, by omega, h1, hg0, hE, Lib.hid (by simp)⟩
  case round =>
    obtain ⟨m, q', M, rfl, hMm, hqm, hr, hg, hown, HM⟩ := hrel
    clear h1 hg0 hE hz1'
    have hltr := hr.lt
    have hzr := hg.size
    have hlo : w.heap.size ≤ wr.heap.size := hzr
    by_cases hm : 0 < m
    · have hm' : (0 : Int) < (m : Int) := by omega
      have HO := Lib.hid hown
      clear hown
      go_wp2_with fail
      all_goals
        refine (pick_any g _ _ bs _ (by omega) (by omega) hr).mono ?_
        rintro e w2 ⟨y, rfl, hy0, hy1, h2, hg2, -⟩
        obtain ⟨y, rfl⟩ := Int.eq_ofNat_of_zero_le hy0
        have hym : y + 1 ≤ m := by have := hy1 (by omega); omega
        clear hy1
        have hown2 := (HO.out.chg hg2 hlt).more
        have hgw2 := chg_trans hg hg2
        have hzw2 := hgw2.size
        clear hg2 HO
        go_wp2_with (at_builtin; refine wpList_append_o _ rfl (.tmp 16) (.tmp 18) 22 rfl w.heap.size w2.heap.size 3 i0 (.int .i64 0) 8 Try.underlying22 hi hz0 hz1 hz2 rfl _ (ints M) rfl (hown2.alloc _) (w2.heap.size + 1) (some ⟨w2.heap.size, 0, none⟩) 1 1 [.int .i64 (1 + (y : Int))] rfl (Rd.one w2 _ _) rfl (by simp; rfl) (by simp; unfold maxLen; omega) (by simp; omega) (by simp; omega) ?_; intro v' w3 ho3 hg3 hat3)
        go_roundw
        case rel =>
          refine ⟨m - (1 + y), q' + 1, M ++ [1 + (y : Int)], by go_num, by simp; omega, by omega, (h2.row (World.grownBy_alloc w2 _ none) (by simp)).row hg3 (fun k hk => by have := hown2.base k hk; omega), chg_row (chg_alloc hgw2 _) hg3 hown2.base, by simpa [ints] using ho3, Lib.hid fun x hx => ?_⟩
          simp at hx
          rcases hx with hx | hx
          · exact HM.out x hx
          · omega
        case measure => simp [intOf] <;> omega
    · obtain rfl : m = 0 := by omega
      have HSM : Hid (Small M) := Lib.hid ⟨by omega, fun x hx => by have := HM.out x hx; omega⟩
      have HO := Lib.hid hown
      clear hown
      go_wp2_with fail
      refine (pick_any g _ _ bs _ (by omega) (by omega) hr).mono ?_
      rintro e w2 ⟨y, rfl, hy0, hy1, h2, hg2, -⟩
      clear hy1
      have hown2 := (HO.out.chg hg2 hlt).more
      have hgw2 := chg_trans hg hg2
      have hzw2 := hgw2.size
      have hlt2 := h2.lt
      clear hg2 HO hr hg
      by_cases h0 : y = 0
      · subst h0
        have HO2 := Lib.hid hown2
        clear hown2
        go_wp2_with fail
        refine (one_any g _ _ _ _ [0, -1, 17] bs _ (by simp) (by simp) (by omega) (h2.below ((Below.refl _ _).alloc hlt2 _)) (rd_new w2 _ _) (by intro b o e; injection e with e; injection e with e; omega)).mono ?_
        rintro e w3 ⟨k, hk, rfl, h3, hg3, -⟩
        have hx : ∀ x ∈ ([0, -1, 17] : List Int), -1 ≤ x ∧ x ≤ 17 := by decide
        have hx1 := hx _ (List.getElem_mem hk)
        obtain ⟨x, hxx⟩ : ∃ x, x = ([0, -1, 17] : List Int)[k] := ⟨_, rfl⟩
        rw [← hxx] at hx1 ⊢
        clear hx hxx hk
        have hown3 := ((HO2.out.alloc (.cells (ints [0, -1, 17]).toArray 3)).chg hg3 hlt).more
        have hgw3 := chg_trans (chg_alloc hgw2 (.cells (ints [0, -1, 17]).toArray 3)) hg3
        have hzw3 := hgw3.size
        clear HO2 hg3
        go_wp2_with (at_builtin; refine wpList_append_o _ rfl (.tmp 27) (.tmp 31) 22 rfl w.heap.size w3.heap.size 3 i0 (.int .i64 0) 8 Try.underlying22 hi hz0 hz1 hz2 rfl _ (ints M) rfl (hown3.alloc _) (w3.heap.size + 1) (some ⟨w3.heap.size, 0, none⟩) 1 1 [.int .i64 x] rfl (Rd.one w3 _ _) rfl (by simp; rfl) (by simp; unfold maxLen; omega) (by simp; omega) (by simp; omega) ?_; intro v' w4 ho4 hg4 hat4)
        go_ret
        have e : ints M ++ [Value.int .i64 x] = ints (M ++ [x]) := by simp [ints]
        rw [e] at ho4
        obtain ⟨a', c', rfl⟩ := ho4.form
        have hl3 : (ints (M ++ [x])).length = (M ++ [x]).length := by simp
        rw [hl3] at ho4 ⊢
        refine ⟨a', c', M ++ [x], rfl, ho4, ⟨by have := HSM.out.1; simp; omega, fun z hz => ?_⟩, ⟨_, by omega, (h3.row (World.grownBy_alloc w3 _ none) (by simp)).row hg4 (fun k hk => by have := hown3.base k hk; omega)⟩, chg_row (chg_alloc hgw3 _) hg4 hown3.base⟩
        rcases List.mem_append.1 hz with hz | hz
        · exact HSM.out.2 z hz
        · simp at hz; omega
      · have e0 : (y == 0) = false := by simp; omega
        by_cases h1' : y = 1
        · subst h1'
          have hlen2 : (ints M).length = M.length := by simp
          have hM := HSM.out.1
          go_wp2_with (at_builtin; refine wpList_append_o _ rfl (.tmp 35) (.tmp 36) 22 rfl w.heap.size w2.heap.size 3 i0 (.int .i64 0) 8 Try.underlying22 hi hz0 hz1 hz2 rfl _ (ints M) rfl (hown2.alloc _) (w2.heap.size + 1) (some ⟨w2.heap.size, 0, none⟩) 2 2 (ints [9, 9]) rfl (rd_new w2 _ _) rfl (ints_one _) (by rw [hlen2]; unfold maxLen; omega) (by rw [hlen2]; omega) (by simp; omega) ?_; intro v' w4 ho4 hg4 hat4)
          go_ret
          have e : ints M ++ ints [9, 9] = ints (M ++ [9, 9]) := by simp [ints]
          rw [e] at ho4
          obtain ⟨a', c', rfl⟩ := ho4.form
          have hl3 : (ints (M ++ [9, 9])).length = (M ++ [9, 9]).length := by simp
          rw [hl3] at ho4 ⊢
          refine ⟨a', c', M ++ [9, 9], rfl, ho4, ⟨by simp; omega, fun x hx => ?_⟩, ⟨_, by omega, (h2.row (World.grownBy_alloc w2 _ none) (by simp)).row hg4 (fun k hk => by have := hown2.base k hk; omega)⟩, chg_row (chg_alloc hgw2 _) hg4 hown2.base⟩
          rcases List.mem_append.1 hx with hx | hx
          · exact HSM.out.2 x hx
          · simp at hx; omega
        · have e1 : (y == 1) = false := by simp; omega
          obtain ⟨a', c', hv⟩ := hown2.form
          have hl3 : (ints M).length = M.length := by simp
          rw [hl3] at hv
          subst hv
          have HO2 := Lib.hid hown2
          clear hown2
          go_wp2_with fail
          go_ret
          exact ⟨a', c', M, rfl, HO2.out, HSM.out, ⟨_, by omega, h2⟩, hgw2⟩
set_option maxHeartbeats 1600000 in
theorem shortSums_any (g q : Nat) (bs : List Int) (w : World) (hq : q ≤ 900000) (h : Rdr w g bs q) :
    Calls Try.prog 67 #[.pointer (some ⟨g, 0, none⟩)] w fun e w' => ∃ a' c' M, e = .returned (.slice a' M.length c') ∧ Own w' w.heap.size w'.heap.size 3 (.slice a' M.length c') (ints M) ∧ Small M ∧ (∃ q', q' ≤ q + 40 ∧ Rdr w' g bs q') ∧ w.grownBy w' (some g) := by
  obtain ⟨i0, hi, hz0, hz1, hz2⟩ := T_int'
  have hlt := h.lt
  go_enter Try.func67, Try.ntmps67
  go_wp2_with fail
  refine (one_any g q _ _ _ [4, 3, 5, 2, 6, 1, 0, 8] bs _ (by simp) (by simp) (by omega) (h.below (((Below.refl _ _).alloc hlt _).alloc (by simp; omega) _)) (by have := rd_new (w.alloc (.cells #[] 3)) (ints [4, 3, 5, 2, 6, 1, 0, 8]).toArray 3; rw [World.size_alloc] at this; exact this) (by intro b o e; injection e with e; injection e with e; omega)).mono ?_
  rintro e w1 ⟨k, hk, rfl, h1, hg1, -⟩
  have hx : ∀ x ∈ ([4, 3, 5, 2, 6, 1, 0, 8] : List Int), 0 ≤ x ∧ x ≤ 16 := by decide
  have hn := hx _ (List.getElem_mem hk)
  obtain ⟨n, hxx⟩ : ∃ x, x = ([4, 3, 5, 2, 6, 1, 0, 8] : List Int)[k] := ⟨_, rfl⟩
  rw [← hxx] at hn ⊢
  clear hx hxx hk
  obtain ⟨n, rfl⟩ := Int.eq_ofNat_of_zero_le hn.1
  have hE := (((Own.empty w 3).more.alloc (.cells (ints [4, 3, 5, 2, 6, 1, 0, 8]).toArray 3)).chg hg1 hlt).more
  have hg0 := chg_trans (chg_alloc (chg_alloc (World.grownBy.refl w (some g)) (.cells #[] 3)) (.cells (ints [4, 3, 5, 2, 6, 1, 0, 8]).toArray 3)) hg1
  clear h hg1
  go_wp2_with fail
  go_loopw [3, 4, 5] (fun v nn _ wr => ∃ (m : Nat) (q' : Nat) (M : List Int), nn = .int .i64 (m : Int) ∧ M.length + m ≤ 16 ∧ q' + m ≤ q + 1 + 16 ∧ Rdr wr g bs q' ∧ w.grownBy wr (some g) ∧ Own wr w.heap.size wr.heap.size 3 v (ints M) ∧ Hid (∀ x ∈ M, 1 ≤ x ∧ x ≤ 16)) (fun _ nn _ _ => (intOf nn).toNat)
  case atStart => exact ⟨n, q + 1, [], rfl, by simp; omega, by omega, h1, hg0, hE, Lib.hid (by simp)⟩
  case round =>
    obtain ⟨m, q', M, rfl, hMm, hqm, hr, hg, hown, HM⟩ := hrel
    clear h1 hg0 hE
    have hltr := hr.lt
    have hzr := hg.size
    have hlo : w.heap.size ≤ wr.heap.size := hzr
    by_cases hm : 0 < m
    · have hm' : (0 : Int) < (m : Int) := by omega
      have HO := Lib.hid hown
      clear hown
      go_wp2_with fail
      all_goals
        refine (pick_any g _ _ bs _ (by omega) (by omega) hr).mono ?_
        rintro e w2 ⟨y, rfl, hy0, hy1, h2, hg2, -⟩
        obtain ⟨y, rfl⟩ := Int.eq_ofNat_of_zero_le hy0
        have hym : y + 1 ≤ m := by have := hy1 (by omega); omega
        clear hy1
        have hown2 := (HO.out.chg hg2 hlt).more
        have hgw2 := chg_trans hg hg2
        have hzw2 := hgw2.size
        clear hg2 HO
        go_wp2_with (at_builtin; refine wpList_append_o _ rfl (.tmp 17) (.tmp 19) 22 rfl w.heap.size w2.heap.size 3 i0 (.int .i64 0) 8 Try.underlying22 hi hz0 hz1 hz2 rfl _ (ints M) rfl (hown2.alloc _) (w2.heap.size + 1) (some ⟨w2.heap.size, 0, none⟩) 1 1 [.int .i64 (1 + (y : Int))] rfl (Rd.one w2 _ _) rfl (by simp; rfl) (by simp; unfold maxLen; omega) (by simp; omega) (by simp; omega) ?_; intro v' w3 ho3 hg3 hat3)
        go_roundw
        case rel =>
          refine ⟨m - (1 + y), q' + 1, M ++ [1 + (y : Int)], by go_num, by simp; omega, by omega, (h2.row (World.grownBy_alloc w2 _ none) (by simp)).row hg3 (fun k hk => by have := hown2.base k hk; omega), chg_row (chg_alloc hgw2 _) hg3 hown2.base, by simpa [ints] using ho3, Lib.hid fun x hx => ?_⟩
          simp at hx
          rcases hx with hx | hx
          · exact HM.out x hx
          · omega
        case measure => simp [intOf] <;> omega
    · obtain rfl : m = 0 := by omega
      have HSM : Hid (Small M) := Lib.hid ⟨by omega, fun x hx => by have := HM.out x hx; omega⟩
      obtain ⟨a', c', hv⟩ := hown.form
      have hl3 : (ints M).length = M.length := by simp
      rw [hl3] at hv
      subst hv
      have HO2 := Lib.hid hown
      clear hown
      go_wp2_with fail
      go_ret
      exact ⟨a', c', M, rfl, HO2.out, HSM.out, ⟨_, by omega, hr⟩, hg⟩
theorem DrawMaskOf_any (a : Option Addr) (c B : Nat) (bs : List Int) (w : World) (h : Rd w B a (bs.map (Value.int .u8))) (hB : B ≤ w.heap.size) (hb : ∀ n ∈ bs, (Lit.int .u8 n).wf = true) (hl : bs.length ≤ 1048576) (hc : bs.length ≤ c) :
    Calls Try.prog 40 #[.slice a bs.length c] w fun e w' => ∃ a' c' M, e = .returned (.slice a' M.length c') ∧ Own w' w.heap.size w'.heap.size 3 (.slice a' M.length c') (ints M) ∧ Small M ∧ Below w.heap.size w w' := by
  go_enter Try.func40, Try.ntmps40
  go_wp2_with fail
  refine (newReader_any _ _ B bs _ h hB hb hl hc).mono ?_
  rintro e w1 ⟨rfl, h1, hb1, -⟩
  go_wp2_with fail
  refine (sumsOf_any _ 0 _ _ (by omega) h1).mono ?_
  rintro e w2 ⟨a', c', M, rfl, ho, hs, -, hg2⟩
  go_wp2_with fail
  go_ret
  exact ⟨a', c', M, rfl, ho.lower hb1.size, hs, hb1.trans ((Below.refl _ _).grown hg2 hb1.size (by intro k hk; injection hk with hk; omega))⟩
theorem DrawOppositeSums_any (a : Option Addr) (c B : Nat) (bs : List Int) (w : World) (h : Rd w B a (bs.map (Value.int .u8))) (hB : B ≤ w.heap.size) (hb : ∀ n ∈ bs, (Lit.int .u8 n).wf = true) (hl : bs.length ≤ 1048576) (hc : bs.length ≤ c) :
    Calls Try.prog 47 #[.slice a bs.length c] w fun e w' => ∃ a' c' M, e = .returned (.slice a' M.length c') ∧ Own w' w.heap.size w'.heap.size 3 (.slice a' M.length c') (ints M) ∧ Small M ∧ Below w.heap.size w w' := by
  go_enter Try.func47, Try.ntmps47
  go_wp2_with fail
  refine (newReader_any _ _ B bs _ h hB hb hl hc).mono ?_
  rintro e w1 ⟨rfl, h1, hb1, -⟩
  go_wp2_with fail
  refine (sumsOf_any _ 0 _ _ (by omega) h1).mono ?_
  rintro e w2 ⟨a', c', M, rfl, ho, hs, -, hg2⟩
  go_wp2_with fail
  go_ret
  exact ⟨a', c', M, rfl, ho.lower hb1.size, hs, hb1.trans ((Below.refl _ _).grown hg2 hb1.size (by intro k hk; injection hk with hk; omega))⟩
theorem DrawTurnSums_any (a : Option Addr) (c B : Nat) (bs : List Int) (w : World) (h : Rd w B a (bs.map (Value.int .u8))) (hB : B ≤ w.heap.size) (hb : ∀ n ∈ bs, (Lit.int .u8 n).wf = true) (hl : bs.length ≤ 1048576) (hc : bs.length ≤ c) :
    Calls Try.prog 48 #[.slice a bs.length c] w fun e w' => ∃ a' c' M, e = .returned (.slice a' M.length c') ∧ Own w' w.heap.size w'.heap.size 3 (.slice a' M.length c') (ints M) ∧ Small M ∧ Below w.heap.size w w' := by
  go_enter Try.func48, Try.ntmps48
  go_wp2_with fail
  refine (newReader_any _ _ B bs _ h hB hb hl hc).mono ?_
  rintro e w1 ⟨rfl, h1, hb1, -⟩
  go_wp2_with fail
  refine (sumsOf_any _ 0 _ _ (by omega) h1).mono ?_
  rintro e w2 ⟨a', c', M, rfl, ho, hs, -, hg2⟩
  go_wp2_with fail
  go_ret
  exact ⟨a', c', M, rfl, ho.lower hb1.size, hs, hb1.trans ((Below.refl _ _).grown hg2 hb1.size (by intro k hk; injection hk with hk; omega))⟩
theorem DrawAllSums_any (a : Option Addr) (c B : Nat) (bs : List Int) (w : World) (h : Rd w B a (bs.map (Value.int .u8))) (hB : B ≤ w.heap.size) (hb : ∀ n ∈ bs, (Lit.int .u8 n).wf = true) (hl : bs.length ≤ 1048576) (hc : bs.length ≤ c) :
    Calls Try.prog 44 #[.slice a bs.length c] w fun e w' => ∃ n : Int, e = .returned (.int .i64 n) ∧ (-1 ≤ n ∧ n ≤ 9) ∧ Below w.heap.size w w' := by
  go_enter Try.func44, Try.ntmps44
  go_wp2_with fail
  refine (newReader_any _ _ B bs _ h hB hb hl hc).mono ?_
  rintro e w1 ⟨rfl, h1, hb1, -⟩
  have hlt1 := h1.lt
  go_wp2_with fail
  refine (one_any _ 0 _ _ _ [4, 5, 3, 6, 2, 1, 0, 8, 7, 9, -1] _ _ (by simp) (by simp) (by omega) (h1.below ((Below.refl _ _).alloc hlt1 _)) (rd_new w1 _ _) (by intro b o e; injection e with e; injection e with e; omega)).mono ?_
  rintro e w2 ⟨k, hk, rfl, h2, hg2, -⟩
  have hx : ∀ x ∈ ([4, 5, 3, 6, 2, 1, 0, 8, 7, 9, -1] : List Int), -1 ≤ x ∧ x ≤ 9 := by decide
  have hx1 := hx _ (List.getElem_mem hk)
  obtain ⟨x, hxx⟩ : ∃ x, x = ([4, 5, 3, 6, 2, 1, 0, 8, 7, 9, -1] : List Int)[k] := ⟨_, rfl⟩
  rw [← hxx] at hx1 ⊢
  clear hx hxx
  go_wp2_with fail
  go_ret
  exact ⟨x, rfl, hx1, hb1.trans ((Below.refl _ _).grown (chg_trans (World.grownBy_alloc w1 _ _) hg2) hb1.size (by intro k hk; injection hk with hk; omega))⟩
theorem DrawLinkSums_any (a : Option Addr) (c B : Nat) (bs : List Int) (w : World) (h : Rd w B a (bs.map (Value.int .u8))) (hB : B ≤ w.heap.size) (hb : ∀ n ∈ bs, (Lit.int .u8 n).wf = true) (hl : bs.length ≤ 1048576) (hc : bs.length ≤ c) :
    Calls Try.prog 49 #[.slice a bs.length c] w fun e w' => ∃ a1 c1 M1 a2 c2 M2 near, e = .returned (.tuple #[.slice a1 M1.length c1, .slice a2 M2.length c2, .bool near]) ∧ Own w' w.heap.size w'.heap.size 3 (.slice a1 M1.length c1) (ints M1) ∧ Own w' w.heap.size w'.heap.size 3 (.slice a2 M2.length c2) (ints M2) ∧ Small M1 ∧ Small M2 ∧ Below w.heap.size w w' := by
  go_enter Try.func49, Try.ntmps49
  go_wp2_with fail
  refine (newReader_any _ _ B bs _ h hB hb hl hc).mono ?_
  rintro e w1 ⟨rfl, h1, hb1, -⟩
  have hz1 := hb1.size
  have hlt1 := h1.lt
  go_wp2_with fail
  refine (shortSums_any _ 0 _ _ (by omega) h1).mono ?_
  rintro e w2 ⟨a1, c1, M1, rfl, ho1, hs1, ⟨q1, hq1, h2⟩, hg2⟩
  have hz2 := hg2.size
  go_wp2_with fail
  refine (pick_any _ _ _ _ _ (by omega) (by omega) h2).mono ?_
  rintro e w3 ⟨y, rfl, hy0, hy1, h3, hg3, -⟩
  clear hy1
  have hg13 := chg_trans hg2 hg3
  have ho13 := (ho1.chg hg3 hlt1).more
  clear hg2 hg3 ho1
  have HS1 := Lib.hid hs1
  have HO1 := Lib.hid ho13
  clear hs1 ho13
  have hz3 := hg13.size
  by_cases h0 : y = 0
  · subst h0
    go_wp2_with fail
    refine (sumsOf_any _ _ _ _ (by omega) h3).mono ?_
    rintro e w4 ⟨a3, c3, M3, rfl, ho3, hs3, ⟨q3, hq3, h4⟩, hg4⟩
    have hg14 := chg_trans hg13 hg4
    have hz4 := hg14.size
    go_wp2_with fail
    refine (shortSums_any _ _ _ _ (by omega) h4).mono ?_
    rintro e w5 ⟨a2, c2, M2, rfl, ho2, hs2, ⟨q2, hq2, h5⟩, hg5⟩
    have hg15 := chg_trans hg14 hg5
    have ho35 := (ho3.chg hg5 (by omega)).more
    have hz5 := hg15.size
    clear hg4 hg5 ho3 hg14 hg13
    go_wp2_with fail
    refine (pick_any _ _ _ _ _ (by omega) (by omega) h5).mono ?_
    rintro e w6 ⟨y2, rfl, hy20, hy21, h6, hg6, -⟩
    clear hy21
    have hg16 := chg_trans hg15 hg6
    have ho36 := (ho35.chg hg6 (by omega)).more
    have ho26 := (ho2.chg hg6 (by omega)).more
    have HF : Hid (Own w6 w.heap.size w6.heap.size 3 (.slice a3 M3.length c3) (ints M3) ∧ Own w6 w.heap.size w6.heap.size 3 (.slice a2 M2.length c2) (ints M2) ∧ Small M3 ∧ Small M2 ∧ Below w.heap.size w w6) := Lib.hid ⟨ho36.lower (by omega), ho26.lower (by omega), hs3, hs2, hb1.trans ((Below.refl _ _).grown hg16 hb1.size (by intro k hk; injection hk with hk; omega))⟩
    clear hg6 ho35 ho2 hg15 hs3 hs2 hg16 ho36 ho26
    go_wp2_with fail
    go_ret3
    exact ⟨a3, c3, M3, a2, c2, M2, _, rfl, HF.out⟩
  · have e0 : (y == 0) = false := by simp; omega
    go_wp2_with fail
    refine (shortSums_any _ _ _ _ (by omega) h3).mono ?_
    rintro e w5 ⟨a2, c2, M2, rfl, ho2, hs2, ⟨q2, hq2, h5⟩, hg5⟩
    have hg15 := chg_trans hg13 hg5
    have ho15 := (HO1.out.chg hg5 (by omega)).more
    have hz5 := hg15.size
    clear hg5 hg13
    go_wp2_with fail
    refine (pick_any _ _ _ _ _ (by omega) (by omega) h5).mono ?_
    rintro e w6 ⟨y2, rfl, hy20, hy21, h6, hg6, -⟩
    clear hy21
    have hg16 := chg_trans hg15 hg6
    have ho16 := (ho15.chg hg6 (by omega)).more
    have ho26 := (ho2.chg hg6 (by omega)).more
    have HF : Hid (Own w6 w.heap.size w6.heap.size 3 (.slice a1 M1.length c1) (ints M1) ∧ Own w6 w.heap.size w6.heap.size 3 (.slice a2 M2.length c2) (ints M2) ∧ Small M1 ∧ Small M2 ∧ Below w.heap.size w w6) := Lib.hid ⟨ho16.lower (by omega), ho26.lower (by omega), HS1.out, hs2, hb1.trans ((Below.refl _ _).grown hg16 hb1.size (by intro k hk; injection hk with hk; omega))⟩
    clear hg6 ho15 ho2 hg15 hs2 hg16 ho16 ho26
    go_wp2_with fail
    go_ret3
    exact ⟨a1, c1, M1, a2, c2, M2, _, rfl, HF.out⟩
end Go.Proofs.Ytknpcpabfihkdaa
