/-
  Walks: the draws of chapter 4.
-/
import Derived.Test.YteglcoalfgjjiaaD3
import Derived.Test.YteglcoalfgjjiaaM28
import Derived.Test.YteglcoalfgjjiaaW4
namespace Go.Proofs.Yteglcoalfgjjiaa
open Go.RowKit NP
set_option linter.unusedVariables false
set_option linter.unusedSimpArgs false

theorem DrawCrankOf_any (a : Option Addr) (c B : Nat) (bs : List Int) (w : World) (h : Rd w B a (bs.map (Value.int .u8))) (hB : B ≤ w.heap.size) (hb : ∀ n ∈ bs, (Lit.int .u8 n).wf = true) (hl : bs.length ≤ 1048576) (hc : bs.length ≤ c) :
    Calls Try.prog 36 #[.slice a bs.length c] w fun e w' => ∃ a' c' M, e = .returned (.slice a' M.length c') ∧ Own w' w.heap.size w'.heap.size 3 (.slice a' M.length c') (ints M) ∧ Small M ∧ Below w.heap.size w w' := by
  go_enter Try.func36, Try.ntmps36
  go_wp2_with fail
  refine (newReader_any _ _ B bs _ h hB hb hl hc).mono ?_
  rintro e w1 ⟨rfl, h1, hb1, -⟩
  go_wp2_with fail
  refine (someParts_any _ 0 _ _ (by omega) h1).mono ?_
  rintro e w2 ⟨a', c', M, rfl, ho, hs, -, hb2⟩
  go_wp2_with fail
  go_ret
  exact ⟨a', c', M, rfl, ho.lower hb1.size, hs, hb1.trans hb2⟩

set_option maxHeartbeats 400000 in
theorem partsOfV_any (g q : Nat) (n : Int) (bs : List Int) (w : World) (hn0 : 0 ≤ n) (hn : n ≤ 16) (hq : q ≤ 900000) (h : Rdr w g bs q) :
    Calls Try.prog 69 #[.pointer (some ⟨g, 0, none⟩), .int .i64 n] w fun e w' => ∃ a' c' M, e = .returned (.slice a' M.length c') ∧ Own w' w.heap.size w'.heap.size 3 (.slice a' M.length c') (ints M) ∧ valid M = true ∧ (∃ q', q' ≤ q + 32 ∧ Rdr w' g bs q') ∧ w.grownBy w' (some g) := by
  obtain ⟨i0, hi, hz0, hz1, hz2⟩ := T_int'
  have hlt := h.lt
  go_enter Try.func69, Try.ntmps69
  go_wp2_with fail
  go_loopw [1, 5] (fun nn v wr => ∃ (m : Nat) (q' : Nat) (M : List Int), nn = .int .i64 (m : Int) ∧ M.length + m ≤ 16 ∧ q' + 2 * m ≤ q + 32 ∧ Rdr wr g bs q' ∧ w.grownBy wr (some g) ∧ Own wr w.heap.size wr.heap.size 3 v (ints M) ∧ Hid ((∀ x ∈ M, 1 ≤ x ∧ x ≤ 16) ∧ sumL M + (m : Int) ≤ 16)) (fun nn _ _ => (intOf nn).toNat)
  case atStart =>
    obtain ⟨m, rfl⟩ := Int.eq_ofNat_of_zero_le hn0
    exact ⟨m, q, [], rfl, by simp; omega, by omega, h.below ((Below.refl _ _).alloc hlt _), World.grownBy_alloc w _ _, (Own.empty w 3).more, Lib.hid ⟨by simp, by simp [sumL]; omega⟩⟩
  case round =>
    obtain ⟨m, q', M, rfl, hMm, hqm, hr, hg, hown, HM⟩ := hrel
    by_cases hm : 0 < m
    · have hm' : (0 : Int) < (m : Int) := by omega
      have hltr := hr.lt
      have HO := Lib.hid hown
      clear hown
      go_wp2_with fail
      refine (one_any g q' _ _ _ [3, 5, 9, 2, 16] bs _ (by simp) (by simp) (by omega) (hr.below ((Below.refl _ _).alloc hltr _)) (rd_new wr _ _) (by intro b o e; injection e with e; injection e with e; omega)).mono ?_
      rintro e w1 ⟨k, hk, rfl, h1, hg1, -⟩
      have hx : ∀ x ∈ ([3, 5, 9, 2, 16] : List Int), 2 ≤ x ∧ x ≤ 16 := by decide
      have hx1 := hx _ (List.getElem_mem hk)
      obtain ⟨x, hxx⟩ : ∃ x, x = ([3, 5, 9, 2, 16] : List Int)[k] := ⟨_, rfl⟩
      rw [← hxx] at hx1 ⊢
      clear hx hxx hk
      have hzr := hg.size
      have HO1 := Lib.hid ((HO.out.alloc (.cells (ints [3, 5, 9, 2, 16]).toArray 3)).chg hg1 (by omega)).more
      have hgw1 := chg_trans (chg_alloc hg (.cells (ints [3, 5, 9, 2, 16]).toArray 3)) hg1
      clear hg1 HO
      go_wp2_with fail
      all_goals
        refine (pick_any g _ _ bs _ (by omega) (by omega) h1).mono ?_
        rintro e w2 ⟨y, rfl, hy0, hy1, h2, hg2, -⟩
        obtain ⟨y, rfl⟩ := Int.eq_ofNat_of_zero_le hy0
        have hym : y + 1 ≤ m := by have := hy1 (by omega); omega
        clear hy1
        have hown2 := (HO1.out.chg hg2 (by omega)).more
        have hgw2 := chg_trans hgw1 hg2
        have hzw2 := hgw2.size
        clear hgw1 hg2 HO1
        go_wp2_with (at_builtin; refine wpList_append_o _ rfl (.tmp 18) (.tmp 20) 22 rfl w.heap.size w2.heap.size 3 i0 (.int .i64 0) 8 Try.underlying22 hi hz0 hz1 hz2 rfl _ (ints M) rfl (hown2.alloc _) (w2.heap.size + 1) (some ⟨w2.heap.size, 0, none⟩) 1 1 [.int .i64 (1 + (y : Int))] rfl (Rd.one w2 _ _) rfl (by simp; rfl) (by simp; unfold maxLen; omega) (by simp; omega) (by simp; omega) ?_; intro v' w3 ho3 hg3 hat3)
        go_roundw
        case rel =>
          refine ⟨m - (1 + y), q' + 2, M ++ [1 + (y : Int)], by go_num, by simp; omega, by omega, (h2.row (World.grownBy_alloc w2 _ none) (by simp)).row hg3 (fun k hk => by have := hown2.base k hk; omega), chg_row (chg_alloc hgw2 _) hg3 hown2.base, by simpa [ints] using ho3, Lib.hid ⟨fun x hx => ?_, ?_⟩⟩
          · simp at hx
            rcases hx with hx | hx
            · exact HM.out.1 x hx
            · omega
          · have := HM.out.2
            rw [sumL_append]
            simp [sumL]
            omega
        case measure => simp [intOf]; omega
    · obtain rfl : m = 0 := by omega
      obtain ⟨a0, c0, rfl⟩ := hown.form
      have hs : SmallParts M := ⟨by omega, HM.out.1⟩
      have HS : Hid (valid (mrg M) = true) := Lib.hid (valid_mono (mrg_mono M) (fun x hx => (HM.out.1 x (mrg_mem hx)).1) (by rw [mrg_sum]; have := HM.out.2; omega))
      have hlM : (ints M).length = M.length := by simp
      rw [hlM] at hown ⊢
      have HO := Lib.hid hown
      clear hown hlM
      go_wp2_with fail
      refine (merge_any _ _ _ M _ HO.out.rd (by omega) (by have := hs.1; omega)).mono ?_
      rintro e w1 ⟨a', c', rfl, ho1, hb1⟩
      go_wp2_with fail
      go_ret
      exact ⟨a', c', mrg M, rfl, ho1.lower hg.size, HS.out, ⟨q', by omega, hr.below (hb1.mono hr.lt)⟩, chg_below hg (hb1.mono hg.size)⟩

theorem keep_offD {w w1 : World} {lo : Nat} {e : TypeId} {v : Value} {vs : List Value} {o : Obj} {n c : Nat} (h : Own w lo w.heap.size e v vs) (hg : (w.alloc o).grownBy w1 (Value.slice (some ⟨w.heap.size, 0, none⟩) n c).ownBlock) : Own w1 lo w1.heap.size e v vs :=
  ((h.alloc o).grown hg (by
    cases hb : v.ownBlock with
    | none => exact .inl rfl
    | some g => exact .inr fun e => by have := h.lt g hb; simp [Value.ownBlock] at e; omega)).more
theorem small_of_parts' {M : List Int} (h : SmallParts M) : Small M := ⟨by have := h.1; omega, fun x hx => by have := h.2 x hx; omega⟩
theorem small_of_valid {M : List Int} (h : valid M = true) : Small M := by
  have hb := valid_bd h
  refine ⟨by omega, fun x hx => ?_⟩
  obtain ⟨k, hk, rfl⟩ := List.getElem_of_mem hx
  have := preS_of_valid h k hk hk
  omega





end Go.Proofs.Yteglcoalfgjjiaa
