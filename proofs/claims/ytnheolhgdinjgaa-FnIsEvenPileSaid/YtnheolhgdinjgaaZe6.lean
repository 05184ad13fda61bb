/-
  Walks: the piles of the program: rows taken into a grid. Walks: the piles of the program: the sum, the list, turned, in layers.
-/
import Derived.Test.YtnheolhgdinjgaaZe1
import Derived.Test.YtnheolhgdinjgaaZe2
import Derived.Test.YtnheolhgdinjgaaZe3
import Derived.Test.YtnheolhgdinjgaaZe4
import Derived.Test.YtnheolhgdinjgaaZe5
import Derived.RegionTactic
import Derived.Deep.RegionHeld3
import Derived.Deep.MidRow
namespace Go.Proofs.Ytnheolhgdinjgaa
open Go.RowKit NP
set_option maxRecDepth 100000
set_option linter.unusedVariables false
set_option linter.unusedSimpArgs false
theorem keepP {w u v : World} {L : List Int} {R : List (List Int)} {D : Nat} (h : (fun w' => Blk w' w.heap.size 38 (arr (zsq).flatten) ∧ Blk w' (w.heap.size + 1) 38 (arr R.flatten) ∧ Blk w' D 36 (arr (dg L)) ∧ Below w.heap.size w w') u) (hb : Below u.heap.size u v) : (fun w' => Blk w' w.heap.size 38 (arr (zsq).flatten) ∧ Blk w' (w.heap.size + 1) 38 (arr R.flatten) ∧ Blk w' D 36 (arr (dg L)) ∧ Below w.heap.size w w') v := by
  obtain ⟨h1, h2, h3, h4⟩ := h
  exact ⟨h1.below hb h1.lt, h2.below hb h2.lt, h3.below hb h3.lt, h4.trans (hb.mono h4.size)⟩
set_option maxHeartbeats 4000000 in
theorem pileOf_any (a : Option Addr) (c B : Nat) (LL : List (List Int)) (w : World) (h : RdLL w B a LL) (hB : B ≤ w.heap.size) (hn : LL.length ≤ 4611686018427387904) (hil : ∀ L ∈ LL, L.length ≤ 4611686018427387904) :
    Calls Try.prog 38 #[.slice a LL.length c] w fun e w' => e = .returned (.tuple #[.agg (arr (gridV LL).flatten), .bool (vpl LL)]) ∧ Below w.heap.size w w' := by
  have HIL := Lib.hid hil
  clear hil
  have hi256 : ∀ R : List (List Int), Sq R → (Try.prog.info? 38).map (·.size) = some (arr R.flatten).size := fun R hR => by rw [arr_size, sq_len hR]; exact T_info256
  have HI256 := Lib.hid hi256
  clear hi256
  have hzq : Sq zsq := ⟨rfl, zsq_rows⟩
  have hz0 := Blk.new w 38 (arr zsq.flatten)
  have hz1 := hz0.alloc (.cells (arr zsq.flatten) 38)
  have hz2 := Blk.new (w.alloc (.cells (arr zsq.flatten) 38)) 38 (arr zsq.flatten)
  rw [World.size_alloc] at hz2
  have hA0 := ((Below.refl w.heap.size w).alloc (Nat.le_refl _) (.cells (arr zsq.flatten) 38)).alloc (by simp) (.cells (arr zsq.flatten) 38)
  clear hz0
  have hu := Try.underlying36
  have hup := Try.underlying38
  go_enter Try.func38, Try.ntmps38
  go_wp2_with fail
  go_loopw [5, 12] (fun vl vi wr => ∃ k : Nat, k ≤ LL.length ∧ vi = .int .i64 k ∧ vl = .int .i64 (16 - sumLL (LL.take k)) ∧ Below w.heap.size w wr ∧ Blk wr w.heap.size 38 (arr zsq.flatten) ∧ Blk wr (w.heap.size + 1) 38 (arr (gridR (LL.take k)).flatten) ∧ Hid (vpl (LL.take k) = true)) (fun _ vi _ => LL.length - (intOf vi).toNat)
  case atStart => exact ⟨0, Nat.zero_le _, rfl, rfl, hA0, hz1, hz2, Lib.hid vpl_nil⟩
  case round =>
    clear hA0 hz1 hz2
    obtain ⟨k, hk, rfl, rfl, hbel, hbz, hbr, HV0⟩ := hrel
    have hv0 := vpl_sum HV0.out
    have HSQ : Hid (Sq (gridR (LL.take k))) := Lib.hid ⟨gridR_len (vpl_len HV0.out), gridR_rows (vpl_l16 HV0.out)⟩
    by_cases hlt : k < LL.length
    · have hlt' : (k : Int) < (LL.length : Int) := by omega
      have hktk : (LL.take k).length = k := by rw [List.length_take]; omega
      rw [hktk] at hv0
      obtain ⟨b1, o1, a1, c1, rfl, -, hc1, hr1, -⟩ := ((h.more hB).below hbel).at_ hlt
      have hll := HIL.out _ (List.getElem_mem hlt)
      have HNX := Lib.hid (vpl_next hlt HV0.out)
      have HST := Lib.hid (vpl_stop hlt)
      have HSUM := Lib.hid (sumLL_succ hlt)
      have HGS := Lib.hid (gridR_set hlt)
      have HPR : Hid (∀ j : Nat, k = j + 1 → ∃ PR : List Int, valid PR = true ∧ LL.getD j [] = PR ∧ ∃ hj : j < (gridR (LL.take k)).length, (gridR (LL.take k))[j] = pad PR) := Lib.hid (fun j hj => by
        have hjt : j < (LL.take k).length := by omega
        refine ⟨LL.getD j [], ?_, rfl, by rw [HSQ.out.1]; omega, ?_⟩
        · have := vpl_valid HV0.out j
          rwa [take_getD (by omega)] at this
        · rw [gridR_get hjt, ← gl_lt hjt, take_getD (by omega)])
      obtain ⟨L, hL⟩ : ∃ L, L = LL[k] := ⟨_, rfl⟩
      rw [← hL] at hc1 hr1 hll HNX HST HSUM HGS
      obtain ⟨R, hR⟩ : ∃ R, R = gridR (LL.take k) := ⟨_, rfl⟩
      rw [← hR] at hbr HSQ HGS HPR
      obtain ⟨l, hl⟩ : ∃ l, l = 16 - sumLL (LL.take k) := ⟨_, rfl⟩
      have hl0 : 0 ≤ l ∧ l ≤ 16 ∧ (k : Int) ≤ 16 - l := by omega
      rw [← hl] at HNX HST ⊢
      have HL := Lib.hid hl
      clear hL hR hl hv0 hktk HV0
      have hi16 : (Try.prog.info? 36).map (·.size) = some (arr (dg L)).size := by rw [arr_size, dg_len]; exact T_info35
      have hiL : (Try.prog.info? 36).map (·.size) = some (ints (dg L)).length := by rw [List.length_map, dg_len]; exact T_info35
      have hsz : (arr (dg L)).size = (arr (List.replicate 16 0)).size := by rw [arr_size, arr_size, dg_len]; rfl
      have HDL := Lib.hid (dg_len L)
      obtain ⟨v, hv⟩ : ∃ v, v = valid L := ⟨_, rfl⟩
      have HV := Lib.hid hv
      clear hv
      have hwsz := hbel.size
      go_wp2_with (first
        | (go_at_call 57; refine (diagramOf_any a1 c1 w.heap.size L wr hr1 hwsz hll).mono ?_; rintro e w1 ⟨rfl, hb1⟩; rw [← HV.out]; have hzb1 := hb1.size)
        | (refine wpList_store_row rfl 36 (.tmp 8) (.tmp 20) rfl w1.heap.size rfl (arr (dg L)) rfl 36 (arr (List.replicate 16 0)) (Blk.new w1 _ _) hi16 hsz (arr_one _) ?_; have hB3 := (Blk.new w1 36 (arr (List.replicate 16 0))).row (vs := arr (dg L)); have hb13 : Below w1.heap.size w1 ((w1.alloc (.cells (arr (List.replicate 16 0)) 36)).setRow w1.heap.size (arr (dg L))) := below_setRow' ((Below.refl _ _).alloc (Nat.le_refl _) _) (Nat.le_refl _) _; obtain ⟨w3, hw3⟩ : ∃ w3, w3 = (w1.alloc (.cells (#[.int .i64 0, .int .i64 0, .int .i64 0, .int .i64 0, .int .i64 0, .int .i64 0, .int .i64 0, .int .i64 0, .int .i64 0, .int .i64 0, .int .i64 0, .int .i64 0, .int .i64 0, .int .i64 0, .int .i64 0, .int .i64 0]) 36)).setRow w1.heap.size (arr (dg L)) := ⟨_, rfl⟩; rw [← hw3]; replace hB3 : Blk w3 w1.heap.size 36 (arr (dg L)) := hw3 ▸ hB3; replace hb13 : Below w1.heap.size w1 w3 := hw3 ▸ hb13; clear hw3))
      obtain ⟨D, hD⟩ : ∃ D, D = w1.heap.size := ⟨_, rfl⟩
      have hDne : D ≠ w.heap.size + 1 := by have := hbr.lt; omega
      have hS0 : (fun w' => Blk w' w.heap.size 38 (arr (zsq).flatten) ∧ Blk w' (w.heap.size + 1) 38 (arr R.flatten) ∧ Blk w' D 36 (arr (dg L)) ∧ Below w.heap.size w w') w3.drew := by
        have hb03 := hb1.trans (hb13.mono hzb1)
        exact ⟨(hbz.below hb03 hbz.lt).drew, (hbr.below hb03 hbr.lt).drew, by rw [hD]; exact hB3.drew, (hbel.trans (hb03.mono hwsz)).trans ((Dr.n w3 1).below _)⟩
      rw [← hD]
      have HS0 := Lib.hid hS0
      clear hbel hbz hbr hB3 hb13 hb1 hzb1 hwsz hD hr1 hc1 hS0
      cases v with
      | false =>
        have HF : Hid (vpl LL = false) := Lib.hid (HST.out (fun hh => by have := HV.out; rw [hh.1] at this; cases this))
        have HGV : Hid (gridV LL = zsq) := Lib.hid (by unfold gridV; rw [HF.out]; rfl)
        have hS0 := HS0.out
        refine wp_region_held_drew (S := fun w' => Blk w' w.heap.size 38 (arr (zsq).flatten) ∧ Blk w' (w.heap.size + 1) 38 (arr R.flatten) ∧ Blk w' D 36 (arr (dg L)) ∧ Below w.heap.size w w') (by kernel_rfl) hS0 (fun hHeld => ?_)
        refine wpAnyH_take (i := 0) (v := .bool false) (by simp only [List.getElem?_toArray, List.getElem?_cons_succ, List.getElem?_cons_zero]; exact rfl) (by kernel_rfl) (by kernel_rfl) (by kernel_rfl) (by intro _ _ _ h; exact h) (Or.inl ⟨by kernel_rfl, by intro w hSw; go_simp⟩) (by assumption) ?_
        simp only [Act.put, List.setIfInBounds_toArray, List.set_cons_zero, List.set_cons_succ, List.toList_toArray]
        refine wpAnyH_take (i := 1) (v := .bool true) (by simp only [List.getElem?_toArray, List.getElem?_cons_succ, List.getElem?_cons_zero]; exact rfl) (by kernel_rfl) (by kernel_rfl) (by kernel_rfl) (by intro _ _ _ h; exact h) (Or.inl ⟨by kernel_rfl, by intro w hSw; go_simp⟩) (by assumption) ?_
        simp only [Act.put, List.setIfInBounds_toArray, List.set_cons_zero, List.set_cons_succ, List.toList_toArray]
        refine wpAnyH_take (i := 2) (v := .bool true) (by simp only [List.getElem?_toArray, List.getElem?_cons_succ, List.getElem?_cons_zero]; exact rfl) (by kernel_rfl) (by kernel_rfl) (by kernel_rfl) (by intro _ _ _ h; exact h) (Or.inl ⟨by kernel_rfl, by intro w hSw; go_simp⟩) (by assumption) ?_
        simp only [Act.put, List.setIfInBounds_toArray, List.set_cons_zero, List.set_cons_succ, List.toList_toArray]
        refine wpAnyH_take (i := 3) (v := undef) (by simp only [List.getElem?_toArray, List.getElem?_cons_succ, List.getElem?_cons_zero]; exact rfl) (by kernel_rfl) (by kernel_rfl) (by kernel_rfl) (by intro _ _ _ h; exact h) (Or.inr ⟨by kernel_rfl, rfl⟩) (by assumption) ?_
        simp only [Act.put, List.setIfInBounds_toArray, List.set_cons_zero, List.set_cons_succ, List.toList_toArray]
        refine wpAnyH_take (i := 4) (v := undef) (by simp only [List.getElem?_toArray, List.getElem?_cons_succ, List.getElem?_cons_zero]; exact rfl) (by kernel_rfl) (by kernel_rfl) (by kernel_rfl) (by intro _ _ _ h; exact h) (Or.inr ⟨by kernel_rfl, rfl⟩) (by assumption) ?_
        simp only [Act.put, List.setIfInBounds_toArray, List.set_cons_zero, List.set_cons_succ, List.toList_toArray]
        refine wpAnyH_take (i := 5) (v := undef) (by simp only [List.getElem?_toArray, List.getElem?_cons_succ, List.getElem?_cons_zero]; exact rfl) (by kernel_rfl) (by kernel_rfl) (by kernel_rfl) (by intro _ _ _ h; exact h) (Or.inr ⟨by kernel_rfl, rfl⟩) (by assumption) ?_
        simp only [Act.put, List.setIfInBounds_toArray, List.set_cons_zero, List.set_cons_succ, List.toList_toArray]
        refine wpAnyH_take (i := 6) (v := .bool true) (by simp only [List.getElem?_toArray, List.getElem?_cons_succ, List.getElem?_cons_zero]; exact rfl) (by kernel_rfl) (by kernel_rfl) (by kernel_rfl) (by intro _ _ _ h; exact h) (Or.inl ⟨by kernel_rfl, by intro w hSw; go_simp⟩) (by assumption) ?_
        simp only [Act.put, List.setIfInBounds_toArray, List.set_cons_zero, List.set_cons_succ, List.toList_toArray]
        refine wpAnyH_take (i := 7) (v := .bool true) (by simp only [List.getElem?_toArray, List.getElem?_cons_succ, List.getElem?_cons_zero]; exact rfl) (by kernel_rfl) (by kernel_rfl) (by kernel_rfl) (by intro _ _ _ h; exact h) (Or.inl ⟨by kernel_rfl, by intro w hSw; go_simp⟩) (by assumption) ?_
        simp only [Act.put, List.setIfInBounds_toArray, List.set_cons_zero, List.set_cons_succ, List.toList_toArray]
        refine wpAnyH_take (i := 8) (v := undef) (by simp only [List.getElem?_toArray, List.getElem?_cons_succ, List.getElem?_cons_zero]; exact rfl) (by kernel_rfl) (by kernel_rfl) (by kernel_rfl) (by intro _ _ _ h; exact h) (Or.inr ⟨by kernel_rfl, rfl⟩) (by assumption) ?_
        simp only [Act.put, List.setIfInBounds_toArray, List.set_cons_zero, List.set_cons_succ, List.toList_toArray]
        refine wpAnyH_take (i := 9) (v := undef) (by simp only [List.getElem?_toArray, List.getElem?_cons_succ, List.getElem?_cons_zero]; exact rfl) (by kernel_rfl) (by kernel_rfl) (by kernel_rfl) (by intro _ _ _ h; exact h) (Or.inr ⟨by kernel_rfl, rfl⟩) (by assumption) ?_
        simp only [Act.put, List.setIfInBounds_toArray, List.set_cons_zero, List.set_cons_succ, List.toList_toArray]
        refine wpAnyH_take (i := 10) (v := undef) (by simp only [List.getElem?_toArray, List.getElem?_cons_succ, List.getElem?_cons_zero]; exact rfl) (by kernel_rfl) (by kernel_rfl) (by kernel_rfl) (by intro _ _ _ h; exact h) (Or.inr ⟨by kernel_rfl, rfl⟩) (by assumption) ?_
        simp only [Act.put, List.setIfInBounds_toArray, List.set_cons_zero, List.set_cons_succ, List.toList_toArray]
        refine wpAnyH_take (i := 11) (v := undef) (by simp only [List.getElem?_toArray, List.getElem?_cons_succ, List.getElem?_cons_zero]; exact rfl) (by kernel_rfl) (by kernel_rfl) (by kernel_rfl) (by intro _ _ _ h; exact h) (Or.inr ⟨by kernel_rfl, rfl⟩) (by assumption) ?_
        simp only [Act.put, List.setIfInBounds_toArray, List.set_cons_zero, List.set_cons_succ, List.toList_toArray]
        refine wpAnyH_take (i := 12) (v := .bool true) (by simp only [List.getElem?_toArray, List.getElem?_cons_succ, List.getElem?_cons_zero]; exact rfl) (by kernel_rfl) (by kernel_rfl) (by kernel_rfl) (by intro _ _ _ h; exact h) (Or.inl ⟨by kernel_rfl, by intro w hSw; go_simp⟩) (by assumption) ?_
        simp only [Act.put, List.setIfInBounds_toArray, List.set_cons_zero, List.set_cons_succ, List.toList_toArray]
        refine wpAnyH_take (i := 13) (v := .bool true) (by simp only [List.getElem?_toArray, List.getElem?_cons_succ, List.getElem?_cons_zero]; exact rfl) (by kernel_rfl) (by kernel_rfl) (by kernel_rfl) (by intro _ _ _ h; exact h) (Or.inl ⟨by kernel_rfl, by intro w hSw; go_simp⟩) (by assumption) ?_
        simp only [Act.put, List.setIfInBounds_toArray, List.set_cons_zero, List.set_cons_succ, List.toList_toArray]
        refine wpAnyH_take (i := 14) (v := undef) (by simp only [List.getElem?_toArray, List.getElem?_cons_succ, List.getElem?_cons_zero]; exact rfl) (by kernel_rfl) (by kernel_rfl) (by kernel_rfl) (by intro _ _ _ h; exact h) (Or.inr ⟨by kernel_rfl, rfl⟩) (by assumption) ?_
        simp only [Act.put, List.setIfInBounds_toArray, List.set_cons_zero, List.set_cons_succ, List.toList_toArray]
        refine wpAnyH_take (i := 15) (v := undef) (by simp only [List.getElem?_toArray, List.getElem?_cons_succ, List.getElem?_cons_zero]; exact rfl) (by kernel_rfl) (by kernel_rfl) (by kernel_rfl) (by intro _ _ _ h; exact h) (Or.inr ⟨by kernel_rfl, rfl⟩) (by assumption) ?_
        simp only [Act.put, List.setIfInBounds_toArray, List.set_cons_zero, List.set_cons_succ, List.toList_toArray]
        refine wpAnyH_take (i := 16) (v := undef) (by simp only [List.getElem?_toArray, List.getElem?_cons_succ, List.getElem?_cons_zero]; exact rfl) (by kernel_rfl) (by kernel_rfl) (by kernel_rfl) (by intro _ _ _ h; exact h) (Or.inr ⟨by kernel_rfl, rfl⟩) (by assumption) ?_
        simp only [Act.put, List.setIfInBounds_toArray, List.set_cons_zero, List.set_cons_succ, List.toList_toArray]
        refine wpAnyH_take (i := 17) (v := undef) (by simp only [List.getElem?_toArray, List.getElem?_cons_succ, List.getElem?_cons_zero]; exact rfl) (by kernel_rfl) (by kernel_rfl) (by kernel_rfl) (by intro _ _ _ h; exact h) (Or.inr ⟨by kernel_rfl, rfl⟩) (by assumption) ?_
        simp only [Act.put, List.setIfInBounds_toArray, List.set_cons_zero, List.set_cons_succ, List.toList_toArray]
        refine wpAnyH_take (i := 18) (v := undef) (by simp only [List.getElem?_toArray, List.getElem?_cons_succ, List.getElem?_cons_zero]; exact rfl) (by kernel_rfl) (by kernel_rfl) (by kernel_rfl) (by intro _ _ _ h; exact h) (Or.inr ⟨by kernel_rfl, rfl⟩) (by assumption) ?_
        simp only [Act.put, List.setIfInBounds_toArray, List.set_cons_zero, List.set_cons_succ, List.toList_toArray]
        refine wpAnyH_take (i := 19) (v := undef) (by simp only [List.getElem?_toArray, List.getElem?_cons_succ, List.getElem?_cons_zero]; exact rfl) (by kernel_rfl) (by kernel_rfl) (by kernel_rfl) (by intro _ _ _ h; exact h) (Or.inr ⟨by kernel_rfl, rfl⟩) (by assumption) ?_
        simp only [Act.put, List.setIfInBounds_toArray, List.set_cons_zero, List.set_cons_succ, List.toList_toArray]
        refine wpAnyH_take (i := 20) (v := undef) (by simp only [List.getElem?_toArray, List.getElem?_cons_succ, List.getElem?_cons_zero]; exact rfl) (by kernel_rfl) (by kernel_rfl) (by kernel_rfl) (by intro _ _ _ h; exact h) (Or.inr ⟨by kernel_rfl, rfl⟩) (by assumption) ?_
        simp only [Act.put, List.setIfInBounds_toArray, List.set_cons_zero, List.set_cons_succ, List.toList_toArray]
        refine wpAnyH_take (i := 21) (v := undef) (by simp only [List.getElem?_toArray, List.getElem?_cons_succ, List.getElem?_cons_zero]; exact rfl) (by kernel_rfl) (by kernel_rfl) (by kernel_rfl) (by intro _ _ _ h; exact h) (Or.inr ⟨by kernel_rfl, rfl⟩) (by assumption) ?_
        simp only [Act.put, List.setIfInBounds_toArray, List.set_cons_zero, List.set_cons_succ, List.toList_toArray]
        refine wpAnyH_take (i := 22) (v := undef) (by simp only [List.getElem?_toArray, List.getElem?_cons_succ, List.getElem?_cons_zero]; exact rfl) (by kernel_rfl) (by kernel_rfl) (by kernel_rfl) (by intro _ _ _ h; exact h) (Or.inr ⟨by kernel_rfl, rfl⟩) (by assumption) ?_
        simp only [Act.put, List.setIfInBounds_toArray, List.set_cons_zero, List.set_cons_succ, List.toList_toArray]
        refine wpAnyH_take (i := 23) (v := undef) (by simp only [List.getElem?_toArray, List.getElem?_cons_succ, List.getElem?_cons_zero]; exact rfl) (by kernel_rfl) (by kernel_rfl) (by kernel_rfl) (by intro _ _ _ h; exact h) (Or.inr ⟨by kernel_rfl, rfl⟩) (by assumption) ?_
        simp only [Act.put, List.setIfInBounds_toArray, List.set_cons_zero, List.set_cons_succ, List.toList_toArray]
        refine wpAnyH_take (i := 24) (v := undef) (by simp only [List.getElem?_toArray, List.getElem?_cons_succ, List.getElem?_cons_zero]; exact rfl) (by kernel_rfl) (by kernel_rfl) (by kernel_rfl) (by intro _ _ _ h; exact h) (Or.inr ⟨by kernel_rfl, rfl⟩) (by assumption) ?_
        simp only [Act.put, List.setIfInBounds_toArray, List.set_cons_zero, List.set_cons_succ, List.toList_toArray]
        refine wpAnyH_take (i := 25) (v := .bool true) (by simp only [List.getElem?_toArray, List.getElem?_cons_succ, List.getElem?_cons_zero]; exact rfl) (by kernel_rfl) (by kernel_rfl) (by kernel_rfl) (by intro _ _ _ h; exact h) (Or.inl ⟨by kernel_rfl, by intro w hSw; go_simp⟩) (by assumption) ?_
        simp only [Act.put, List.setIfInBounds_toArray, List.set_cons_zero, List.set_cons_succ, List.toList_toArray]
        refine wpAnyH_done (by kernel_rfl) ?_ _
        try simp only [Act.put, List.setIfInBounds_toArray, List.set_cons_zero, List.set_cons_succ]
        obtain ⟨hbz, hbr, hBD, hbel⟩ := hHeld
        have hiz := HI256.out zsq hzq
        have honeZ : ∀ v ∈ (Try.zeroCells38).toList, v.oneCell' = true := by rw [T_zc]; exact arr_one _
        rw [← T_zc] at hbz hiz
        go_wp2_with (refine wpList_store_row rfl 38 (.tmp 2) (.tmp 48) rfl w.heap.size rfl Try.zeroCells38 rfl 38 _ hbz hiz rfl honeZ ?_)
        refine bodyPost_ret (results_cell_tmp rfl _ _ w.heap.size 38 Try.zeroCells38 (0, 0) _ rfl hbz.row hup rfl hiz) rfl ?_
        rw [HF.out, HGV.out, T_zc]
        exact ⟨rfl, below_setRow' hbel (Nat.le_refl _) _⟩
      | true =>
        have HVT : Hid (valid L = true) := Lib.hid HV.out.symm
        have HDG := Lib.hid (dg_yes HVT.out)
        have hbd := valid_bd HVT.out
        have HSM : Hid (sumL (dg L) = sumL L) := Lib.hid (by rw [HDG.out, sumL_pad])
        have HSF : Hid (sumFits (dg L)) := Lib.hid (by rw [HDG.out]; exact pad_fits HVT.out)
        obtain ⟨s, hs⟩ : ∃ s, s = sumL L := ⟨_, rfl⟩
        rw [← hs] at hbd HSM HNX HST HSUM
        have HNE : Hid (L ≠ [] ↔ s ≠ 0) := Lib.hid ⟨fun hne e => by have := valid_ne_sum HVT.out hne; omega, fun hne e => hne (by rw [hs, e]; rfl)⟩
        have HNZ0 : Hid (L ≠ [] → 1 ≤ s) := Lib.hid (fun hne => by have h1 := valid_ne_sum HVT.out hne; rw [hs]; exact h1)
        clear hs
        by_cases hs0 : s = 0
        · subst hs0
          have HF : Hid (vpl LL = false) := Lib.hid (HST.out (fun hh => HNE.out.1 hh.2.1 rfl))
          have HGV : Hid (gridV LL = zsq) := Lib.hid (by unfold gridV; rw [HF.out]; rfl)
          have hS0 := HS0.out
          refine wp_region_held_drew (S := fun w' => Blk w' w.heap.size 38 (arr (zsq).flatten) ∧ Blk w' (w.heap.size + 1) 38 (arr R.flatten) ∧ Blk w' D 36 (arr (dg L)) ∧ Below w.heap.size w w') (by kernel_rfl) hS0 (fun hHeld => ?_)
          refine wpAnyH_take (i := 0) (v := .bool true) (by simp only [List.getElem?_toArray, List.getElem?_cons_succ, List.getElem?_cons_zero]; exact rfl) (by kernel_rfl) (by kernel_rfl) (by kernel_rfl) (by intro _ _ _ h; exact h) (Or.inl ⟨by kernel_rfl, by intro w hSw; go_simp⟩) (by assumption) ?_
          simp only [Act.put, List.setIfInBounds_toArray, List.set_cons_zero, List.set_cons_succ, List.toList_toArray]
          refine wpAnyH_take (i := 1) (v := .bool false) (by simp only [List.getElem?_toArray, List.getElem?_cons_succ, List.getElem?_cons_zero]; exact rfl) (by kernel_rfl) (by kernel_rfl) (by kernel_rfl) (by intro _ _ _ h; exact h) (Or.inl ⟨by kernel_rfl, by intro w hSw; go_simp⟩) (by assumption) ?_
          simp only [Act.put, List.setIfInBounds_toArray, List.set_cons_zero, List.set_cons_succ, List.toList_toArray]
          refine wpAnyH_take (i := 2) (v := .bool false) (by simp only [List.getElem?_toArray, List.getElem?_cons_succ, List.getElem?_cons_zero]; exact rfl) (by kernel_rfl) (by kernel_rfl) (by kernel_rfl) (by intro _ _ _ h; exact h) (Or.inl ⟨by kernel_rfl, by intro w hSw; go_simp⟩) (by assumption) ?_
          simp only [Act.put, List.setIfInBounds_toArray, List.set_cons_zero, List.set_cons_succ, List.toList_toArray]
          refine wpAnyH_take (i := 3) (v := .agg (arr (dg L))) (by simp only [List.getElem?_toArray, List.getElem?_cons_succ, List.getElem?_cons_zero]; exact rfl) (by kernel_rfl) (by kernel_rfl) (by kernel_rfl) (by intro _ _ _ h; exact h) (yieldsIf_load_mid (by kernel_rfl) _ _ rfl D 0 rfl (ints (dg L)) _ (fun _ hw => Blk.rangeQ (vs := ints (dg L)) hw.2.2.1) hu rfl hiL) (by assumption) ?_
          simp only [Act.put, List.setIfInBounds_toArray, List.set_cons_zero, List.set_cons_succ, List.toList_toArray]
          refine wpAnyH_ready (rs := [4]) (by kernel_rfl) (by simp) ?_
          refine AllReadyH.cons (o := _) (by simp only [List.getElem?_toArray, List.getElem?_cons_succ, List.getElem?_cons_zero]; exact rfl) (fun K hK => ?_) AllReadyH.nil
          rw [if_pos (by rfl)]
          go_simp
          go_at_call 58
          refine (dsum_any (dg L) HDL.out HSF.out _).mono ?_
          rintro e w5 ⟨rfl, hb5⟩
          rw [HSM.out]
          refine hK.out _ _ (keepP hHeld hb5) (fun hH1 => ?_)
          clear hK K
          try simp only [Act.put, List.setIfInBounds_toArray, List.set_cons_zero, List.set_cons_succ, List.toList_toArray]
          refine wpAnyH_take (i := 5) (v := .bool true) (by simp only [List.getElem?_toArray, List.getElem?_cons_succ, List.getElem?_cons_zero]; exact rfl) (by kernel_rfl) (by kernel_rfl) (by kernel_rfl) (by intro _ _ _ h; exact h) (Or.inl ⟨by kernel_rfl, by intro w hSw; go_simp⟩) (by assumption) ?_
          simp only [Act.put, List.setIfInBounds_toArray, List.set_cons_zero, List.set_cons_succ, List.toList_toArray]
          refine wpAnyH_take (i := 6) (v := .bool true) (by simp only [List.getElem?_toArray, List.getElem?_cons_succ, List.getElem?_cons_zero]; exact rfl) (by kernel_rfl) (by kernel_rfl) (by kernel_rfl) (by intro _ _ _ h; exact h) (Or.inl ⟨by kernel_rfl, by intro w hSw; go_simp⟩) (by assumption) ?_
          simp only [Act.put, List.setIfInBounds_toArray, List.set_cons_zero, List.set_cons_succ, List.toList_toArray]
          refine wpAnyH_take (i := 7) (v := .bool true) (by simp only [List.getElem?_toArray, List.getElem?_cons_succ, List.getElem?_cons_zero]; exact rfl) (by kernel_rfl) (by kernel_rfl) (by kernel_rfl) (by intro _ _ _ h; exact h) (Or.inl ⟨by kernel_rfl, by intro w hSw; go_simp⟩) (by assumption) ?_
          simp only [Act.put, List.setIfInBounds_toArray, List.set_cons_zero, List.set_cons_succ, List.toList_toArray]
          refine wpAnyH_take (i := 8) (v := undef) (by simp only [List.getElem?_toArray, List.getElem?_cons_succ, List.getElem?_cons_zero]; exact rfl) (by kernel_rfl) (by kernel_rfl) (by kernel_rfl) (by intro _ _ _ h; exact h) (Or.inr ⟨by kernel_rfl, rfl⟩) (by assumption) ?_
          simp only [Act.put, List.setIfInBounds_toArray, List.set_cons_zero, List.set_cons_succ, List.toList_toArray]
          refine wpAnyH_take (i := 9) (v := undef) (by simp only [List.getElem?_toArray, List.getElem?_cons_succ, List.getElem?_cons_zero]; exact rfl) (by kernel_rfl) (by kernel_rfl) (by kernel_rfl) (by intro _ _ _ h; exact h) (Or.inr ⟨by kernel_rfl, rfl⟩) (by assumption) ?_
          simp only [Act.put, List.setIfInBounds_toArray, List.set_cons_zero, List.set_cons_succ, List.toList_toArray]
          refine wpAnyH_take (i := 10) (v := undef) (by simp only [List.getElem?_toArray, List.getElem?_cons_succ, List.getElem?_cons_zero]; exact rfl) (by kernel_rfl) (by kernel_rfl) (by kernel_rfl) (by intro _ _ _ h; exact h) (Or.inr ⟨by kernel_rfl, rfl⟩) (by assumption) ?_
          simp only [Act.put, List.setIfInBounds_toArray, List.set_cons_zero, List.set_cons_succ, List.toList_toArray]
          refine wpAnyH_take (i := 11) (v := undef) (by simp only [List.getElem?_toArray, List.getElem?_cons_succ, List.getElem?_cons_zero]; exact rfl) (by kernel_rfl) (by kernel_rfl) (by kernel_rfl) (by intro _ _ _ h; exact h) (Or.inr ⟨by kernel_rfl, rfl⟩) (by assumption) ?_
          simp only [Act.put, List.setIfInBounds_toArray, List.set_cons_zero, List.set_cons_succ, List.toList_toArray]
          refine wpAnyH_take (i := 12) (v := .bool true) (by simp only [List.getElem?_toArray, List.getElem?_cons_succ, List.getElem?_cons_zero]; exact rfl) (by kernel_rfl) (by kernel_rfl) (by kernel_rfl) (by intro _ _ _ h; exact h) (Or.inl ⟨by kernel_rfl, by intro w hSw; go_simp⟩) (by assumption) ?_
          simp only [Act.put, List.setIfInBounds_toArray, List.set_cons_zero, List.set_cons_succ, List.toList_toArray]
          refine wpAnyH_take (i := 13) (v := .bool true) (by simp only [List.getElem?_toArray, List.getElem?_cons_succ, List.getElem?_cons_zero]; exact rfl) (by kernel_rfl) (by kernel_rfl) (by kernel_rfl) (by intro _ _ _ h; exact h) (Or.inl ⟨by kernel_rfl, by intro w hSw; go_simp⟩) (by assumption) ?_
          simp only [Act.put, List.setIfInBounds_toArray, List.set_cons_zero, List.set_cons_succ, List.toList_toArray]
          refine wpAnyH_take (i := 14) (v := undef) (by simp only [List.getElem?_toArray, List.getElem?_cons_succ, List.getElem?_cons_zero]; exact rfl) (by kernel_rfl) (by kernel_rfl) (by kernel_rfl) (by intro _ _ _ h; exact h) (Or.inr ⟨by kernel_rfl, rfl⟩) (by assumption) ?_
          simp only [Act.put, List.setIfInBounds_toArray, List.set_cons_zero, List.set_cons_succ, List.toList_toArray]
          refine wpAnyH_take (i := 15) (v := undef) (by simp only [List.getElem?_toArray, List.getElem?_cons_succ, List.getElem?_cons_zero]; exact rfl) (by kernel_rfl) (by kernel_rfl) (by kernel_rfl) (by intro _ _ _ h; exact h) (Or.inr ⟨by kernel_rfl, rfl⟩) (by assumption) ?_
          simp only [Act.put, List.setIfInBounds_toArray, List.set_cons_zero, List.set_cons_succ, List.toList_toArray]
          refine wpAnyH_take (i := 16) (v := undef) (by simp only [List.getElem?_toArray, List.getElem?_cons_succ, List.getElem?_cons_zero]; exact rfl) (by kernel_rfl) (by kernel_rfl) (by kernel_rfl) (by intro _ _ _ h; exact h) (Or.inr ⟨by kernel_rfl, rfl⟩) (by assumption) ?_
          simp only [Act.put, List.setIfInBounds_toArray, List.set_cons_zero, List.set_cons_succ, List.toList_toArray]
          refine wpAnyH_take (i := 17) (v := undef) (by simp only [List.getElem?_toArray, List.getElem?_cons_succ, List.getElem?_cons_zero]; exact rfl) (by kernel_rfl) (by kernel_rfl) (by kernel_rfl) (by intro _ _ _ h; exact h) (Or.inr ⟨by kernel_rfl, rfl⟩) (by assumption) ?_
          simp only [Act.put, List.setIfInBounds_toArray, List.set_cons_zero, List.set_cons_succ, List.toList_toArray]
          refine wpAnyH_take (i := 18) (v := undef) (by simp only [List.getElem?_toArray, List.getElem?_cons_succ, List.getElem?_cons_zero]; exact rfl) (by kernel_rfl) (by kernel_rfl) (by kernel_rfl) (by intro _ _ _ h; exact h) (Or.inr ⟨by kernel_rfl, rfl⟩) (by assumption) ?_
          simp only [Act.put, List.setIfInBounds_toArray, List.set_cons_zero, List.set_cons_succ, List.toList_toArray]
          refine wpAnyH_take (i := 19) (v := undef) (by simp only [List.getElem?_toArray, List.getElem?_cons_succ, List.getElem?_cons_zero]; exact rfl) (by kernel_rfl) (by kernel_rfl) (by kernel_rfl) (by intro _ _ _ h; exact h) (Or.inr ⟨by kernel_rfl, rfl⟩) (by assumption) ?_
          simp only [Act.put, List.setIfInBounds_toArray, List.set_cons_zero, List.set_cons_succ, List.toList_toArray]
          refine wpAnyH_take (i := 20) (v := undef) (by simp only [List.getElem?_toArray, List.getElem?_cons_succ, List.getElem?_cons_zero]; exact rfl) (by kernel_rfl) (by kernel_rfl) (by kernel_rfl) (by intro _ _ _ h; exact h) (Or.inr ⟨by kernel_rfl, rfl⟩) (by assumption) ?_
          simp only [Act.put, List.setIfInBounds_toArray, List.set_cons_zero, List.set_cons_succ, List.toList_toArray]
          refine wpAnyH_take (i := 21) (v := undef) (by simp only [List.getElem?_toArray, List.getElem?_cons_succ, List.getElem?_cons_zero]; exact rfl) (by kernel_rfl) (by kernel_rfl) (by kernel_rfl) (by intro _ _ _ h; exact h) (Or.inr ⟨by kernel_rfl, rfl⟩) (by assumption) ?_
          simp only [Act.put, List.setIfInBounds_toArray, List.set_cons_zero, List.set_cons_succ, List.toList_toArray]
          refine wpAnyH_take (i := 22) (v := undef) (by simp only [List.getElem?_toArray, List.getElem?_cons_succ, List.getElem?_cons_zero]; exact rfl) (by kernel_rfl) (by kernel_rfl) (by kernel_rfl) (by intro _ _ _ h; exact h) (Or.inr ⟨by kernel_rfl, rfl⟩) (by assumption) ?_
          simp only [Act.put, List.setIfInBounds_toArray, List.set_cons_zero, List.set_cons_succ, List.toList_toArray]
          refine wpAnyH_take (i := 23) (v := undef) (by simp only [List.getElem?_toArray, List.getElem?_cons_succ, List.getElem?_cons_zero]; exact rfl) (by kernel_rfl) (by kernel_rfl) (by kernel_rfl) (by intro _ _ _ h; exact h) (Or.inr ⟨by kernel_rfl, rfl⟩) (by assumption) ?_
          simp only [Act.put, List.setIfInBounds_toArray, List.set_cons_zero, List.set_cons_succ, List.toList_toArray]
          refine wpAnyH_take (i := 24) (v := undef) (by simp only [List.getElem?_toArray, List.getElem?_cons_succ, List.getElem?_cons_zero]; exact rfl) (by kernel_rfl) (by kernel_rfl) (by kernel_rfl) (by intro _ _ _ h; exact h) (Or.inr ⟨by kernel_rfl, rfl⟩) (by assumption) ?_
          simp only [Act.put, List.setIfInBounds_toArray, List.set_cons_zero, List.set_cons_succ, List.toList_toArray]
          refine wpAnyH_take (i := 25) (v := .bool true) (by simp only [List.getElem?_toArray, List.getElem?_cons_succ, List.getElem?_cons_zero]; exact rfl) (by kernel_rfl) (by kernel_rfl) (by kernel_rfl) (by intro _ _ _ h; exact h) (Or.inl ⟨by kernel_rfl, by intro w hSw; go_simp⟩) (by assumption) ?_
          simp only [Act.put, List.setIfInBounds_toArray, List.set_cons_zero, List.set_cons_succ, List.toList_toArray]
          refine wpAnyH_done (by kernel_rfl) ?_ _
          try simp only [Act.put, List.setIfInBounds_toArray, List.set_cons_zero, List.set_cons_succ]
          obtain ⟨hbz, hbr, hBD, hbel⟩ := hH1
          have hiz := HI256.out zsq hzq
          have honeZ : ∀ v ∈ (Try.zeroCells38).toList, v.oneCell' = true := by rw [T_zc]; exact arr_one _
          rw [← T_zc] at hbz hiz
          go_wp2_with (refine wpList_store_row rfl 38 (.tmp 2) (.tmp 48) rfl w.heap.size rfl Try.zeroCells38 rfl 38 _ hbz hiz rfl honeZ ?_)
          refine bodyPost_ret (results_cell_tmp rfl _ _ w.heap.size 38 Try.zeroCells38 (0, 0) _ rfl hbz.row hup rfl hiz) rfl ?_
          rw [HF.out, HGV.out, T_zc]
          exact ⟨rfl, below_setRow' hbel (Nat.le_refl _) _⟩
        · have hsb : (s == 0) = false := beq_eq_false_iff_ne.2 hs0
          by_cases hsl : l < s
          · have hslb : decide (l < s) = true := decide_eq_true hsl
            have HF : Hid (vpl LL = false) := Lib.hid (HST.out (fun hh => by have := hh.2.2.1; omega))
            have HGV : Hid (gridV LL = zsq) := Lib.hid (by unfold gridV; rw [HF.out]; rfl)
            clear hs0
            have hS0 := HS0.out
            refine wp_region_held_drew (S := fun w' => Blk w' w.heap.size 38 (arr (zsq).flatten) ∧ Blk w' (w.heap.size + 1) 38 (arr R.flatten) ∧ Blk w' D 36 (arr (dg L)) ∧ Below w.heap.size w w') (by kernel_rfl) hS0 (fun hHeld => ?_)
            refine wpAnyH_take (i := 0) (v := .bool true) (by simp only [List.getElem?_toArray, List.getElem?_cons_succ, List.getElem?_cons_zero]; exact rfl) (by kernel_rfl) (by kernel_rfl) (by kernel_rfl) (by intro _ _ _ h; exact h) (Or.inl ⟨by kernel_rfl, by intro w hSw; go_simp⟩) (by assumption) ?_
            simp only [Act.put, List.setIfInBounds_toArray, List.set_cons_zero, List.set_cons_succ, List.toList_toArray]
            refine wpAnyH_take (i := 1) (v := .bool false) (by simp only [List.getElem?_toArray, List.getElem?_cons_succ, List.getElem?_cons_zero]; exact rfl) (by kernel_rfl) (by kernel_rfl) (by kernel_rfl) (by intro _ _ _ h; exact h) (Or.inl ⟨by kernel_rfl, by intro w hSw; go_simp⟩) (by assumption) ?_
            simp only [Act.put, List.setIfInBounds_toArray, List.set_cons_zero, List.set_cons_succ, List.toList_toArray]
            refine wpAnyH_take (i := 2) (v := .bool false) (by simp only [List.getElem?_toArray, List.getElem?_cons_succ, List.getElem?_cons_zero]; exact rfl) (by kernel_rfl) (by kernel_rfl) (by kernel_rfl) (by intro _ _ _ h; exact h) (Or.inl ⟨by kernel_rfl, by intro w hSw; go_simp⟩) (by assumption) ?_
            simp only [Act.put, List.setIfInBounds_toArray, List.set_cons_zero, List.set_cons_succ, List.toList_toArray]
            refine wpAnyH_take (i := 3) (v := .agg (arr (dg L))) (by simp only [List.getElem?_toArray, List.getElem?_cons_succ, List.getElem?_cons_zero]; exact rfl) (by kernel_rfl) (by kernel_rfl) (by kernel_rfl) (by intro _ _ _ h; exact h) (yieldsIf_load_mid (by kernel_rfl) _ _ rfl D 0 rfl (ints (dg L)) _ (fun _ hw => Blk.rangeQ (vs := ints (dg L)) hw.2.2.1) hu rfl hiL) (by assumption) ?_
            simp only [Act.put, List.setIfInBounds_toArray, List.set_cons_zero, List.set_cons_succ, List.toList_toArray]
            refine wpAnyH_ready (rs := [4]) (by kernel_rfl) (by simp) ?_
            refine AllReadyH.cons (o := _) (by simp only [List.getElem?_toArray, List.getElem?_cons_succ, List.getElem?_cons_zero]; exact rfl) (fun K hK => ?_) AllReadyH.nil
            rw [if_pos (by rfl)]
            go_simp
            go_at_call 58
            refine (dsum_any (dg L) HDL.out HSF.out _).mono ?_
            rintro e w5 ⟨rfl, hb5⟩
            rw [HSM.out]
            refine hK.out _ _ (keepP hHeld hb5) (fun hH1 => ?_)
            clear hK K
            try simp only [Act.put, List.setIfInBounds_toArray, List.set_cons_zero, List.set_cons_succ, List.toList_toArray]
            refine wpAnyH_take (i := 5) (v := .bool false) (by simp only [List.getElem?_toArray, List.getElem?_cons_succ, List.getElem?_cons_zero]; exact rfl) (by kernel_rfl) (by kernel_rfl) (by kernel_rfl) (by intro _ _ _ h; exact h) (Or.inl ⟨by kernel_rfl, by intro w hSw; go_simp⟩) (by assumption) ?_
            simp only [Act.put, List.setIfInBounds_toArray, List.set_cons_zero, List.set_cons_succ, List.toList_toArray]
            refine wpAnyH_take (i := 6) (v := .bool false) (by simp only [List.getElem?_toArray, List.getElem?_cons_succ, List.getElem?_cons_zero]; exact rfl) (by kernel_rfl) (by kernel_rfl) (by kernel_rfl) (by intro _ _ _ h; exact h) (Or.inl ⟨by kernel_rfl, by intro w hSw; go_simp⟩) (by assumption) ?_
            simp only [Act.put, List.setIfInBounds_toArray, List.set_cons_zero, List.set_cons_succ, List.toList_toArray]
            refine wpAnyH_take (i := 7) (v := .bool false) (by simp only [List.getElem?_toArray, List.getElem?_cons_succ, List.getElem?_cons_zero]; exact rfl) (by kernel_rfl) (by kernel_rfl) (by kernel_rfl) (by intro _ _ _ h; exact h) (Or.inl ⟨by kernel_rfl, by intro w hSw; go_simp⟩) (by assumption) ?_
            simp only [Act.put, List.setIfInBounds_toArray, List.set_cons_zero, List.set_cons_succ, List.toList_toArray]
            refine wpAnyH_take (i := 8) (v := .agg (arr (dg L))) (by simp only [List.getElem?_toArray, List.getElem?_cons_succ, List.getElem?_cons_zero]; exact rfl) (by kernel_rfl) (by kernel_rfl) (by kernel_rfl) (by intro _ _ _ h; exact h) (yieldsIf_load_mid (by kernel_rfl) _ _ rfl D 0 rfl (ints (dg L)) _ (fun _ hw => Blk.rangeQ (vs := ints (dg L)) hw.2.2.1) hu rfl hiL) (by assumption) ?_
            simp only [Act.put, List.setIfInBounds_toArray, List.set_cons_zero, List.set_cons_succ, List.toList_toArray]
            refine wpAnyH_take (i := 10) (v := .int .i64 l) (by simp only [List.getElem?_toArray, List.getElem?_cons_succ, List.getElem?_cons_zero]; exact rfl) (by kernel_rfl) (by kernel_rfl) (by kernel_rfl) (by intro _ _ _ h; exact h) (Or.inl ⟨by kernel_rfl, by intro w hSw; go_simp⟩) (by assumption) ?_
            simp only [Act.put, List.setIfInBounds_toArray, List.set_cons_zero, List.set_cons_succ, List.toList_toArray]
            refine wpAnyH_ready (rs := [9]) (by kernel_rfl) (by simp) ?_
            refine AllReadyH.cons (o := _) (by simp only [List.getElem?_toArray, List.getElem?_cons_succ, List.getElem?_cons_zero]; exact rfl) (fun K hK => ?_) AllReadyH.nil
            rw [if_pos (by rfl)]
            go_simp
            go_at_call 58
            refine (dsum_any (dg L) HDL.out HSF.out _).mono ?_
            rintro e w5 ⟨rfl, hb5⟩
            rw [HSM.out]
            refine hK.out _ _ (keepP hH1 hb5) (fun hH2 => ?_)
            clear hK K
            try simp only [Act.put, List.setIfInBounds_toArray, List.set_cons_zero, List.set_cons_succ, List.toList_toArray]
            refine wpAnyH_take (i := 11) (v := .bool true) (by simp only [List.getElem?_toArray, List.getElem?_cons_succ, List.getElem?_cons_zero]; exact rfl) (by kernel_rfl) (by kernel_rfl) (by kernel_rfl) (by intro _ _ _ h; exact h) (Or.inl ⟨by kernel_rfl, by intro w hSw; go_simp⟩) (by assumption) ?_
            simp only [Act.put, List.setIfInBounds_toArray, List.set_cons_zero, List.set_cons_succ, List.toList_toArray]
            refine wpAnyH_take (i := 12) (v := .bool true) (by simp only [List.getElem?_toArray, List.getElem?_cons_succ, List.getElem?_cons_zero]; exact rfl) (by kernel_rfl) (by kernel_rfl) (by kernel_rfl) (by intro _ _ _ h; exact h) (Or.inl ⟨by kernel_rfl, by intro w hSw; go_simp⟩) (by assumption) ?_
            simp only [Act.put, List.setIfInBounds_toArray, List.set_cons_zero, List.set_cons_succ, List.toList_toArray]
            refine wpAnyH_take (i := 13) (v := .bool true) (by simp only [List.getElem?_toArray, List.getElem?_cons_succ, List.getElem?_cons_zero]; exact rfl) (by kernel_rfl) (by kernel_rfl) (by kernel_rfl) (by intro _ _ _ h; exact h) (Or.inl ⟨by kernel_rfl, by intro w hSw; go_simp⟩) (by assumption) ?_
            simp only [Act.put, List.setIfInBounds_toArray, List.set_cons_zero, List.set_cons_succ, List.toList_toArray]
            refine wpAnyH_take (i := 14) (v := undef) (by simp only [List.getElem?_toArray, List.getElem?_cons_succ, List.getElem?_cons_zero]; exact rfl) (by kernel_rfl) (by kernel_rfl) (by kernel_rfl) (by intro _ _ _ h; exact h) (Or.inr ⟨by kernel_rfl, rfl⟩) (by assumption) ?_
            simp only [Act.put, List.setIfInBounds_toArray, List.set_cons_zero, List.set_cons_succ, List.toList_toArray]
            refine wpAnyH_take (i := 15) (v := undef) (by simp only [List.getElem?_toArray, List.getElem?_cons_succ, List.getElem?_cons_zero]; exact rfl) (by kernel_rfl) (by kernel_rfl) (by kernel_rfl) (by intro _ _ _ h; exact h) (Or.inr ⟨by kernel_rfl, rfl⟩) (by assumption) ?_
            simp only [Act.put, List.setIfInBounds_toArray, List.set_cons_zero, List.set_cons_succ, List.toList_toArray]
            refine wpAnyH_take (i := 16) (v := undef) (by simp only [List.getElem?_toArray, List.getElem?_cons_succ, List.getElem?_cons_zero]; exact rfl) (by kernel_rfl) (by kernel_rfl) (by kernel_rfl) (by intro _ _ _ h; exact h) (Or.inr ⟨by kernel_rfl, rfl⟩) (by assumption) ?_
            simp only [Act.put, List.setIfInBounds_toArray, List.set_cons_zero, List.set_cons_succ, List.toList_toArray]
            refine wpAnyH_take (i := 17) (v := undef) (by simp only [List.getElem?_toArray, List.getElem?_cons_succ, List.getElem?_cons_zero]; exact rfl) (by kernel_rfl) (by kernel_rfl) (by kernel_rfl) (by intro _ _ _ h; exact h) (Or.inr ⟨by kernel_rfl, rfl⟩) (by assumption) ?_
            simp only [Act.put, List.setIfInBounds_toArray, List.set_cons_zero, List.set_cons_succ, List.toList_toArray]
            refine wpAnyH_take (i := 18) (v := undef) (by simp only [List.getElem?_toArray, List.getElem?_cons_succ, List.getElem?_cons_zero]; exact rfl) (by kernel_rfl) (by kernel_rfl) (by kernel_rfl) (by intro _ _ _ h; exact h) (Or.inr ⟨by kernel_rfl, rfl⟩) (by assumption) ?_
            simp only [Act.put, List.setIfInBounds_toArray, List.set_cons_zero, List.set_cons_succ, List.toList_toArray]
            refine wpAnyH_take (i := 19) (v := undef) (by simp only [List.getElem?_toArray, List.getElem?_cons_succ, List.getElem?_cons_zero]; exact rfl) (by kernel_rfl) (by kernel_rfl) (by kernel_rfl) (by intro _ _ _ h; exact h) (Or.inr ⟨by kernel_rfl, rfl⟩) (by assumption) ?_
            simp only [Act.put, List.setIfInBounds_toArray, List.set_cons_zero, List.set_cons_succ, List.toList_toArray]
            refine wpAnyH_take (i := 20) (v := undef) (by simp only [List.getElem?_toArray, List.getElem?_cons_succ, List.getElem?_cons_zero]; exact rfl) (by kernel_rfl) (by kernel_rfl) (by kernel_rfl) (by intro _ _ _ h; exact h) (Or.inr ⟨by kernel_rfl, rfl⟩) (by assumption) ?_
            simp only [Act.put, List.setIfInBounds_toArray, List.set_cons_zero, List.set_cons_succ, List.toList_toArray]
            refine wpAnyH_take (i := 21) (v := undef) (by simp only [List.getElem?_toArray, List.getElem?_cons_succ, List.getElem?_cons_zero]; exact rfl) (by kernel_rfl) (by kernel_rfl) (by kernel_rfl) (by intro _ _ _ h; exact h) (Or.inr ⟨by kernel_rfl, rfl⟩) (by assumption) ?_
            simp only [Act.put, List.setIfInBounds_toArray, List.set_cons_zero, List.set_cons_succ, List.toList_toArray]
            refine wpAnyH_take (i := 22) (v := undef) (by simp only [List.getElem?_toArray, List.getElem?_cons_succ, List.getElem?_cons_zero]; exact rfl) (by kernel_rfl) (by kernel_rfl) (by kernel_rfl) (by intro _ _ _ h; exact h) (Or.inr ⟨by kernel_rfl, rfl⟩) (by assumption) ?_
            simp only [Act.put, List.setIfInBounds_toArray, List.set_cons_zero, List.set_cons_succ, List.toList_toArray]
            refine wpAnyH_take (i := 23) (v := undef) (by simp only [List.getElem?_toArray, List.getElem?_cons_succ, List.getElem?_cons_zero]; exact rfl) (by kernel_rfl) (by kernel_rfl) (by kernel_rfl) (by intro _ _ _ h; exact h) (Or.inr ⟨by kernel_rfl, rfl⟩) (by assumption) ?_
            simp only [Act.put, List.setIfInBounds_toArray, List.set_cons_zero, List.set_cons_succ, List.toList_toArray]
            refine wpAnyH_take (i := 24) (v := undef) (by simp only [List.getElem?_toArray, List.getElem?_cons_succ, List.getElem?_cons_zero]; exact rfl) (by kernel_rfl) (by kernel_rfl) (by kernel_rfl) (by intro _ _ _ h; exact h) (Or.inr ⟨by kernel_rfl, rfl⟩) (by assumption) ?_
            simp only [Act.put, List.setIfInBounds_toArray, List.set_cons_zero, List.set_cons_succ, List.toList_toArray]
            refine wpAnyH_take (i := 25) (v := .bool true) (by simp only [List.getElem?_toArray, List.getElem?_cons_succ, List.getElem?_cons_zero]; exact rfl) (by kernel_rfl) (by kernel_rfl) (by kernel_rfl) (by intro _ _ _ h; exact h) (Or.inl ⟨by kernel_rfl, by intro w hSw; go_simp⟩) (by assumption) ?_
            simp only [Act.put, List.setIfInBounds_toArray, List.set_cons_zero, List.set_cons_succ, List.toList_toArray]
            refine wpAnyH_done (by kernel_rfl) ?_ _
            try simp only [Act.put, List.setIfInBounds_toArray, List.set_cons_zero, List.set_cons_succ]
            obtain ⟨hbz, hbr, hBD, hbel⟩ := hH2
            have hiz := HI256.out zsq hzq
            have honeZ : ∀ v ∈ (Try.zeroCells38).toList, v.oneCell' = true := by rw [T_zc]; exact arr_one _
            rw [← T_zc] at hbz hiz
            go_wp2_with (refine wpList_store_row rfl 38 (.tmp 2) (.tmp 48) rfl w.heap.size rfl Try.zeroCells38 rfl 38 _ hbz hiz rfl honeZ ?_)
            refine bodyPost_ret (results_cell_tmp rfl _ _ w.heap.size 38 Try.zeroCells38 (0, 0) _ rfl hbz.row hup rfl hiz) rfl ?_
            rw [HF.out, HGV.out, T_zc]
            exact ⟨rfl, below_setRow' hbel (Nat.le_refl _) _⟩
          · have hslb : decide (l < s) = false := decide_eq_false hsl
            have hsl' : s ≤ l := by omega
            have HNZ : Hid (1 ≤ s) := Lib.hid (HNZ0.out (HNE.out.2 hs0))
            by_cases hk0 : k = 0
            · subst hk0
              have HN : Hid (vpl (LL.take (0 + 1)) = true) := Lib.hid (HNX.out HVT.out (HNE.out.2 hs0) (fun h0 => by omega) hsl')
              clear hs0 hsl
              have hS0 := HS0.out
              refine wp_region_held_drew (S := fun w' => Blk w' w.heap.size 38 (arr (zsq).flatten) ∧ Blk w' (w.heap.size + 1) 38 (arr R.flatten) ∧ Blk w' D 36 (arr (dg L)) ∧ Below w.heap.size w w') (by kernel_rfl) hS0 (fun hHeld => ?_)
              refine wpAnyH_take (i := 0) (v := .bool true) (by simp only [List.getElem?_toArray, List.getElem?_cons_succ, List.getElem?_cons_zero]; exact rfl) (by kernel_rfl) (by kernel_rfl) (by kernel_rfl) (by intro _ _ _ h; exact h) (Or.inl ⟨by kernel_rfl, by intro w hSw; go_simp⟩) (by assumption) ?_
              simp only [Act.put, List.setIfInBounds_toArray, List.set_cons_zero, List.set_cons_succ, List.toList_toArray]
              refine wpAnyH_take (i := 1) (v := .bool false) (by simp only [List.getElem?_toArray, List.getElem?_cons_succ, List.getElem?_cons_zero]; exact rfl) (by kernel_rfl) (by kernel_rfl) (by kernel_rfl) (by intro _ _ _ h; exact h) (Or.inl ⟨by kernel_rfl, by intro w hSw; go_simp⟩) (by assumption) ?_
              simp only [Act.put, List.setIfInBounds_toArray, List.set_cons_zero, List.set_cons_succ, List.toList_toArray]
              refine wpAnyH_take (i := 2) (v := .bool false) (by simp only [List.getElem?_toArray, List.getElem?_cons_succ, List.getElem?_cons_zero]; exact rfl) (by kernel_rfl) (by kernel_rfl) (by kernel_rfl) (by intro _ _ _ h; exact h) (Or.inl ⟨by kernel_rfl, by intro w hSw; go_simp⟩) (by assumption) ?_
              simp only [Act.put, List.setIfInBounds_toArray, List.set_cons_zero, List.set_cons_succ, List.toList_toArray]
              refine wpAnyH_take (i := 3) (v := .agg (arr (dg L))) (by simp only [List.getElem?_toArray, List.getElem?_cons_succ, List.getElem?_cons_zero]; exact rfl) (by kernel_rfl) (by kernel_rfl) (by kernel_rfl) (by intro _ _ _ h; exact h) (yieldsIf_load_mid (by kernel_rfl) _ _ rfl D 0 rfl (ints (dg L)) _ (fun _ hw => Blk.rangeQ (vs := ints (dg L)) hw.2.2.1) hu rfl hiL) (by assumption) ?_
              simp only [Act.put, List.setIfInBounds_toArray, List.set_cons_zero, List.set_cons_succ, List.toList_toArray]
              refine wpAnyH_ready (rs := [4]) (by kernel_rfl) (by simp) ?_
              refine AllReadyH.cons (o := _) (by simp only [List.getElem?_toArray, List.getElem?_cons_succ, List.getElem?_cons_zero]; exact rfl) (fun K hK => ?_) AllReadyH.nil
              rw [if_pos (by rfl)]
              go_simp
              go_at_call 58
              refine (dsum_any (dg L) HDL.out HSF.out _).mono ?_
              rintro e w5 ⟨rfl, hb5⟩
              rw [HSM.out]
              refine hK.out _ _ (keepP hHeld hb5) (fun hH1 => ?_)
              clear hK K
              try simp only [Act.put, List.setIfInBounds_toArray, List.set_cons_zero, List.set_cons_succ, List.toList_toArray]
              refine wpAnyH_take (i := 5) (v := .bool false) (by simp only [List.getElem?_toArray, List.getElem?_cons_succ, List.getElem?_cons_zero]; exact rfl) (by kernel_rfl) (by kernel_rfl) (by kernel_rfl) (by intro _ _ _ h; exact h) (Or.inl ⟨by kernel_rfl, by intro w hSw; go_simp⟩) (by assumption) ?_
              simp only [Act.put, List.setIfInBounds_toArray, List.set_cons_zero, List.set_cons_succ, List.toList_toArray]
              refine wpAnyH_take (i := 6) (v := .bool false) (by simp only [List.getElem?_toArray, List.getElem?_cons_succ, List.getElem?_cons_zero]; exact rfl) (by kernel_rfl) (by kernel_rfl) (by kernel_rfl) (by intro _ _ _ h; exact h) (Or.inl ⟨by kernel_rfl, by intro w hSw; go_simp⟩) (by assumption) ?_
              simp only [Act.put, List.setIfInBounds_toArray, List.set_cons_zero, List.set_cons_succ, List.toList_toArray]
              refine wpAnyH_take (i := 7) (v := .bool false) (by simp only [List.getElem?_toArray, List.getElem?_cons_succ, List.getElem?_cons_zero]; exact rfl) (by kernel_rfl) (by kernel_rfl) (by kernel_rfl) (by intro _ _ _ h; exact h) (Or.inl ⟨by kernel_rfl, by intro w hSw; go_simp⟩) (by assumption) ?_
              simp only [Act.put, List.setIfInBounds_toArray, List.set_cons_zero, List.set_cons_succ, List.toList_toArray]
              refine wpAnyH_take (i := 8) (v := .agg (arr (dg L))) (by simp only [List.getElem?_toArray, List.getElem?_cons_succ, List.getElem?_cons_zero]; exact rfl) (by kernel_rfl) (by kernel_rfl) (by kernel_rfl) (by intro _ _ _ h; exact h) (yieldsIf_load_mid (by kernel_rfl) _ _ rfl D 0 rfl (ints (dg L)) _ (fun _ hw => Blk.rangeQ (vs := ints (dg L)) hw.2.2.1) hu rfl hiL) (by assumption) ?_
              simp only [Act.put, List.setIfInBounds_toArray, List.set_cons_zero, List.set_cons_succ, List.toList_toArray]
              refine wpAnyH_take (i := 10) (v := .int .i64 l) (by simp only [List.getElem?_toArray, List.getElem?_cons_succ, List.getElem?_cons_zero]; exact rfl) (by kernel_rfl) (by kernel_rfl) (by kernel_rfl) (by intro _ _ _ h; exact h) (Or.inl ⟨by kernel_rfl, by intro w hSw; go_simp⟩) (by assumption) ?_
              simp only [Act.put, List.setIfInBounds_toArray, List.set_cons_zero, List.set_cons_succ, List.toList_toArray]
              refine wpAnyH_ready (rs := [9]) (by kernel_rfl) (by simp) ?_
              refine AllReadyH.cons (o := _) (by simp only [List.getElem?_toArray, List.getElem?_cons_succ, List.getElem?_cons_zero]; exact rfl) (fun K hK => ?_) AllReadyH.nil
              rw [if_pos (by rfl)]
              go_simp
              go_at_call 58
              refine (dsum_any (dg L) HDL.out HSF.out _).mono ?_
              rintro e w5 ⟨rfl, hb5⟩
              rw [HSM.out]
              refine hK.out _ _ (keepP hH1 hb5) (fun hH2 => ?_)
              clear hK K
              try simp only [Act.put, List.setIfInBounds_toArray, List.set_cons_zero, List.set_cons_succ, List.toList_toArray]
              refine wpAnyH_take (i := 11) (v := .bool false) (by simp only [List.getElem?_toArray, List.getElem?_cons_succ, List.getElem?_cons_zero]; exact rfl) (by kernel_rfl) (by kernel_rfl) (by kernel_rfl) (by intro _ _ _ h; exact h) (Or.inl ⟨by kernel_rfl, by intro w hSw; go_simp⟩) (by assumption) ?_
              simp only [Act.put, List.setIfInBounds_toArray, List.set_cons_zero, List.set_cons_succ, List.toList_toArray]
              refine wpAnyH_take (i := 12) (v := .bool false) (by simp only [List.getElem?_toArray, List.getElem?_cons_succ, List.getElem?_cons_zero]; exact rfl) (by kernel_rfl) (by kernel_rfl) (by kernel_rfl) (by intro _ _ _ h; exact h) (Or.inl ⟨by kernel_rfl, by intro w hSw; go_simp⟩) (by assumption) ?_
              simp only [Act.put, List.setIfInBounds_toArray, List.set_cons_zero, List.set_cons_succ, List.toList_toArray]
              refine wpAnyH_take (i := 13) (v := .bool false) (by simp only [List.getElem?_toArray, List.getElem?_cons_succ, List.getElem?_cons_zero]; exact rfl) (by kernel_rfl) (by kernel_rfl) (by kernel_rfl) (by intro _ _ _ h; exact h) (Or.inl ⟨by kernel_rfl, by intro w hSw; go_simp⟩) (by assumption) ?_
              simp only [Act.put, List.setIfInBounds_toArray, List.set_cons_zero, List.set_cons_succ, List.toList_toArray]
              refine wpAnyH_take (i := 14) (v := .int .i64 0) (by simp only [List.getElem?_toArray, List.getElem?_cons_succ, List.getElem?_cons_zero]; exact rfl) (by kernel_rfl) (by kernel_rfl) (by kernel_rfl) (by intro _ _ _ h; exact h) (Or.inl ⟨by kernel_rfl, by intro w hSw; go_simp⟩) (by assumption) ?_
              simp only [Act.put, List.setIfInBounds_toArray, List.set_cons_zero, List.set_cons_succ, List.toList_toArray]
              refine wpAnyH_take (i := 15) (v := .bool false) (by simp only [List.getElem?_toArray, List.getElem?_cons_succ, List.getElem?_cons_zero]; exact rfl) (by kernel_rfl) (by kernel_rfl) (by kernel_rfl) (by intro _ _ _ h; exact h) (Or.inl ⟨by kernel_rfl, by intro w hSw; go_simp⟩) (by assumption) ?_
              simp only [Act.put, List.setIfInBounds_toArray, List.set_cons_zero, List.set_cons_succ, List.toList_toArray]
              refine wpAnyH_take (i := 16) (v := .bool false) (by simp only [List.getElem?_toArray, List.getElem?_cons_succ, List.getElem?_cons_zero]; exact rfl) (by kernel_rfl) (by kernel_rfl) (by kernel_rfl) (by intro _ _ _ h; exact h) (Or.inl ⟨by kernel_rfl, by intro w hSw; go_simp⟩) (by assumption) ?_
              simp only [Act.put, List.setIfInBounds_toArray, List.set_cons_zero, List.set_cons_succ, List.toList_toArray]
              refine wpAnyH_take (i := 17) (v := undef) (by simp only [List.getElem?_toArray, List.getElem?_cons_succ, List.getElem?_cons_zero]; exact rfl) (by kernel_rfl) (by kernel_rfl) (by kernel_rfl) (by intro _ _ _ h; exact h) (Or.inr ⟨by kernel_rfl, rfl⟩) (by assumption) ?_
              simp only [Act.put, List.setIfInBounds_toArray, List.set_cons_zero, List.set_cons_succ, List.toList_toArray]
              refine wpAnyH_take (i := 18) (v := undef) (by simp only [List.getElem?_toArray, List.getElem?_cons_succ, List.getElem?_cons_zero]; exact rfl) (by kernel_rfl) (by kernel_rfl) (by kernel_rfl) (by intro _ _ _ h; exact h) (Or.inr ⟨by kernel_rfl, rfl⟩) (by assumption) ?_
              simp only [Act.put, List.setIfInBounds_toArray, List.set_cons_zero, List.set_cons_succ, List.toList_toArray]
              refine wpAnyH_take (i := 19) (v := undef) (by simp only [List.getElem?_toArray, List.getElem?_cons_succ, List.getElem?_cons_zero]; exact rfl) (by kernel_rfl) (by kernel_rfl) (by kernel_rfl) (by intro _ _ _ h; exact h) (Or.inr ⟨by kernel_rfl, rfl⟩) (by assumption) ?_
              simp only [Act.put, List.setIfInBounds_toArray, List.set_cons_zero, List.set_cons_succ, List.toList_toArray]
              refine wpAnyH_take (i := 20) (v := undef) (by simp only [List.getElem?_toArray, List.getElem?_cons_succ, List.getElem?_cons_zero]; exact rfl) (by kernel_rfl) (by kernel_rfl) (by kernel_rfl) (by intro _ _ _ h; exact h) (Or.inr ⟨by kernel_rfl, rfl⟩) (by assumption) ?_
              simp only [Act.put, List.setIfInBounds_toArray, List.set_cons_zero, List.set_cons_succ, List.toList_toArray]
              refine wpAnyH_take (i := 21) (v := undef) (by simp only [List.getElem?_toArray, List.getElem?_cons_succ, List.getElem?_cons_zero]; exact rfl) (by kernel_rfl) (by kernel_rfl) (by kernel_rfl) (by intro _ _ _ h; exact h) (Or.inr ⟨by kernel_rfl, rfl⟩) (by assumption) ?_
              simp only [Act.put, List.setIfInBounds_toArray, List.set_cons_zero, List.set_cons_succ, List.toList_toArray]
              refine wpAnyH_take (i := 22) (v := undef) (by simp only [List.getElem?_toArray, List.getElem?_cons_succ, List.getElem?_cons_zero]; exact rfl) (by kernel_rfl) (by kernel_rfl) (by kernel_rfl) (by intro _ _ _ h; exact h) (Or.inr ⟨by kernel_rfl, rfl⟩) (by assumption) ?_
              simp only [Act.put, List.setIfInBounds_toArray, List.set_cons_zero, List.set_cons_succ, List.toList_toArray]
              refine wpAnyH_take (i := 23) (v := undef) (by simp only [List.getElem?_toArray, List.getElem?_cons_succ, List.getElem?_cons_zero]; exact rfl) (by kernel_rfl) (by kernel_rfl) (by kernel_rfl) (by intro _ _ _ h; exact h) (Or.inr ⟨by kernel_rfl, rfl⟩) (by assumption) ?_
              simp only [Act.put, List.setIfInBounds_toArray, List.set_cons_zero, List.set_cons_succ, List.toList_toArray]
              refine wpAnyH_take (i := 24) (v := .bool false) (by simp only [List.getElem?_toArray, List.getElem?_cons_succ, List.getElem?_cons_zero]; exact rfl) (by kernel_rfl) (by kernel_rfl) (by kernel_rfl) (by intro _ _ _ h; exact h) (Or.inl ⟨by kernel_rfl, by intro w hSw; go_simp⟩) (by assumption) ?_
              simp only [Act.put, List.setIfInBounds_toArray, List.set_cons_zero, List.set_cons_succ, List.toList_toArray]
              refine wpAnyH_take (i := 25) (v := .bool false) (by simp only [List.getElem?_toArray, List.getElem?_cons_succ, List.getElem?_cons_zero]; exact rfl) (by kernel_rfl) (by kernel_rfl) (by kernel_rfl) (by intro _ _ _ h; exact h) (Or.inl ⟨by kernel_rfl, by intro w hSw; go_simp⟩) (by assumption) ?_
              simp only [Act.put, List.setIfInBounds_toArray, List.set_cons_zero, List.set_cons_succ, List.toList_toArray]
              refine wpAnyH_done (by kernel_rfl) ?_ _
              try simp only [Act.put, List.setIfInBounds_toArray, List.set_cons_zero, List.set_cons_succ]
              obtain ⟨hbz, hbr, hBD, hbel⟩ := hH2
              rw [HDG.out] at hBD hi16
              have hkl : 0 < 16 := by have := HNZ.out; omega
              have hstore := arr_flat_store HSQ.out.2 (i := 0) (by rw [HSQ.out.1]; omega) (pad_len hbd.2.2.2)
              have hfit : 0 * 16 + (arr (pad L)).size ≤ (arr R.flatten).size := by rw [arr_size, arr_size, sq_len HSQ.out, pad_len hbd.2.2.2]; omega
              rw [HGS.out hkl] at hstore
              rw [Nat.mul_comm 16 0] at hstore
              have HSTO := Lib.hid hstore
              have HSMP : Hid (sumL (pad L) = s) := Lib.hid (by rw [← HDG.out]; exact HSM.out)
              have HSFP : Hid (sumFits (pad L)) := Lib.hid (by rw [← HDG.out]; exact HSF.out)
              have hplen := Lib.hid (pad_len hbd.2.2.2)
              have hk16' : (0 : Int) < 16 := by omega
              clear hstore
              go_wp2_with (first
                | (refine wpList_load_row rfl 36 (.tmp 8) rfl D rfl 36 (arr (pad L)) (0, 0) _ hBD' hu rfl hi16 ?_)
                | (refine wpList_load_row rfl 36 (.tmp 8) rfl D rfl 36 (arr (pad L)) (0, 0) _ hBD hu rfl hi16 ?_)
                | (refine wpList_store_at rfl 36 (.tmp 51) (.tmp 50) rfl (w.heap.size + 1) (0 * 16) rfl (arr (pad L)) rfl 38 (arr R.flatten) hbr hi16 hfit (arr_one _) ?_; rw [HSTO.out]; have hbr' := hbr.row (vs := arr (gridR (LL.take (0 + 1))).flatten); have hBD' := hBD.rowOff (vs := arr (gridR (LL.take (0 + 1))).flatten) hDne; have hbz' := hbz.rowOff (vs := arr (gridR (LL.take (0 + 1))).flatten) (show w.heap.size ≠ w.heap.size + 1 by omega); have hbel' := below_setRow' hbel (show w.heap.size ≤ w.heap.size + 1 by omega) (arr (gridR (LL.take (0 + 1))).flatten))
                | (go_at_call 58; refine (dsum_any (pad L) hplen.out HSFP.out _).mono ?_; rintro e w9 ⟨rfl, hb9⟩; rw [HSMP.out]))
              go_roundw
              case rel => exact ⟨0 + 1, by omega, by go_num, congrArg (Value.int .i64) (by rw [HSUM.out, HL.out]; omega), hbel'.trans (hb9.mono hbel'.size), hbz'.below hb9 hbz'.lt, hbr'.below hb9 hbr'.lt, HN⟩
              case measure => simp [intOf]; omega
            · obtain ⟨j, rfl⟩ : ∃ j, k = j + 1 := ⟨k - 1, by omega⟩
              obtain ⟨PR, hpv, hpd, hjr, hpr⟩ := HPR.out j rfl
              have HPV := Lib.hid hpv
              have hj16 : j < 16 := by omega
              have HRG : Hid (∀ W, Blk W (w.heap.size + 1) 38 (arr R.flatten) → W.rangeAt (w.heap.size + 1) (j * 16) (ints (pad PR))) := Lib.hid (fun W hW => by have := hW.rangeP HSQ.out.2 hjr; rwa [hpr, Nat.mul_comm] at this)
              have hiP : (Try.prog.info? 36).map (·.size) = some (ints (pad PR)).length := by rw [List.length_map, pad_len (valid_bd hpv).2.2.2]; exact T_info35
              obtain ⟨q, hq⟩ : ∃ q, q = ins PR L := ⟨_, rfl⟩
              have HQ := Lib.hid hq
              have HPD := Lib.hid hpd
              have hj1 : (0 : Int) < (j : Int) + 1 := by omega
              have hji : (j : Int) < 16 := by omega
              have hwj : IntKind.i64.wrap (j : Int) = (j : Int) := IntWalk.i64_in _ (by omega)
              clear hq hpv hpd hpr hjr hsl
              have hS0 := HS0.out
              refine wp_region_held_drew (S := fun w' => Blk w' w.heap.size 38 (arr (zsq).flatten) ∧ Blk w' (w.heap.size + 1) 38 (arr R.flatten) ∧ Blk w' D 36 (arr (dg L)) ∧ Below w.heap.size w w') (by kernel_rfl) hS0 (fun hHeld => ?_)
              refine wpAnyH_take (i := 0) (v := .bool true) (by simp only [List.getElem?_toArray, List.getElem?_cons_succ, List.getElem?_cons_zero]; exact rfl) (by kernel_rfl) (by kernel_rfl) (by kernel_rfl) (by intro _ _ _ h; exact h) (Or.inl ⟨by kernel_rfl, by intro w hSw; go_simp⟩) (by assumption) ?_
              simp only [Act.put, List.setIfInBounds_toArray, List.set_cons_zero, List.set_cons_succ, List.toList_toArray]
              refine wpAnyH_take (i := 1) (v := .bool false) (by simp only [List.getElem?_toArray, List.getElem?_cons_succ, List.getElem?_cons_zero]; exact rfl) (by kernel_rfl) (by kernel_rfl) (by kernel_rfl) (by intro _ _ _ h; exact h) (Or.inl ⟨by kernel_rfl, by intro w hSw; go_simp⟩) (by assumption) ?_
              simp only [Act.put, List.setIfInBounds_toArray, List.set_cons_zero, List.set_cons_succ, List.toList_toArray]
              refine wpAnyH_take (i := 2) (v := .bool false) (by simp only [List.getElem?_toArray, List.getElem?_cons_succ, List.getElem?_cons_zero]; exact rfl) (by kernel_rfl) (by kernel_rfl) (by kernel_rfl) (by intro _ _ _ h; exact h) (Or.inl ⟨by kernel_rfl, by intro w hSw; go_simp⟩) (by assumption) ?_
              simp only [Act.put, List.setIfInBounds_toArray, List.set_cons_zero, List.set_cons_succ, List.toList_toArray]
              refine wpAnyH_take (i := 3) (v := .agg (arr (dg L))) (by simp only [List.getElem?_toArray, List.getElem?_cons_succ, List.getElem?_cons_zero]; exact rfl) (by kernel_rfl) (by kernel_rfl) (by kernel_rfl) (by intro _ _ _ h; exact h) (yieldsIf_load_mid (by kernel_rfl) _ _ rfl D 0 rfl (ints (dg L)) _ (fun _ hw => Blk.rangeQ (vs := ints (dg L)) hw.2.2.1) hu rfl hiL) (by assumption) ?_
              simp only [Act.put, List.setIfInBounds_toArray, List.set_cons_zero, List.set_cons_succ, List.toList_toArray]
              refine wpAnyH_ready (rs := [4]) (by kernel_rfl) (by simp) ?_
              refine AllReadyH.cons (o := _) (by simp only [List.getElem?_toArray, List.getElem?_cons_succ, List.getElem?_cons_zero]; exact rfl) (fun K hK => ?_) AllReadyH.nil
              rw [if_pos (by rfl)]
              go_simp
              go_at_call 58
              refine (dsum_any (dg L) HDL.out HSF.out _).mono ?_
              rintro e w5 ⟨rfl, hb5⟩
              rw [HSM.out]
              refine hK.out _ _ (keepP hHeld hb5) (fun hH1 => ?_)
              clear hK K
              try simp only [Act.put, List.setIfInBounds_toArray, List.set_cons_zero, List.set_cons_succ, List.toList_toArray]
              refine wpAnyH_take (i := 5) (v := .bool false) (by simp only [List.getElem?_toArray, List.getElem?_cons_succ, List.getElem?_cons_zero]; exact rfl) (by kernel_rfl) (by kernel_rfl) (by kernel_rfl) (by intro _ _ _ h; exact h) (Or.inl ⟨by kernel_rfl, by intro w hSw; go_simp⟩) (by assumption) ?_
              simp only [Act.put, List.setIfInBounds_toArray, List.set_cons_zero, List.set_cons_succ, List.toList_toArray]
              refine wpAnyH_take (i := 6) (v := .bool false) (by simp only [List.getElem?_toArray, List.getElem?_cons_succ, List.getElem?_cons_zero]; exact rfl) (by kernel_rfl) (by kernel_rfl) (by kernel_rfl) (by intro _ _ _ h; exact h) (Or.inl ⟨by kernel_rfl, by intro w hSw; go_simp⟩) (by assumption) ?_
              simp only [Act.put, List.setIfInBounds_toArray, List.set_cons_zero, List.set_cons_succ, List.toList_toArray]
              refine wpAnyH_take (i := 7) (v := .bool false) (by simp only [List.getElem?_toArray, List.getElem?_cons_succ, List.getElem?_cons_zero]; exact rfl) (by kernel_rfl) (by kernel_rfl) (by kernel_rfl) (by intro _ _ _ h; exact h) (Or.inl ⟨by kernel_rfl, by intro w hSw; go_simp⟩) (by assumption) ?_
              simp only [Act.put, List.setIfInBounds_toArray, List.set_cons_zero, List.set_cons_succ, List.toList_toArray]
              refine wpAnyH_take (i := 8) (v := .agg (arr (dg L))) (by simp only [List.getElem?_toArray, List.getElem?_cons_succ, List.getElem?_cons_zero]; exact rfl) (by kernel_rfl) (by kernel_rfl) (by kernel_rfl) (by intro _ _ _ h; exact h) (yieldsIf_load_mid (by kernel_rfl) _ _ rfl D 0 rfl (ints (dg L)) _ (fun _ hw => Blk.rangeQ (vs := ints (dg L)) hw.2.2.1) hu rfl hiL) (by assumption) ?_
              simp only [Act.put, List.setIfInBounds_toArray, List.set_cons_zero, List.set_cons_succ, List.toList_toArray]
              refine wpAnyH_take (i := 10) (v := .int .i64 l) (by simp only [List.getElem?_toArray, List.getElem?_cons_succ, List.getElem?_cons_zero]; exact rfl) (by kernel_rfl) (by kernel_rfl) (by kernel_rfl) (by intro _ _ _ h; exact h) (Or.inl ⟨by kernel_rfl, by intro w hSw; go_simp⟩) (by assumption) ?_
              simp only [Act.put, List.setIfInBounds_toArray, List.set_cons_zero, List.set_cons_succ, List.toList_toArray]
              refine wpAnyH_ready (rs := [9]) (by kernel_rfl) (by simp) ?_
              refine AllReadyH.cons (o := _) (by simp only [List.getElem?_toArray, List.getElem?_cons_succ, List.getElem?_cons_zero]; exact rfl) (fun K hK => ?_) AllReadyH.nil
              rw [if_pos (by rfl)]
              go_simp
              go_at_call 58
              refine (dsum_any (dg L) HDL.out HSF.out _).mono ?_
              rintro e w5 ⟨rfl, hb5⟩
              rw [HSM.out]
              refine hK.out _ _ (keepP hH1 hb5) (fun hH2 => ?_)
              clear hK K
              try simp only [Act.put, List.setIfInBounds_toArray, List.set_cons_zero, List.set_cons_succ, List.toList_toArray]
              refine wpAnyH_take (i := 11) (v := .bool false) (by simp only [List.getElem?_toArray, List.getElem?_cons_succ, List.getElem?_cons_zero]; exact rfl) (by kernel_rfl) (by kernel_rfl) (by kernel_rfl) (by intro _ _ _ h; exact h) (Or.inl ⟨by kernel_rfl, by intro w hSw; go_simp⟩) (by assumption) ?_
              simp only [Act.put, List.setIfInBounds_toArray, List.set_cons_zero, List.set_cons_succ, List.toList_toArray]
              refine wpAnyH_take (i := 12) (v := .bool false) (by simp only [List.getElem?_toArray, List.getElem?_cons_succ, List.getElem?_cons_zero]; exact rfl) (by kernel_rfl) (by kernel_rfl) (by kernel_rfl) (by intro _ _ _ h; exact h) (Or.inl ⟨by kernel_rfl, by intro w hSw; go_simp⟩) (by assumption) ?_
              simp only [Act.put, List.setIfInBounds_toArray, List.set_cons_zero, List.set_cons_succ, List.toList_toArray]
              refine wpAnyH_take (i := 13) (v := .bool false) (by simp only [List.getElem?_toArray, List.getElem?_cons_succ, List.getElem?_cons_zero]; exact rfl) (by kernel_rfl) (by kernel_rfl) (by kernel_rfl) (by intro _ _ _ h; exact h) (Or.inl ⟨by kernel_rfl, by intro w hSw; go_simp⟩) (by assumption) ?_
              simp only [Act.put, List.setIfInBounds_toArray, List.set_cons_zero, List.set_cons_succ, List.toList_toArray]
              refine wpAnyH_take (i := 14) (v := .int .i64 ((j : Int) + 1)) (by simp only [List.getElem?_toArray, List.getElem?_cons_succ, List.getElem?_cons_zero]; exact rfl) (by kernel_rfl) (by kernel_rfl) (by kernel_rfl) (by intro _ _ _ h; exact h) (Or.inl ⟨by kernel_rfl, by intro w hSw; go_simp⟩) (by assumption) ?_
              simp only [Act.put, List.setIfInBounds_toArray, List.set_cons_zero, List.set_cons_succ, List.toList_toArray]
              refine wpAnyH_take (i := 15) (v := .bool true) (by simp only [List.getElem?_toArray, List.getElem?_cons_succ, List.getElem?_cons_zero]; exact rfl) (by kernel_rfl) (by kernel_rfl) (by kernel_rfl) (by intro _ _ _ h; exact h) (Or.inl ⟨by kernel_rfl, by intro w hSw; go_simp⟩) (by assumption) ?_
              simp only [Act.put, List.setIfInBounds_toArray, List.set_cons_zero, List.set_cons_succ, List.toList_toArray]
              refine wpAnyH_take (i := 16) (v := .bool true) (by simp only [List.getElem?_toArray, List.getElem?_cons_succ, List.getElem?_cons_zero]; exact rfl) (by kernel_rfl) (by kernel_rfl) (by kernel_rfl) (by intro _ _ _ h; exact h) (Or.inl ⟨by kernel_rfl, by intro w hSw; go_simp⟩) (by assumption) ?_
              simp only [Act.put, List.setIfInBounds_toArray, List.set_cons_zero, List.set_cons_succ, List.toList_toArray]
              refine wpAnyH_take (i := 17) (v := .int .i64 ((j : Int) + 1)) (by simp only [List.getElem?_toArray, List.getElem?_cons_succ, List.getElem?_cons_zero]; exact rfl) (by kernel_rfl) (by kernel_rfl) (by kernel_rfl) (by intro _ _ _ h; exact h) (Or.inl ⟨by kernel_rfl, by intro w hSw; go_simp⟩) (by assumption) ?_
              simp only [Act.put, List.setIfInBounds_toArray, List.set_cons_zero, List.set_cons_succ, List.toList_toArray]
              refine wpAnyH_take (i := 18) (v := .int .i64 (j : Int)) (by simp only [List.getElem?_toArray, List.getElem?_cons_succ, List.getElem?_cons_zero]; exact rfl) (by kernel_rfl) (by kernel_rfl) (by kernel_rfl) (by intro _ _ _ h; exact h) (Or.inl ⟨by kernel_rfl, by intro w hSw; go_simp⟩) (by assumption) ?_
              simp only [Act.put, List.setIfInBounds_toArray, List.set_cons_zero, List.set_cons_succ, List.toList_toArray]
              refine wpAnyH_take (i := 19) (v := .pointer (some ⟨w.heap.size + 1, j * 16, none⟩)) (by simp only [List.getElem?_toArray, List.getElem?_cons_succ, List.getElem?_cons_zero]; exact rfl) (by kernel_rfl) (by kernel_rfl) (by kernel_rfl) (by intro _ _ _ h; exact h) (Or.inl ⟨by kernel_rfl, by intro w hSw; go_simp⟩) (by assumption) ?_
              simp only [Act.put, List.setIfInBounds_toArray, List.set_cons_zero, List.set_cons_succ, List.toList_toArray]
              refine wpAnyH_take (i := 20) (v := .agg (arr (pad PR))) (by simp only [List.getElem?_toArray, List.getElem?_cons_succ, List.getElem?_cons_zero]; exact rfl) (by kernel_rfl) (by kernel_rfl) (by kernel_rfl) (by intro _ _ _ h; exact h) (yieldsIf_load_mid (by kernel_rfl) _ _ rfl (w.heap.size + 1) (j * 16) rfl (ints (pad PR)) _ (fun _ hw => HRG.out _ hw.2.1) hu rfl hiP) (by assumption) ?_
              simp only [Act.put, List.setIfInBounds_toArray, List.set_cons_zero, List.set_cons_succ, List.toList_toArray]
              refine wpAnyH_take (i := 21) (v := .agg (arr (pad L))) (by simp only [List.getElem?_toArray, List.getElem?_cons_succ, List.getElem?_cons_zero]; exact rfl) (by kernel_rfl) (by kernel_rfl) (by kernel_rfl) (by intro _ _ _ h; exact h) (by rw [← HDG.out]; exact yieldsIf_load_mid (by kernel_rfl) _ _ rfl D 0 rfl (ints (dg L)) _ (fun _ hw => Blk.rangeQ (vs := ints (dg L)) hw.2.2.1) hu rfl hiL) (by assumption) ?_
              simp only [Act.put, List.setIfInBounds_toArray, List.set_cons_zero, List.set_cons_succ, List.toList_toArray]
              refine wpAnyH_ready (rs := [22]) (by kernel_rfl) (by simp) ?_
              refine AllReadyH.cons (o := _) (by simp only [List.getElem?_toArray, List.getElem?_cons_succ, List.getElem?_cons_zero]; exact rfl) (fun K hK => ?_) AllReadyH.nil
              rw [if_pos (by rfl)]
              go_simp
              go_at_call 51
              refine (hasInside_any PR L HPV.out HVT.out _).mono ?_
              rintro e w6 ⟨rfl, hb6⟩
              rw [← HQ.out]
              refine hK.out _ _ (keepP hH2 hb6) (fun hH3 => ?_)
              clear hK K
              try simp only [Act.put, List.setIfInBounds_toArray, List.set_cons_zero, List.set_cons_succ, List.toList_toArray]
              refine wpAnyH_take (i := 23) (v := .bool !q) (by simp only [List.getElem?_toArray, List.getElem?_cons_succ, List.getElem?_cons_zero]; exact rfl) (by kernel_rfl) (by kernel_rfl) (by kernel_rfl) (by intro _ _ _ h; exact h) (Or.inl ⟨by kernel_rfl, by intro w hSw; go_simp⟩) (by assumption) ?_
              simp only [Act.put, List.setIfInBounds_toArray, List.set_cons_zero, List.set_cons_succ, List.toList_toArray]
              refine wpAnyH_take (i := 24) (v := .bool !q) (by simp only [List.getElem?_toArray, List.getElem?_cons_succ, List.getElem?_cons_zero]; exact rfl) (by kernel_rfl) (by kernel_rfl) (by kernel_rfl) (by intro _ _ _ h; exact h) (Or.inl ⟨by kernel_rfl, by intro w hSw; go_simp⟩) (by assumption) ?_
              simp only [Act.put, List.setIfInBounds_toArray, List.set_cons_zero, List.set_cons_succ, List.toList_toArray]
              refine wpAnyH_take (i := 25) (v := .bool !q) (by simp only [List.getElem?_toArray, List.getElem?_cons_succ, List.getElem?_cons_zero]; exact rfl) (by kernel_rfl) (by kernel_rfl) (by kernel_rfl) (by intro _ _ _ h; exact h) (Or.inl ⟨by kernel_rfl, by intro w hSw; go_simp⟩) (by assumption) ?_
              simp only [Act.put, List.setIfInBounds_toArray, List.set_cons_zero, List.set_cons_succ, List.toList_toArray]
              refine wpAnyH_done (by kernel_rfl) ?_ _
              try simp only [Act.put, List.setIfInBounds_toArray, List.set_cons_zero, List.set_cons_succ]
              cases q with
              | false =>
                have HF : Hid (vpl LL = false) := Lib.hid (HST.out (fun hh => by have h2 := hh.2.2.2 (by omega); rw [Nat.add_sub_cancel, HPD.out, ← HQ.out] at h2; cases h2))
                have HGV : Hid (gridV LL = zsq) := Lib.hid (by unfold gridV; rw [HF.out]; rfl)
                obtain ⟨hbz, hbr, hBD, hbel⟩ := hH3
                have hiz := HI256.out zsq hzq
                have honeZ : ∀ v ∈ (Try.zeroCells38).toList, v.oneCell' = true := by rw [T_zc]; exact arr_one _
                rw [← T_zc] at hbz hiz
                go_wp2_with (refine wpList_store_row rfl 38 (.tmp 2) (.tmp 48) rfl w.heap.size rfl Try.zeroCells38 rfl 38 _ hbz hiz rfl honeZ ?_)
                refine bodyPost_ret (results_cell_tmp rfl _ _ w.heap.size 38 Try.zeroCells38 (0, 0) _ rfl hbz.row hup rfl hiz) rfl ?_
                rw [HF.out, HGV.out, T_zc]
                exact ⟨rfl, below_setRow' hbel (Nat.le_refl _) _⟩
              | true =>
                have HN : Hid (vpl (LL.take (j + 1 + 1)) = true) := Lib.hid (HNX.out HVT.out (HNE.out.2 hs0) (fun _ => by rw [Nat.add_sub_cancel, HPD.out]; exact HQ.out.symm) hsl')
                clear hs0
                obtain ⟨hbz, hbr, hBD, hbel⟩ := hH3
                rw [HDG.out] at hBD hi16
                have hkl : (j + 1) < 16 := by have := HNZ.out; omega
                have hstore := arr_flat_store HSQ.out.2 (i := (j + 1)) (by rw [HSQ.out.1]; omega) (pad_len hbd.2.2.2)
                have hfit : (j + 1) * 16 + (arr (pad L)).size ≤ (arr R.flatten).size := by rw [arr_size, arr_size, sq_len HSQ.out, pad_len hbd.2.2.2]; omega
                rw [HGS.out hkl] at hstore
                rw [Nat.mul_comm 16 (j + 1)] at hstore
                have HSTO := Lib.hid hstore
                have HSMP : Hid (sumL (pad L) = s) := Lib.hid (by rw [← HDG.out]; exact HSM.out)
                have HSFP : Hid (sumFits (pad L)) := Lib.hid (by rw [← HDG.out]; exact HSF.out)
                have hplen := Lib.hid (pad_len hbd.2.2.2)
                have hk16' : ((j + 1) : Int) < 16 := by omega
                clear hstore
                go_wp2_with (first
                  | (refine wpList_load_row rfl 36 (.tmp 8) rfl D rfl 36 (arr (pad L)) (0, 0) _ hBD' hu rfl hi16 ?_)
                  | (refine wpList_load_row rfl 36 (.tmp 8) rfl D rfl 36 (arr (pad L)) (0, 0) _ hBD hu rfl hi16 ?_)
                  | (refine wpList_store_at rfl 36 (.tmp 51) (.tmp 50) rfl (w.heap.size + 1) ((j + 1) * 16) rfl (arr (pad L)) rfl 38 (arr R.flatten) hbr hi16 hfit (arr_one _) ?_; rw [HSTO.out]; have hbr' := hbr.row (vs := arr (gridR (LL.take ((j + 1) + 1))).flatten); have hBD' := hBD.rowOff (vs := arr (gridR (LL.take ((j + 1) + 1))).flatten) hDne; have hbz' := hbz.rowOff (vs := arr (gridR (LL.take ((j + 1) + 1))).flatten) (show w.heap.size ≠ w.heap.size + 1 by omega); have hbel' := below_setRow' hbel (show w.heap.size ≤ w.heap.size + 1 by omega) (arr (gridR (LL.take ((j + 1) + 1))).flatten))
                  | (go_at_call 58; refine (dsum_any (pad L) hplen.out HSFP.out _).mono ?_; rintro e w9 ⟨rfl, hb9⟩; rw [HSMP.out]))
                go_roundw
                case rel => exact ⟨(j + 1) + 1, by omega, by go_num, congrArg (Value.int .i64) (by rw [HSUM.out, HL.out]; omega), hbel'.trans (hb9.mono hbel'.size), hbz'.below hb9 hbz'.lt, hbr'.below hb9 hbr'.lt, HN⟩
                case measure => simp [intOf]; omega
    · obtain rfl : k = LL.length := by omega
      have hlt' : (LL.length : Int) ≤ (LL.length : Int) := Int.le_refl _
      rw [List.take_of_length_le (Nat.le_refl _)] at HV0 HSQ hbr
      have HGV : Hid (gridR LL = gridV LL) := Lib.hid (by unfold gridV; rw [HV0.out]; rfl)
      rw [HGV.out] at hbr HSQ
      have hiv := HI256.out _ HSQ.out
      have hszv : (arr (gridV LL).flatten).size = (arr zsq.flatten).size := by rw [arr_size, arr_size, sq_len HSQ.out]; rfl
      obtain ⟨G, hG⟩ : ∃ G, G = arr (gridV LL).flatten := ⟨_, rfl⟩
      have hone : ∀ v ∈ G.toList, v.oneCell' = true := by rw [hG]; exact arr_one _
      rw [← hG] at hbr hiv hszv
      obtain ⟨Z, hZ⟩ : ∃ Z, Z = arr zsq.flatten := ⟨_, rfl⟩
      rw [← hZ] at hbz hszv
      have HG := Lib.hid hG
      clear hG hZ
      go_wp2_with (first
        | (refine wpList_load_row rfl 38 (.tmp 4) rfl (w.heap.size + 1) rfl 38 G (0, 0) _ hbr hup rfl hiv ?_)
        | (refine wpList_store_row rfl 38 (.tmp 2) (.tmp 57) rfl w.heap.size rfl G rfl 38 _ hbz hiv hszv hone ?_))
      refine bodyPost_ret (results_cell_tmp rfl _ _ w.heap.size 38 G (0, 0) _ rfl hbz.row hup rfl hiv) rfl ?_
      rw [HV0.out, HG.out]
      exact ⟨rfl, below_setRow' hbel (Nat.le_refl _) _⟩
end Go.Proofs.Ytnheolhgdinjgaa
namespace Go.Proofs.Ytnheolhgdinjgaa
open Go.RowKit NP
set_option maxRecDepth 100000
set_option linter.unusedVariables false
set_option linter.unusedSimpArgs false
theorem T_indexP (R : List (List Int)) (hR : Sq R) (k : Nat) (hk : k < R.length) (w : World) : (Instr.index 38 (.agg (arr R.flatten)) (.int .i64 k)).run Try.prog w = .ok (.agg (arr R[k])) w := by
  rw [run_index_agg 38 36 _ 16 16 Try.underlying38 Try.underlying36 rfl T_info35 (arr R.flatten) k (by have := hR.1; omega) .i64 w, arr_flat_row hR.2 hk]
theorem T_indexG {LL : List (List Int)} (h : vpl LL = true) (k : Nat) (hk : k < 16) (w : World) : (Instr.index 38 (.agg (arr (gridR LL).flatten)) (.int .i64 k)).run Try.prog w = .ok (.agg (arr (pad (LL.getD k [])))) w := by
  have hh : k < (gridR LL).length := by rw [gridR_len (vpl_len h)]; exact hk
  rw [T_indexP _ (gridR_sq h) k hh, gridR_gD h hk hh]
theorem psum_any (LL : List (List Int)) (hv : vpl LL = true) (w : World) :
    Calls Try.prog 45 #[.agg (arr (gridR LL).flatten)] w fun e w' => e = .returned (.int .i64 (sumLL LL)) ∧ Below w.heap.size w w' := by
  have hi256 : (Try.prog.info? 38).map (·.size) = some (arr (gridR LL).flatten).size := by rw [arr_size, sq_len (gridR_sq hv)]; exact T_info256
  have hA0 := (Below.refl w.heap.size w).alloc (Nat.le_refl _) (.cells (arr (gridR LL).flatten) 38)
  have hb := Blk.new w 38 (arr (gridR LL).flatten)
  have HV := Lib.hid hv
  have HX := Lib.hid (T_indexG hv)
  have HB := Lib.hid (prs_bd hv)
  have HS := Lib.hid (prs_succ LL)
  have HE := Lib.hid (prs_end hv)
  have hu := Try.underlying36
  clear hv
  obtain ⟨G, hG⟩ : ∃ G, G = arr (gridR LL).flatten := ⟨_, rfl⟩
  rw [← hG] at hi256 hA0 hb HX ⊢
  clear hG
  go_enter Try.func45, Try.ntmps45
  go_wp2_with (refine wpList_load_row rfl 38 (.tmp 1) rfl w.heap.size rfl 38 G (0, 0) _ hb Try.underlying38 rfl hi256 ?_)
  go_loopw [3, 7] (fun s i wr => ∃ k : Nat, k ≤ 16 ∧ i = .int .i64 k ∧ s = .int .i64 (prs LL k) ∧ Below w.heap.size w wr) (fun _ i _ => 16 - (intOf i).toNat)
  case atStart => exact ⟨0, Nat.zero_le _, rfl, rfl, hA0⟩
  case round =>
    obtain ⟨k, hk, rfl, rfl, hbel⟩ := hrel
    clear hA0 hb
    by_cases hlt : k < 16
    · have hlt' : (k : Int) < 16 := by omega
      have hix := HX.out k hlt
      have hvk := vpl_valid HV.out k
      have hb1 := HB.out k
      have hbs := valid_bd hvk
      have HN := Lib.hid (HS.out k)
      have HPS : Hid (sumL (pad (LL.getD k [])) = sumL (LL.getD k [])) := Lib.hid (sumL_pad _)
      have HPF := Lib.hid (pad_fits hvk)
      have HPL := Lib.hid (pad_len hbs.2.2.2)
      obtain ⟨L, hL⟩ : ∃ L, L = LL.getD k [] := ⟨_, rfl⟩
      rw [← hL] at hix hbs HN HPS HPF HPL
      have hsz : (arr (pad L)).size = (arr (List.replicate 16 0)).size := by rw [arr_size, arr_size, HPL.out]; rfl
      have hi16 : (Try.prog.info? 36).map (·.size) = some (arr (pad L)).size := by rw [arr_size, HPL.out]; exact T_info35
      have hbz := Blk.new wr 36 (arr (List.replicate 16 0))
      have hbz2 := hbz.row (vs := arr (pad L))
      have hbel2 := below_setRow' (hbel.alloc hbel.size (.cells (arr (List.replicate 16 0)) 36)) hbel.size (arr (pad L))
      have hwsz := hbel.size
      clear hL hvk hbel
      go_wp2_with (first
        | (refine wpList_store_row rfl 36 (.tmp 5) (.tmp 9) rfl wr.heap.size rfl (arr (pad L)) rfl 36 _ hbz hi16 hsz (arr_one _) ?_)
        | (refine wpList_load_row rfl 36 (.tmp 5) rfl wr.heap.size rfl 36 (arr (pad L)) (0, 0) _ hbz2 hu rfl hi16 ?_)
        | (go_at_call 58; refine (dsum_any (pad L) HPL.out HPF.out _).mono ?_; rintro e w9 ⟨rfl, hb9⟩; rw [HPS.out]))
      go_roundw
      case rel => exact ⟨k + 1, by omega, by go_num, by rw [HN.out], hbel2.trans (hb9.mono hbel2.size)⟩
      case measure => simp [intOf]; omega
    · obtain rfl : k = 16 := by omega
      go_wp2
      go_ret
      exact ⟨ret_i64 HE.out, hbel⟩
theorem T_intsP : (Try.prog.info? 31).map (fun i => (i.zero, i.size, i.bytes)) = some (some (.slice none 0 0), 1, 24) := by kernel_rfl
set_option maxHeartbeats 1000000 in
theorem plist_any (LL : List (List Int)) (hv : vpl LL = true) (w : World) :
    Calls Try.prog 43 #[.agg (arr (gridR LL).flatten)] w fun e w' => ∃ a' c' us, e = .returned (.slice a' LL.length c') ∧ OwnLL w' w.heap.size w'.heap.size 31 3 (.slice a' LL.length c') us LL ∧ Below w.heap.size w w' := by
  obtain ⟨i1, hj, hy0, hy1, hy2⟩ := info_parts T_intsP
  have hi256 : (Try.prog.info? 38).map (·.size) = some (arr (gridR LL).flatten).size := by rw [arr_size, sq_len (gridR_sq hv)]; exact T_info256
  have hA0 := (Below.refl w.heap.size w).alloc (Nat.le_refl _) (.cells (arr (gridR LL).flatten) 38)
  have hb := Blk.new w 38 (arr (gridR LL).flatten)
  have HV := Lib.hid hv
  have HX := Lib.hid (T_indexG hv)
  have hu := Try.underlying36
  have hlen := vpl_len hv
  have HPOS := Lib.hid (row_pos hv)
  clear hv
  obtain ⟨G, hG⟩ : ∃ G, G = arr (gridR LL).flatten := ⟨_, rfl⟩
  rw [← hG] at hi256 hA0 hb HX ⊢
  clear hG
  go_enter Try.func43, Try.ntmps43
  go_wp2_with (refine wpList_load_row rfl 38 (.tmp 1) rfl w.heap.size rfl 38 G (0, 0) _ hb Try.underlying38 rfl hi256 ?_)
  go_loopw [3, 7] (fun v i wr => ∃ k : Nat, k ≤ 16 ∧ i = .int .i64 k ∧ Below w.heap.size w wr ∧ ∃ vs, OwnLL wr w.heap.size wr.heap.size 31 3 v vs (LL.take k)) (fun _ i _ => 16 - (intOf i).toNat)
  case atStart => exact ⟨0, Nat.zero_le _, rfl, hA0, [], (OwnLL.nil _ _ _ _)⟩
  case round =>
    obtain ⟨k, hk, rfl, hbel, vs, hLL⟩ := hrel
    clear hA0 hb
    have hvl := hLL.len
    have htl : (LL.take k).length ≤ 16 := by rw [List.length_take]; omega
    have hvs : vs.length ≤ 16 := by omega
    clear hvl htl
    by_cases hlt : k < 16
    · have hlt' : (k : Int) < 16 := by omega
      have hix := HX.out k hlt
      have hvk := vpl_valid HV.out k
      have hbs := valid_bd hvk
      have HPS : Hid (sumL (pad (LL.getD k [])) = sumL (LL.getD k [])) := Lib.hid (sumL_pad _)
      have HPF := Lib.hid (pad_fits hvk)
      have HPL := Lib.hid (pad_len hbs.2.2.2)
      have HPK := Lib.hid (HPOS.out k)
      have HVK := Lib.hid hvk
      have HTK : Hid (k < LL.length → LL.take (k + 1) = LL.take k ++ [LL.getD k []]) := Lib.hid (fun h => by rw [gl_lt h, List.take_succ_eq_append_getElem h])
      have HO := Lib.hid hLL
      obtain ⟨L, hL⟩ : ∃ L, L = LL.getD k [] := ⟨_, rfl⟩
      rw [← hL] at hix hbs HPS HPF HPL HPK HVK HTK
      have hsz : (arr (pad L)).size = (arr (List.replicate 16 0)).size := by rw [arr_size, arr_size, HPL.out]; rfl
      have hi16 : (Try.prog.info? 36).map (·.size) = some (arr (pad L)).size := by rw [arr_size, HPL.out]; exact T_info35
      have hbz := Blk.new wr 36 (arr (List.replicate 16 0))
      have hbz2 := hbz.row (vs := arr (pad L))
      have hbB : Below wr.heap.size wr ((wr.alloc (.cells (arr (List.replicate 16 0)) 36)).setRow wr.heap.size (arr (pad L))) := below_setRow' ((Below.refl wr.heap.size wr).alloc (Nat.le_refl _) (.cells (arr (List.replicate 16 0)) 36)) (Nat.le_refl _) (arr (pad L))
      have hwsz := hbel.size
      obtain ⟨s, hs⟩ : ∃ s, s = sumL L := ⟨_, rfl⟩
      rw [← hs] at hbs HPS HPK
      clear hL hvk hLL hs
      by_cases hp : 0 < s
      · have HKL := Lib.hid (HPK.out.1 hp)
        go_wp2_with (first
          | (refine wpList_store_row rfl 36 (.tmp 5) (.tmp 9) rfl wr.heap.size rfl (arr (pad L)) rfl 36 _ hbz hi16 hsz (arr_one _) ?_)
          | (refine wpList_load_row rfl 36 (.tmp 5) rfl wr.heap.size rfl 36 (arr (pad L)) (0, 0) _ hbz4 hu rfl hi16 ?_)
          | (refine wpList_load_row rfl 36 (.tmp 5) rfl wr.heap.size rfl 36 (arr (pad L)) (0, 0) _ hbz2 hu rfl hi16 ?_)
          | (go_at_call 58; refine (dsum_any (pad L) HPL.out HPF.out _).mono ?_; rintro e w9 ⟨rfl, hb9⟩; rw [HPS.out]; have hbz4 := hbz2.below hb9 hbz2.lt)
          | (go_at_call 62; refine (list_any L HVK.out _).mono ?_; rintro e w2 ⟨u, rfl, hu2, hb2⟩; have hB2 := hbB.trans (hb9.mono hbB.size); replace hB2 := hB2.trans (hb2.mono hB2.size); have hL2 := Lib.hid (HO.out.below hB2); have hz9 := (hbB.trans (hb9.mono hbB.size)).size; have hz2 := hb2.size; have HU := Lib.hid hu2; clear hu2)
          | (at_builtin; refine wpList_append_o _ rfl (.tmp 13) (.tmp 16) 22 rfl w.heap.size w2.heap.size 31 i1 (.slice none 0 0) 24 Try.underlying22 hj hy0 hy1 hy2 rfl _ vs rfl (hL2.out.more.outer.alloc _) (w2.heap.size + 1) (some ⟨w2.heap.size, 0, none⟩) 1 1 [.slice u L.length L.length] rfl (Rd.one w2 _ _) rfl (by intro u hu; rw [List.mem_singleton.1 hu]; rfl) (by unfold maxLen; omega) (by omega) (by rw [World.size_alloc]; omega) ?_; intro v' w6 ho6 hg6 hat6))
        go_roundw
        case rel =>
          refine ⟨k + 1, by omega, by go_num, below_push (hbel.trans (hB2.mono hwsz)) (Nat.le_refl _) hg6 HO.out.outer.base, vs ++ [.slice u L.length L.length], ?_⟩
          rw [HTK.out HKL.out]
          have e1 := (hL2.out.below ((Below.refl _ _).alloc (by omega) (.cells #[.slice u L.length L.length] 31)))
          exact e1.append (HU.out.alloc (.cells #[.slice u L.length L.length] 31)) hz9 (by omega) (by simpa using ho6) hg6 hat6
        case measure => simp [intOf] <;> omega
      · have hp' : s ≤ 0 := by omega
        have HKL : Hid (LL.take k = LL.take (k + 1)) := Lib.hid (take_more (by have : ¬ k < LL.length := fun hh => hp (HPK.out.2 hh); omega))
        clear hp
        go_wp2_with (first
          | (refine wpList_store_row rfl 36 (.tmp 5) (.tmp 9) rfl wr.heap.size rfl (arr (pad L)) rfl 36 _ hbz hi16 hsz (arr_one _) ?_)
          | (refine wpList_load_row rfl 36 (.tmp 5) rfl wr.heap.size rfl 36 (arr (pad L)) (0, 0) _ hbz2 hu rfl hi16 ?_)
          | (go_at_call 58; refine (dsum_any (pad L) HPL.out HPF.out _).mono ?_; rintro e w9 ⟨rfl, hb9⟩; rw [HPS.out]))
        go_roundw
        case rel => exact ⟨k + 1, by omega, by go_num, hbel.trans ((hbB.trans (hb9.mono hbB.size)).mono hwsz), vs, by rw [← HKL.out]; exact (HO.out.below (hbB.trans (hb9.mono hbB.size))).more⟩
        case measure => simp [intOf]; omega
    · obtain rfl : k = 16 := by omega
      rw [List.take_of_length_le hlen] at hLL
      obtain ⟨a', c', rfl⟩ := hLL.form
      have HO := Lib.hid hLL
      clear hLL
      go_wp2
      go_ret
      exact ⟨a', c', vs, rfl, HO.out, hbel⟩
set_option maxHeartbeats 1000000 in
theorem pturned_any (LL : List (List Int)) (hv : vpl LL = true) (w : World) :
    Calls Try.prog 42 #[.agg (arr (gridR LL).flatten)] w fun e w' => e = .returned (.agg (arr (gridR (turnP LL)).flatten)) ∧ Below w.heap.size w w' := by
  have HEND := Lib.hid (accT_end hv)
  rw [← HEND.out]
  have hi256 : (Try.prog.info? 38).map (·.size) = some (arr (gridR LL).flatten).size := by rw [arr_size, sq_len (gridR_sq hv)]; exact T_info256
  have hb := Blk.new w 38 (arr (gridR LL).flatten)
  have hb' := (hb.alloc (.cells (arr zsq.flatten) 38)).alloc (.cells (arr zsq.flatten) 38)
  have HV := Lib.hid hv
  have HX := Lib.hid (T_indexG hv)
  have hu := Try.underlying36
  have hA0 := (((Below.refl w.heap.size w).alloc (Nat.le_refl _) (.cells (arr (gridR LL).flatten) 38)).alloc (by simp) (.cells (arr zsq.flatten) 38)).alloc (by simp; omega) (.cells (arr zsq.flatten) 38)
  have hz1 : Blk (((w.alloc (.cells (arr (gridR LL).flatten) 38)).alloc (.cells (arr zsq.flatten) 38)).alloc (.cells (arr zsq.flatten) 38)) (w.heap.size + 1) 38 (arr zsq.flatten) := by
    have e := (Blk.new (w.alloc (.cells (arr (gridR LL).flatten) 38)) 38 (arr zsq.flatten)).alloc (.cells (arr zsq.flatten) 38)
    rw [World.size_alloc] at e
    exact e
  have hz2 : Blk (((w.alloc (.cells (arr (gridR LL).flatten) 38)).alloc (.cells (arr zsq.flatten) 38)).alloc (.cells (arr zsq.flatten) 38)) (w.heap.size + 2) 38 (arr (accT LL 0 0).flatten) := by
    rw [accT_zero]
    have e := Blk.new ((w.alloc (.cells (arr (gridR LL).flatten) 38)).alloc (.cells (arr zsq.flatten) 38)) 38 (arr zsq.flatten)
    rw [World.size_alloc, World.size_alloc] at e
    exact e
  clear hv hb
  obtain ⟨G, hG⟩ : ∃ G, G = arr (gridR LL).flatten := ⟨_, rfl⟩
  rw [← hG] at hi256 hb' HX hA0 hz1 hz2 ⊢
  clear hG
  go_enter Try.func42, Try.ntmps42
  go_wp2_with (refine wpList_load_row rfl 38 (.tmp 1) rfl w.heap.size rfl 38 G (0, 0) _ hb' Try.underlying38 rfl hi256 ?_)
  go_loopw [9] (fun i wr => ∃ k : Nat, k ≤ 16 ∧ i = .int .i64 k ∧ Below w.heap.size w wr ∧ Blk wr (w.heap.size + 1) 38 (arr zsq.flatten) ∧ Blk wr (w.heap.size + 2) 38 (arr (accT LL k 0).flatten)) (fun i _ => 16 - (intOf i).toNat)
  case atStart => exact ⟨0, Nat.zero_le _, rfl, hA0, hz1, hz2⟩
  case round =>
    obtain ⟨k, hk, rfl, hbel, hb2, hb3⟩ := hrel
    clear hA0 hz1 hz2
    obtain ⟨wo, rfl⟩ : ∃ wo : World, wo = wr := ⟨_, rfl⟩
    by_cases hlt : k < 16
    · have hlt' : (k : Int) < 16 := by omega
      have hix := HX.out k hlt
      have hvk := vpl_valid HV.out k
      have hbs := valid_bd hvk
      have HPL := Lib.hid (pad_len hbs.2.2.2)
      have HGK : Hid (∀ j (h : j < (pad (LL.getD k [])).length), (pad (LL.getD k []))[j] = gr LL k j) := Lib.hid (fun j h => by
        have := pad_gD hbs.2.2.2 j
        rw [List.getD_eq_getElem?_getD, List.getElem?_eq_getElem h, Option.getD_some] at this
        exact this)
      obtain ⟨L, hL⟩ : ∃ L, L = LL.getD k [] := ⟨_, rfl⟩
      rw [← hL] at hix HPL HGK
      have hsz : (arr (pad L)).size = (arr (List.replicate 16 0)).size := by rw [arr_size, arr_size, HPL.out]; rfl
      have hi16 : (Try.prog.info? 36).map (·.size) = some (arr (pad L)).size := by rw [arr_size, HPL.out]; exact T_info35
      have hbz := Blk.new wo 36 (arr (List.replicate 16 0))
      have hbz2 := hbz.row (vs := arr (pad L))
      have hbB : Below wo.heap.size wo ((wo.alloc (.cells (arr (List.replicate 16 0)) 36)).setRow wo.heap.size (arr (pad L))) := below_setRow' ((Below.refl wo.heap.size wo).alloc (Nat.le_refl _) (.cells (arr (List.replicate 16 0)) 36)) (Nat.le_refl _) (arr (pad L))
      have hwsz := hbel.size
      have hb2' := hb2.below hbB hb2.lt
      have hb3' := hb3.below hbB hb3.lt
      have hbel' := hbel.trans (hbB.mono hwsz)
      clear hL hvk hbs hbel hb2 hb3 hbB
      go_wp2_with (first
        | (refine wpList_store_row rfl 36 (.tmp 5) (.tmp 12) rfl wo.heap.size rfl (arr (pad L)) rfl 36 _ hbz hi16 hsz (arr_one _) ?_)
        | (refine wpList_load_row rfl 36 (.tmp 5) rfl wo.heap.size rfl 36 (arr (pad L)) (0, 0) _ hbz2 hu rfl hi16 ?_))
      go_loopw [14] (fun i wr => ∃ j : Nat, j ≤ 16 ∧ i = .int .i64 j ∧ Below w.heap.size w wr ∧ Blk wr (w.heap.size + 1) 38 (arr zsq.flatten) ∧ Blk wr (w.heap.size + 2) 38 (arr (accT LL k j).flatten)) (fun i _ => 16 - (intOf i).toNat)
      case atStart => exact ⟨0, Nat.zero_le _, rfl, hbel', hb2', hb3'⟩
      case round =>
        obtain ⟨j, hj, rfl, hbel, hb2, hb3⟩ := hrel
        clear hbel' hb2' hb3' hbz hbz2
        by_cases hltj : j < 16
        · have hltj' : (j : Int) < 16 := by omega
          have hjp : j < (pad L).length := by rw [HPL.out]; exact hltj
          have hcx := T_index (pad L) j hjp hltj
          have e := HGK.out j hjp
          rw [e] at hcx
          clear e
          have HSQ := Lib.hid (accT_sq LL k j)
          have hjA : j < (accT LL k j).length := by rw [HSQ.out.1]; exact hltj
          have HFS : Hid ((arr (accT LL k j).flatten).setIfInBounds (16 * j + k) (.int .i64 (gr LL k j)) = arr (accT LL k (j + 1)).flatten) := Lib.hid (by rw [arr_set, flat_set HSQ.out.2 hjA hlt, accT_set])
          have hcell : wr.cell? ⟨w.heap.size + 2, 16 * j + k, none⟩ = (arr (accT LL k j).flatten)[16 * j + k]? := hb3.cell _
          have hcl2 : ∃ y, wr.cell? ⟨w.heap.size + 2, j * 16 + k, none⟩ = some (.int .i64 y) := by
            rw [Nat.mul_comm j 16, hcell, arr_get _ (16 * j + k) (by rw [sq_len HSQ.out]; omega)]; exact ⟨_, rfl⟩
          obtain ⟨y, hy⟩ := hcl2
          have hfr : wr.frozen? ⟨w.heap.size + 2, j * 16 + k, none⟩ = false := hb3.free _
          clear hjp hjA hcell
          go_wp2
          go_roundw
          case rel =>
            refine ⟨j + 1, by omega, by go_num, hbel.setCell (by show w.heap.size ≤ w.heap.size + 2; omega) _, hb2.off (by show w.heap.size + 1 ≠ w.heap.size + 2; omega) _, ?_⟩
            have e := hb3.set (16 * j + k) (.int .i64 (gr LL k j))
            rw [HFS.out, Nat.mul_comm 16 j] at e
            exact e
          case measure => simp [intOf]; omega
        · obtain rfl : j = 16 := by omega
          have HNX := Lib.hid (accT_next LL k)
          rw [HNX.out] at hb3
          go_wp2
          go_roundw
          case rel => exact ⟨k + 1, by omega, by go_num, hbel, hb2, hb3⟩
          case measure => simp [intOf]; omega
    · obtain rfl : k = 16 := by omega
      have HSQ := Lib.hid (accT_sq LL 16 0)
      have hi2 : (Try.prog.info? 38).map (·.size) = some (arr (accT LL 16 0).flatten).size := by rw [arr_size, sq_len HSQ.out]; exact T_info256
      have hszv : (arr (accT LL 16 0).flatten).size = (arr zsq.flatten).size := by rw [arr_size, arr_size, sq_len HSQ.out]; rfl
      obtain ⟨T, hT⟩ : ∃ T, T = arr (accT LL 16 0).flatten := ⟨_, rfl⟩
      have hone : ∀ v ∈ T.toList, v.oneCell' = true := by rw [hT]; exact arr_one _
      rw [← hT] at hb3 hi2 hszv
      have HT := Lib.hid hT
      clear hT
      go_wp2_with (first | (refine wpList_load_row rfl 38 (.tmp 3) rfl (w.heap.size + 2) rfl 38 T (0, 0) _ hb3 Try.underlying38 rfl hi2 ?_) | (refine wpList_store_row rfl 38 (.tmp 2) (.tmp 25) rfl (w.heap.size + 1) rfl T rfl 38 _ hb2 hi2 hszv hone ?_))
      refine bodyPost_ret (results_cell_row rfl _ _ (w.heap.size + 1) 38 T (0, 0) _ rfl hb2.row Try.underlying38 rfl hi2) rfl ?_
      rw [HT.out]
      exact ⟨rfl, below_setRow' hbel (by omega) _⟩
set_option maxHeartbeats 1000000 in
theorem players_any (LL : List (List Int)) (hv : vpl LL = true) (w : World) :
    Calls Try.prog 46 #[.agg (arr (gridR LL).flatten)] w fun e w' => e = .returned (.agg (arr (gridR (layP LL)).flatten)) ∧ Below w.heap.size w w' := by
  have hi256 : (Try.prog.info? 38).map (·.size) = some (arr (gridR LL).flatten).size := by rw [arr_size, sq_len (gridR_sq hv)]; exact T_info256
  have hb := Blk.new w 38 (arr (gridR LL).flatten)
  have hb' := hb.alloc (.cells (arr zsq.flatten) 38)
  have HV := Lib.hid hv
  have HX := Lib.hid (T_indexG hv)
  have HZ0 := Lib.hid (accU_zero hv)
  have HQ := Lib.hid (accU_sq hv)
  have HUE := Lib.hid (accU_end hv)
  have hu := Try.underlying36
  have hA0 := ((Below.refl w.heap.size w).alloc (Nat.le_refl _) (.cells (arr (gridR LL).flatten) 38)).alloc (by simp) (.cells (arr zsq.flatten) 38)
  have hz1 : Blk ((w.alloc (.cells (arr (gridR LL).flatten) 38)).alloc (.cells (arr zsq.flatten) 38)) (w.heap.size + 1) 38 (arr zsq.flatten) := by
    have e := Blk.new (w.alloc (.cells (arr (gridR LL).flatten) 38)) 38 (arr zsq.flatten)
    rw [World.size_alloc] at e
    exact e
  have hb0 : Blk ((w.alloc (.cells (arr (gridR LL).flatten) 38)).alloc (.cells (arr zsq.flatten) 38)) w.heap.size 38 (arr (accU LL 0).flatten) := by rw [HZ0.out]; exact hb'
  clear hv hb
  obtain ⟨G, hG⟩ : ∃ G, G = arr (gridR LL).flatten := ⟨_, rfl⟩
  rw [← hG] at hi256 hb' HX hA0 hz1 hb0 ⊢
  clear hG
  go_enter Try.func46, Try.ntmps46
  go_wp2_with (refine wpList_load_row rfl 38 (.tmp 1) rfl w.heap.size rfl 38 G (0, 0) _ hb' Try.underlying38 rfl hi256 ?_)
  go_loopw [6] (fun i wr => ∃ k : Nat, k ≤ 16 ∧ i = .int .i64 k ∧ Below w.heap.size w wr ∧ Blk wr w.heap.size 38 (arr (accU LL k).flatten) ∧ Blk wr (w.heap.size + 1) 38 (arr zsq.flatten)) (fun i _ => 16 - (intOf i).toNat)
  case atStart => exact ⟨0, Nat.zero_le _, rfl, hA0, hb0, hz1⟩
  case round =>
    obtain ⟨k, hk, rfl, hbel, hb3, hb2⟩ := hrel
    clear hA0 hz1 hb0 hb'
    by_cases hlt : k < 16
    · have hlt' : (k : Int) < 16 := by omega
      have hix := HX.out k hlt
      have hvk := vpl_valid HV.out k
      have hbs := valid_bd hvk
      have HPL := Lib.hid (pad_len hbs.2.2.2)
      have HPN := Lib.hid (pad_nonneg hvk)
      have HCP : Hid (acc (pad (LL.getD k [])) 16 0 = pad (conj (LL.getD k []))) := Lib.hid ((acc_end (pad (LL.getD k [])) (pad_len hbs.2.2.2)).trans (conj_pad hvk))
      have HCL : Hid ((pad (conj (LL.getD k []))).length = 16) := Lib.hid (pad_len (valid_bd (valid_conj hvk)).2.2.2)
      have HUS := Lib.hid (accU_set LL hlt)
      have HSQ := Lib.hid (HQ.out k)
      have hkA : k < (accU LL k).length := by rw [HSQ.out.1]; exact hlt
      have hstore := arr_flat_store HSQ.out.2 hkA HCL.out
      rw [HUS.out, Nat.mul_comm 16 k] at hstore
      obtain ⟨L, hL⟩ : ∃ L, L = LL.getD k [] := ⟨_, rfl⟩
      rw [← hL] at hix HPL HPN HCP HCL hstore
      have hsz : (arr (pad L)).size = (arr (List.replicate 16 0)).size := by rw [arr_size, arr_size, HPL.out]; rfl
      have hi16 : (Try.prog.info? 36).map (·.size) = some (arr (pad L)).size := by rw [arr_size, HPL.out]; exact T_info35
      have hic : (Try.prog.info? 36).map (·.size) = some (arr (pad (conj L))).size := by rw [arr_size, HCL.out]; exact T_info35
      have hfit : k * 16 + (arr (pad (conj L))).size ≤ (arr (accU LL k).flatten).size := by rw [arr_size, arr_size, sq_len HSQ.out, HCL.out]; omega
      have HSTO := Lib.hid hstore
      have hbz := Blk.new wr 36 (arr (List.replicate 16 0))
      have hbz2 := hbz.row (vs := arr (pad L))
      have hbB : Below wr.heap.size wr ((wr.alloc (.cells (arr (List.replicate 16 0)) 36)).setRow wr.heap.size (arr (pad L))) := below_setRow' ((Below.refl wr.heap.size wr).alloc (Nat.le_refl _) (.cells (arr (List.replicate 16 0)) 36)) (Nat.le_refl _) (arr (pad L))
      have hwsz := hbel.size
      have hb2' := hb2.below hbB hb2.lt
      have hb3' := hb3.below hbB hb3.lt
      have hbel' := hbel.trans (hbB.mono hwsz)
      clear hL hvk hbs hbel hb2 hb3 hkA hstore hbB
      go_wp2_with (first
        | (refine wpList_store_row rfl 36 (.tmp 4) (.tmp 9) rfl wr.heap.size rfl (arr (pad L)) rfl 36 _ hbz hi16 hsz (arr_one _) ?_)
        | (refine wpList_load_row rfl 36 (.tmp 4) rfl wr.heap.size rfl 36 (arr (pad L)) (0, 0) _ hbz2 hu rfl hi16 ?_)
        | (go_at_call 63; refine (conjugate_any (pad L) HPL.out HPN.out _).mono ?_; rintro e w9 ⟨rfl, hb9⟩; rw [HCP.out]; have hb2x := hb2'.below hb9 hb2'.lt; have hb3x := hb3'.below hb9 hb3'.lt; have hbelx := hbel'.trans (hb9.mono hbel'.size))
        | (refine wpList_store_at rfl 36 (.tmp 13) (.tmp 12) rfl w.heap.size (k * 16) rfl (arr (pad (conj L))) rfl 38 (arr (accU LL k).flatten) hb3x hic hfit (arr_one _) ?_; rw [HSTO.out]))
      go_roundw
      case rel => exact ⟨k + 1, by omega, by go_num, below_setRow' hbelx (Nat.le_refl _) _, hb3x.row, hb2x.rowOff (by omega)⟩
      case measure => simp [intOf]; omega
    · obtain rfl : k = 16 := by omega
      rw [HUE.out] at hb3
      have HVU := Lib.hid (vpl_up HV.out)
      have HSU := Lib.hid (gridR_sq HVU.out)
      have hiU : (Try.prog.info? 38).map (·.size) = some (arr (gridR (upP LL)).flatten).size := by rw [arr_size, sq_len HSU.out]; exact T_info256
      have hi2 : (Try.prog.info? 38).map (·.size) = some (arr (gridR (layP LL)).flatten).size := by rw [arr_size, sq_len (gridR_sq (vpl_lay HV.out))]; exact T_info256
      have hszv : (arr (gridR (layP LL)).flatten).size = (arr zsq.flatten).size := by rw [arr_size, arr_size, sq_len (gridR_sq (vpl_lay HV.out))]; rfl
      have HPT := Lib.hid (fun w => pturned_any (upP LL) HVU.out w)
      obtain ⟨T, hT⟩ : ∃ T, T = arr (gridR (layP LL)).flatten := ⟨_, rfl⟩
      have hone : ∀ v ∈ T.toList, v.oneCell' = true := by rw [hT]; exact arr_one _
      have HPT2 : Hid (∀ w, Calls Try.prog 42 #[.agg (arr (gridR (upP LL)).flatten)] w fun e w' => e = .returned (.agg T) ∧ Below w.heap.size w w') := Lib.hid (fun w => by rw [hT]; exact HPT.out w)
      rw [← hT] at hi2 hszv
      have HT := Lib.hid hT
      obtain ⟨U, hU⟩ : ∃ U, U = arr (gridR (upP LL)).flatten := ⟨_, rfl⟩
      rw [← hU] at hb3 hiU HPT2
      clear hT hU HPT
      go_wp2_with (first
        | (refine wpList_load_row rfl 38 (.tmp 1) rfl w.heap.size rfl 38 U (0, 0) _ hb3 Try.underlying38 rfl hiU ?_)
        | (go_at_call 42; refine (HPT2.out _).mono ?_; rintro e w9 ⟨rfl, hb9⟩; have hb2x := hb2.below hb9 hb2.lt)
        | (refine wpList_store_row rfl 38 (.tmp 2) (.tmp 16) rfl (w.heap.size + 1) rfl T rfl 38 _ hb2x hi2 hszv hone ?_))
      refine bodyPost_ret (results_cell_row rfl _ _ (w.heap.size + 1) 38 T (0, 0) _ rfl hb2x.row Try.underlying38 rfl hi2) rfl ?_
      rw [HT.out]
      exact ⟨rfl, below_setRow' (hbel.trans (hb9.mono hbel.size)) (by omega) _⟩
end Go.Proofs.Ytnheolhgdinjgaa
