import Derived.Test.YthafbdpeignccaaW1
import Derived.Test.YthafbdpeignccaaArr
namespace Go.Proofs.Ythafbdpeignccaa
open Go.RowKit NP
set_option maxRecDepth 8000
set_option linter.unusedVariables false
theorem T_info35 : (Try.prog.info? 59).map (·.size) = some 16 := by kernel_rfl

theorem diagramOf_any (a : Option Addr) (c B : Nat) (L : List Int) (w : World) (h : Rd w B a (ints L)) (hB : B ≤ w.heap.size) (hl : L.length ≤ 4611686018427387904) :
    Calls Try.prog 64 #[.slice a L.length c] w fun e w' => e = .returned (.tuple #[.agg (arr (dg L)), .bool (valid L)]) ∧ Below w.heap.size w w' := by
  go_enter Try.func64, Try.ntmps64
  go_wp2
  go_loopw [5, 10] (fun l i wr => ∃ k : Nat, k ≤ L.length ∧ i = .int .i64 k ∧ l = .int .i64 (16 - sumL (L.take k)) ∧ valid (L.take k) = true ∧ Below w.heap.size w wr ∧
    Blk wr w.heap.size 59 (arr (List.replicate 16 0)) ∧ Blk wr (w.heap.size + 1) 59 (arr (pad (L.take k)))) (fun _ i _ => L.length - (intOf i).toNat)
  case atStart =>
    refine ⟨0, Nat.zero_le _, rfl, rfl, rfl, ?_, ?_, ?_⟩
    · exact ((Below.refl _ _).alloc (Nat.le_refl _) _).alloc (by simp) _
    · exact (Blk.new w _ _).alloc _
    · have e := Blk.new (w.alloc (.cells (arr (List.replicate 16 0)) 59)) 59 (arr (pad (L.take 0)))
      rw [World.size_alloc] at e
      exact e
  case round =>
    obtain ⟨k, hk, rfl, rfl, hv, hbel, hb2, hb4⟩ := hrel
    have hbd := valid_bd hv
    by_cases hlt : k < L.length
    · have hR := (h.more hB).below hbel
      obtain ⟨b, o, rfl, hbB, hc⟩ := hR.at_ hlt
      have HN := Lib.hid (valid_stop hlt hv)
      have HY := Lib.hid (valid_next hlt hv)
      have HV := Lib.hid hv
      clear hv
      by_cases hok : 1 ≤ L[k] ∧ L[k] ≤ 16 - sumL (L.take k) ∧ (0 < k → L[k] ≤ L[k - 1]'(by omega))
      · have hvt := Lib.hid (HY.out hok.1 hok.2.1 hok.2.2)
        obtain ⟨h1, h2, h3⟩ := hok
        clear HN HY
        have hk16 : k < 16 := by
          have := (valid_bd hvt.out).2.2.2
          rw [List.length_take_of_le (by omega)] at this
          omega
        have hst := sumL_take_succ L k hlt
        have HST := Lib.hid hst
        clear hst
        have hcz : wr.cell? ⟨w.heap.size + 1, k, none⟩ = some ((arr (pad (L.take k)))[k]?.getD undef) := by
          rw [hb4.cell k]
          have : k < (arr (pad (L.take k))).size := by rw [arr_size, pad_len (by simp; omega)]; omega
          simp [this]
        have hfz : wr.frozen? ⟨w.heap.size + 1, k, none⟩ = false := hb4.free k
        have hpad : (arr (pad (L.take k))).setIfInBounds k (.int .i64 L[k]) = arr (pad (L.take (k + 1))) := by
          rw [arr_set, pad_set hlt hk16]
        have HPAD := Lib.hid hpad
        clear hpad
        have d1 : decide (L[k] < 1) = false := by simp; omega
        have d2 : decide (16 - sumL (L.take k) < L[k]) = false := by simp; omega
        by_cases h0 : k = 0
        · subst h0
          have hc' : wr.cell? ⟨b, o, none⟩ = some (.int .i64 L[0]) := hc
          clear h3
          have hz : sumL ([] : List Int) = 0 := rfl
          go_wp2_with fail
          go_roundw
          case rel =>
            refine ⟨0 + 1, by omega, by go_num, congrArg (Value.int .i64) (by rw [HST.out]; simp [sumL]), hvt.out, hbel.setCell (by simp) _, hb2.off (by simp) _, ?_⟩
            have e := hb4.set 0 (.int .i64 L[0])
            rw [HPAD.out] at e
            exact e
          case measure => simp [intOf]; omega
        · have hk1 : k - 1 < L.length := by omega
          obtain ⟨b', o', e', -, hc2⟩ := hR.at_ hk1
          injection e' with e'; injection e' with e1 e2; subst e1 e2
          have h4 : (0 : Int) < k := by omega
          have h7 : 1 ≤ k := by omega
          have h5 : 0 < k := by omega
          have h3' := h3 h5
          clear h3
          have d3 : decide (L[k - 1]'(by omega) < L[k]) = false := by simp; omega
          go_wp2_with fail
          go_roundw
          case rel =>
            refine ⟨k + 1, by omega, by go_num, by rw [HST.out]; go_num, hvt.out, hbel.setCell (by simp) _, hb2.off (by simp) _, ?_⟩
            have e := hb4.set k (.int .i64 L[k])
            rw [HPAD.out] at e
            exact e
          case measure => simp [intOf]; omega
      · have hvf := Lib.hid (HN.out hok)
        have hok' := Lib.hid hok
        clear HN HY hok
        by_cases h1 : 1 ≤ L[k]
        · by_cases h2 : L[k] ≤ 16 - sumL (L.take k)
          · have h0 : 0 < k := by
              rcases Nat.eq_zero_or_pos k with h0 | h0
              · exact absurd ⟨h1, h2, fun h => by omega⟩ hok'.out
              · exact h0
            have h3 : L[k - 1]'(by omega) < L[k] := by
              rcases Int.lt_or_le (L[k - 1]'(by omega)) L[k] with h3 | h3
              · exact h3
              · exact absurd ⟨h1, h2, fun _ => h3⟩ hok'.out
            have hk1 : k - 1 < L.length := by omega
            obtain ⟨b', o', e', -, hc2⟩ := hR.at_ hk1
            injection e' with e'; injection e' with e1 e2; subst e1 e2
            have h4 : (0 : Int) < k := by omega
            have h7 : 1 ≤ k := by omega
            have d1 : decide (L[k] < 1) = false := by simp; omega
            have d2 : decide (16 - sumL (L.take k) < L[k]) = false := by simp; omega
            have d3 : decide (L[k - 1]'(by omega) < L[k]) = true := by simp; omega
            go_wp2_with (refine wpList_store_row rfl 59 (.tmp 2) (.tmp 35) rfl w.heap.size rfl (arr (List.replicate 16 0)) rfl 59 _ hb2 T_info35 rfl (arr_one _) ?_)
            refine bodyPost_ret (results_cell_tmp rfl _ _ w.heap.size 59 (arr (List.replicate 16 0)) (0, 0) _ rfl hb2.row Try.underlying59 rfl T_info35) rfl ?_
            rw [hvf.out, dg_no hvf.out]
            exact ⟨rfl, below_setRow' hbel (Nat.le_refl _) _⟩
          · have h2' : 16 - sumL (L.take k) < L[k] := by omega
            clear h2
            have d1 : decide (L[k] < 1) = false := by simp; omega
            have d2 : decide (16 - sumL (L.take k) < L[k]) = true := by simp; omega
            go_wp2_with (refine wpList_store_row rfl 59 (.tmp 2) (.tmp 35) rfl w.heap.size rfl (arr (List.replicate 16 0)) rfl 59 _ hb2 T_info35 rfl (arr_one _) ?_)
            refine bodyPost_ret (results_cell_tmp rfl _ _ w.heap.size 59 (arr (List.replicate 16 0)) (0, 0) _ rfl hb2.row Try.underlying59 rfl T_info35) rfl ?_
            rw [hvf.out, dg_no hvf.out]
            exact ⟨rfl, below_setRow' hbel (Nat.le_refl _) _⟩
        · have h1' : L[k] < 1 := by omega
          clear h1
          go_wp2_with (refine wpList_store_row rfl 59 (.tmp 2) (.tmp 35) rfl w.heap.size rfl (arr (List.replicate 16 0)) rfl 59 _ hb2 T_info35 rfl (arr_one _) ?_)
          refine bodyPost_ret (results_cell_tmp rfl _ _ w.heap.size 59 (arr (List.replicate 16 0)) (0, 0) _ rfl hb2.row Try.underlying59 rfl T_info35) rfl ?_
          rw [hvf.out, dg_no hvf.out]
          exact ⟨rfl, below_setRow' hbel (Nat.le_refl _) _⟩
    · obtain rfl : k = L.length := by omega
      have ht : L.take L.length = L := List.take_of_length_le (Nat.le_refl _)
      rw [ht] at hv hb4
      have hvf := Lib.hid hv
      clear hv
      have hi16 : (Try.prog.info? 59).map (·.size) = some (arr (pad L)).size := by rw [arr_size, pad_len (valid_bd hvf.out).2.2.2]; exact T_info35
      have hsz : (arr (pad L)).size = (arr (List.replicate 16 0)).size := by rw [arr_size, arr_size, pad_len (valid_bd hvf.out).2.2.2]; rfl
      go_wp2_with (first | (refine wpList_load_row rfl 59 (.tmp 4) rfl (w.heap.size + 1) rfl 59 (arr (pad L)) (0, 0) _ hb4 Try.underlying59 rfl hi16 ?_) | (refine wpList_store_row rfl 59 (.tmp 2) (.tmp 43) rfl w.heap.size rfl (arr (pad L)) rfl 59 _ hb2 hi16 hsz (arr_one _) ?_))
      refine bodyPost_ret (results_cell_tmp rfl _ _ w.heap.size 59 (arr (pad L)) (0, 0) _ rfl hb2.row Try.underlying59 rfl hi16) rfl ?_
      rw [hvf.out, dg_yes hvf.out]
      exact ⟨rfl, below_setRow' hbel (Nat.le_refl _) _⟩
end Go.Proofs.Ythafbdpeignccaa
