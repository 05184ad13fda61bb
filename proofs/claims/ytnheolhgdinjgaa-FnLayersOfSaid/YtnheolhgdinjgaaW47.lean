/-
  Walks of the program: the bounds of two diagrams by their cells; one inside of another.
-/
import Derived.Test.YtnheolhgdinjgaaW46
import Derived.Test.YtnheolhgdinjgaaArr2
import Derived.Test.YtnheolhgdinjgaaArr4
namespace Go.Proofs.Ytnheolhgdinjgaa
open Go.RowKit NP
set_option maxRecDepth 8000
set_option linter.unusedVariables false
set_option linter.unusedSimpArgs false
def bcm (D E : List Int) (i : Nat) : List Int := (List.range 32).map fun q => if q < 16 then (if q < i then lo2 D E q else 0) else (if q - 16 < i then hi2 D E (q - 16) else 0)
theorem bcm_len (D E : List Int) (i : Nat) : (bcm D E i).length = 32 := by simp [bcm]
theorem bcm_get (D E : List Int) (i q : Nat) (h : q < (bcm D E i).length) : (bcm D E i)[q] = if q < 16 then (if q < i then lo2 D E q else 0) else (if q - 16 < i then hi2 D E (q - 16) else 0) := by simp [bcm]
theorem bcm_zero (D E : List Int) : bcm D E 0 = List.replicate 32 0 := by simp [bcm]; rfl
theorem bcm_set (D E : List Int) (i : Nat) (hi : i < 16) : ((bcm D E i).set i (lo2 D E i)).set (16 + i) (hi2 D E i) = bcm D E (i + 1) := by
  apply List.ext_getElem
  · rw [List.length_set, List.length_set, bcm_len, bcm_len]
  · intro q h1 h2
    rw [bcm_get]
    by_cases e1 : 16 + i = q
    · subst e1
      rw [List.getElem_set_self, if_neg (by omega), if_pos (by omega)]
      congr 1
      omega
    · rw [List.getElem_set_ne e1]
      by_cases e2 : i = q
      · subst e2
        rw [List.getElem_set_self, if_pos hi, if_pos (by omega)]
      · rw [List.getElem_set_ne e2, bcm_get]
        (repeat' split) <;> first | rfl | omega
theorem bcm_end (D E : List Int) : bcm D E 16 = (List.range 16).map (lo2 D E) ++ (List.range 16).map (hi2 D E) := by
  apply List.ext_getElem
  · rw [bcm_len]; simp
  · intro q h1 h2
    rw [bcm_get]
    rw [bcm_len] at h1
    by_cases hq : q < 16
    · rw [if_pos hq, if_pos hq, List.getElem_append_left (by simpa using hq)]; simp
    · rw [if_neg hq, if_pos (by omega), List.getElem_append_right (by simp; omega)]; simp

set_option maxHeartbeats 2000000 in
theorem byCells_any (D E : List Int) (hD : D.length = 16) (hE : E.length = 16) (w : World) :
    Calls Try.prog 64 #[.agg (arr D), .agg (arr E)] w fun e w' => e = .returned (.agg (arr ((List.range 16).map (lo2 D E) ++ (List.range 16).map (hi2 D E)))) ∧ Below w.heap.size w w' := by
  have HD := Lib.hid hD
  have HE := Lib.hid hE
  have hd16 : 16 ≤ D.length := by omega
  have he16 : 16 ≤ E.length := by omega
  clear hD hE
  obtain ⟨wA, hwA⟩ : ∃ wA, wA = (((w.alloc (.cells (arr D) 36)).alloc (.cells (arr E) 36)).alloc (.cells (arr (List.replicate 32 0)) 64)).alloc (.cells (arr (List.replicate 32 0)) 64) := ⟨_, rfl⟩
  have hA2 : Blk wA w.heap.size 36 (arr D) := by rw [hwA]; exact (((Blk.new w 36 (arr D)).alloc _).alloc _).alloc _
  have hA3 : Blk wA (w.heap.size + 1) 36 (arr E) := by
    rw [hwA]
    have e := ((Blk.new (w.alloc (.cells (arr D) 36)) 36 (arr E)).alloc (.cells (arr (List.replicate 32 0)) 64)).alloc (.cells (arr (List.replicate 32 0)) 64)
    rw [World.size_alloc] at e
    exact e
  have hA4 : Blk wA (w.heap.size + 2) 64 (arr (List.replicate 32 0)) := by
    rw [hwA]
    have e := (Blk.new ((w.alloc (.cells (arr D) 36)).alloc (.cells (arr E) 36)) 64 (arr (List.replicate 32 0))).alloc (.cells (arr (List.replicate 32 0)) 64)
    rw [World.size_alloc, World.size_alloc] at e
    exact e
  have hA5 : Blk wA (w.heap.size + 3) 64 (arr (List.replicate 32 0)) := by
    rw [hwA]
    have e := Blk.new (((w.alloc (.cells (arr D) 36)).alloc (.cells (arr E) 36)).alloc (.cells (arr (List.replicate 32 0)) 64)) 64 (arr (List.replicate 32 0))
    rw [World.size_alloc, World.size_alloc, World.size_alloc] at e
    exact e
  have hAb : Below w.heap.size w wA := by rw [hwA]; exact ((((Below.refl _ _).alloc (Nat.le_refl _) _).alloc (by simp) _).alloc (by simp; omega) _).alloc (by simp; omega) _
  go_enter Try.func64, Try.ntmps64
  go_wp2_with fail
  go_loopw [7] (fun i wr => ∃ k : Nat, k ≤ 16 ∧ i = .int .i64 k ∧ Below w.heap.size w wr ∧ Blk wr w.heap.size 36 (arr D) ∧ Blk wr (w.heap.size + 1) 36 (arr E) ∧ Blk wr (w.heap.size + 2) 64 (arr (List.replicate 32 0)) ∧ Blk wr (w.heap.size + 3) 64 (arr (bcm D E k))) (fun i _ => 16 - (intOf i).toNat)
  case atStart =>
    refine ⟨0, Nat.zero_le _, rfl, ?_⟩
    rw [bcm_zero]
    rw [hwA] at hAb hA2 hA3 hA4 hA5
    exact ⟨hAb, hA2, hA3, hA4, hA5⟩
  case round =>
    obtain ⟨k, hk, rfl, hbel, h2, h3, h4, h5⟩ := hrel
    clear hA2 hA3 hA4 hA5 hAb
    by_cases hlt : k < 16
    · have hkD : k < D.length := by omega
      have hkE : k < E.length := by omega
      have hc1 : wr.cell? ⟨w.heap.size, k, none⟩ = some (.int .i64 D[k]) := by rw [h2.cell k, arr_get _ k hkD]
      have hc2 : wr.cell? ⟨w.heap.size + 1, k, none⟩ = some (.int .i64 E[k]) := by rw [h3.cell k, arr_get _ k hkE]
      have hlt' : (k : Int) < 16 := by omega
      have HS := Lib.hid (bcm_set D E k hlt)
      have hmn : (if E[k] < D[k] then E[k] else D[k]) = lo2 D E k := by
        unfold lo2; rw [getD_lt hkD, getD_lt hkE]; split <;> omega
      have hmx : (if D[k] < E[k] then E[k] else D[k]) = hi2 D E k := by
        unfold hi2; rw [getD_lt hkD, getD_lt hkE]; split <;> omega
      have hc5 : wr.cell? ⟨w.heap.size + 3, k, none⟩ = some ((arr (bcm D E k))[k]?.getD undef) := by
        rw [h5.cell k]
        have : k < (arr (bcm D E k)).size := by rw [arr_size, bcm_len]; omega
        simp [this]
      have hf5 : wr.frozen? ⟨w.heap.size + 3, k, none⟩ = false := h5.free k
      generalize D[k] = x at *
      generalize E[k] = y at *
      generalize lo2 D E k = m1 at *
      generalize hi2 D E k = m2 at *
      generalize ((arr (bcm D E k))[k]?.getD undef) = old at *
      go_wp2
      go_still_tail 10, (by kernel_rfl)
      change wpList _ _ _ _ _ wr.drew
      replace hbel : Below w.heap.size w wr.drew := hbel.trans ((Dr.n wr 1).below _)
      replace h2 : Blk wr.drew w.heap.size 36 (arr D) := h2
      replace h3 : Blk wr.drew (w.heap.size + 1) 36 (arr E) := h3
      replace h4 : Blk wr.drew (w.heap.size + 2) 64 (arr (List.replicate 32 0)) := h4
      replace h5 : Blk wr.drew (w.heap.size + 3) 64 (arr (bcm D E k)) := h5
      replace hf5 : wr.drew.frozen? ⟨w.heap.size + 3, k, none⟩ = false := hf5
      replace hc1 : wr.drew.cell? ⟨w.heap.size, k, none⟩ = some (.int .i64 x) := hc1
      replace hc2 : wr.drew.cell? ⟨w.heap.size + 1, k, none⟩ = some (.int .i64 y) := hc2
      replace hc5 : wr.drew.cell? ⟨w.heap.size + 3, k, none⟩ = some old := hc5
      generalize wr.drew = w2 at *
      go_wp2_with fail
      have g1 : Below w.heap.size w (w2.setCell ⟨w.heap.size + 3, k, none⟩ (.int .i64 m1)) := hbel.setCell (by show w.heap.size ≤ w.heap.size + 3; omega) _
      have g2 : Blk (w2.setCell ⟨w.heap.size + 3, k, none⟩ (.int .i64 m1)) w.heap.size 36 (arr D) := h2.off (by show w.heap.size ≠ w.heap.size + 3; omega) _
      have g3 : Blk (w2.setCell ⟨w.heap.size + 3, k, none⟩ (.int .i64 m1)) (w.heap.size + 1) 36 (arr E) := h3.off (by show w.heap.size + 1 ≠ w.heap.size + 3; omega) _
      have g4 : Blk (w2.setCell ⟨w.heap.size + 3, k, none⟩ (.int .i64 m1)) (w.heap.size + 2) 64 (arr (List.replicate 32 0)) := h4.off (by show w.heap.size + 2 ≠ w.heap.size + 3; omega) _
      have g5 := h5.set k (.int .i64 m1)
      rw [arr_set] at g5
      have gc1 : (w2.setCell ⟨w.heap.size + 3, k, none⟩ (.int .i64 m1)).cell? ⟨w.heap.size, k, none⟩ = some (.int .i64 x) := by rw [g2.cell k, ← h2.cell k]; exact hc1
      have gc2 : (w2.setCell ⟨w.heap.size + 3, k, none⟩ (.int .i64 m1)).cell? ⟨w.heap.size + 1, k, none⟩ = some (.int .i64 y) := by rw [g3.cell k, ← h3.cell k]; exact hc2
      have gf5 := g5.free (16 + k)
      have gc5 : (w2.setCell ⟨w.heap.size + 3, k, none⟩ (.int .i64 m1)).cell? ⟨w.heap.size + 3, 16 + k, none⟩ = some ((arr ((bcm D E k).set k m1))[16 + k]?.getD undef) := by
        rw [g5.cell (16 + k)]
        have : 16 + k < (arr ((bcm D E k).set k m1)).size := by rw [arr_size, List.length_set, bcm_len]; omega
        simp [this]
      generalize ((arr ((bcm D E k).set k m1))[16 + k]?.getD undef) = old2 at *
      clear hbel h2 h3 h4 h5 hf5 hc1 hc2 hc5
      generalize w2.setCell ⟨w.heap.size + 3, k, none⟩ (.int .i64 m1) = wr at *
      go_still_tail 10, (by kernel_rfl)
      change wpList _ _ _ _ _ wr.drew
      replace g1 : Below w.heap.size w wr.drew := g1.trans ((Dr.n wr 1).below _)
      replace g2 : Blk wr.drew w.heap.size 36 (arr D) := g2
      replace g3 : Blk wr.drew (w.heap.size + 1) 36 (arr E) := g3
      replace g4 : Blk wr.drew (w.heap.size + 2) 64 (arr (List.replicate 32 0)) := g4
      replace g5 : Blk wr.drew (w.heap.size + 3) 64 (arr ((bcm D E k).set k m1)) := g5
      replace gf5 : wr.drew.frozen? ⟨w.heap.size + 3, 16 + k, none⟩ = false := gf5
      replace gc1 : wr.drew.cell? ⟨w.heap.size, k, none⟩ = some (.int .i64 x) := gc1
      replace gc2 : wr.drew.cell? ⟨w.heap.size + 1, k, none⟩ = some (.int .i64 y) := gc2
      replace gc5 : wr.drew.cell? ⟨w.heap.size + 3, 16 + k, none⟩ = some old2 := gc5
      generalize wr.drew = w3 at *
      go_wp2_with fail
      go_roundw
      case rel =>
        refine ⟨k + 1, by omega, by go_num, g1.setCell (by show w.heap.size ≤ w.heap.size + 3; omega) _, g2.off (by show w.heap.size ≠ w.heap.size + 3; omega) _, g3.off (by show w.heap.size + 1 ≠ w.heap.size + 3; omega) _, g4.off (by show w.heap.size + 2 ≠ w.heap.size + 3; omega) _, ?_⟩
        have e := g5.set (16 + k) (.int .i64 m2)
        rw [arr_set, HS.out] at e
        exact e
      case measure => simp [intOf]; omega
    · obtain rfl : k = 16 := by omega
      have HN := Lib.hid (bcm_end D E)
      have hi2 : (Try.prog.info? 64).map (·.size) = some (arr (bcm D E 16)).size := by rw [arr_size, bcm_len]; exact T_info_bounds
      have hsz : (arr (bcm D E 16)).size = (arr (List.replicate 32 0)).size := by rw [arr_size, arr_size, bcm_len]; rfl
      go_wp2_with (first | (refine wpList_load_row rfl 64 (.tmp 5) rfl (w.heap.size + 3) rfl 64 (arr (bcm D E 16)) (0, 0) _ h5 Try.underlying64 rfl hi2 ?_) | (refine wpList_store_row rfl 64 (.tmp 4) (.tmp 31) rfl (w.heap.size + 2) rfl (arr (bcm D E 16)) rfl 64 _ h4 hi2 hsz (arr_one _) ?_))
      refine bodyPost_ret (results_cell_row rfl _ _ (w.heap.size + 2) 64 (arr (bcm D E 16)) (0, 0) _ rfl h4.row Try.underlying64 rfl hi2) rfl ?_
      exact ⟨by rw [HN.out], below_setRow' hbel (by omega) _⟩
end Go.Proofs.Ytnheolhgdinjgaa
