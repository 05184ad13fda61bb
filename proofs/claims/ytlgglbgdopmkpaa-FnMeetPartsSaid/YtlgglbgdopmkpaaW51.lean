/-
  Walks of the program: first sums, the meet of two diagrams.
-/
import Derived.Test.YtlgglbgdopmkpaaW46
import Derived.Test.YtlgglbgdopmkpaaArr2
import Derived.StillTactics
namespace Go.Proofs.Ytlgglbgdopmkpaa
open Go.RowKit NP
set_option linter.unusedVariables false
set_option linter.unusedSimpArgs false
def fsT (D : List Int) (k : Nat) : List Int := (List.range 16).map fun j => if j < k then sumTo D (j + 1) else 0
theorem fsT_len (D : List Int) (k : Nat) : (fsT D k).length = 16 := by simp [fsT]
theorem fsT_get (D : List Int) (k j : Nat) (h : j < (fsT D k).length) : (fsT D k)[j] = if j < k then sumTo D (j + 1) else 0 := by simp [fsT]
theorem fsT_zero (D : List Int) : fsT D 0 = List.replicate 16 0 := by simp [fsT]; rfl
theorem fsT_set (D : List Int) (k : Nat) : (fsT D k).set k (sumTo D (k + 1)) = fsT D (k + 1) := by
  apply List.ext_getElem
  · rw [List.length_set, fsT_len, fsT_len]
  · intro q h1 h2
    by_cases e : k = q
    · subst e
      rw [List.getElem_set_self, fsT_get, if_pos (by omega)]
    · rw [List.getElem_set_ne e, fsT_get, fsT_get]
      (repeat' split) <;> first | rfl | omega
/-- all sums of the first are small -/
def tame (D : List Int) : Prop := D.length = 16 ∧ (∀ k, 0 ≤ sumTo D k ∧ sumTo D k ≤ 1000) ∧ ∀ k, 0 ≤ D.getD k 0 ∧ D.getD k 0 ≤ 1000

set_option maxHeartbeats 1000000 in
theorem firstSums_any (a : Option Addr) (c B : Nat) (D : List Int) (w : World) (h : Rd w B a (ints D)) (hB : B ≤ w.heap.size) (hD : tame D) :
    Calls Try.prog 83 #[.slice a 16 c] w fun e w' => ∃ a', e = .returned (.slice a' 16 16) ∧ Own w' w.heap.size w'.heap.size 3 (.slice a' 16 16) (ints (fsT D 16)) ∧ Below w.heap.size w w' := by
  obtain ⟨i0, hi, hz0, hz1, hz2⟩ := T_int'
  have hmk := run_make_ints (P := Try.prog) 22 3 i0 Try.underlying22 hi hz0 hz1 hz2 16 (by omega)
  have hmk2 : ∀ w : World, (Instr.makeSlice 22 (.int .i64 16) (.int .i64 16)).run Try.prog w = .ok (.slice (some ⟨w.heap.size, 0, none⟩) 16 16) (w.alloc (.cells (arr (List.replicate 16 0)) 3)) := hmk
  have hl16 : 16 ≤ D.length := by rw [hD.1]; omega
  have HD := Lib.hid hD
  clear hD
  go_enter Try.func83, Try.ntmps83
  go_wp2_with fail
  go_loopw [4, 12] (fun vs vi wr => ∃ k : Nat, k ≤ 16 ∧ vi = .int .i64 k ∧ vs = .int .i64 (sumTo D k) ∧ Below w.heap.size w wr ∧ Blk wr w.heap.size 3 (arr (fsT D k))) (fun _ vi _ => 20 - (intOf vi).toNat)
  case atStart =>
    refine ⟨0, Nat.zero_le _, rfl, rfl, (Below.refl _ _).alloc (Nat.le_refl _) _, ?_⟩
    rw [fsT_zero]
    exact Blk.new w _ _
  case round =>
    obtain ⟨k, hk, rfl, rfl, hbel, hblk⟩ := hrel
    by_cases hlt : k < 16
    · have hkD : k < D.length := by omega
      have hlt' : (k : Int) < 16 := by omega
      obtain ⟨b1, o1, rfl, _, hc1⟩ := ((h.more hB).below hbel).at_ hkD
      have h1 := (HD.out.2.1 k)
      have h2 := (HD.out.2.1 (k + 1))
      rw [sumTo, getD_lt hkD] at h2
      have HS : Hid ((fsT D k).set k (sumTo D k + D[k]) = fsT D (k + 1)) := Lib.hid (by rw [← fsT_set, sumTo, getD_lt hkD])
      have HX : Hid (D.getD k 0 = D[k]) := Lib.hid (getD_lt hkD)
      have hcz : wr.cell? ⟨w.heap.size, k, none⟩ = some ((arr (fsT D k))[k]?.getD undef) := by
        rw [hblk.cell k]
        have : k < (arr (fsT D k)).size := by rw [arr_size, fsT_len]; omega
        simp [this]
      have hfz : wr.frozen? ⟨w.heap.size, k, none⟩ = false := hblk.free k
      generalize ((arr (fsT D k))[k]?.getD undef) = old at *
      generalize D[k] = x at *
      obtain ⟨A, hA⟩ : ∃ A, A = sumTo D k := ⟨_, rfl⟩
      rw [← hA] at h1 h2 HS ⊢
      have HA := Lib.hid hA
      clear hA
      have hw1 : IntKind.i64.wrap (A + x) = A + x := IntWalk.i64_in _ (by omega)
      go_wp2_with fail
      go_roundw
      case rel =>
        refine ⟨k + 1, by omega, by go_num, by rw [sumTo, HX.out, HA.out], hbel.setCell (by show w.heap.size ≤ w.heap.size; omega) _, ?_⟩
        have e := hblk.set k (.int .i64 (A + x))
        rw [arr_set, HS.out] at e
        exact e
      case measure => simp [intOf]; omega
    · obtain rfl : k = 16 := by omega
      have hown : Own wr w.heap.size wr.heap.size 3 (.slice (some ⟨w.heap.size, 0, none⟩) (ints (fsT D 16)).length (ints (fsT D 16)).length) (ints (fsT D 16)) := Blk.own (vs := ints (fsT D 16)) hblk (Nat.le_refl _) (by rw [List.length_map, fsT_len]; unfold maxLen; omega)
      rw [List.length_map, fsT_len] at hown
      have HO := Lib.hid hown
      clear hown
      go_wp2_with fail
      go_ret
      exact ⟨_, rfl, HO.out, hbel⟩
def mmT (D E : List Int) (k : Nat) : List Int := (List.range 16).map fun j => if j < k then mi D E j else 0
theorem mmT_len (D E : List Int) (k : Nat) : (mmT D E k).length = 16 := by simp [mmT]
theorem mmT_get (D E : List Int) (k j : Nat) (h : j < (mmT D E k).length) : (mmT D E k)[j] = if j < k then mi D E j else 0 := by simp [mmT]
theorem mmT_zero (D E : List Int) : mmT D E 0 = List.replicate 16 0 := by simp [mmT]; rfl
theorem mmT_set (D E : List Int) (k : Nat) : (mmT D E k).set k (mi D E k) = mmT D E (k + 1) := by
  apply List.ext_getElem
  · rw [List.length_set, mmT_len, mmT_len]
  · intro q h1 h2
    by_cases e : k = q
    · subst e
      rw [List.getElem_set_self, mmT_get, if_pos (by omega)]
    · rw [List.getElem_set_ne e, mmT_get, mmT_get]
      (repeat' split) <;> first | rfl | omega
theorem mmT_end (D E : List Int) : mmT D E 16 = (List.range 16).map (mi D E) := by
  unfold mmT
  exact List.map_congr_left fun j hj => if_pos (by simpa using hj)

set_option maxHeartbeats 2000000 in
theorem dmeet_any (D E : List Int) (hD : tame D) (hE : tame E) (w : World) :
    Calls Try.prog 81 #[.agg (arr D), .agg (arr E)] w fun e w' => e = .returned (.agg (arr ((List.range 16).map (mi D E)))) ∧ Below w.heap.size w w' := by
  obtain ⟨wA, hwA⟩ : ∃ wA, wA = ((w.alloc (.cells (arr D) 40)).alloc (.cells (arr E) 40)).alloc (.cells (#[.int .i64 0, .int .i64 0, .int .i64 0, .int .i64 0, .int .i64 0, .int .i64 0, .int .i64 0, .int .i64 0, .int .i64 0, .int .i64 0, .int .i64 0, .int .i64 0, .int .i64 0, .int .i64 0, .int .i64 0, .int .i64 0]) 40) := ⟨_, rfl⟩
  have hA2 : Blk wA w.heap.size 40 (arr D) := by rw [hwA]; exact ((Blk.new w 40 (arr D)).alloc _).alloc _
  have hA3 : Blk wA (w.heap.size + 1) 40 (arr E) := by
    rw [hwA]
    have e := (Blk.new (w.alloc (.cells (arr D) 40)) 40 (arr E)).alloc (.cells (arr (List.replicate 16 0)) 40)
    rw [World.size_alloc] at e
    exact e
  have hA4 : Blk wA (w.heap.size + 2) 40 (arr (List.replicate 16 0)) := by
    rw [hwA]
    have e := Blk.new ((w.alloc (.cells (arr D) 40)).alloc (.cells (arr E) 40)) 40 (arr (List.replicate 16 0))
    rw [World.size_alloc, World.size_alloc] at e
    exact e
  have hAb : Below w.heap.size w wA := by rw [hwA]; exact (((Below.refl _ _).alloc (Nat.le_refl _) _).alloc (by simp) _).alloc (by simp; omega) _
  have hAs : wA.heap.size = w.heap.size + 3 := by rw [hwA]; simp
  have hR2 : Rd wA wA.heap.size (some ⟨w.heap.size, 0, none⟩) (ints D) := fun _ => ⟨w.heap.size, 0, rfl, by omega, fun k v hv => by rw [Nat.zero_add, hA2.cell k]; simpa [arr] using hv⟩
  have hR3 : Rd wA wA.heap.size (some ⟨w.heap.size + 1, 0, none⟩) (ints E) := fun _ => ⟨w.heap.size + 1, 0, rfl, by omega, fun k v hv => by rw [Nat.zero_add, hA3.cell k]; simpa [arr] using hv⟩
  have HD := Lib.hid hD
  have HE := Lib.hid hE
  clear hD hE
  go_enter Try.func81, Try.ntmps81
  go_wp2_with fail
  rw [← hwA]
  clear hwA
  refine wp_region_held_drew (S := (fun w' => Below wA.heap.size wA w')) (by kernel_rfl) ((Dr.n wA 1).below _) (fun hHeld => ?_)
  refine wpAnyH_take (i := 0) (v := (.slice (some ⟨w.heap.size, 0, none⟩) 16 16)) (by simp only [List.getElem?_toArray, List.getElem?_cons_succ, List.getElem?_cons_zero]; exact rfl) (by kernel_rfl) (by kernel_rfl) (by kernel_rfl) (by intro _ _ _ h; exact h) (Or.inl ⟨by kernel_rfl, by intro w hSw; go_simp⟩) (by assumption) ?_
  simp only [Act.put, List.setIfInBounds_toArray, List.set_cons_zero, List.set_cons_succ, List.toList_toArray]
  refine wpAnyH_take (i := 2) (v := (.slice (some ⟨w.heap.size + 1, 0, none⟩) 16 16)) (by simp only [List.getElem?_toArray, List.getElem?_cons_succ, List.getElem?_cons_zero]; exact rfl) (by kernel_rfl) (by kernel_rfl) (by kernel_rfl) (by intro _ _ _ h; exact h) (Or.inl ⟨by kernel_rfl, by intro w hSw; go_simp⟩) (by assumption) ?_
  simp only [Act.put, List.setIfInBounds_toArray, List.set_cons_zero, List.set_cons_succ, List.toList_toArray]
  refine wpAnyH_ready (rs := [1]) (by kernel_rfl) (by simp) ?_
  refine AllReadyH.cons (o := _) (by simp only [List.getElem?_toArray, List.getElem?_cons_succ, List.getElem?_cons_zero]; exact rfl) (fun K hK => ?_) AllReadyH.nil
  rw [if_pos (by rfl)]
  go_simp
  go_at_call 83
  refine (firstSums_any _ _ wA.heap.size D _ (hR2.below hHeld) hHeld.size HD.out).mono ?_
  rintro e w1 ⟨a1, rfl, ho1, hbx⟩
  refine hK.out _ _ (hHeld.trans (hbx.mono hHeld.size)) (fun hb1 => ?_)
  clear hK K
  try simp only [Act.put, List.setIfInBounds_toArray, List.set_cons_zero, List.set_cons_succ, List.toList_toArray]
  refine wpAnyH_ready (rs := [3]) (by kernel_rfl) (by simp) ?_
  refine AllReadyH.cons (o := _) (by simp only [List.getElem?_toArray, List.getElem?_cons_succ, List.getElem?_cons_zero]; exact rfl) (fun K hK => ?_) AllReadyH.nil
  rw [if_pos (by rfl)]
  go_simp
  go_at_call 83
  refine (firstSums_any _ _ wA.heap.size E _ (hR3.below hb1) hb1.size HE.out).mono ?_
  rintro e w2 ⟨a2, rfl, ho2, hb2⟩
  refine hK.out _ _ (hb1.trans (hb2.mono hb1.size)) (fun hb3 => ?_)
  clear hK K
  try simp only [Act.put, List.setIfInBounds_toArray, List.set_cons_zero, List.set_cons_succ, List.toList_toArray]
  refine wpAnyH_take (i := 4) (v := (.slice a1 16 16)) (by simp only [List.getElem?_toArray, List.getElem?_cons_succ, List.getElem?_cons_zero]; exact rfl) (by kernel_rfl) (by kernel_rfl) (by kernel_rfl) (by intro _ _ _ h; exact h) (Or.inl ⟨by kernel_rfl, by intro w hSw; go_simp⟩) (by assumption) ?_
  simp only [Act.put, List.setIfInBounds_toArray, List.set_cons_zero, List.set_cons_succ, List.toList_toArray]
  refine wpAnyH_take (i := 5) (v := (.slice a2 16 16)) (by simp only [List.getElem?_toArray, List.getElem?_cons_succ, List.getElem?_cons_zero]; exact rfl) (by kernel_rfl) (by kernel_rfl) (by kernel_rfl) (by intro _ _ _ h; exact h) (Or.inl ⟨by kernel_rfl, by intro w hSw; go_simp⟩) (by assumption) ?_
  simp only [Act.put, List.setIfInBounds_toArray, List.set_cons_zero, List.set_cons_succ, List.toList_toArray]
  refine wpAnyH_done (by kernel_rfl) ?_ _
  try simp only [Act.put, List.setIfInBounds_toArray, List.set_cons_zero, List.set_cons_succ]
  have ho1' := ho1.below (hb2.mono ho1.le)
  have g1 : Own w2 w.heap.size w2.heap.size 3 (.slice a1 16 16) (ints (fsT D 16)) := (ho1'.more).lower (by have := hHeld.size; omega)
  have g2 : Own w2 w.heap.size w2.heap.size 3 (.slice a2 16 16) (ints (fsT E 16)) := ho2.lower (by have := hb1.size; omega)
  have g4 : Blk w2 (w.heap.size + 2) 40 (arr (List.replicate 16 0)) := hA4.below hb3 (by omega)
  have hBw : Below w.heap.size w w2 := hAb.trans (hb3.mono hAb.size)
  have hsz : w.heap.size + 3 ≤ w2.heap.size := by have := hb3.size; omega
  clear ho1 ho1' ho2 hb1 hb2 hb3 hbx hHeld hA2 hA3 hA4 hR2 hR3 hAb hAs
  go_wp2_with fail
  go_loopw [8, 15] (fun vb vi wr => ∃ k : Nat, k ≤ 16 ∧ vi = .int .i64 k ∧ vb = .int .i64 (mf D E k) ∧ Below w.heap.size w wr ∧ Blk wr (w.heap.size + 2) 40 (arr (List.replicate 16 0)) ∧ Blk wr w2.heap.size 40 (arr (mmT D E k)) ∧ Own wr w.heap.size w2.heap.size 3 (.slice a1 16 16) (ints (fsT D 16)) ∧ Own wr w.heap.size w2.heap.size 3 (.slice a2 16 16) (ints (fsT E 16))) (fun _ vi _ => 20 - (intOf vi).toNat)
  case atStart =>
    refine ⟨0, Nat.zero_le _, rfl, rfl, hBw.alloc hBw.size _, g4.alloc _, ?_, g1.alloc _, g2.alloc _⟩
    rw [mmT_zero]
    exact Blk.new w2 _ _
  case round =>
    obtain ⟨k, hk, rfl, rfl, hbel, h4, h7, ho1, ho2⟩ := hrel
    clear g1 g2 g4 hBw
    by_cases hlt : k < 16
    · have hlt' : (k : Int) < 16 := by omega
      obtain ⟨q1, rfl, hc1⟩ := ho1.read (k := k) (by rw [List.length_map, fsT_len]; exact hlt)
      obtain ⟨q2, rfl, hc2⟩ := ho2.read (k := k) (by rw [List.length_map, fsT_len]; exact hlt)
      rw [List.getElem_map, fsT_get, if_pos hlt] at hc1 hc2
      have hx := HD.out.2.1 (k + 1)
      have hy := HE.out.2.1 (k + 1)
      have hA := HD.out.2.1 k
      have hB := HE.out.2.1 k
      obtain ⟨M, hMM⟩ : ∃ M, M = mf D E k := ⟨_, rfl⟩
      obtain ⟨N, hNN⟩ : ∃ N, N = mf D E (k + 1) := ⟨_, rfl⟩
      have hM : M = min (sumTo D k) (sumTo E k) := hMM
      have hN : N = min (sumTo D (k + 1)) (sumTo E (k + 1)) := hNN
      have HS : Hid ((mmT D E k).set k (N - M) = mmT D E (k + 1)) := Lib.hid (by rw [← mmT_set, hNN, hMM]; rfl)
      rw [← hMM]
      have HN := Lib.hid hNN
      have hmn : (if sumTo E (k + 1) < sumTo D (k + 1) then sumTo E (k + 1) else sumTo D (k + 1)) = N := by rw [hN]; split <;> omega
      have hnb : 0 ≤ N ∧ N ≤ 1000 := by omega
      have hmb : 0 ≤ M ∧ M ≤ 1000 := by omega
      clear hMM hNN hM hN hA hB
      have hw3 : IntKind.i64.wrap (N - M) = N - M := IntWalk.i64_in _ (by omega)
      generalize sumTo D (k + 1) = X at *
      generalize sumTo E (k + 1) = Y at *
      have hcz : wr.cell? ⟨w2.heap.size, k, none⟩ = some ((arr (mmT D E k))[k]?.getD undef) := by
        rw [h7.cell k]
        have : k < (arr (mmT D E k)).size := by rw [arr_size, mmT_len]; omega
        simp [this]
      have hfz : wr.frozen? ⟨w2.heap.size, k, none⟩ = false := h7.free k
      generalize ((arr (mmT D E k))[k]?.getD undef) = old at *
      go_wp2_with fail
      go_still (by kernel_rfl)
      replace hbel : Below w.heap.size w wr.drew := hbel.trans ((Dr.n wr 1).below _)
      replace h4 : Blk wr.drew (w.heap.size + 2) 40 (arr (List.replicate 16 0)) := h4
      replace h7 : Blk wr.drew w2.heap.size 40 (arr (mmT D E k)) := h7
      replace hcz : wr.drew.cell? ⟨w2.heap.size, k, none⟩ = some old := hcz
      replace hfz : wr.drew.frozen? ⟨w2.heap.size, k, none⟩ = false := hfz
      replace ho1 := ho1.drew
      replace ho2 := ho2.drew
      clear hc1 hc2
      go_wp2_with fail
      go_roundw
      case rel =>
        refine ⟨k + 1, by omega, by go_num, by rw [HN.out], ?_⟩
        have e := h7.set k (.int .i64 (N - M))
        rw [arr_set, HS.out] at e
        exact ⟨hbel.setCell (by show w.heap.size ≤ w2.heap.size; omega) _, h4.off (by show w.heap.size + 2 ≠ w2.heap.size; omega) _, e, ho1.off (fun g hg => by have := ho1.lt g hg; show g ≠ w2.heap.size; omega) _, ho2.off (fun g hg => by have := ho2.lt g hg; show g ≠ w2.heap.size; omega) _⟩
      case measure => simp [intOf]; omega
    · obtain rfl : k = 16 := by omega
      have HN := Lib.hid (mmT_end D E)
      have hi2 : (Try.prog.info? 40).map (·.size) = some (arr (mmT D E 16)).size := by rw [arr_size, mmT_len]; exact T_info35
      have hszz : (arr (mmT D E 16)).size = (arr (List.replicate 16 0)).size := by rw [arr_size, arr_size, mmT_len]; rfl
      go_wp2_with (first | (refine wpList_load_row rfl 40 (.tmp 7) rfl w2.heap.size rfl 40 (arr (mmT D E 16)) (0, 0) _ h7 Try.underlying40 rfl hi2 ?_) | (refine wpList_store_row rfl 40 (.tmp 4) (.tmp 34) rfl (w.heap.size + 2) rfl (arr (mmT D E 16)) rfl 40 _ h4 hi2 hszz (arr_one _) ?_))
      refine bodyPost_ret (results_cell_row rfl _ _ (w.heap.size + 2) 40 (arr (mmT D E 16)) (0, 0) _ rfl h4.row Try.underlying40 rfl hi2) rfl ?_
      exact ⟨by rw [HN.out], below_setRow' hbel (by omega) _⟩
end Go.Proofs.Ytlgglbgdopmkpaa
