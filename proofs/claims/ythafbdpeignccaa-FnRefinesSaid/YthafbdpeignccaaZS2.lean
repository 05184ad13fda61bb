/-
  Walks of the program: first sums, the meet of two diagrams. Walks of the program: dominance, meets and joins. Walks of the program: dominance asked; meets and joins.
-/
import Derived.Test.YthafbdpeignccaaZR1
import Derived.Test.YthafbdpeignccaaZR2
import Derived.Test.YthafbdpeignccaaZR3
import Derived.Test.YthafbdpeignccaaZR4
import Derived.Test.YthafbdpeignccaaZR5
import Derived.Test.YthafbdpeignccaaZR6
import Derived.Test.YthafbdpeignccaaZR7
import Derived.Test.YthafbdpeignccaaZR8
import Derived.Test.YthafbdpeignccaaZR9
import Derived.Test.YthafbdpeignccaaZR10
import Derived.Test.YthafbdpeignccaaZS1
import Derived.StillTactics
namespace Go.Proofs.Ythafbdpeignccaa
open Go.RowKit NP
set_option maxRecDepth 8000
set_option linter.unusedVariables false
set_option linter.unusedSimpArgs false
def fsT (D : List Int) (k : Nat) : List Int := (List.range 16).map fun j => if j < k then sumTo D (j + 1) else 0
theorem fsT_len (D : List Int) (k : Nat) : (fsT D k).length = 16 := by simp [fsT]
theorem fsT_get (D : List Int) (k j : Nat) (h : j < (fsT D k).length) : (fsT D k)[j] = if j < k then sumTo D (j + 1) else 0 := by simp [fsT]
theorem fsT_zero (D : List Int) : fsT D 0 = List.replicate 16 0 := by simp [fsT]; rfl
theorem fsT_set (D : List Int) (k : Nat) : (fsT D k).set k (sumTo D (k + 1)) = fsT D (k + 1) := by
  apply List.ext_getElem
  · rw [List.length_set, fsT_len, fsT_len]
  · intro q h1 h2
    by_cases e : k = q
    · subst e
      rw [List.getElem_set_self, fsT_get, if_pos (by omega)]
    · rw [List.getElem_set_ne e, fsT_get, fsT_get]
      (repeat' split) <;> first | rfl | omega
/-- all sums of the first are small -/
def tame (D : List Int) : Prop := D.length = 16 ∧ (∀ k, 0 ≤ sumTo D k ∧ sumTo D k ≤ 1000) ∧ ∀ k, 0 ≤ D.getD k 0 ∧ D.getD k 0 ≤ 1000

set_option maxHeartbeats 1000000 in
theorem firstSums_any (a : Option Addr) (c B : Nat) (D : List Int) (w : World) (h : Rd w B a (ints D)) (hB : B ≤ w.heap.size) (hD : tame D) :
    Calls Try.prog 125 #[.slice a 16 c] w fun e w' => ∃ a', e = .returned (.slice a' 16 16) ∧ Own w' w.heap.size w'.heap.size 3 (.slice a' 16 16) (ints (fsT D 16)) ∧ Below w.heap.size w w' := by
  obtain ⟨i0, hi, hz0, hz1, hz2⟩ := T_int'
  have hmk := run_make_ints (P := Try.prog) 22 3 i0 Try.underlying22 hi hz0 hz1 hz2 16 (by omega)
  have hmk2 : ∀ w : World, (Instr.makeSlice 22 (.int .i64 16) (.int .i64 16)).run Try.prog w = .ok (.slice (some ⟨w.heap.size, 0, none⟩) 16 16) (w.alloc (.cells (arr (List.replicate 16 0)) 3)) := hmk
  have hl16 : 16 ≤ D.length := by rw [hD.1]; omega
  have HD := Lib.hid hD
  clear hD
  go_enter Try.func125, Try.ntmps125
  go_wp2_with fail
  go_loopw [4, 12] (fun vs vi wr => ∃ k : Nat, k ≤ 16 ∧ vi = .int .i64 k ∧ vs = .int .i64 (sumTo D k) ∧ Below w.heap.size w wr ∧ Blk wr w.heap.size 3 (arr (fsT D k))) (fun _ vi _ => 20 - (intOf vi).toNat)
  case atStart =>
    refine ⟨0, Nat.zero_le _, rfl, rfl, (Below.refl _ _).alloc (Nat.le_refl _) _, ?_⟩
    rw [fsT_zero]
    exact Blk.new w _ _
  case round =>
    obtain ⟨k, hk, rfl, rfl, hbel, hblk⟩ := hrel
    by_cases hlt : k < 16
    · have hkD : k < D.length := by omega
      have hlt' : (k : Int) < 16 := by omega
      obtain ⟨b1, o1, rfl, _, hc1⟩ := ((h.more hB).below hbel).at_ hkD
      have h1 := (HD.out.2.1 k)
      have h2 := (HD.out.2.1 (k + 1))
      rw [sumTo, getD_lt hkD] at h2
      have HS : Hid ((fsT D k).set k (sumTo D k + D[k]) = fsT D (k + 1)) := Lib.hid (by rw [← fsT_set, sumTo, getD_lt hkD])
      have HX : Hid (D.getD k 0 = D[k]) := Lib.hid (getD_lt hkD)
      have hcz : wr.cell? ⟨w.heap.size, k, none⟩ = some ((arr (fsT D k))[k]?.getD undef) := by
        rw [hblk.cell k]
        have : k < (arr (fsT D k)).size := by rw [arr_size, fsT_len]; omega
        simp [this]
      have hfz : wr.frozen? ⟨w.heap.size, k, none⟩ = false := hblk.free k
      generalize ((arr (fsT D k))[k]?.getD undef) = old at *
      generalize D[k] = x at *
      obtain ⟨A, hA⟩ : ∃ A, A = sumTo D k := ⟨_, rfl⟩
      rw [← hA] at h1 h2 HS ⊢
      have HA := Lib.hid hA
      clear hA
      have hw1 : IntKind.i64.wrap (A + x) = A + x := IntWalk.i64_in _ (by omega)
      go_wp2_with fail
      go_roundw
      case rel =>
        refine ⟨k + 1, by omega, by go_num, by rw [sumTo, HX.out, HA.out], hbel.setCell (by show w.heap.size ≤ w.heap.size; omega) _, ?_⟩
        have e := hblk.set k (.int .i64 (A + x))
        rw [arr_set, HS.out] at e
        exact e
      case measure => simp [intOf]; omega
    · obtain rfl : k = 16 := by omega
      have hown : Own wr w.heap.size wr.heap.size 3 (.slice (some ⟨w.heap.size, 0, none⟩) (ints (fsT D 16)).length (ints (fsT D 16)).length) (ints (fsT D 16)) := Blk.own (vs := ints (fsT D 16)) hblk (Nat.le_refl _) (by rw [List.length_map, fsT_len]; unfold maxLen; omega)
      rw [List.length_map, fsT_len] at hown
      have HO := Lib.hid hown
      clear hown
      go_wp2_with fail
      go_ret
      exact ⟨_, rfl, HO.out, hbel⟩
def mmT (D E : List Int) (k : Nat) : List Int := (List.range 16).map fun j => if j < k then mi D E j else 0
theorem mmT_len (D E : List Int) (k : Nat) : (mmT D E k).length = 16 := by simp [mmT]
theorem mmT_get (D E : List Int) (k j : Nat) (h : j < (mmT D E k).length) : (mmT D E k)[j] = if j < k then mi D E j else 0 := by simp [mmT]
theorem mmT_zero (D E : List Int) : mmT D E 0 = List.replicate 16 0 := by simp [mmT]; rfl
theorem mmT_set (D E : List Int) (k : Nat) : (mmT D E k).set k (mi D E k) = mmT D E (k + 1) := by
  apply List.ext_getElem
  · rw [List.length_set, mmT_len, mmT_len]
  · intro q h1 h2
    by_cases e : k = q
    · subst e
      rw [List.getElem_set_self, mmT_get, if_pos (by omega)]
    · rw [List.getElem_set_ne e, mmT_get, mmT_get]
      (repeat' split) <;> first | rfl | omega
theorem mmT_end (D E : List Int) : mmT D E 16 = (List.range 16).map (mi D E) := by
  unfold mmT
  exact List.map_congr_left fun j hj => if_pos (by simpa using hj)

set_option maxHeartbeats 2000000 in
theorem dmeet_any (D E : List Int) (hD : tame D) (hE : tame E) (w : World) :
    Calls Try.prog 123 #[.agg (arr D), .agg (arr E)] w fun e w' => e = .returned (.agg (arr ((List.range 16).map (mi D E)))) ∧ Below w.heap.size w w' := by
  obtain ⟨wA, hwA⟩ : ∃ wA, wA = ((w.alloc (.cells (arr D) 59)).alloc (.cells (arr E) 59)).alloc (.cells (#[.int .i64 0, .int .i64 0, .int .i64 0, .int .i64 0, .int .i64 0, .int .i64 0, .int .i64 0, .int .i64 0, .int .i64 0, .int .i64 0, .int .i64 0, .int .i64 0, .int .i64 0, .int .i64 0, .int .i64 0, .int .i64 0]) 59) := ⟨_, rfl⟩
  have hA2 : Blk wA w.heap.size 59 (arr D) := by rw [hwA]; exact ((Blk.new w 59 (arr D)).alloc _).alloc _
  have hA3 : Blk wA (w.heap.size + 1) 59 (arr E) := by
    rw [hwA]
    have e := (Blk.new (w.alloc (.cells (arr D) 59)) 59 (arr E)).alloc (.cells (arr (List.replicate 16 0)) 59)
    rw [World.size_alloc] at e
    exact e
  have hA4 : Blk wA (w.heap.size + 2) 59 (arr (List.replicate 16 0)) := by
    rw [hwA]
    have e := Blk.new ((w.alloc (.cells (arr D) 59)).alloc (.cells (arr E) 59)) 59 (arr (List.replicate 16 0))
    rw [World.size_alloc, World.size_alloc] at e
    exact e
  have hAb : Below w.heap.size w wA := by rw [hwA]; exact (((Below.refl _ _).alloc (Nat.le_refl _) _).alloc (by simp) _).alloc (by simp; omega) _
  have hAs : wA.heap.size = w.heap.size + 3 := by rw [hwA]; simp
  have hR2 : Rd wA wA.heap.size (some ⟨w.heap.size, 0, none⟩) (ints D) := fun _ => ⟨w.heap.size, 0, rfl, by omega, fun k v hv => by rw [Nat.zero_add, hA2.cell k]; simpa [arr] using hv⟩
  have hR3 : Rd wA wA.heap.size (some ⟨w.heap.size + 1, 0, none⟩) (ints E) := fun _ => ⟨w.heap.size + 1, 0, rfl, by omega, fun k v hv => by rw [Nat.zero_add, hA3.cell k]; simpa [arr] using hv⟩
  have HD := Lib.hid hD
  have HE := Lib.hid hE
  clear hD hE
  go_enter Try.func123, Try.ntmps123
  go_wp2_with fail
  rw [← hwA]
  clear hwA
  refine wp_region_held_drew (S := (fun w' => Below wA.heap.size wA w')) (by kernel_rfl) ((Dr.n wA 1).below _) (fun hHeld => ?_)
  refine wpAnyH_take (i := 0) (v := (.slice (some ⟨w.heap.size, 0, none⟩) 16 16)) (by simp only [List.getElem?_toArray, List.getElem?_cons_succ, List.getElem?_cons_zero]; exact rfl) (by kernel_rfl) (by kernel_rfl) (by kernel_rfl) (by intro _ _ _ h; exact h) (Or.inl ⟨by kernel_rfl, by intro w hSw; go_simp⟩) (by assumption) ?_
  simp only [Act.put, List.setIfInBounds_toArray, List.set_cons_zero, List.set_cons_succ, List.toList_toArray]
  refine wpAnyH_take (i := 2) (v := (.slice (some ⟨w.heap.size + 1, 0, none⟩) 16 16)) (by simp only [List.getElem?_toArray, List.getElem?_cons_succ, List.getElem?_cons_zero]; exact rfl) (by kernel_rfl) (by kernel_rfl) (by kernel_rfl) (by intro _ _ _ h; exact h) (Or.inl ⟨by kernel_rfl, by intro w hSw; go_simp⟩) (by assumption) ?_
  simp only [Act.put, List.setIfInBounds_toArray, List.set_cons_zero, List.set_cons_succ, List.toList_toArray]
  refine wpAnyH_ready (rs := [1]) (by kernel_rfl) (by simp) ?_
  refine AllReadyH.cons (o := _) (by simp only [List.getElem?_toArray, List.getElem?_cons_succ, List.getElem?_cons_zero]; exact rfl) (fun K hK => ?_) AllReadyH.nil
  rw [if_pos (by rfl)]
  go_simp
  go_at_call 125
  refine (firstSums_any _ _ wA.heap.size D _ (hR2.below hHeld) hHeld.size HD.out).mono ?_
  rintro e w1 ⟨a1, rfl, ho1, hbx⟩
  refine hK.out _ _ (hHeld.trans (hbx.mono hHeld.size)) (fun hb1 => ?_)
  clear hK K
  try simp only [Act.put, List.setIfInBounds_toArray, List.set_cons_zero, List.set_cons_succ, List.toList_toArray]
  refine wpAnyH_ready (rs := [3]) (by kernel_rfl) (by simp) ?_
  refine AllReadyH.cons (o := _) (by simp only [List.getElem?_toArray, List.getElem?_cons_succ, List.getElem?_cons_zero]; exact rfl) (fun K hK => ?_) AllReadyH.nil
  rw [if_pos (by rfl)]
  go_simp
  go_at_call 125
  refine (firstSums_any _ _ wA.heap.size E _ (hR3.below hb1) hb1.size HE.out).mono ?_
  rintro e w2 ⟨a2, rfl, ho2, hb2⟩
  refine hK.out _ _ (hb1.trans (hb2.mono hb1.size)) (fun hb3 => ?_)
  clear hK K
  try simp only [Act.put, List.setIfInBounds_toArray, List.set_cons_zero, List.set_cons_succ, List.toList_toArray]
  refine wpAnyH_take (i := 4) (v := (.slice a1 16 16)) (by simp only [List.getElem?_toArray, List.getElem?_cons_succ, List.getElem?_cons_zero]; exact rfl) (by kernel_rfl) (by kernel_rfl) (by kernel_rfl) (by intro _ _ _ h; exact h) (Or.inl ⟨by kernel_rfl, by intro w hSw; go_simp⟩) (by assumption) ?_
  simp only [Act.put, List.setIfInBounds_toArray, List.set_cons_zero, List.set_cons_succ, List.toList_toArray]
  refine wpAnyH_take (i := 5) (v := (.slice a2 16 16)) (by simp only [List.getElem?_toArray, List.getElem?_cons_succ, List.getElem?_cons_zero]; exact rfl) (by kernel_rfl) (by kernel_rfl) (by kernel_rfl) (by intro _ _ _ h; exact h) (Or.inl ⟨by kernel_rfl, by intro w hSw; go_simp⟩) (by assumption) ?_
  simp only [Act.put, List.setIfInBounds_toArray, List.set_cons_zero, List.set_cons_succ, List.toList_toArray]
  refine wpAnyH_done (by kernel_rfl) ?_ _
  try simp only [Act.put, List.setIfInBounds_toArray, List.set_cons_zero, List.set_cons_succ]
  have ho1' := ho1.below (hb2.mono ho1.le)
  have g1 : Own w2 w.heap.size w2.heap.size 3 (.slice a1 16 16) (ints (fsT D 16)) := (ho1'.more).lower (by have := hHeld.size; omega)
  have g2 : Own w2 w.heap.size w2.heap.size 3 (.slice a2 16 16) (ints (fsT E 16)) := ho2.lower (by have := hb1.size; omega)
  have g4 : Blk w2 (w.heap.size + 2) 59 (arr (List.replicate 16 0)) := hA4.below hb3 (by omega)
  have hBw : Below w.heap.size w w2 := hAb.trans (hb3.mono hAb.size)
  have hsz : w.heap.size + 3 ≤ w2.heap.size := by have := hb3.size; omega
  clear ho1 ho1' ho2 hb1 hb2 hb3 hbx hHeld hA2 hA3 hA4 hR2 hR3 hAb hAs
  go_wp2_with fail
  go_loopw [8, 15] (fun vb vi wr => ∃ k : Nat, k ≤ 16 ∧ vi = .int .i64 k ∧ vb = .int .i64 (mf D E k) ∧ Below w.heap.size w wr ∧ Blk wr (w.heap.size + 2) 59 (arr (List.replicate 16 0)) ∧ Blk wr w2.heap.size 59 (arr (mmT D E k)) ∧ Own wr w.heap.size w2.heap.size 3 (.slice a1 16 16) (ints (fsT D 16)) ∧ Own wr w.heap.size w2.heap.size 3 (.slice a2 16 16) (ints (fsT E 16))) (fun _ vi _ => 20 - (intOf vi).toNat)
  case atStart =>
    refine ⟨0, Nat.zero_le _, rfl, rfl, hBw.alloc hBw.size _, g4.alloc _, ?_, g1.alloc _, g2.alloc _⟩
    rw [mmT_zero]
    exact Blk.new w2 _ _
  case round =>
    obtain ⟨k, hk, rfl, rfl, hbel, h4, h7, ho1, ho2⟩ := hrel
    clear g1 g2 g4 hBw
    by_cases hlt : k < 16
    · have hlt' : (k : Int) < 16 := by omega
      obtain ⟨q1, rfl, hc1⟩ := ho1.read (k := k) (by rw [List.length_map, fsT_len]; exact hlt)
      obtain ⟨q2, rfl, hc2⟩ := ho2.read (k := k) (by rw [List.length_map, fsT_len]; exact hlt)
      rw [List.getElem_map, fsT_get, if_pos hlt] at hc1 hc2
      have hx := HD.out.2.1 (k + 1)
      have hy := HE.out.2.1 (k + 1)
      have hA := HD.out.2.1 k
      have hB := HE.out.2.1 k
      obtain ⟨M, hMM⟩ : ∃ M, M = mf D E k := ⟨_, rfl⟩
      obtain ⟨N, hNN⟩ : ∃ N, N = mf D E (k + 1) := ⟨_, rfl⟩
      have hM : M = min (sumTo D k) (sumTo E k) := hMM
      have hN : N = min (sumTo D (k + 1)) (sumTo E (k + 1)) := hNN
      have HS : Hid ((mmT D E k).set k (N - M) = mmT D E (k + 1)) := Lib.hid (by rw [← mmT_set, hNN, hMM]; rfl)
      rw [← hMM]
      have HN := Lib.hid hNN
      have hmn : (if sumTo E (k + 1) < sumTo D (k + 1) then sumTo E (k + 1) else sumTo D (k + 1)) = N := by rw [hN]; split <;> omega
      have hnb : 0 ≤ N ∧ N ≤ 1000 := by omega
      have hmb : 0 ≤ M ∧ M ≤ 1000 := by omega
      clear hMM hNN hM hN hA hB
      have hw3 : IntKind.i64.wrap (N - M) = N - M := IntWalk.i64_in _ (by omega)
      generalize sumTo D (k + 1) = X at *
      generalize sumTo E (k + 1) = Y at *
      have hcz : wr.cell? ⟨w2.heap.size, k, none⟩ = some ((arr (mmT D E k))[k]?.getD undef) := by
        rw [h7.cell k]
        have : k < (arr (mmT D E k)).size := by rw [arr_size, mmT_len]; omega
        simp [this]
      have hfz : wr.frozen? ⟨w2.heap.size, k, none⟩ = false := h7.free k
      generalize ((arr (mmT D E k))[k]?.getD undef) = old at *
      go_wp2_with fail
      go_still (by kernel_rfl)
      replace hbel : Below w.heap.size w wr.drew := hbel.trans ((Dr.n wr 1).below _)
      replace h4 : Blk wr.drew (w.heap.size + 2) 59 (arr (List.replicate 16 0)) := h4
      replace h7 : Blk wr.drew w2.heap.size 59 (arr (mmT D E k)) := h7
      replace hcz : wr.drew.cell? ⟨w2.heap.size, k, none⟩ = some old := hcz
      replace hfz : wr.drew.frozen? ⟨w2.heap.size, k, none⟩ = false := hfz
      replace ho1 := ho1.drew
      replace ho2 := ho2.drew
      clear hc1 hc2
      go_wp2_with fail
      go_roundw
      case rel =>
        refine ⟨k + 1, by omega, by go_num, by rw [HN.out], ?_⟩
        have e := h7.set k (.int .i64 (N - M))
        rw [arr_set, HS.out] at e
        exact ⟨hbel.setCell (by show w.heap.size ≤ w2.heap.size; omega) _, h4.off (by show w.heap.size + 2 ≠ w2.heap.size; omega) _, e, ho1.off (fun g hg => by have := ho1.lt g hg; show g ≠ w2.heap.size; omega) _, ho2.off (fun g hg => by have := ho2.lt g hg; show g ≠ w2.heap.size; omega) _⟩
      case measure => simp [intOf]; omega
    · obtain rfl : k = 16 := by omega
      have HN := Lib.hid (mmT_end D E)
      have hi2 : (Try.prog.info? 59).map (·.size) = some (arr (mmT D E 16)).size := by rw [arr_size, mmT_len]; exact T_info35
      have hszz : (arr (mmT D E 16)).size = (arr (List.replicate 16 0)).size := by rw [arr_size, arr_size, mmT_len]; rfl
      go_wp2_with (first | (refine wpList_load_row rfl 59 (.tmp 7) rfl w2.heap.size rfl 59 (arr (mmT D E 16)) (0, 0) _ h7 Try.underlying59 rfl hi2 ?_) | (refine wpList_store_row rfl 59 (.tmp 4) (.tmp 34) rfl (w.heap.size + 2) rfl (arr (mmT D E 16)) rfl 59 _ h4 hi2 hszz (arr_one _) ?_))
      refine bodyPost_ret (results_cell_row rfl _ _ (w.heap.size + 2) 59 (arr (mmT D E 16)) (0, 0) _ rfl h4.row Try.underlying59 rfl hi2) rfl ?_
      exact ⟨by rw [HN.out], below_setRow' hbel (by omega) _⟩
end Go.Proofs.Ythafbdpeignccaa
namespace Go.Proofs.Ythafbdpeignccaa
open Go.RowKit NP
set_option maxRecDepth 8000
set_option linter.unusedVariables false
set_option linter.unusedSimpArgs false
theorem sumTo_pad {P : List Int} (h : P.length ≤ 16) (k : Nat) : sumTo (pad P) k = sumTo P k := by
  induction k with
  | zero => rfl
  | succ k ih => rw [sumTo, sumTo, ih, pad_getD h]
theorem mi_pad {P Q : List Int} (hp : P.length ≤ 16) (hq : Q.length ≤ 16) : mi (pad P) (pad Q) = mi P Q := by
  funext i; unfold mi mf; rw [sumTo_pad hp, sumTo_pad hq, sumTo_pad hp, sumTo_pad hq]
theorem map_mi {P Q : List Int} (hp : valid P = true) (hq : valid Q = true) : (List.range 16).map (mi (pad P) (pad Q)) = pad (NP.mt P Q) := by
  rw [mi_pad (valid_bd hp).2.2.2 (valid_bd hq).2.2.2, pad_mt hp hq]
theorem tame_pad {P : List Int} (hp : valid P = true) : tame (pad P) := by
  have hl := (valid_bd hp).2.2.2
  refine ⟨pad_len hl, fun k => ?_, fun k => ?_⟩
  · rw [sumTo_pad hl]; have := sumTo_bd hp k; omega
  · rw [pad_getD hl]; have := getD_nn hp k; omega
theorem conj_cells {P : List Int} (hp : valid P = true) : acc (pad P) 16 0 = pad (conj P) := (acc_end (pad P) (pad_len (valid_bd hp).2.2.2)).trans (conj_pad hp)
theorem results_cell_mid {P : Program} {fn : Func} {p1 : Tmp} {ty : TypeId} (h : fn.results = #[.cell p1 ty]) (tmps : Array Value) (w : World) (g1 : Nat) (c1 : List Value) (d : TypeDesc)
    (hp1 : tmps.getD p1 undef = .pointer (some ⟨g1, 0, none⟩)) (h1 : w.rangeAt g1 0 c1)
    (hu : P.underlying ty = some d) (hd : d.isRow = true) (hi1 : (P.info? ty).map (·.size) = some c1.length) :
    (results fn tmps).run P w = .ok (.agg c1.toArray) w := by
  have hp1' : tmps[p1]?.getD undef = .pointer (some ⟨g1, 0, none⟩) := by simpa using hp1
  simp [results, h, hp1', asAddr, run_loadVar_mid w g1 0 ty c1 d h1 hu hd hi1]
theorem keep_rrt {w0 w w' : World} {g1 g2 g3 n : Nat} {c1 c2 : List Value} (h : w.rangeAt g1 0 c1 ∧ w.rangeAt g2 0 c2 ∧ w.there g3 0 n ∧ Below w0.heap.size w0 w) (hb : Below w.heap.size w w') :
    w'.rangeAt g1 0 c1 ∧ w'.rangeAt g2 0 c2 ∧ w'.there g3 0 n ∧ Below w0.heap.size w0 w' :=
  ⟨range_below h.1 hb, range_below h.2.1 hb, there_below h.2.2.1 hb, h.2.2.2.trans (hb.mono h.2.2.2.size)⟩
theorem keep_rr2 {w0 w w' : World} {g1 g2 : Nat} {c1 c2 : List Value} (h : w.rangeAt g1 0 c1 ∧ w.rangeAt g2 0 c2 ∧ Below w0.heap.size w0 w) (hb : Below w.heap.size w w') :
    w'.rangeAt g1 0 c1 ∧ w'.rangeAt g2 0 c2 ∧ Below w0.heap.size w0 w' :=
  ⟨range_below h.1 hb, range_below h.2.1 hb, h.2.2.trans (hb.mono h.2.2.size)⟩
theorem T_guardB2 : Try.prog.eqGuardType Try.prog.depth 99 = false := by kernel_rfl
theorem rows_two (w : World) (P Q : List Int) : Blk ((w.alloc (.cells (arr P) 59)).alloc (.cells (arr Q) 59)) w.heap.size 59 (arr P) ∧ Blk ((w.alloc (.cells (arr P) 59)).alloc (.cells (arr Q) 59)) (w.heap.size + 1) 59 (arr Q) ∧ Below w.heap.size w ((w.alloc (.cells (arr P) 59)).alloc (.cells (arr Q) 59)) := by
  refine ⟨(Blk.new w 59 (arr P)).alloc _, ?_, ((Below.refl _ _).alloc (Nat.le_refl _) _).alloc (by simp) _⟩
  have e := Blk.new (w.alloc (.cells (arr P) 59)) 59 (arr Q)
  rw [World.size_alloc] at e
  exact e

set_option maxHeartbeats 4000000 in
theorem byDominance_any (P Q : List Int) (hp : valid P = true) (hq : valid Q = true) (w : World) :
    Calls Try.prog 113 #[.agg (arr (pad P)), .agg (arr (pad Q))] w fun e w' => e = .returned (.agg (arr (pad (NP.mt P Q) ++ pad (jn P Q)))) ∧ Below w.heap.size w w' := by
  have hpl := (valid_bd hp).2.2.2
  have hql := (valid_bd hq).2.2.2
  have hlP := pad_len hpl
  have hlQ := pad_len hql
  have hiP := info_diag (pad P) hlP
  have hiQ := info_diag (pad Q) hlQ
  have hu := Try.underlying59
  have hm1 := valid_mt hp hq
  have hm2 := valid_mt (valid_conj hp) (valid_conj hq)
  have hj := valid_jn hp hq
  have hlM := pad_len (valid_bd hm1).2.2.2
  have hlJ := pad_len (valid_bd hj).2.2.2
  have HTP := Lib.hid (tame_pad hp)
  have HTQ := Lib.hid (tame_pad hq)
  have HTP2 := Lib.hid (tame_pad (valid_conj hp))
  have HTQ2 := Lib.hid (tame_pad (valid_conj hq))
  have HM1 := Lib.hid (map_mi hp hq)
  have HM2 := Lib.hid (map_mi (valid_conj hp) (valid_conj hq))
  have HC1 := Lib.hid (conj_cells hp)
  have HC2 := Lib.hid (conj_cells hq)
  have HC3 : Hid (acc (pad (NP.mt (conj P) (conj Q))) 16 0 = pad (jn P Q)) := Lib.hid (conj_cells hm2)
  have HN1 := Lib.hid (pad_nonneg hp)
  have HN2 := Lib.hid (pad_nonneg hq)
  have HN3 := Lib.hid (pad_nonneg hm2)
  have HL1 := Lib.hid hlP
  have HL2 := Lib.hid hlQ
  have HL3 := Lib.hid (pad_len (valid_bd hm2).2.2.2)
  have hbld : ∀ w : World, (Instr.build 99 #[(0, .agg (arr (pad (NP.mt P Q)))), (1, .agg (arr (pad (jn P Q))))]).run Try.prog w = .ok (.agg (arr (pad (NP.mt P Q) ++ pad (jn P Q)))) w := T_build _ _ hlM hlJ
  have hlX : (ints (pad (NP.mt P Q) ++ pad (jn P Q))).length = 32 := by rw [List.length_map, List.length_append, hlM, hlJ]
  have hzX : (ints (pad (NP.mt P Q) ++ pad (jn P Q))).toArray.size = 32 := by rw [List.size_toArray]; exact hlX
  have h1X := ints_one (pad (NP.mt P Q) ++ pad (jn P Q))
  have hiX : (Try.prog.info? 99).map (·.size) = some (ints (pad (NP.mt P Q) ++ pad (jn P Q))).length := by rw [hlX]; exact T_info_bounds
  obtain ⟨hb2, hb3, hal⟩ := rows_two w (pad P) (pad Q)
  obtain ⟨wB, hwB⟩ : ∃ wB, wB = ((w.alloc (.cells (arr (pad P)) 59)).alloc (.cells (arr (pad Q)) 59)) := ⟨_, rfl⟩
  rw [← hwB] at hb2 hb3 hal
  have hwBs : wB.heap.size = w.heap.size + 2 := by rw [hwB]; simp
  have ht4 : (wB.alloc (.cells (arr (List.replicate 32 0)) 99)).there (w.heap.size + 2) 0 32 := by
    have e := (Blk.new wB 99 (arr (List.replicate 32 0))).there
    rw [hwBs] at e
    exact e
  have hr2 : (wB.alloc (.cells (arr (List.replicate 32 0)) 99)).rangeAt w.heap.size 0 (ints (pad P)) := Blk.range (hb2.alloc _)
  have hr3 : (wB.alloc (.cells (arr (List.replicate 32 0)) 99)).rangeAt (w.heap.size + 1) 0 (ints (pad Q)) := Blk.range (hb3.alloc _)
  have hal2 := hal.alloc hal.size (.cells (arr (List.replicate 32 0)) 99)
  rw [hwB] at ht4 hr2 hr3 hal2
  have na : w.heap.size ≠ w.heap.size + 2 := by omega
  have nb : w.heap.size + 1 ≠ w.heap.size + 2 := by omega
  clear hp hq hpl hql hlP hlQ hm1 hm2 hj hlM hlJ hb2 hb3 hal hwB hwBs
  go_enter Try.func113, Try.ntmps113
  go_wp2_with fail
  refine wp_region_held_drew (S := (fun w' => w'.rangeAt w.heap.size 0 (ints (pad P)) ∧ w'.rangeAt (w.heap.size + 1) 0 (ints (pad Q)) ∧ w'.there (w.heap.size + 2) 0 32 ∧ Below w.heap.size w w')) (by kernel_rfl) ⟨hr2, hr3, ht4, hal2.trans ((Dr.n _ 1).below _)⟩ (fun hHeld => ?_)
  refine wpAnyH_take (i := 0) (v := _) (by simp only [List.getElem?_toArray, List.getElem?_cons_succ, List.getElem?_cons_zero]; exact rfl) (by kernel_rfl) (by kernel_rfl) (by kernel_rfl) (by intro _ _ _ h; exact h) (yieldsIf_load_mid (by kernel_rfl) _ _ rfl w.heap.size 0 rfl (ints (pad P)) _ (fun _ hw => hw.1) hu rfl hiP) (by assumption) ?_
  simp only [Act.put, List.setIfInBounds_toArray, List.set_cons_zero, List.set_cons_succ, List.toList_toArray]
  refine wpAnyH_take (i := 1) (v := _) (by simp only [List.getElem?_toArray, List.getElem?_cons_succ, List.getElem?_cons_zero]; exact rfl) (by kernel_rfl) (by kernel_rfl) (by kernel_rfl) (by intro _ _ _ h; exact h) (yieldsIf_load_mid (by kernel_rfl) _ _ rfl (w.heap.size + 1) 0 rfl (ints (pad Q)) _ (fun _ hw => hw.2.1) hu rfl hiQ) (by assumption) ?_
  simp only [Act.put, List.setIfInBounds_toArray, List.set_cons_zero, List.set_cons_succ, List.toList_toArray]
  refine wpAnyH_take (i := 3) (v := _) (by simp only [List.getElem?_toArray, List.getElem?_cons_succ, List.getElem?_cons_zero]; exact rfl) (by kernel_rfl) (by kernel_rfl) (by kernel_rfl) (by intro _ _ _ h; exact h) (yieldsIf_load_mid (by kernel_rfl) _ _ rfl w.heap.size 0 rfl (ints (pad P)) _ (fun _ hw => hw.1) hu rfl hiP) (by assumption) ?_
  simp only [Act.put, List.setIfInBounds_toArray, List.set_cons_zero, List.set_cons_succ, List.toList_toArray]
  refine wpAnyH_take (i := 5) (v := _) (by simp only [List.getElem?_toArray, List.getElem?_cons_succ, List.getElem?_cons_zero]; exact rfl) (by kernel_rfl) (by kernel_rfl) (by kernel_rfl) (by intro _ _ _ h; exact h) (yieldsIf_load_mid (by kernel_rfl) _ _ rfl (w.heap.size + 1) 0 rfl (ints (pad Q)) _ (fun _ hw => hw.2.1) hu rfl hiQ) (by assumption) ?_
  simp only [Act.put, List.setIfInBounds_toArray, List.set_cons_zero, List.set_cons_succ, List.toList_toArray]
  refine wpAnyH_ready (rs := [2]) (by kernel_rfl) (by simp) ?_
  refine AllReadyH.cons (o := _) (by simp only [List.getElem?_toArray, List.getElem?_cons_succ, List.getElem?_cons_zero]; exact rfl) (fun K hK => ?_) AllReadyH.nil
  rw [if_pos (by rfl)]
  go_simp
  go_at_call 123
  refine (dmeet_any (pad P) (pad Q) HTP.out HTQ.out _).mono ?_
  rintro e w5 ⟨rfl, hbd⟩
  rw [HM1.out]
  refine hK.out _ _ (keep_rrt hHeld hbd) (fun h2 => ?_)
  clear hK K
  try simp only [Act.put, List.setIfInBounds_toArray, List.set_cons_zero, List.set_cons_succ, List.toList_toArray]
  refine wpAnyH_ready (rs := [4]) (by kernel_rfl) (by simp) ?_
  refine AllReadyH.cons (o := _) (by simp only [List.getElem?_toArray, List.getElem?_cons_succ, List.getElem?_cons_zero]; exact rfl) (fun K hK => ?_) AllReadyH.nil
  rw [if_pos (by rfl)]
  go_simp
  go_at_call 77
  refine (conjugate_any (pad P) HL1.out HN1.out _).mono ?_
  rintro e w6 ⟨rfl, hbd⟩
  rw [HC1.out]
  refine hK.out _ _ (keep_rrt h2 hbd) (fun h3 => ?_)
  clear hK K
  try simp only [Act.put, List.setIfInBounds_toArray, List.set_cons_zero, List.set_cons_succ, List.toList_toArray]
  refine wpAnyH_ready (rs := [6]) (by kernel_rfl) (by simp) ?_
  refine AllReadyH.cons (o := _) (by simp only [List.getElem?_toArray, List.getElem?_cons_succ, List.getElem?_cons_zero]; exact rfl) (fun K hK => ?_) AllReadyH.nil
  rw [if_pos (by rfl)]
  go_simp
  go_at_call 77
  refine (conjugate_any (pad Q) HL2.out HN2.out _).mono ?_
  rintro e w7 ⟨rfl, hbd⟩
  rw [HC2.out]
  refine hK.out _ _ (keep_rrt h3 hbd) (fun h4 => ?_)
  clear hK K
  try simp only [Act.put, List.setIfInBounds_toArray, List.set_cons_zero, List.set_cons_succ, List.toList_toArray]
  refine wpAnyH_ready (rs := [7]) (by kernel_rfl) (by simp) ?_
  refine AllReadyH.cons (o := _) (by simp only [List.getElem?_toArray, List.getElem?_cons_succ, List.getElem?_cons_zero]; exact rfl) (fun K hK => ?_) AllReadyH.nil
  rw [if_pos (by rfl)]
  go_simp
  go_at_call 123
  refine (dmeet_any (pad (conj P)) (pad (conj Q)) HTP2.out HTQ2.out _).mono ?_
  rintro e w8 ⟨rfl, hbd⟩
  rw [HM2.out]
  refine hK.out _ _ (keep_rrt h4 hbd) (fun h5 => ?_)
  clear hK K
  try simp only [Act.put, List.setIfInBounds_toArray, List.set_cons_zero, List.set_cons_succ, List.toList_toArray]
  refine wpAnyH_ready (rs := [8]) (by kernel_rfl) (by simp) ?_
  refine AllReadyH.cons (o := _) (by simp only [List.getElem?_toArray, List.getElem?_cons_succ, List.getElem?_cons_zero]; exact rfl) (fun K hK => ?_) AllReadyH.nil
  rw [if_pos (by rfl)]
  go_simp
  go_at_call 77
  refine (conjugate_any (pad (NP.mt (conj P) (conj Q))) HL3.out HN3.out _).mono ?_
  rintro e w9 ⟨rfl, hbd⟩
  rw [HC3.out]
  refine hK.out _ _ (keep_rrt h5 hbd) (fun h6 => ?_)
  clear hK K
  try simp only [Act.put, List.setIfInBounds_toArray, List.set_cons_zero, List.set_cons_succ, List.toList_toArray]
  refine wpAnyH_take (i := 9) (v := (.agg (arr (pad (NP.mt P Q) ++ pad (jn P Q))))) (by simp only [List.getElem?_toArray, List.getElem?_cons_succ, List.getElem?_cons_zero]; exact rfl) (by kernel_rfl) (by kernel_rfl) (by kernel_rfl) (by intro _ _ _ h; exact h) (Or.inl ⟨by kernel_rfl, by intro w hSw; exact exec_build _ _ _ rfl rfl rfl (hbld w)⟩) (by assumption) ?_
  simp only [Act.put, List.setIfInBounds_toArray, List.set_cons_zero, List.set_cons_succ, List.toList_toArray]
  refine wpAnyH_ready (rs := [10]) (by kernel_rfl) (by simp) ?_
  refine AllReadyH.cons (o := _) (by simp only [List.getElem?_toArray, List.getElem?_cons_succ, List.getElem?_cons_zero]; exact rfl) (fun K hK => ?_) AllReadyH.nil
  rw [if_pos (by rfl)]
  refine wp_store_mid _ _ _ rfl (w.heap.size + 2) 0 (ints (pad (NP.mt P Q) ++ pad (jn P Q))).toArray rfl rfl (by rw [hzX]; exact h6.2.2.1) (by rw [hzX]; exact T_info_bounds) (all_oneCell_toArray h1X) ?_
  simp only [Act.put, List.setIfInBounds_toArray, List.set_cons_zero, List.set_cons_succ, List.toList_toArray]
  refine hK.out _ _ ⟨World.rangeAt_setCells_apart h6.1 _ _ _ (.inl na), World.rangeAt_setCells_apart h6.2.1 _ _ _ (.inl nb), World.there_setCells h6.2.2.1 _ _ _, below_setCells (by omega) _ _ _ _ h6.2.2.2⟩ (fun hU => ?_)
  clear hK K
  try simp only [Act.put, List.setIfInBounds_toArray, List.set_cons_zero, List.set_cons_succ, List.toList_toArray]
  refine wpAnyH_done (by kernel_rfl) ?_ _
  try simp only [Act.put, List.setIfInBounds_toArray, List.set_cons_zero, List.set_cons_succ]
  have rX := World.rangeAt_setCells_same _ (w.heap.size + 2) 0 (ints (pad (NP.mt P Q) ++ pad (jn P Q))) (by rw [hlX]; exact h6.2.2.1)
  go_wp2_with fail
  refine bodyPost_ret (results_cell_mid rfl _ _ (w.heap.size + 2) (ints (pad (NP.mt P Q) ++ pad (jn P Q))) _ rfl rX Try.underlying99 rfl hiX) rfl ?_
  exact ⟨rfl, hU.2.2.2⟩
end Go.Proofs.Ythafbdpeignccaa
namespace Go.Proofs.Ythafbdpeignccaa
open Go.RowKit NP
set_option maxRecDepth 8000
set_option linter.unusedVariables false
set_option linter.unusedSimpArgs false

set_option maxHeartbeats 2000000 in
theorem ddominates_any (P Q : List Int) (hp : valid P = true) (hq : valid Q = true) (w : World) :
    Calls Try.prog 84 #[.agg (arr (pad P)), .agg (arr (pad Q))] w fun e w' => e = .returned (.bool (dom P Q)) ∧ Below w.heap.size w w' := by
  have hpl := (valid_bd hp).2.2.2
  have hql := (valid_bd hq).2.2.2
  have hlP := pad_len hpl
  have hlQ := pad_len hql
  have hiP := info_diag (pad P) hlP
  have hiQ := info_diag (pad Q) hlQ
  have hu := Try.underlying59
  have hm1 := valid_mt hp hq
  have hj := valid_jn hp hq
  have hlM := pad_len (valid_bd hm1).2.2.2
  have hlJ := pad_len (valid_bd hj).2.2.2
  obtain ⟨hb2, hb3, hal⟩ := rows_two w (pad P) (pad Q)
  have hr2 : ((w.alloc (.cells (arr (pad P)) 59)).alloc (.cells (arr (pad Q)) 59)).rangeAt w.heap.size 0 (ints (pad P)) := Blk.range hb2
  have hr3 : ((w.alloc (.cells (arr (pad P)) 59)).alloc (.cells (arr (pad Q)) 59)).rangeAt (w.heap.size + 1) 0 (ints (pad Q)) := Blk.range hb3
  have hbld : ∀ w : World, (Instr.build 99 #[(0, .agg (ints (pad Q)).toArray), (1, .agg (ints (pad P)).toArray)]).run Try.prog w = .ok (.agg (arr (pad Q ++ pad P))) w := T_build (pad Q) (pad P) hlQ hlP
  have heql : ∀ w : World, (Op.equalIn 10000 99 (.agg (arr (pad (NP.mt P Q) ++ pad (jn P Q)))) (.agg (arr (pad Q ++ pad P)))).run Try.prog w = .ok (dom P Q) w := fun w => by
    rw [T_eqb _ _ _ _ hlM hlJ hlQ hlP, dom_bounds hp hq]
    congr 2
    · rw [decide_eq_decide, NP.pad_inj hm1 hq]
    · rw [decide_eq_decide, NP.pad_inj hj hp]
  have hgt := T_guardB2
  have HP := Lib.hid hp
  have HQ := Lib.hid hq
  clear hp hq hpl hql hlP hlQ hb2 hb3 hm1 hj hlM hlJ
  go_enter Try.func84, Try.ntmps84
  go_wp2_with fail
  refine wp_region_held_drew (S := (fun w' => w'.rangeAt w.heap.size 0 (ints (pad P)) ∧ w'.rangeAt (w.heap.size + 1) 0 (ints (pad Q)) ∧ Below w.heap.size w w')) (by kernel_rfl) ⟨hr2, hr3, hal.trans ((Dr.n _ 1).below _)⟩ (fun hHeld => ?_)
  refine wpAnyH_take (i := 0) (v := _) (by simp only [List.getElem?_toArray, List.getElem?_cons_succ, List.getElem?_cons_zero]; exact rfl) (by kernel_rfl) (by kernel_rfl) (by kernel_rfl) (by intro _ _ _ h; exact h) (yieldsIf_load_mid (by kernel_rfl) _ _ rfl w.heap.size 0 rfl (ints (pad P)) _ (fun _ hw => hw.1) hu rfl hiP) (by assumption) ?_
  simp only [Act.put, List.setIfInBounds_toArray, List.set_cons_zero, List.set_cons_succ, List.toList_toArray]
  refine wpAnyH_take (i := 1) (v := _) (by simp only [List.getElem?_toArray, List.getElem?_cons_succ, List.getElem?_cons_zero]; exact rfl) (by kernel_rfl) (by kernel_rfl) (by kernel_rfl) (by intro _ _ _ h; exact h) (yieldsIf_load_mid (by kernel_rfl) _ _ rfl (w.heap.size + 1) 0 rfl (ints (pad Q)) _ (fun _ hw => hw.2.1) hu rfl hiQ) (by assumption) ?_
  simp only [Act.put, List.setIfInBounds_toArray, List.set_cons_zero, List.set_cons_succ, List.toList_toArray]
  refine wpAnyH_take (i := 3) (v := _) (by simp only [List.getElem?_toArray, List.getElem?_cons_succ, List.getElem?_cons_zero]; exact rfl) (by kernel_rfl) (by kernel_rfl) (by kernel_rfl) (by intro _ _ _ h; exact h) (yieldsIf_load_mid (by kernel_rfl) _ _ rfl (w.heap.size + 1) 0 rfl (ints (pad Q)) _ (fun _ hw => hw.2.1) hu rfl hiQ) (by assumption) ?_
  simp only [Act.put, List.setIfInBounds_toArray, List.set_cons_zero, List.set_cons_succ, List.toList_toArray]
  refine wpAnyH_take (i := 4) (v := _) (by simp only [List.getElem?_toArray, List.getElem?_cons_succ, List.getElem?_cons_zero]; exact rfl) (by kernel_rfl) (by kernel_rfl) (by kernel_rfl) (by intro _ _ _ h; exact h) (yieldsIf_load_mid (by kernel_rfl) _ _ rfl w.heap.size 0 rfl (ints (pad P)) _ (fun _ hw => hw.1) hu rfl hiP) (by assumption) ?_
  simp only [Act.put, List.setIfInBounds_toArray, List.set_cons_zero, List.set_cons_succ, List.toList_toArray]
  refine wpAnyH_take (i := 5) (v := (.agg (arr (pad Q ++ pad P)))) (by simp only [List.getElem?_toArray, List.getElem?_cons_succ, List.getElem?_cons_zero]; exact rfl) (by kernel_rfl) (by kernel_rfl) (by kernel_rfl) (by intro _ _ _ h; exact h) (Or.inl ⟨by kernel_rfl, by intro w hSw; exact exec_build _ _ _ rfl rfl rfl (hbld w)⟩) (by assumption) ?_
  simp only [Act.put, List.setIfInBounds_toArray, List.set_cons_zero, List.set_cons_succ, List.toList_toArray]
  refine wpAnyH_ready (rs := [2]) (by kernel_rfl) (by simp) ?_
  refine AllReadyH.cons (o := _) (by simp only [List.getElem?_toArray, List.getElem?_cons_succ, List.getElem?_cons_zero]; exact rfl) (fun K hK => ?_) AllReadyH.nil
  rw [if_pos (by rfl)]
  go_simp
  go_at_call 113
  refine (byDominance_any P Q HP.out HQ.out _).mono ?_
  rintro e w8 ⟨rfl, hbd⟩
  refine hK.out _ _ (keep_rr2 hHeld hbd) (fun hH => ?_)
  clear hK K
  try simp only [Act.put, List.setIfInBounds_toArray, List.set_cons_zero, List.set_cons_succ, List.toList_toArray]
  refine wpAnyH_take (i := 6) (v := (.bool (dom P Q))) (by simp only [List.getElem?_toArray, List.getElem?_cons_succ, List.getElem?_cons_zero]; exact rfl) (by kernel_rfl) (by kernel_rfl) (by kernel_rfl) (by intro _ _ _ h; exact h) (Or.inl ⟨by kernel_rfl, by intro w hSw; exact exec_eql _ _ _ _ rfl rfl rfl hgt (heql w)⟩) (by assumption) ?_
  simp only [Act.put, List.setIfInBounds_toArray, List.set_cons_zero, List.set_cons_succ, List.toList_toArray]
  refine wpAnyH_take (i := 7) (v := (.bool (dom P Q))) (by simp only [List.getElem?_toArray, List.getElem?_cons_succ, List.getElem?_cons_zero]; exact rfl) (by kernel_rfl) (by kernel_rfl) (by kernel_rfl) (by intro _ _ _ h; exact h) (Or.inl ⟨by kernel_rfl, by intro w hSw; go_simp⟩) (by assumption) ?_
  simp only [Act.put, List.setIfInBounds_toArray, List.set_cons_zero, List.set_cons_succ, List.toList_toArray]
  refine wpAnyH_done (by kernel_rfl) ?_ _
  try simp only [Act.put, List.setIfInBounds_toArray, List.set_cons_zero, List.set_cons_succ]
  go_wp2
  go_ret
  exact ⟨rfl, hH.2.2⟩

set_option maxHeartbeats 2000000 in
theorem iDominates_any (a b : Option Addr) (ca cb Ba Bb : Nat) (P Q : List Int) (w : World) (h : Rd w Ba a (ints P)) (hq : Rd w Bb b (ints Q)) (hBa : Ba ≤ w.heap.size) (hBb : Bb ≤ w.heap.size) (hl : P.length ≤ 4611686018427387904) (hlq : Q.length ≤ 4611686018427387904) :
    Calls Try.prog 41 #[.slice a P.length ca, .slice b Q.length cb] w fun e w' => e = .returned (.bool (dom P Q)) ∧ Below w.heap.size w w' := by
  have hiP : (Try.prog.info? 59).map (·.size) = some (arr (dg P)).size := by rw [arr_size, dg_len]; exact T_info35
  have hszP : (arr (dg P)).size = (arr (List.replicate 16 0)).size := by rw [arr_size, arr_size, dg_len]; rfl
  have hiQ : (Try.prog.info? 59).map (·.size) = some (arr (dg Q)).size := by rw [arr_size, dg_len]; exact T_info35
  have hszQ : (arr (dg Q)).size = (arr (List.replicate 16 0)).size := by rw [arr_size, arr_size, dg_len]; rfl
  cases hv : (valid P && valid Q) with
  | true =>
    have hp : valid P = true := by simp at hv; exact hv.1
    have hq2 : valid Q = true := by simp at hv; exact hv.2
    have HV := Lib.hid hv
    have HP := Lib.hid hp
    have HQ := Lib.hid hq2
    clear hv hp hq2
    go_enter Try.func41, Try.ntmps41
    go_wp2_with (first
      | ((with_reducible show wpList _ _ _ (Oper.mk _ (Op.load 59 (Operand.tmp 5)) _ _ _ _ :: _) _ _); refine wpList_load_row_g rfl 59 (.tmp 5) rfl w1.heap.size rfl 59 (arr (dg P)) (0, 0) _ k5 Try.underlying59 rfl hiP ?_)
      | ((with_reducible show wpList _ _ _ (Oper.mk _ (Op.load 59 (Operand.tmp 6)) _ _ _ _ :: _) _ _); refine wpList_load_row_g rfl 59 (.tmp 6) rfl (w1.heap.size + 1) rfl 59 (arr (dg Q)) (0, 0) _ k6 Try.underlying59 rfl hiQ ?_)
      | ((with_reducible show wpList _ _ _ (Oper.mk _ (Op.store 59 (Operand.tmp 5) (Operand.tmp 12)) _ _ _ _ :: _) _ _); refine wpList_store_row rfl 59 (.tmp 5) (.tmp 12) rfl w1.heap.size rfl (arr (dg P)) rfl 59 (arr (List.replicate 16 0)) ((Blk.new w1 _ _).alloc _) hiP hszP (arr_one _) ?_)
      | ((with_reducible show wpList _ _ _ (Oper.mk _ (Op.store 59 (Operand.tmp 6) (Operand.tmp 13)) _ _ _ _ :: _) _ _); refine wpList_store_row rfl 59 (.tmp 6) (.tmp 13) rfl (w1.heap.size + 1) rfl (arr (dg Q)) rfl 59 (arr (List.replicate 16 0)) (first_row w1 _ _ _) hiQ hszQ (arr_one _) ?_)
      | (go_at_call 84; rw [dg_yes HP.out, dg_yes HQ.out]; refine (ddominates_any P Q HP.out HQ.out _).mono ?_; rintro e w2 ⟨rfl, hb2⟩)
      | (go_at_call 81; refine (twoDiagrams_any _ _ _ _ Ba Bb P Q _ h hq hBa hBb hl hlq).mono ?_; rintro e w1 ⟨rfl, hb1⟩; rw [HV.out]; obtain ⟨k5, k6, kb⟩ := two_rows w1 59 (arr (List.replicate 16 0)) (arr (dg P)) (arr (dg Q))))
    go_ret
    rw [← dg_yes HP.out, ← dg_yes HQ.out] at hb2
    have hb3 := hb1.trans (kb.mono hb1.size)
    exact ⟨rfl, hb3.trans (hb2.mono hb3.size)⟩
  | false =>
    have HI : Hid (dom P Q = false) := Lib.hid (by unfold dom; rw [hv]; rfl)
    have HV := Lib.hid hv
    clear hv
    go_enter Try.func41, Try.ntmps41
    go_wp2_with (first
      | ((with_reducible show wpList _ _ _ (Oper.mk _ (Op.store 59 (Operand.tmp 5) (Operand.tmp 12)) _ _ _ _ :: _) _ _); refine wpList_store_row rfl 59 (.tmp 5) (.tmp 12) rfl w1.heap.size rfl (arr (dg P)) rfl 59 (arr (List.replicate 16 0)) ((Blk.new w1 _ _).alloc _) hiP hszP (arr_one _) ?_)
      | ((with_reducible show wpList _ _ _ (Oper.mk _ (Op.store 59 (Operand.tmp 6) (Operand.tmp 13)) _ _ _ _ :: _) _ _); refine wpList_store_row rfl 59 (.tmp 6) (.tmp 13) rfl (w1.heap.size + 1) rfl (arr (dg Q)) rfl 59 (arr (List.replicate 16 0)) (first_row w1 _ _ _) hiQ hszQ (arr_one _) ?_)
      | (go_at_call 81; refine (twoDiagrams_any _ _ _ _ Ba Bb P Q _ h hq hBa hBb hl hlq).mono ?_; rintro e w1 ⟨rfl, hb1⟩; rw [HV.out]; obtain ⟨k5, k6, kb⟩ := two_rows w1 59 (arr (List.replicate 16 0)) (arr (dg P)) (arr (dg Q))))
    go_ret
    exact ⟨ret_bool HI.out.symm, hb1.trans (kb.mono hb1.size)⟩
end Go.Proofs.Ythafbdpeignccaa
