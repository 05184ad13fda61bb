/-
  Walks: arms and legs (Frobenius), of the program and of the model.
-/
import Derived.Test.YtdembcibnngmhaaW12
import Derived.Test.YtdembcibnngmhaaM18
namespace Go.Proofs.Ytdembcibnngmhaa
open Go.RowKit NP
set_option linter.unusedVariables false
set_option linter.unusedSimpArgs false

theorem durD_le (D : List Int) : durD D ≤ 16 := (ff_spec (fun (k : Nat) => decide ((k : Int) < D.getD k 0)) 16).1
theorem arms_fill {D : List Int} {n k : Nat} (hk : k < n) : (armsTo D k ++ List.replicate (n - k) 0).set k (D.getD k 0 - ((k : Int) + 1)) = armsTo D (k + 1) ++ List.replicate (n - (k + 1)) 0 := by
  rw [show n - k = (n - (k + 1)) + 1 by omega, List.replicate_succ, List.set_append_right _ _ (by rw [armsTo_len]; omega), armsTo_len, Nat.sub_self, List.set_cons_zero, armsTo_succ]
  simp

theorem Own.aside {w w1 : World} {lo hi : Nat} {e : TypeId} {v v2 : Value} {vs2 : List Value} (h2 : Own w lo hi e v2 vs2) {o : Obj} (hg : (w.alloc o).grownBy w1 v.ownBlock) (hne : ∀ g, v.ownBlock = some g → v2.ownBlock = some g → False) : Own w1 lo hi e v2 vs2 :=
  (h2.alloc o).grown hg (by
    cases h : v2.ownBlock with
    | none => exact .inl rfl
    | some g => exact .inr fun e => hne g e.symm h)
theorem apart_push {w : World} {lo hi n : Nat} {e : TypeId} {v v' v2 : Value} {vs2 : List Value} (h2 : Own w lo hi e v2 vs2) (hne : ∀ g, v.ownBlock = some g → v2.ownBlock = some g → False) (hat : v'.ownBlock = v.ownBlock ∨ v'.ownBlock = some n) (hn : hi ≤ n) : ∀ g, v'.ownBlock = some g → v2.ownBlock = some g → False := fun g h h' => by
  rcases hat with hat | hat
  · exact hne g (hat ▸ h) h'
  · rw [hat] at h
    injection h with h
    have := h2.lt g h'
    omega

theorem arms_any (D : List Int) (hD : D.length = 16) (h0 : ∀ k (h : k < D.length), 0 ≤ D[k] ∧ D[k] ≤ 16) (w : World) :
    Calls Try.prog 57 #[.agg (arr D)] w fun e w' => ∃ a', e = .returned (.slice a' (durD D) (durD D)) ∧ Own w' w.heap.size w'.heap.size 3 (.slice a' (durD D) (durD D)) (ints (armsTo D (durD D))) ∧ Below w.heap.size w w' := by
  have hd16 : 16 ≤ D.length := by omega
  have hn := durD_le D
  have hi16 : (Try.prog.info? 46).map (·.size) = some (arr D).size := by rw [arr_size, hD]; exact T_info35
  obtain ⟨i0, hi, hz0, hz1, hz2⟩ := T_int'
  have hmk := run_make_ints 22 3 i0 Try.underlying22 hi hz0 hz1 hz2 (durD D) (by omega)
  have hb := Blk.new w 46 (arr D)
  have H0 := Lib.hid h0
  have HD := Lib.hid hD
  clear hD h0
  go_enter Try.func57, Try.ntmps57
  go_wp2_with (first
    | (refine wpList_load_row rfl 46 (.tmp 1) rfl w.heap.size rfl 46 (arr D) (0, 0) _ hb Try.underlying46 rfl hi16 ?_)
    | (go_at_call 69; refine (durfee_any D HD.out _).mono ?_; rintro e w1 ⟨rfl, hb1⟩; have hbk := hb.below hb1 (by simp); have hbel : Below w.heap.size w w1 := ((Below.refl _ _).alloc (Nat.le_refl _) _).trans (hb1.mono (by simp)); have hs1 : w.heap.size + 1 ≤ w1.heap.size := (by have := hb1.size; simp at this; omega); clear hb1))
  obtain ⟨n, hnd⟩ : ∃ n, n = durD D := ⟨_, rfl⟩
  rw [← hnd] at hn hmk ⊢
  have HND := Lib.hid hnd
  clear hnd
  go_loopw [4, 10] (fun vp vi wr => ∃ k : Nat, k ≤ n ∧ vi = .int .i64 k ∧ Below w.heap.size w wr ∧ Blk wr w.heap.size 46 (arr D) ∧ Blk wr w1.heap.size 3 (arr (armsTo D k ++ List.replicate (n - k) 0))) (fun _ vi _ => n - (intOf vi).toNat)
  case atStart => exact ⟨0, Nat.zero_le _, rfl, hbel.alloc hbel.size _, hbk.alloc _, Blk.new w1 3 (arr (List.replicate n 0))⟩
  case round =>
    obtain ⟨k, hk, rfl, hbr, hbD, hbA⟩ := hrel
    clear hbel hbk hb
    by_cases hlt : k < n
    · have hk16 : k < 16 := by omega
      have hlt' : (k : Int) < (n : Int) := by omega
      have hk16' : (k : Int) < 16 := by omega
      have hkD : k < D.length := by omega
      have hc1 : wr.cell? ⟨w.heap.size, k, none⟩ = some (.int .i64 (D.getD k 0)) := by rw [hbD.cell k, arr_get D k hkD, getD_lt hkD]
      have hAl : k < (armsTo D k ++ List.replicate (n - k) 0).length := by simp [armsTo_len]; omega
      have hc2 : wr.cell? ⟨w1.heap.size, k, none⟩ = some (.int .i64 ((armsTo D k ++ List.replicate (n - k) 0)[k])) := by rw [hbA.cell k, arr_get _ k hAl]
      have hf2 : wr.frozen? ⟨w1.heap.size, k, none⟩ = false := hbA.free k
      have hx := H0.out k hkD
      rw [← getD_lt hkD] at hx
      have HS := Lib.hid (arms_fill (D := D) hlt)
      generalize (armsTo D k ++ List.replicate (n - k) 0)[k] = z at hc2
      generalize D.getD k 0 = x at *
      clear hAl hkD
      go_wp2
      go_roundw
      case rel =>
        refine ⟨k + 1, by omega, by go_num, hbr.setCell (by show w.heap.size ≤ w1.heap.size; omega) _, hbD.off (by show w.heap.size ≠ w1.heap.size; omega) _, ?_⟩
        have e := hbA.set k (.int .i64 (x - ((k : Int) + 1)))
        rw [arr_set, HS.out] at e
        exact e
      case measure => simp [intOf]; omega
    · obtain rfl : k = n := by omega
      go_wp2
      go_ret
      have e := hbA
      rw [Nat.sub_self, List.replicate_zero, List.append_nil] at e
      have e2 := Blk.own (lo := w.heap.size) (vs := ints (armsTo D k)) e (by omega) (by rw [List.length_map, armsTo_len]; unfold maxLen; omega)
      rw [List.length_map, armsTo_len] at e2
      have hh := HND.out
      subst hh
      exact ⟨_, rfl, e2, hbr⟩

set_option maxHeartbeats 1000000 in
theorem iFrobeniusOf_any (a : Option Addr) (c B : Nat) (L : List Int) (w : World) (h : Rd w B a (ints L)) (hB : B ≤ w.heap.size) (hl : L.length ≤ 4611686018427387904) :
    Calls Try.prog 31 #[.slice a L.length c] w fun e w' => ∃ a1 c1 a2 c2 md, e = .returned (.tuple #[.slice a1 (froAF L).length c1, .slice a2 (froBF L).length c2]) ∧ Own w' w.heap.size md 3 (.slice a1 (froAF L).length c1) (ints (froAF L)) ∧ Own w' md w'.heap.size 3 (.slice a2 (froBF L).length c2) (ints (froBF L)) ∧ w.heap.size ≤ md ∧ md ≤ w'.heap.size ∧ Below w.heap.size w w' := by
  have hiD : (Try.prog.info? 46).map (·.size) = some (arr (dg L)).size := by rw [arr_size, dg_len]; exact T_info35
  have hsz : (arr (dg L)).size = (arr (List.replicate 16 0)).size := by rw [arr_size, arr_size, dg_len]; rfl
  have hiL : (Try.prog.info? 46).map (·.size) = some (ints (dg L)).length := by rw [List.length_map, dg_len]; exact T_info35
  have hu := Try.underlying46
  cases hv : valid L with
  | true =>
    have hl16 := (valid_bd hv).2.2.2
    have hca := (acc_end (pad L) (pad_len hl16)).trans (conj_pad hv)
    have hn1 : durD (dg L) = durS L := by rw [dg_yes hv]; exact durD_pad hv
    have hn2 : durD (acc (dg L) 16 0) = durS L := by rw [dg_yes hv, hca, durD_pad (valid_conj hv), durS_conj hv]
    have hA : armsTo (dg L) (durS L) = froA L := armsTo_congr (fun i => by rw [dg_yes hv]; exact pad_getD hl16 i) _
    have hC : armsTo (acc (dg L) 16 0) (durS L) = froB L := armsTo_congr (fun i => by rw [dg_yes hv, hca]; exact pad_getD (valid_bd (valid_conj hv)).2.2.2 i) _
    have hp1 : ∀ k (h : k < (dg L).length), 0 ≤ (dg L)[k] ∧ (dg L)[k] ≤ 16 := by rw [dg_yes hv]; exact pad_nonneg hv
    have hp2 : ∀ k (h : k < (acc (dg L) 16 0).length), 0 ≤ (acc (dg L) 16 0)[k] ∧ (acc (dg L) 16 0)[k] ≤ 16 := by rw [dg_yes hv, hca]; exact pad_nonneg (valid_conj hv)
    have HN1 := Lib.hid hn1
    have HN2 := Lib.hid hn2
    have HA := Lib.hid hA
    have HC := Lib.hid hC
    have HP1 := Lib.hid hp1
    have HP2 := Lib.hid hp2
    have HV := Lib.hid hv
    have hF1 := froAF_yes hv
    have hF2 := froBF_yes hv
    have hq1 : (froA L).length = durS L := armsTo_len _ _
    have hq2 : (froB L).length = durS L := armsTo_len _ _
    rw [hF1, hF2, hq1, hq2]
    clear hl16 hca hn1 hn2 hA hC hp1 hp2 hv hF1 hF2 hq1 hq2
    go_enter Try.func31, Try.ntmps31
    go_wp2_with (first
      | (refine wpList_store_row rfl 46 (.tmp 4) (.tmp 9) rfl w1.heap.size rfl (arr (dg L)) rfl 46 (arr (List.replicate 16 0)) (Blk.new w1 _ _) hiD hsz (arr_one _) ?_)
      | (go_at_call 41; refine (diagramOf_any _ _ B L _ h hB hl).mono ?_; rintro e w1 ⟨rfl, hb1⟩; rw [HV.out]))
    have hB2 := (Blk.new w1 46 (arr (List.replicate 16 0))).row (vs := arr (dg L))
    have hbel2 : Below w.heap.size w ((w1.alloc (.cells (arr (List.replicate 16 0)) 46)).setRow w1.heap.size (arr (dg L))) := below_setRow' (hb1.alloc hb1.size _) (by exact hb1.size) _
    obtain ⟨w2, hw2⟩ : ∃ w2, w2 = (w1.alloc (.cells (#[.int .i64 0, .int .i64 0, .int .i64 0, .int .i64 0, .int .i64 0, .int .i64 0, .int .i64 0, .int .i64 0, .int .i64 0, .int .i64 0, .int .i64 0, .int .i64 0, .int .i64 0, .int .i64 0, .int .i64 0, .int .i64 0]) 46)).setRow w1.heap.size (arr (dg L)) := ⟨_, rfl⟩
    rw [← hw2]
    replace hB2 : Blk w2 w1.heap.size 46 (arr (dg L)) := hw2 ▸ hB2
    replace hbel2 : Below w.heap.size w w2 := hw2 ▸ hbel2
    clear hw2
    have hr := hB2.range
    clear hB2 hb1
    refine wp_region_held_drew (S := (fun w' => w'.rangeAt w1.heap.size 0 (ints (dg L)) ∧ Below w.heap.size w w')) (by kernel_rfl) ⟨hr, hbel2.trans ((Dr.n w2 1).below _)⟩ (fun hHeld => ?_)
    refine wpAnyH_take (i := 0) (v := _) (by simp only [List.getElem?_toArray, List.getElem?_cons_succ, List.getElem?_cons_zero]; exact rfl) (by kernel_rfl) (by kernel_rfl) (by kernel_rfl) (by intro _ _ _ h; exact h) (yieldsIf_load_mid (by kernel_rfl) _ _ rfl w1.heap.size 0 rfl (ints (dg L)) _ (fun _ hw => hw.1) hu rfl hiL) (by assumption) ?_
    simp only [Act.put, List.setIfInBounds_toArray, List.set_cons_zero, List.set_cons_succ, List.toList_toArray]
    refine wpAnyH_take (i := 2) (v := _) (by simp only [List.getElem?_toArray, List.getElem?_cons_succ, List.getElem?_cons_zero]; exact rfl) (by kernel_rfl) (by kernel_rfl) (by kernel_rfl) (by intro _ _ _ h; exact h) (yieldsIf_load_mid (by kernel_rfl) _ _ rfl w1.heap.size 0 rfl (ints (dg L)) _ (fun _ hw => hw.1) hu rfl hiL) (by assumption) ?_
    simp only [Act.put, List.setIfInBounds_toArray, List.set_cons_zero, List.set_cons_succ, List.toList_toArray]
    refine wpAnyH_ready (rs := [1]) (by kernel_rfl) (by simp) ?_
    refine AllReadyH.cons (o := _) (by simp only [List.getElem?_toArray, List.getElem?_cons_succ, List.getElem?_cons_zero]; exact rfl) (fun K hK => ?_) AllReadyH.nil
    rw [if_pos (by rfl)]
    go_simp
    go_at_call 57
    refine (arms_any (dg L) (dg_len L) HP1.out _).mono ?_
    rintro e w3 ⟨a3, rfl, ho3, hbd⟩
    refine hK.out _ _ ⟨range_below hHeld.1 hbd, hHeld.2.trans (hbd.mono hHeld.2.size)⟩ (fun hH3 => ?_)
    clear hK K
    try simp only [Act.put, List.setIfInBounds_toArray, List.set_cons_zero, List.set_cons_succ, List.toList_toArray]
    refine wpAnyH_ready (rs := [3]) (by kernel_rfl) (by simp) ?_
    refine AllReadyH.cons (o := _) (by simp only [List.getElem?_toArray, List.getElem?_cons_succ, List.getElem?_cons_zero]; exact rfl) (fun K hK => ?_) AllReadyH.nil
    rw [if_pos (by rfl)]
    go_simp
    go_at_call 58
    refine (conjugate_any (dg L) (dg_len L) HP1.out _).mono ?_
    rintro e w4 ⟨rfl, hbd4⟩
    refine hK.out _ _ ⟨range_below hH3.1 hbd4, hH3.2.trans (hbd4.mono hH3.2.size)⟩ (fun hH4 => ?_)
    clear hK K
    try simp only [Act.put, List.setIfInBounds_toArray, List.set_cons_zero, List.set_cons_succ, List.toList_toArray]
    refine wpAnyH_ready (rs := [4]) (by kernel_rfl) (by simp) ?_
    refine AllReadyH.cons (o := _) (by simp only [List.getElem?_toArray, List.getElem?_cons_succ, List.getElem?_cons_zero]; exact rfl) (fun K hK => ?_) AllReadyH.nil
    rw [if_pos (by rfl)]
    go_simp
    go_at_call 57
    refine (arms_any (acc (dg L) 16 0) (acc_len _ _ _) HP2.out _).mono ?_
    rintro e w5 ⟨a5, rfl, ho5, hbd5⟩
    refine hK.out _ _ ⟨range_below hH4.1 hbd5, hH4.2.trans (hbd5.mono hH4.2.size)⟩ (fun hH5 => ?_)
    clear hK K
    try simp only [Act.put, List.setIfInBounds_toArray, List.set_cons_zero, List.set_cons_succ, List.toList_toArray]
    refine wpAnyH_take (i := 5) (v := (.slice a3 (durD (dg L)) (durD (dg L)))) (by simp only [List.getElem?_toArray, List.getElem?_cons_succ, List.getElem?_cons_zero]; exact rfl) (by kernel_rfl) (by kernel_rfl) (by kernel_rfl) (by intro _ _ _ h; exact h) (Or.inl ⟨by kernel_rfl, by intro w hSw; go_simp⟩) (by assumption) ?_
    simp only [Act.put, List.setIfInBounds_toArray, List.set_cons_zero, List.set_cons_succ, List.toList_toArray]
    refine wpAnyH_take (i := 6) (v := (.slice a5 (durD (acc (dg L) 16 0)) (durD (acc (dg L) 16 0)))) (by simp only [List.getElem?_toArray, List.getElem?_cons_succ, List.getElem?_cons_zero]; exact rfl) (by kernel_rfl) (by kernel_rfl) (by kernel_rfl) (by intro _ _ _ h; exact h) (Or.inl ⟨by kernel_rfl, by intro w hSw; go_simp⟩) (by assumption) ?_
    simp only [Act.put, List.setIfInBounds_toArray, List.set_cons_zero, List.set_cons_succ, List.toList_toArray]
    refine wpAnyH_done (by kernel_rfl) ?_ _
    try simp only [Act.put, List.setIfInBounds_toArray, List.set_cons_zero, List.set_cons_succ]
    go_wp2
    go_ret2
    have ho6 := (ho3.below (hbd4.mono ho3.le))
    have ho7 := ho6.below (hbd5.mono ho6.le)
    rw [HN1.out, HA.out] at ho7
    rw [HN2.out, HC.out] at ho5
    rw [HN1.out, HN2.out]
    exact ⟨a3, durS L, a5, durS L, w3.heap.size, rfl, ho7.lower (by have := hbel2.size; simpa using this), ho5.lower hbd4.size, hH3.2.size, Nat.le_trans hbd4.size hbd5.size, hH5.2⟩
  | false =>
    have HV := Lib.hid hv
    rw [froAF_no hv, froBF_no hv]
    clear hv
    go_enter Try.func31, Try.ntmps31
    go_wp2_with (first
      | (refine wpList_store_row rfl 46 (.tmp 4) (.tmp 9) rfl w1.heap.size rfl (arr (dg L)) rfl 46 (arr (List.replicate 16 0)) (Blk.new w1 _ _) hiD hsz (arr_one _) ?_)
      | (go_at_call 41; refine (diagramOf_any _ _ B L _ h hB hl).mono ?_; rintro e w1 ⟨rfl, hb1⟩; rw [HV.out]))
    go_ret2
    have hbz : Below w.heap.size w ((w1.alloc (.cells (arr (List.replicate 16 0)) 46)).setRow w1.heap.size (arr (dg L))) := below_setRow' (hb1.alloc hb1.size _) (by exact hb1.size) _
    exact ⟨none, 0, none, 0, _, rfl, Own.nil _ _ _, Own.nil _ _ _, hbz.size, Nat.le_refl _, hbz⟩

end Go.Proofs.Ytdembcibnngmhaa
