/-
  Walks: arms and legs (Frobenius), of the program and of the model.
-/
import Derived.Test.YtemkchihbnneeaaW12
import Derived.Test.YtemkchihbnneeaaM18
namespace Go.Proofs.Ytemkchihbnneeaa
open Go.RowKit NP
set_option linter.unusedVariables false
set_option linter.unusedSimpArgs false

theorem durD_le (D : List Int) : durD D ≤ 16 := (ff_spec (fun (k : Nat) => decide ((k : Int) < D.getD k 0)) 16).1
theorem arms_fill {D : List Int} {n k : Nat} (hk : k < n) : (armsTo D k ++ List.replicate (n - k) 0).set k (D.getD k 0 - ((k : Int) + 1)) = armsTo D (k + 1) ++ List.replicate (n - (k + 1)) 0 := by
  rw [show n - k = (n - (k + 1)) + 1 by omega, List.replicate_succ, List.set_append_right _ _ (by rw [armsTo_len]; omega), armsTo_len, Nat.sub_self, List.set_cons_zero, armsTo_succ]
  simp

theorem Own.aside {w w1 : World} {lo hi : Nat} {e : TypeId} {v v2 : Value} {vs2 : List Value} (h2 : Own w lo hi e v2 vs2) {o : Obj} (hg : (w.alloc o).grownBy w1 v.ownBlock) (hne : ∀ g, v.ownBlock = some g → v2.ownBlock = some g → False) : Own w1 lo hi e v2 vs2 :=
  (h2.alloc o).grown hg (by
    cases h : v2.ownBlock with
    | none => exact .inl rfl
    | some g => exact .inr fun e => hne g e.symm h)
theorem apart_push {w : World} {lo hi n : Nat} {e : TypeId} {v v' v2 : Value} {vs2 : List Value} (h2 : Own w lo hi e v2 vs2) (hne : ∀ g, v.ownBlock = some g → v2.ownBlock = some g → False) (hat : v'.ownBlock = v.ownBlock ∨ v'.ownBlock = some n) (hn : hi ≤ n) : ∀ g, v'.ownBlock = some g → v2.ownBlock = some g → False := fun g h h' => by
  rcases hat with hat | hat
  · exact hne g (hat ▸ h) h'
  · rw [hat] at h
    injection h with h
    have := h2.lt g h'
    omega

theorem arms_any (D : List Int) (hD : D.length = 16) (h0 : ∀ k (h : k < D.length), 0 ≤ D[k] ∧ D[k] ≤ 16) (w : World) :
    Calls Try.prog 56 #[.agg (arr D)] w fun e w' => ∃ a', e = .returned (.slice a' (durD D) (durD D)) ∧ Own w' w.heap.size w'.heap.size 3 (.slice a' (durD D) (durD D)) (ints (armsTo D (durD D))) ∧ Below w.heap.size w w' := by
  have hd16 : 16 ≤ D.length := by omega
  have hn := durD_le D
  have hi16 : (Try.prog.info? 44).map (·.size) = some (arr D).size := by rw [arr_size, hD]; exact T_info35
  obtain ⟨i0, hi, hz0, hz1, hz2⟩ := T_int'
  have hmk := run_make_ints 22 3 i0 Try.underlying22 hi hz0 hz1 hz2 (durD D) (by omega)
  have hb := Blk.new w 44 (arr D)
  have H0 := Lib.hid h0
  have HD := Lib.hid hD
  clear hD h0
  go_enter Try.func56, Try.ntmps56
  go_wp2_with (first
    | (refine wpList_load_row rfl 44 (.tmp 1) rfl w.heap.size rfl 44 (arr D) (0, 0) _ hb Try.underlying44 rfl hi16 ?_)
    | (go_at_call 63; refine (durfee_any D HD.out _).mono ?_; rintro e w1 ⟨rfl, hb1⟩; have hbk := hb.below hb1 (by simp); have hbel : Below w.heap.size w w1 := ((Below.refl _ _).alloc (Nat.le_refl _) _).trans (hb1.mono (by simp)); have hs1 : w.heap.size + 1 ≤ w1.heap.size := (by have := hb1.size; simp at this; omega); clear hb1))
  obtain ⟨n, hnd⟩ : ∃ n, n = durD D := ⟨_, rfl⟩
  rw [← hnd] at hn hmk ⊢
  have HND := Lib.hid hnd
  clear hnd
  go_loopw [4, 10] (fun vp vi wr => ∃ k : Nat, k ≤ n ∧ vi = .int .i64 k ∧ Below w.heap.size w wr ∧ Blk wr w.heap.size 44 (arr D) ∧ Blk wr w1.heap.size 3 (arr (armsTo D k ++ List.replicate (n - k) 0))) (fun _ vi _ => n - (intOf vi).toNat)
  case atStart => exact ⟨0, Nat.zero_le _, rfl, hbel.alloc hbel.size _, hbk.alloc _, Blk.new w1 3 (arr (List.replicate n 0))⟩
  case round =>
    obtain ⟨k, hk, rfl, hbr, hbD, hbA⟩ := hrel
    clear hbel hbk hb
    by_cases hlt : k < n
    · have hk16 : k < 16 := by omega
      have hlt' : (k : Int) < (n : Int) := by omega
      have hk16' : (k : Int) < 16 := by omega
      have hkD : k < D.length := by omega
      have hc1 : wr.cell? ⟨w.heap.size, k, none⟩ = some (.int .i64 (D.getD k 0)) := by rw [hbD.cell k, arr_get D k hkD, getD_lt hkD]
      have hAl : k < (armsTo D k ++ List.replicate (n - k) 0).length := by simp [armsTo_len]; omega
      have hc2 : wr.cell? ⟨w1.heap.size, k, none⟩ = some (.int .i64 ((armsTo D k ++ List.replicate (n - k) 0)[k])) := by rw [hbA.cell k, arr_get _ k hAl]
      have hf2 : wr.frozen? ⟨w1.heap.size, k, none⟩ = false := hbA.free k
      have hx := H0.out k hkD
      rw [← getD_lt hkD] at hx
      have HS := Lib.hid (arms_fill (D := D) hlt)
      generalize (armsTo D k ++ List.replicate (n - k) 0)[k] = z at hc2
      generalize D.getD k 0 = x at *
      clear hAl hkD
      go_wp2
      go_roundw
      case rel =>
        refine ⟨k + 1, by omega, by go_num, hbr.setCell (by show w.heap.size ≤ w1.heap.size; omega) _, hbD.off (by show w.heap.size ≠ w1.heap.size; omega) _, ?_⟩
        have e := hbA.set k (.int .i64 (x - ((k : Int) + 1)))
        rw [arr_set, HS.out] at e
        exact e
      case measure => simp [intOf]; omega
    · obtain rfl : k = n := by omega
      go_wp2
      go_ret
      have e := hbA
      rw [Nat.sub_self, List.replicate_zero, List.append_nil] at e
      have e2 := Blk.own (lo := w.heap.size) (vs := ints (armsTo D k)) e (by omega) (by rw [List.length_map, armsTo_len]; unfold maxLen; omega)
      rw [List.length_map, armsTo_len] at e2
      have hh := HND.out
      subst hh
      exact ⟨_, rfl, e2, hbr⟩

set_option maxHeartbeats 1000000 in
theorem iFrobeniusOf_any (a : Option Addr) (c B : Nat) (L : List Int) (w : World) (h : Rd w B a (ints L)) (hB : B ≤ w.heap.size) (hl : L.length ≤ 4611686018427387904) :
    Calls Try.prog 23 #[.slice a L.length c] w fun e w' => ∃ a1 c1 a2 c2 md, e = .returned (.tuple #[.slice a1 (froAF L).length c1, .slice a2 (froBF L).length c2]) ∧ Own w' w.heap.size md 3 (.slice a1 (froAF L).length c1) (ints (froAF L)) ∧ Own w' md w'.heap.size 3 (.slice a2 (froBF L).length c2) (ints (froBF L)) ∧ w.heap.size ≤ md ∧ md ≤ w'.heap.size ∧ Below w.heap.size w w' := by
  have hiD : (Try.prog.info? 44).map (·.size) = some (arr (dg L)).size := by rw [arr_size, dg_len]; exact T_info35
  have hsz : (arr (dg L)).size = (arr (List.replicate 16 0)).size := by rw [arr_size, arr_size, dg_len]; rfl
  have hiL : (Try.prog.info? 44).map (·.size) = some (ints (dg L)).length := by rw [List.length_map, dg_len]; exact T_info35
  have hu := Try.underlying44
  cases hv : valid L with
  | true =>
    have hl16 := (valid_bd hv).2.2.2
    have hca := (acc_end (pad L) (pad_len hl16)).trans (conj_pad hv)
    have hn1 : durD (dg L) = durS L := by rw [dg_yes hv]; exact durD_pad hv
    have hn2 : durD (acc (dg L) 16 0) = durS L := by rw [dg_yes hv, hca, durD_pad (valid_conj hv), durS_conj hv]
    have hA : armsTo (dg L) (durS L) = froA L := armsTo_congr (fun i => by rw [dg_yes hv]; exact pad_getD hl16 i) _
    have hC : armsTo (acc (dg L) 16 0) (durS L) = froB L := armsTo_congr (fun i => by rw [dg_yes hv, hca]; exact pad_getD (valid_bd (valid_conj hv)).2.2.2 i) _
    have hp1 : ∀ k (h : k < (dg L).length), 0 ≤ (dg L)[k] ∧ (dg L)[k] ≤ 16 := by rw [dg_yes hv]; exact pad_nonneg hv
    have hp2 : ∀ k (h : k < (acc (dg L) 16 0).length), 0 ≤ (acc (dg L) 16 0)[k] ∧ (acc (dg L) 16 0)[k] ≤ 16 := by rw [dg_yes hv, hca]; exact pad_nonneg (valid_conj hv)
    have HN1 := Lib.hid hn1
    have HN2 := Lib.hid hn2
    have HA := Lib.hid hA
    have HC := Lib.hid hC
    have HP1 := Lib.hid hp1
    have HP2 := Lib.hid hp2
    have HV := Lib.hid hv
    have hF1 := froAF_yes hv
    have hF2 := froBF_yes hv
    have hq1 : (froA L).length = durS L := armsTo_len _ _
    have hq2 : (froB L).length = durS L := armsTo_len _ _
    rw [hF1, hF2, hq1, hq2]
    clear hl16 hca hn1 hn2 hA hC hp1 hp2 hv hF1 hF2 hq1 hq2
    go_enter Try.func23, Try.ntmps23
    go_wp2_with (first
      | (refine wpList_store_row rfl 44 (.tmp 4) (.tmp 9) rfl w1.heap.size rfl (arr (dg L)) rfl 44 (arr (List.replicate 16 0)) (Blk.new w1 _ _) hiD hsz (arr_one _) ?_)
      | (go_at_call 55; refine (diagramOf_any _ _ B L _ h hB hl).mono ?_; rintro e w1 ⟨rfl, hb1⟩; rw [HV.out]))
    have hB2 := (Blk.new w1 44 (arr (List.replicate 16 0))).row (vs := arr (dg L))
    have hbel2 : Below w.heap.size w ((w1.alloc (.cells (arr (List.replicate 16 0)) 44)).setRow w1.heap.size (arr (dg L))) := below_setRow' (hb1.alloc hb1.size _) (by exact hb1.size) _
    obtain ⟨w2, hw2⟩ : ∃ w2, w2 = (w1.alloc (.cells (#[.int .i64 0, .int .i64 0, .int .i64 0, .int .i64 0, .int .i64 0, .int .i64 0, .int .i64 0, .int .i64 0, .int .i64 0, .int .i64 0, .int .i64 0, .int .i64 0, .int .i64 0, .int .i64 0, .int .i64 0, .int .i64 0]) 44)).setRow w1.heap.size (arr (dg L)) := ⟨_, rfl⟩
    rw [← hw2]
    replace hB2 : Blk w2 w1.heap.size 44 (arr (dg L)) := hw2 ▸ hB2
    replace hbel2 : Below w.heap.size w w2 := hw2 ▸ hbel2
    clear hw2
    have hr := hB2.range
    clear hB2 hb1
    refine wp_region_held_drew (S := (fun w' => w'.rangeAt w1.heap.size 0 (ints (dg L)) ∧ Below w.heap.size w w')) (by kernel_rfl) ⟨hr, hbel2.trans ((Dr.n w2 1).below _)⟩ (fun hHeld => ?_)
    refine wpAnyH_take (i := 0) (v := _) (by simp only [List.getElem?_toArray, List.getElem?_cons_succ, List.getElem?_cons_zero]; exact rfl) (by kernel_rfl) (by kernel_rfl) (by kernel_rfl) (by intro _ _ _ h; exact h) (yieldsIf_load_mid (by kernel_rfl) _ _ rfl w1.heap.size 0 rfl (ints (dg L)) _ (fun _ hw => hw.1) hu rfl hiL) (by assumption) ?_
    simp only [Act.put, List.setIfInBounds_toArray, List.set_cons_zero, List.set_cons_succ, List.toList_toArray]
    refine wpAnyH_take (i := 2) (v := _) (by simp only [List.getElem?_toArray, List.getElem?_cons_succ, List.getElem?_cons_zero]; exact rfl) (by kernel_rfl) (by kernel_rfl) (by kernel_rfl) (by intro _ _ _ h; exact h) (yieldsIf_load_mid (by kernel_rfl) _ _ rfl w1.heap.size 0 rfl (ints (dg L)) _ (fun _ hw => hw.1) hu rfl hiL) (by assumption) ?_
    simp only [Act.put, List.setIfInBounds_toArray, List.set_cons_zero, List.set_cons_succ, List.toList_toArray]
    refine wpAnyH_ready (rs := [1]) (by kernel_rfl) (by simp) ?_
    refine AllReadyH.cons (o := _) (by simp only [List.getElem?_toArray, List.getElem?_cons_succ, List.getElem?_cons_zero]; exact rfl) (fun K hK => ?_) AllReadyH.nil
    rw [if_pos (by rfl)]
    go_simp
    go_at_call 56
    refine (arms_any (dg L) (dg_len L) HP1.out _).mono ?_
    rintro e w3 ⟨a3, rfl, ho3, hbd⟩
    refine hK.out _ _ ⟨range_below hHeld.1 hbd, hHeld.2.trans (hbd.mono hHeld.2.size)⟩ (fun hH3 => ?_)
    clear hK K
    try simp only [Act.put, List.setIfInBounds_toArray, List.set_cons_zero, List.set_cons_succ, List.toList_toArray]
    refine wpAnyH_ready (rs := [3]) (by kernel_rfl) (by simp) ?_
    refine AllReadyH.cons (o := _) (by simp only [List.getElem?_toArray, List.getElem?_cons_succ, List.getElem?_cons_zero]; exact rfl) (fun K hK => ?_) AllReadyH.nil
    rw [if_pos (by rfl)]
    go_simp
    go_at_call 57
    refine (conjugate_any (dg L) (dg_len L) HP1.out _).mono ?_
    rintro e w4 ⟨rfl, hbd4⟩
    refine hK.out _ _ ⟨range_below hH3.1 hbd4, hH3.2.trans (hbd4.mono hH3.2.size)⟩ (fun hH4 => ?_)
    clear hK K
    try simp only [Act.put, List.setIfInBounds_toArray, List.set_cons_zero, List.set_cons_succ, List.toList_toArray]
    refine wpAnyH_ready (rs := [4]) (by kernel_rfl) (by simp) ?_
    refine AllReadyH.cons (o := _) (by simp only [List.getElem?_toArray, List.getElem?_cons_succ, List.getElem?_cons_zero]; exact rfl) (fun K hK => ?_) AllReadyH.nil
    rw [if_pos (by rfl)]
    go_simp
    go_at_call 56
    refine (arms_any (acc (dg L) 16 0) (acc_len _ _ _) HP2.out _).mono ?_
    rintro e w5 ⟨a5, rfl, ho5, hbd5⟩
    refine hK.out _ _ ⟨range_below hH4.1 hbd5, hH4.2.trans (hbd5.mono hH4.2.size)⟩ (fun hH5 => ?_)
    clear hK K
    try simp only [Act.put, List.setIfInBounds_toArray, List.set_cons_zero, List.set_cons_succ, List.toList_toArray]
    refine wpAnyH_take (i := 5) (v := (.slice a3 (durD (dg L)) (durD (dg L)))) (by simp only [List.getElem?_toArray, List.getElem?_cons_succ, List.getElem?_cons_zero]; exact rfl) (by kernel_rfl) (by kernel_rfl) (by kernel_rfl) (by intro _ _ _ h; exact h) (Or.inl ⟨by kernel_rfl, by intro w hSw; go_simp⟩) (by assumption) ?_
    simp only [Act.put, List.setIfInBounds_toArray, List.set_cons_zero, List.set_cons_succ, List.toList_toArray]
    refine wpAnyH_take (i := 6) (v := (.slice a5 (durD (acc (dg L) 16 0)) (durD (acc (dg L) 16 0)))) (by simp only [List.getElem?_toArray, List.getElem?_cons_succ, List.getElem?_cons_zero]; exact rfl) (by kernel_rfl) (by kernel_rfl) (by kernel_rfl) (by intro _ _ _ h; exact h) (Or.inl ⟨by kernel_rfl, by intro w hSw; go_simp⟩) (by assumption) ?_
    simp only [Act.put, List.setIfInBounds_toArray, List.set_cons_zero, List.set_cons_succ, List.toList_toArray]
    refine wpAnyH_done (by kernel_rfl) ?_ _
    try simp only [Act.put, List.setIfInBounds_toArray, List.set_cons_zero, List.set_cons_succ]
    go_wp2
    go_ret2
    have ho6 := (ho3.below (hbd4.mono ho3.le))
    have ho7 := ho6.below (hbd5.mono ho6.le)
    rw [HN1.out, HA.out] at ho7
    rw [HN2.out, HC.out] at ho5
    rw [HN1.out, HN2.out]
    exact ⟨a3, durS L, a5, durS L, w3.heap.size, rfl, ho7.lower (by have := hbel2.size; simpa using this), ho5.lower hbd4.size, hH3.2.size, Nat.le_trans hbd4.size hbd5.size, hH5.2⟩
  | false =>
    have HV := Lib.hid hv
    rw [froAF_no hv, froBF_no hv]
    clear hv
    go_enter Try.func23, Try.ntmps23
    go_wp2_with (first
      | (refine wpList_store_row rfl 44 (.tmp 4) (.tmp 9) rfl w1.heap.size rfl (arr (dg L)) rfl 44 (arr (List.replicate 16 0)) (Blk.new w1 _ _) hiD hsz (arr_one _) ?_)
      | (go_at_call 55; refine (diagramOf_any _ _ B L _ h hB hl).mono ?_; rintro e w1 ⟨rfl, hb1⟩; rw [HV.out]))
    go_ret2
    have hbz : Below w.heap.size w ((w1.alloc (.cells (arr (List.replicate 16 0)) 44)).setRow w1.heap.size (arr (dg L))) := below_setRow' (hb1.alloc hb1.size _) (by exact hb1.size) _
    exact ⟨none, 0, none, 0, _, rfl, Own.nil _ _ _, Own.nil _ _ _, hbz.size, Nat.le_refl _, hbz⟩

set_option maxHeartbeats 1000000 in
theorem sFrobeniusOf_any (a : Option Addr) (c B : Nat) (L : List Int) (w : World) (h : Rd w B a (ints L)) (hB : B ≤ w.heap.size) (hl : L.length ≤ 4611686018427387904) :
    Calls Try.prog 27 #[.slice a L.length c] w fun e w' => ∃ a1 c1 a2 c2, e = .returned (.tuple #[.slice a1 (froAF L).length c1, .slice a2 (froBF L).length c2]) ∧ Own w' w.heap.size w'.heap.size 3 (.slice a1 (froAF L).length c1) (ints (froAF L)) ∧ Own w' w.heap.size w'.heap.size 3 (.slice a2 (froBF L).length c2) (ints (froBF L)) ∧ Below w.heap.size w w' := by
  obtain ⟨i0, hi, hz0, hz1, hz2⟩ := T_int'
  cases hv : valid L with
  | true =>
    rw [froAF_yes hv, froBF_yes hv]
    have HV := Lib.hid hv
    have hbd := valid_bd hv
    have hl16 := hbd.2.2.2
    have hds := durS_spec L
    have hdl : durS L ≤ L.length := hds.1
    have hgc : ∀ k : Nat, k < durS L → k < (conj L).length := fun k hk => by
      have h1 := (conj_diag hv k).2 (hds.2.1 k hk)
      rcases Nat.lt_or_ge k (conj L).length with h2 | h2
      · exact h2
      · rw [getD_ge h2] at h1; omega
    have HGC := Lib.hid hgc
    have HNL := Lib.hid (getD_nn hv)
    have HNC := Lib.hid (getD_nn (valid_conj hv))
    have hcl : (conj L).length ≤ 16 := (valid_bd (valid_conj hv)).2.2.2
    clear hv hbd hds hgc
    go_enter Try.func27, Try.ntmps27
    go_wp2_with (first
      | (go_at_call 61; refine (sconjugate_any _ _ B L _ (h.dr (Dr.n w n1)) (by exact hB) HV.out).mono ?_; rintro e w2 ⟨a2, c2, rfl, ho2, hb2⟩)
      | (go_at_call 60; refine (validParts_any _ _ B L _ h hl).mono ?_; rintro e w1 ⟨rfl, n1, rfl⟩; rw [HV.out]))
    have hbel2 : Below w.heap.size w w2 := ((Dr.n w n1).below _).trans hb2
    have hs2 := hbel2.size
    have HQ := Lib.hid ho2
    clear ho2
    go_loopw [5, 6, 7] (fun v1 v2 vi wr => ∃ k : Nat, k ≤ durS L ∧ vi = .int .i64 (k : Int) ∧ Below w2.heap.size w2 wr ∧ Own wr w2.heap.size wr.heap.size 3 v1 (ints (armsTo L k)) ∧ Own wr w2.heap.size wr.heap.size 3 v2 (ints (armsTo (conj L) k)) ∧ (∀ g, v1.ownBlock = some g → v2.ownBlock = some g → False)) (fun _ _ vi _ => 20 - (intOf vi).toNat)
    case atStart =>
      have e1 := Own.empty w2 3
      have e2 := Own.empty (w2.alloc (.cells #[] 3)) 3
      rw [World.size_alloc] at e2
      refine ⟨0, Nat.zero_le _, rfl, ((Below.refl _ _).alloc (Nat.le_refl _) _).alloc (by simp) _, (e1.alloc _).more, (e2.lower (Nat.le_succ _)).more, ?_⟩
      intro g h h'
      simp [Value.ownBlock] at h h'
      omega
    case round =>
      obtain ⟨k, hk, rfl, hbel, ho1, ho2, hne⟩ := hrel
      have hbw : Below w.heap.size w wr := hbel2.trans (hbel.mono hs2)
      have hLr := (h.more hB).below hbw
      have hs3 : w2.heap.size ≤ wr.heap.size := hbel.size
      have HNE := Lib.hid hne
      have hlen1 : (armsTo L k).length = k := armsTo_len _ _
      have hlen2 : (armsTo (conj L) k).length = k := armsTo_len _ _
      have HS1 := Lib.hid (armsTo_succ L k)
      have HS2 := Lib.hid (armsTo_succ (conj L) k)
      clear hne
      by_cases hlt : k < durS L
      · have hlt' : (k : Int) < (durS L : Int) := by omega
        have hkL : k < L.length := by omega
        have hkC := HGC.out k hlt
        obtain ⟨b1, o1, rfl, _, hc1⟩ := hLr.at_ hkL
        have hq := HQ.out
        obtain ⟨g2, c3, e, hlo2, hg2l, hcq, -⟩ := hq.at_ (k := k) (by simpa using hkC)
        injection e with e5 e6 e7
        subst e5
        clear e6 e7
        have hx := HNL.out k
        have hy := HNC.out k
        rw [getD_lt hkL] at hx HS1
        rw [getD_lt hkC] at hy HS2
        have ey : (ints (conj L))[k]'(by simpa using hkC) = .int .i64 ((conj L)[k]) := by simp
        rw [ey] at hcq
        have hkC' : (k : Int) < ((conj L).length : Int) := by omega
        obtain ⟨vs1, hvs1⟩ : ∃ vs, vs = ints (armsTo L k) := ⟨_, rfl⟩
        obtain ⟨vs2, hvs2⟩ : ∃ vs, vs = ints (armsTo (conj L) k) := ⟨_, rfl⟩
        have hl1 : vs1.length = k := by rw [hvs1, List.length_map, hlen1]
        have hl2 : vs2.length = k := by rw [hvs2, List.length_map, hlen2]
        rw [← hvs1] at ho1
        rw [← hvs2] at ho2
        have HO1 := Lib.hid ho1
        have HO2 := Lib.hid ho2
        have HV1 := Lib.hid hvs1
        have HV2 := Lib.hid hvs2
        generalize L[k] = x at *
        generalize (conj L)[k] = y at *
        clear ho1 ho2 hvs1 hvs2 ey hq hlen1 hlen2
        go_wp2_with (first
          | (at_builtin; refine wpList_append_o _ rfl (.tmp 31) (.tmp 39) 22 rfl w2.heap.size w3.heap.size 3 i0 (.int .i64 0) 8 Try.underlying22 hi hz0 hz1 hz2 rfl _ vs2 rfl (HO2b.out.alloc _) (w3.heap.size + 1) (some ⟨w3.heap.size, 0, none⟩) 1 1 [.int .i64 (y - (k : Int) - 1)] rfl (Rd.one _ _ _) rfl (by simp; rfl) (by unfold maxLen; omega) (by omega) (by simp; omega) ?_; intro v4 w4 ho4 hg4 hat4; have hb4 : Below w2.heap.size w2 w4 := below_push hb3 (Nat.le_refl _) hg4 HO2b.out.base; have ho3b := (HO3.out.aside hg4 (fun g h h' => HNE3.out g h' h)).more; have hne4 := apart_push HO3.out (fun g h h' => HNE3.out g h' h) hat4 (by simp); have HO4 := Lib.hid ho4; have HO3b := Lib.hid ho3b; have HNE4 := Lib.hid hne4; clear ho4 ho3b hne4 hat4 hg4)
          | (at_builtin; refine wpList_append_o _ rfl (.tmp 21) (.tmp 29) 22 rfl w2.heap.size wr.heap.size 3 i0 (.int .i64 0) 8 Try.underlying22 hi hz0 hz1 hz2 rfl _ vs1 rfl (HO1.out.alloc _) (wr.heap.size + 1) (some ⟨wr.heap.size, 0, none⟩) 1 1 [.int .i64 (x - (k : Int) - 1)] rfl (Rd.one _ _ _) rfl (by simp; rfl) (by unfold maxLen; omega) (by omega) (by simp; omega) ?_; intro v3 w3 ho3 hg3 hat3; have hb3 : Below w2.heap.size w2 w3 := below_push hbel (Nat.le_refl _) hg3 HO1.out.base; have ho2b := (HO2.out.aside hg3 HNE.out).more; have hne3 := apart_push HO2.out HNE.out hat3 (by simp); have hcq3 : w3.cell? ⟨g2, k, none⟩ = some (.int .i64 y) := (hb3.cell (p := ⟨g2, k, none⟩) hg2l).trans hcq; have hs3 : w2.heap.size ≤ w3.heap.size := hb3.size; have HO3 := Lib.hid ho3; have HO2b := Lib.hid ho2b; have HNE3 := Lib.hid hne3; clear ho3 ho2b hne3 hat3 hg3)
          | (go_at_call 62; refine (sdurfee_any _ _ _ L _ hLr hl).mono ?_; rintro e w' ⟨rfl, rfl⟩))
        go_roundw
        case rel =>
          refine ⟨k + 1, by omega, by go_num, hb4, ?_, ?_, fun g h h' => HNE4.out g h' h⟩
          · have e := HO3b.out
            rw [HV1.out] at e
            rw [HS1.out]
            have ex : x - (k : Int) - 1 = x - ((k : Int) + 1) := by omega
            rw [ex] at e
            simpa [ints] using e
          · have e := HO4.out
            rw [HV2.out] at e
            rw [HS2.out]
            have ex : y - (k : Int) - 1 = y - ((k : Int) + 1) := by omega
            rw [ex] at e
            simpa [ints] using e
        case measure => simp [intOf]; omega
      · obtain rfl : k = durS L := by omega
        obtain ⟨a1, c1, rfl⟩ := ho1.form
        obtain ⟨a3, c3, rfl⟩ := ho2.form
        have hq1 : (ints (armsTo L (durS L))).length = durS L := by rw [List.length_map, hlen1]
        have hq2 : (ints (armsTo (conj L) (durS L))).length = durS L := by rw [List.length_map, hlen2]
        rw [hq1] at ho1 ⊢
        rw [hq2] at ho2 ⊢
        have HO1 := Lib.hid ho1
        have HO2 := Lib.hid ho2
        clear ho1 ho2 hq1 hq2 hlt hk
        have hD1 : (froA L).length = durS L := hlen1
        have hD2 : (froB L).length = durS L := hlen2
        have HD1 := Lib.hid hD1
        have HD2 := Lib.hid hD2
        clear hlen1 hlen2 hD1 hD2
        go_wp2_with (go_at_call 62; refine (sdurfee_any _ _ _ L _ hLr hl).mono ?_; rintro e w' ⟨rfl, rfl⟩)
        go_ret2
        rw [HD1.out, HD2.out]
        exact ⟨a1, c1, a3, c3, rfl, HO1.out.lower hs2, HO2.out.lower hs2, hbw⟩
  | false =>
    have HV := Lib.hid hv
    rw [froAF_no hv, froBF_no hv]
    clear hv
    go_enter Try.func27, Try.ntmps27
    go_wp2_with (go_at_call 60; refine (validParts_any _ _ B L _ h hl).mono ?_; rintro e w1 ⟨rfl, n1, rfl⟩; rw [HV.out])
    go_ret2
    exact ⟨none, 0, none, 0, rfl, Own.nil _ _ _, Own.nil _ _ _, (Dr.n w n1).below _⟩
end Go.Proofs.Ytemkchihbnneeaa
