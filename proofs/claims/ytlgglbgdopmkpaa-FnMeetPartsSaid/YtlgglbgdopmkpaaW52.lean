/-
  Walks of the program: dominance, meets and joins.
-/
import Derived.Test.YtlgglbgdopmkpaaW51
import Derived.Test.YtlgglbgdopmkpaaW49
import Derived.Test.YtlgglbgdopmkpaaArr4
namespace Go.Proofs.Ytlgglbgdopmkpaa
open Go.RowKit NP
set_option linter.unusedVariables false
set_option linter.unusedSimpArgs false
theorem sumTo_pad {P : List Int} (h : P.length ≤ 16) (k : Nat) : sumTo (pad P) k = sumTo P k := by
  induction k with
  | zero => rfl
  | succ k ih => rw [sumTo, sumTo, ih, pad_getD h]
theorem mi_pad {P Q : List Int} (hp : P.length ≤ 16) (hq : Q.length ≤ 16) : mi (pad P) (pad Q) = mi P Q := by
  funext i; unfold mi mf; rw [sumTo_pad hp, sumTo_pad hq, sumTo_pad hp, sumTo_pad hq]
theorem map_mi {P Q : List Int} (hp : valid P = true) (hq : valid Q = true) : (List.range 16).map (mi (pad P) (pad Q)) = pad (NP.mt P Q) := by
  rw [mi_pad (valid_bd hp).2.2.2 (valid_bd hq).2.2.2, pad_mt hp hq]
theorem tame_pad {P : List Int} (hp : valid P = true) : tame (pad P) := by
  have hl := (valid_bd hp).2.2.2
  refine ⟨pad_len hl, fun k => ?_, fun k => ?_⟩
  · rw [sumTo_pad hl]; have := sumTo_bd hp k; omega
  · rw [pad_getD hl]; have := getD_nn hp k; omega
theorem conj_cells {P : List Int} (hp : valid P = true) : acc (pad P) 16 0 = pad (conj P) := (acc_end (pad P) (pad_len (valid_bd hp).2.2.2)).trans (conj_pad hp)
theorem results_cell_mid {P : Program} {fn : Func} {p1 : Tmp} {ty : TypeId} (h : fn.results = #[.cell p1 ty]) (tmps : Array Value) (w : World) (g1 : Nat) (c1 : List Value) (d : TypeDesc)
    (hp1 : tmps.getD p1 undef = .pointer (some ⟨g1, 0, none⟩)) (h1 : w.rangeAt g1 0 c1)
    (hu : P.underlying ty = some d) (hd : d.isRow = true) (hi1 : (P.info? ty).map (·.size) = some c1.length) :
    (results fn tmps).run P w = .ok (.agg c1.toArray) w := by
  have hp1' : tmps[p1]?.getD undef = .pointer (some ⟨g1, 0, none⟩) := by simpa using hp1
  simp [results, h, hp1', asAddr, run_loadVar_mid w g1 0 ty c1 d h1 hu hd hi1]
theorem keep_rrt {w0 w w' : World} {g1 g2 g3 n : Nat} {c1 c2 : List Value} (h : w.rangeAt g1 0 c1 ∧ w.rangeAt g2 0 c2 ∧ w.there g3 0 n ∧ Below w0.heap.size w0 w) (hb : Below w.heap.size w w') :
    w'.rangeAt g1 0 c1 ∧ w'.rangeAt g2 0 c2 ∧ w'.there g3 0 n ∧ Below w0.heap.size w0 w' :=
  ⟨range_below h.1 hb, range_below h.2.1 hb, there_below h.2.2.1 hb, h.2.2.2.trans (hb.mono h.2.2.2.size)⟩
theorem keep_rr2 {w0 w w' : World} {g1 g2 : Nat} {c1 c2 : List Value} (h : w.rangeAt g1 0 c1 ∧ w.rangeAt g2 0 c2 ∧ Below w0.heap.size w0 w) (hb : Below w.heap.size w w') :
    w'.rangeAt g1 0 c1 ∧ w'.rangeAt g2 0 c2 ∧ Below w0.heap.size w0 w' :=
  ⟨range_below h.1 hb, range_below h.2.1 hb, h.2.2.trans (hb.mono h.2.2.size)⟩
theorem T_guardB2 : Try.prog.eqGuardType Try.prog.depth 55 = false := by kernel_rfl
theorem rows_two (w : World) (P Q : List Int) : Blk ((w.alloc (.cells (arr P) 40)).alloc (.cells (arr Q) 40)) w.heap.size 40 (arr P) ∧ Blk ((w.alloc (.cells (arr P) 40)).alloc (.cells (arr Q) 40)) (w.heap.size + 1) 40 (arr Q) ∧ Below w.heap.size w ((w.alloc (.cells (arr P) 40)).alloc (.cells (arr Q) 40)) := by
  refine ⟨(Blk.new w 40 (arr P)).alloc _, ?_, ((Below.refl _ _).alloc (Nat.le_refl _) _).alloc (by simp) _⟩
  have e := Blk.new (w.alloc (.cells (arr P) 40)) 40 (arr Q)
  rw [World.size_alloc] at e
  exact e

set_option maxHeartbeats 4000000 in
theorem byDominance_any (P Q : List Int) (hp : valid P = true) (hq : valid Q = true) (w : World) :
    Calls Try.prog 70 #[.agg (arr (pad P)), .agg (arr (pad Q))] w fun e w' => e = .returned (.agg (arr (pad (NP.mt P Q) ++ pad (jn P Q)))) ∧ Below w.heap.size w w' := by
  have hpl := (valid_bd hp).2.2.2
  have hql := (valid_bd hq).2.2.2
  have hlP := pad_len hpl
  have hlQ := pad_len hql
  have hiP := info_diag (pad P) hlP
  have hiQ := info_diag (pad Q) hlQ
  have hu := Try.underlying40
  have hm1 := valid_mt hp hq
  have hm2 := valid_mt (valid_conj hp) (valid_conj hq)
  have hj := valid_jn hp hq
  have hlM := pad_len (valid_bd hm1).2.2.2
  have hlJ := pad_len (valid_bd hj).2.2.2
  have HTP := Lib.hid (tame_pad hp)
  have HTQ := Lib.hid (tame_pad hq)
  have HTP2 := Lib.hid (tame_pad (valid_conj hp))
  have HTQ2 := Lib.hid (tame_pad (valid_conj hq))
  have HM1 := Lib.hid (map_mi hp hq)
  have HM2 := Lib.hid (map_mi (valid_conj hp) (valid_conj hq))
  have HC1 := Lib.hid (conj_cells hp)
  have HC2 := Lib.hid (conj_cells hq)
  have HC3 : Hid (acc (pad (NP.mt (conj P) (conj Q))) 16 0 = pad (jn P Q)) := Lib.hid (conj_cells hm2)
  have HN1 := Lib.hid (pad_nonneg hp)
  have HN2 := Lib.hid (pad_nonneg hq)
  have HN3 := Lib.hid (pad_nonneg hm2)
  have HL1 := Lib.hid hlP
  have HL2 := Lib.hid hlQ
  have HL3 := Lib.hid (pad_len (valid_bd hm2).2.2.2)
  have hbld : ∀ w : World, (Instr.build 55 #[(0, .agg (arr (pad (NP.mt P Q)))), (1, .agg (arr (pad (jn P Q))))]).run Try.prog w = .ok (.agg (arr (pad (NP.mt P Q) ++ pad (jn P Q)))) w := T_build _ _ hlM hlJ
  have hlX : (ints (pad (NP.mt P Q) ++ pad (jn P Q))).length = 32 := by rw [List.length_map, List.length_append, hlM, hlJ]
  have hzX : (ints (pad (NP.mt P Q) ++ pad (jn P Q))).toArray.size = 32 := by rw [List.size_toArray]; exact hlX
  have h1X := ints_one (pad (NP.mt P Q) ++ pad (jn P Q))
  have hiX : (Try.prog.info? 55).map (·.size) = some (ints (pad (NP.mt P Q) ++ pad (jn P Q))).length := by rw [hlX]; exact T_info_bounds
  obtain ⟨hb2, hb3, hal⟩ := rows_two w (pad P) (pad Q)
  obtain ⟨wB, hwB⟩ : ∃ wB, wB = ((w.alloc (.cells (arr (pad P)) 40)).alloc (.cells (arr (pad Q)) 40)) := ⟨_, rfl⟩
  rw [← hwB] at hb2 hb3 hal
  have hwBs : wB.heap.size = w.heap.size + 2 := by rw [hwB]; simp
  have ht4 : (wB.alloc (.cells (arr (List.replicate 32 0)) 55)).there (w.heap.size + 2) 0 32 := by
    have e := (Blk.new wB 55 (arr (List.replicate 32 0))).there
    rw [hwBs] at e
    exact e
  have hr2 : (wB.alloc (.cells (arr (List.replicate 32 0)) 55)).rangeAt w.heap.size 0 (ints (pad P)) := Blk.range (hb2.alloc _)
  have hr3 : (wB.alloc (.cells (arr (List.replicate 32 0)) 55)).rangeAt (w.heap.size + 1) 0 (ints (pad Q)) := Blk.range (hb3.alloc _)
  have hal2 := hal.alloc hal.size (.cells (arr (List.replicate 32 0)) 55)
  rw [hwB] at ht4 hr2 hr3 hal2
  have na : w.heap.size ≠ w.heap.size + 2 := by omega
  have nb : w.heap.size + 1 ≠ w.heap.size + 2 := by omega
  clear hp hq hpl hql hlP hlQ hm1 hm2 hj hlM hlJ hb2 hb3 hal hwB hwBs
  go_enter Try.func70, Try.ntmps70
  go_wp2_with fail
  refine wp_region_held_drew (S := (fun w' => w'.rangeAt w.heap.size 0 (ints (pad P)) ∧ w'.rangeAt (w.heap.size + 1) 0 (ints (pad Q)) ∧ w'.there (w.heap.size + 2) 0 32 ∧ Below w.heap.size w w')) (by kernel_rfl) ⟨hr2, hr3, ht4, hal2.trans ((Dr.n _ 1).below _)⟩ (fun hHeld => ?_)
  refine wpAnyH_take (i := 0) (v := _) (by simp only [List.getElem?_toArray, List.getElem?_cons_succ, List.getElem?_cons_zero]; exact rfl) (by kernel_rfl) (by kernel_rfl) (by kernel_rfl) (by intro _ _ _ h; exact h) (yieldsIf_load_mid (by kernel_rfl) _ _ rfl w.heap.size 0 rfl (ints (pad P)) _ (fun _ hw => hw.1) hu rfl hiP) (by assumption) ?_
  simp only [Act.put, List.setIfInBounds_toArray, List.set_cons_zero, List.set_cons_succ, List.toList_toArray]
  refine wpAnyH_take (i := 1) (v := _) (by simp only [List.getElem?_toArray, List.getElem?_cons_succ, List.getElem?_cons_zero]; exact rfl) (by kernel_rfl) (by kernel_rfl) (by kernel_rfl) (by intro _ _ _ h; exact h) (yieldsIf_load_mid (by kernel_rfl) _ _ rfl (w.heap.size + 1) 0 rfl (ints (pad Q)) _ (fun _ hw => hw.2.1) hu rfl hiQ) (by assumption) ?_
  simp only [Act.put, List.setIfInBounds_toArray, List.set_cons_zero, List.set_cons_succ, List.toList_toArray]
  refine wpAnyH_take (i := 3) (v := _) (by simp only [List.getElem?_toArray, List.getElem?_cons_succ, List.getElem?_cons_zero]; exact rfl) (by kernel_rfl) (by kernel_rfl) (by kernel_rfl) (by intro _ _ _ h; exact h) (yieldsIf_load_mid (by kernel_rfl) _ _ rfl w.heap.size 0 rfl (ints (pad P)) _ (fun _ hw => hw.1) hu rfl hiP) (by assumption) ?_
  simp only [Act.put, List.setIfInBounds_toArray, List.set_cons_zero, List.set_cons_succ, List.toList_toArray]
  refine wpAnyH_take (i := 5) (v := _) (by simp only [List.getElem?_toArray, List.getElem?_cons_succ, List.getElem?_cons_zero]; exact rfl) (by kernel_rfl) (by kernel_rfl) (by kernel_rfl) (by intro _ _ _ h; exact h) (yieldsIf_load_mid (by kernel_rfl) _ _ rfl (w.heap.size + 1) 0 rfl (ints (pad Q)) _ (fun _ hw => hw.2.1) hu rfl hiQ) (by assumption) ?_
  simp only [Act.put, List.setIfInBounds_toArray, List.set_cons_zero, List.set_cons_succ, List.toList_toArray]
  refine wpAnyH_ready (rs := [2]) (by kernel_rfl) (by simp) ?_
  refine AllReadyH.cons (o := _) (by simp only [List.getElem?_toArray, List.getElem?_cons_succ, List.getElem?_cons_zero]; exact rfl) (fun K hK => ?_) AllReadyH.nil
  rw [if_pos (by rfl)]
  go_simp
  go_at_call 81
  refine (dmeet_any (pad P) (pad Q) HTP.out HTQ.out _).mono ?_
  rintro e w5 ⟨rfl, hbd⟩
  rw [HM1.out]
  refine hK.out _ _ (keep_rrt hHeld hbd) (fun h2 => ?_)
  clear hK K
  try simp only [Act.put, List.setIfInBounds_toArray, List.set_cons_zero, List.set_cons_succ, List.toList_toArray]
  refine wpAnyH_ready (rs := [4]) (by kernel_rfl) (by simp) ?_
  refine AllReadyH.cons (o := _) (by simp only [List.getElem?_toArray, List.getElem?_cons_succ, List.getElem?_cons_zero]; exact rfl) (fun K hK => ?_) AllReadyH.nil
  rw [if_pos (by rfl)]
  go_simp
  go_at_call 53
  refine (conjugate_any (pad P) HL1.out HN1.out _).mono ?_
  rintro e w6 ⟨rfl, hbd⟩
  rw [HC1.out]
  refine hK.out _ _ (keep_rrt h2 hbd) (fun h3 => ?_)
  clear hK K
  try simp only [Act.put, List.setIfInBounds_toArray, List.set_cons_zero, List.set_cons_succ, List.toList_toArray]
  refine wpAnyH_ready (rs := [6]) (by kernel_rfl) (by simp) ?_
  refine AllReadyH.cons (o := _) (by simp only [List.getElem?_toArray, List.getElem?_cons_succ, List.getElem?_cons_zero]; exact rfl) (fun K hK => ?_) AllReadyH.nil
  rw [if_pos (by rfl)]
  go_simp
  go_at_call 53
  refine (conjugate_any (pad Q) HL2.out HN2.out _).mono ?_
  rintro e w7 ⟨rfl, hbd⟩
  rw [HC2.out]
  refine hK.out _ _ (keep_rrt h3 hbd) (fun h4 => ?_)
  clear hK K
  try simp only [Act.put, List.setIfInBounds_toArray, List.set_cons_zero, List.set_cons_succ, List.toList_toArray]
  refine wpAnyH_ready (rs := [7]) (by kernel_rfl) (by simp) ?_
  refine AllReadyH.cons (o := _) (by simp only [List.getElem?_toArray, List.getElem?_cons_succ, List.getElem?_cons_zero]; exact rfl) (fun K hK => ?_) AllReadyH.nil
  rw [if_pos (by rfl)]
  go_simp
  go_at_call 81
  refine (dmeet_any (pad (conj P)) (pad (conj Q)) HTP2.out HTQ2.out _).mono ?_
  rintro e w8 ⟨rfl, hbd⟩
  rw [HM2.out]
  refine hK.out _ _ (keep_rrt h4 hbd) (fun h5 => ?_)
  clear hK K
  try simp only [Act.put, List.setIfInBounds_toArray, List.set_cons_zero, List.set_cons_succ, List.toList_toArray]
  refine wpAnyH_ready (rs := [8]) (by kernel_rfl) (by simp) ?_
  refine AllReadyH.cons (o := _) (by simp only [List.getElem?_toArray, List.getElem?_cons_succ, List.getElem?_cons_zero]; exact rfl) (fun K hK => ?_) AllReadyH.nil
  rw [if_pos (by rfl)]
  go_simp
  go_at_call 53
  refine (conjugate_any (pad (NP.mt (conj P) (conj Q))) HL3.out HN3.out _).mono ?_
  rintro e w9 ⟨rfl, hbd⟩
  rw [HC3.out]
  refine hK.out _ _ (keep_rrt h5 hbd) (fun h6 => ?_)
  clear hK K
  try simp only [Act.put, List.setIfInBounds_toArray, List.set_cons_zero, List.set_cons_succ, List.toList_toArray]
  refine wpAnyH_take (i := 9) (v := (.agg (arr (pad (NP.mt P Q) ++ pad (jn P Q))))) (by simp only [List.getElem?_toArray, List.getElem?_cons_succ, List.getElem?_cons_zero]; exact rfl) (by kernel_rfl) (by kernel_rfl) (by kernel_rfl) (by intro _ _ _ h; exact h) (Or.inl ⟨by kernel_rfl, by intro w hSw; exact exec_build _ _ _ rfl rfl rfl (hbld w)⟩) (by assumption) ?_
  simp only [Act.put, List.setIfInBounds_toArray, List.set_cons_zero, List.set_cons_succ, List.toList_toArray]
  refine wpAnyH_ready (rs := [10]) (by kernel_rfl) (by simp) ?_
  refine AllReadyH.cons (o := _) (by simp only [List.getElem?_toArray, List.getElem?_cons_succ, List.getElem?_cons_zero]; exact rfl) (fun K hK => ?_) AllReadyH.nil
  rw [if_pos (by rfl)]
  refine wp_store_mid _ _ _ rfl (w.heap.size + 2) 0 (ints (pad (NP.mt P Q) ++ pad (jn P Q))).toArray rfl rfl (by rw [hzX]; exact h6.2.2.1) (by rw [hzX]; exact T_info_bounds) (all_oneCell_toArray h1X) ?_
  simp only [Act.put, List.setIfInBounds_toArray, List.set_cons_zero, List.set_cons_succ, List.toList_toArray]
  refine hK.out _ _ ⟨World.rangeAt_setCells_apart h6.1 _ _ _ (.inl na), World.rangeAt_setCells_apart h6.2.1 _ _ _ (.inl nb), World.there_setCells h6.2.2.1 _ _ _, below_setCells (by omega) _ _ _ _ h6.2.2.2⟩ (fun hU => ?_)
  clear hK K
  try simp only [Act.put, List.setIfInBounds_toArray, List.set_cons_zero, List.set_cons_succ, List.toList_toArray]
  refine wpAnyH_done (by kernel_rfl) ?_ _
  try simp only [Act.put, List.setIfInBounds_toArray, List.set_cons_zero, List.set_cons_succ]
  have rX := World.rangeAt_setCells_same _ (w.heap.size + 2) 0 (ints (pad (NP.mt P Q) ++ pad (jn P Q))) (by rw [hlX]; exact h6.2.2.1)
  go_wp2_with fail
  refine bodyPost_ret (results_cell_mid rfl _ _ (w.heap.size + 2) (ints (pad (NP.mt P Q) ++ pad (jn P Q))) _ rfl rX Try.underlying55 rfl hiX) rfl ?_
  exact ⟨rfl, hU.2.2.2⟩
end Go.Proofs.Ytlgglbgdopmkpaa
