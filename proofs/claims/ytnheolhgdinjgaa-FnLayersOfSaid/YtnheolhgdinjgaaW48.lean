/-
  Walks of the program: one inside of another.
-/
import Derived.Test.YtnheolhgdinjgaaW47
namespace Go.Proofs.Ytnheolhgdinjgaa
open Go.RowKit NP
set_option maxRecDepth 8000
set_option linter.unusedVariables false
set_option linter.unusedSimpArgs false
theorem lo_len (D E : List Int) : ((List.range 16).map (lo2 D E)).length = 16 := by simp
theorem hi_len (D E : List Int) : ((List.range 16).map (hi2 D E)).length = 16 := by simp
theorem lo2_pad {P Q : List Int} (hp : P.length ≤ 16) (hq : Q.length ≤ 16) : lo2 (pad P) (pad Q) = lo2 P Q := by funext i; unfold lo2; rw [pad_getD hp, pad_getD hq]
theorem hi2_pad {P Q : List Int} (hp : P.length ≤ 16) (hq : Q.length ≤ 16) : hi2 (pad P) (pad Q) = hi2 P Q := by funext i; unfold hi2; rw [pad_getD hp, pad_getD hq]
theorem T_guardB : Try.prog.eqGuardType Try.prog.depth 64 = false := by kernel_rfl
theorem keep_rr {w0 w w' : World} {g1 g2 : Nat} {c1 c2 : List Value} (h : w.rangeAt g1 0 c1 ∧ w.rangeAt g2 0 c2 ∧ Below w0.heap.size w0 w) (hb : Below w.heap.size w w') :
    w'.rangeAt g1 0 c1 ∧ w'.rangeAt g2 0 c2 ∧ Below w0.heap.size w0 w' :=
  ⟨range_below h.1 hb, range_below h.2.1 hb, h.2.2.trans (hb.mono h.2.2.size)⟩

set_option maxHeartbeats 2000000 in
theorem hasInside_any (P Q : List Int) (hp : valid P = true) (hq : valid Q = true) (w : World) :
    Calls Try.prog 51 #[.agg (arr (pad P)), .agg (arr (pad Q))] w fun e w' => e = .returned (.bool (ins P Q)) ∧ Below w.heap.size w w' := by
  have hpl := (valid_bd hp).2.2.2
  have hql := (valid_bd hq).2.2.2
  have hlP := pad_len hpl
  have hlQ := pad_len hql
  have hiP := info_diag (pad P) hlP
  have hiQ := info_diag (pad Q) hlQ
  have hu := Try.underlying36
  have hb2 : Blk ((w.alloc (.cells (arr (pad P)) 36)).alloc (.cells (arr (pad Q)) 36)) w.heap.size 36 (arr (pad P)) := (Blk.new w 36 (arr (pad P))).alloc _
  have hb3 : Blk ((w.alloc (.cells (arr (pad P)) 36)).alloc (.cells (arr (pad Q)) 36)) (w.heap.size + 1) 36 (arr (pad Q)) := by
    have e := Blk.new (w.alloc (.cells (arr (pad P)) 36)) 36 (arr (pad Q))
    rw [World.size_alloc] at e
    exact e
  have hr2 : ((w.alloc (.cells (arr (pad P)) 36)).alloc (.cells (arr (pad Q)) 36)).rangeAt w.heap.size 0 (ints (pad P)) := Blk.range hb2
  have hr3 : ((w.alloc (.cells (arr (pad P)) 36)).alloc (.cells (arr (pad Q)) 36)).rangeAt (w.heap.size + 1) 0 (ints (pad Q)) := Blk.range hb3
  have hal : Below w.heap.size w ((w.alloc (.cells (arr (pad P)) 36)).alloc (.cells (arr (pad Q)) 36)) := ((Below.refl _ _).alloc (Nat.le_refl _) _).alloc (by simp) _
  have hbld : ∀ w : World, (Instr.build 64 #[(0, .agg (ints (pad Q)).toArray), (1, .agg (ints (pad P)).toArray)]).run Try.prog w = .ok (.agg (arr (pad Q ++ pad P))) w := T_build (pad Q) (pad P) hlQ hlP
  have heql : ∀ w : World, (Op.equalIn 10000 64 (.agg (arr ((List.range 16).map (lo2 (pad P) (pad Q)) ++ (List.range 16).map (hi2 (pad P) (pad Q))))) (.agg (arr (pad Q ++ pad P)))).run Try.prog w = .ok (ins P Q) w := fun w => by
    rw [T_eqb _ _ _ _ (lo_len _ _) (hi_len _ _) hlQ hlP, ins_bounds hp hq, lo2_pad hpl hql, hi2_pad hpl hql]
  have hgt := T_guardB
  have HLP := Lib.hid hlP
  have HLQ := Lib.hid hlQ
  clear hp hq hpl hql hlP hlQ hb2 hb3
  go_enter Try.func51, Try.ntmps51
  go_wp2_with fail
  refine wp_region_held_drew (S := (fun w' => w'.rangeAt w.heap.size 0 (ints (pad P)) ∧ w'.rangeAt (w.heap.size + 1) 0 (ints (pad Q)) ∧ Below w.heap.size w w')) (by kernel_rfl) ⟨hr2, hr3, hal.trans ((Dr.n _ 1).below _)⟩ (fun hHeld => ?_)
  refine wpAnyH_take (i := 0) (v := _) (by simp only [List.getElem?_toArray, List.getElem?_cons_succ, List.getElem?_cons_zero]; exact rfl) (by kernel_rfl) (by kernel_rfl) (by kernel_rfl) (by intro _ _ _ h; exact h) (yieldsIf_load_mid (by kernel_rfl) _ _ rfl w.heap.size 0 rfl (ints (pad P)) _ (fun _ hw => hw.1) hu rfl hiP) (by assumption) ?_
  simp only [Act.put, List.setIfInBounds_toArray, List.set_cons_zero, List.set_cons_succ, List.toList_toArray]
  refine wpAnyH_take (i := 1) (v := _) (by simp only [List.getElem?_toArray, List.getElem?_cons_succ, List.getElem?_cons_zero]; exact rfl) (by kernel_rfl) (by kernel_rfl) (by kernel_rfl) (by intro _ _ _ h; exact h) (yieldsIf_load_mid (by kernel_rfl) _ _ rfl (w.heap.size + 1) 0 rfl (ints (pad Q)) _ (fun _ hw => hw.2.1) hu rfl hiQ) (by assumption) ?_
  simp only [Act.put, List.setIfInBounds_toArray, List.set_cons_zero, List.set_cons_succ, List.toList_toArray]
  refine wpAnyH_take (i := 3) (v := _) (by simp only [List.getElem?_toArray, List.getElem?_cons_succ, List.getElem?_cons_zero]; exact rfl) (by kernel_rfl) (by kernel_rfl) (by kernel_rfl) (by intro _ _ _ h; exact h) (yieldsIf_load_mid (by kernel_rfl) _ _ rfl (w.heap.size + 1) 0 rfl (ints (pad Q)) _ (fun _ hw => hw.2.1) hu rfl hiQ) (by assumption) ?_
  simp only [Act.put, List.setIfInBounds_toArray, List.set_cons_zero, List.set_cons_succ, List.toList_toArray]
  refine wpAnyH_take (i := 4) (v := _) (by simp only [List.getElem?_toArray, List.getElem?_cons_succ, List.getElem?_cons_zero]; exact rfl) (by kernel_rfl) (by kernel_rfl) (by kernel_rfl) (by intro _ _ _ h; exact h) (yieldsIf_load_mid (by kernel_rfl) _ _ rfl w.heap.size 0 rfl (ints (pad P)) _ (fun _ hw => hw.1) hu rfl hiP) (by assumption) ?_
  simp only [Act.put, List.setIfInBounds_toArray, List.set_cons_zero, List.set_cons_succ, List.toList_toArray]
  refine wpAnyH_take (i := 5) (v := (.agg (arr (pad Q ++ pad P)))) (by simp only [List.getElem?_toArray, List.getElem?_cons_succ, List.getElem?_cons_zero]; exact rfl) (by kernel_rfl) (by kernel_rfl) (by kernel_rfl) (by intro _ _ _ h; exact h) (Or.inl ⟨by kernel_rfl, by intro w hSw; exact exec_build _ _ _ rfl rfl rfl (hbld w)⟩) (by assumption) ?_
  simp only [Act.put, List.setIfInBounds_toArray, List.set_cons_zero, List.set_cons_succ, List.toList_toArray]
  refine wpAnyH_ready (rs := [2]) (by kernel_rfl) (by simp) ?_
  refine AllReadyH.cons (o := _) (by simp only [List.getElem?_toArray, List.getElem?_cons_succ, List.getElem?_cons_zero]; exact rfl) (fun K hK => ?_) AllReadyH.nil
  rw [if_pos (by rfl)]
  go_simp
  go_at_call 64
  refine (byCells_any (pad P) (pad Q) HLP.out HLQ.out _).mono ?_
  rintro e w8 ⟨rfl, hbd⟩
  refine hK.out _ _ (keep_rr hHeld hbd) (fun hH => ?_)
  clear hK K
  try simp only [Act.put, List.setIfInBounds_toArray, List.set_cons_zero, List.set_cons_succ, List.toList_toArray]
  refine wpAnyH_take (i := 6) (v := (.bool (ins P Q))) (by simp only [List.getElem?_toArray, List.getElem?_cons_succ, List.getElem?_cons_zero]; exact rfl) (by kernel_rfl) (by kernel_rfl) (by kernel_rfl) (by intro _ _ _ h; exact h) (Or.inl ⟨by kernel_rfl, by intro w hSw; exact exec_eql _ _ _ _ rfl rfl rfl hgt (heql w)⟩) (by assumption) ?_
  simp only [Act.put, List.setIfInBounds_toArray, List.set_cons_zero, List.set_cons_succ, List.toList_toArray]
  refine wpAnyH_take (i := 7) (v := (.bool (ins P Q))) (by simp only [List.getElem?_toArray, List.getElem?_cons_succ, List.getElem?_cons_zero]; exact rfl) (by kernel_rfl) (by kernel_rfl) (by kernel_rfl) (by intro _ _ _ h; exact h) (Or.inl ⟨by kernel_rfl, by intro w hSw; go_simp⟩) (by assumption) ?_
  simp only [Act.put, List.setIfInBounds_toArray, List.set_cons_zero, List.set_cons_succ, List.toList_toArray]
  refine wpAnyH_done (by kernel_rfl) ?_ _
  try simp only [Act.put, List.setIfInBounds_toArray, List.set_cons_zero, List.set_cons_succ]
  go_wp2
  go_ret
  exact ⟨rfl, hH.2.2⟩
set_option maxHeartbeats 2000000 in
theorem iHasInside_any (a b : Option Addr) (ca cb Ba Bb : Nat) (P Q : List Int) (w : World) (h : Rd w Ba a (ints P)) (hq : Rd w Bb b (ints Q)) (hBa : Ba ≤ w.heap.size) (hBb : Bb ≤ w.heap.size) (hl : P.length ≤ 4611686018427387904) (hlq : Q.length ≤ 4611686018427387904) :
    Calls Try.prog 31 #[.slice a P.length ca, .slice b Q.length cb] w fun e w' => e = .returned (.bool (ins P Q)) ∧ Below w.heap.size w w' := by
  have hiP : (Try.prog.info? 36).map (·.size) = some (arr (dg P)).size := by rw [arr_size, dg_len]; exact T_info35
  have hszP : (arr (dg P)).size = (arr (List.replicate 16 0)).size := by rw [arr_size, arr_size, dg_len]; rfl
  have hiQ : (Try.prog.info? 36).map (·.size) = some (arr (dg Q)).size := by rw [arr_size, dg_len]; exact T_info35
  have hszQ : (arr (dg Q)).size = (arr (List.replicate 16 0)).size := by rw [arr_size, arr_size, dg_len]; rfl
  cases hv : (valid P && valid Q) with
  | true =>
    have hp : valid P = true := by simp at hv; exact hv.1
    have hq2 : valid Q = true := by simp at hv; exact hv.2
    have HV := Lib.hid hv
    have HP := Lib.hid hp
    have HQ := Lib.hid hq2
    clear hv hp hq2
    go_enter Try.func31, Try.ntmps31
    go_wp2_with (first
      | (refine wpList_load_row_g rfl 36 (.tmp 5) rfl w1.heap.size rfl 36 (arr (dg P)) (0, 0) _ k5 Try.underlying36 rfl hiP ?_)
      | (refine wpList_load_row_g rfl 36 (.tmp 6) rfl (w1.heap.size + 1) rfl 36 (arr (dg Q)) (0, 0) _ k6 Try.underlying36 rfl hiQ ?_)
      | (refine wpList_store_row rfl 36 (.tmp 5) (.tmp 12) rfl w1.heap.size rfl (arr (dg P)) rfl 36 (arr (List.replicate 16 0)) ((Blk.new w1 _ _).alloc _) hiP hszP (arr_one _) ?_)
      | (refine wpList_store_row rfl 36 (.tmp 6) (.tmp 13) rfl (w1.heap.size + 1) rfl (arr (dg Q)) rfl 36 (arr (List.replicate 16 0)) (first_row w1 _ _ _) hiQ hszQ (arr_one _) ?_)
      | (go_at_call 51; rw [dg_yes HP.out, dg_yes HQ.out]; refine (hasInside_any P Q HP.out HQ.out _).mono ?_; rintro e w2 ⟨rfl, hb2⟩)
      | (go_at_call 50; refine (twoDiagrams_any _ _ _ _ Ba Bb P Q _ h hq hBa hBb hl hlq).mono ?_; rintro e w1 ⟨rfl, hb1⟩; rw [HV.out]; obtain ⟨k5, k6, kb⟩ := two_rows w1 36 (arr (List.replicate 16 0)) (arr (dg P)) (arr (dg Q))))
    go_ret
    rw [← dg_yes HP.out, ← dg_yes HQ.out] at hb2
    have hb3 := hb1.trans (kb.mono hb1.size)
    exact ⟨rfl, hb3.trans (hb2.mono hb3.size)⟩
  | false =>
    have HI : Hid (ins P Q = false) := Lib.hid (by unfold ins; rw [hv]; rfl)
    have HV := Lib.hid hv
    clear hv
    go_enter Try.func31, Try.ntmps31
    go_wp2_with (first
      | (refine wpList_store_row rfl 36 (.tmp 5) (.tmp 12) rfl w1.heap.size rfl (arr (dg P)) rfl 36 (arr (List.replicate 16 0)) ((Blk.new w1 _ _).alloc _) hiP hszP (arr_one _) ?_)
      | (refine wpList_store_row rfl 36 (.tmp 6) (.tmp 13) rfl (w1.heap.size + 1) rfl (arr (dg Q)) rfl 36 (arr (List.replicate 16 0)) (first_row w1 _ _ _) hiQ hszQ (arr_one _) ?_)
      | (go_at_call 50; refine (twoDiagrams_any _ _ _ _ Ba Bb P Q _ h hq hBa hBb hl hlq).mono ?_; rintro e w1 ⟨rfl, hb1⟩; rw [HV.out]; obtain ⟨k5, k6, kb⟩ := two_rows w1 36 (arr (List.replicate 16 0)) (arr (dg P)) (arr (dg Q))))
    go_ret
    exact ⟨ret_bool HI.out.symm, hb1.trans (kb.mono hb1.size)⟩
end Go.Proofs.Ytnheolhgdinjgaa
