/-
  Walks of the program: what two have both, and what has both.
-/
import Derived.Test.YtlgglbgdopmkpaaW47
import Derived.Test.YtlgglbgdopmkpaaW55
namespace Go.Proofs.Ytlgglbgdopmkpaa
open Go.RowKit NP
set_option linter.unusedVariables false
set_option linter.unusedSimpArgs false
theorem wpList_load_mid_g {P : Program} {ops : Array Oper} {rest : List Oper} {op : Oper} {a : Act} {w : World} {Q : Exit → Act → World → Prop} (hgd : Region.wanted op (yielded ops a.tmps) = true) (ty : TypeId) (x : Operand) (ho : op.op = .load ty x)
    (b o : Nat) (hx : a.eval x = .pointer (some ⟨b, o, none⟩)) (cs : List Value) (d : TypeDesc) (hc : w.rangeAt b o cs)
    (hu : P.underlying ty = some d) (hd : d.isRow = true) (hi : (P.info? ty).map (·.size) = some cs.length)
    (h : wpList P ops Q rest (a.put op.dst (.agg cs.toArray)) w) : wpList P ops Q (op :: rest) a w :=
  wpList_step fun K hK => by
    rw [if_pos hgd]
    exact wp_load_mid ty x ho b o hx cs d hc hu hd hi (hK _ _ h)
theorem range_parts {w : World} {g : Nat} {t : TypeId} {A B : List Int} (h : Blk w g t (arr (A ++ B))) (n : Nat) (hA : A.length = n) : w.rangeAt g 0 (ints A) ∧ w.rangeAt g n (ints B) := by
  constructor
  · intro j v hv
    rw [Nat.zero_add, h.cell j]
    have hj : j < (ints A).length := (List.getElem?_eq_some_iff.1 hv).1
    simp only [List.length_map] at hj
    simp only [arr, List.getElem?_toArray, List.map_append]
    rw [List.getElem?_append_left (by simpa using hj)]
    exact hv
  · intro j v hv
    rw [h.cell (n + j)]
    simp only [arr, List.getElem?_toArray, List.map_append]
    rw [List.getElem?_append_right (by simp; omega)]
    rw [List.length_map, hA, Nat.add_sub_cancel_left]
    exact hv
theorem fits_small {L : List Int} (hl : L.length ≤ 16) (h : ∀ k (h : k < L.length), 0 ≤ L[k] ∧ L[k] ≤ 16) : sumFits L := by
  have key : ∀ k, k ≤ L.length → 0 ≤ sumL (L.take k) ∧ sumL (L.take k) ≤ 16 * k := by
    intro k
    induction k with
    | zero => intro _; simp [sumL]
    | succ k ih =>
      intro hk
      have := ih (by omega)
      have h1 := h k (by omega)
      rw [sumL_take_succ _ k (by omega)]
      omega
  intro k hk
  have := key k hk
  omega
theorem sumL_map (f : Nat → Int) (n : Nat) : sumL ((List.range n).map f) = sf f n := by
  induction n with
  | zero => rfl
  | succ n ih => rw [List.range_succ, List.map_append, sumL_append, ih]; simp [sumL, sf]
theorem sf_le_all {f : Nat → Int} (h : ∀ i, 0 ≤ f i ∧ f i ≤ 16) (n : Nat) : 0 ≤ sf f n ∧ sf f n ≤ 16 * n := by
  induction n with
  | zero => simp [sf]
  | succ n ih => have := h n; rw [sf]; omega
theorem keep_cut {w0 w w' : World} {g n m : Nat} {c1 c2 : List Value} (h : w.rangeAt g n c1 ∧ w.rangeAt g m c2 ∧ Below w0.heap.size w0 w) (hb : Below w.heap.size w w') :
    w'.rangeAt g n c1 ∧ w'.rangeAt g m c2 ∧ Below w0.heap.size w0 w' :=
  ⟨range_below h.1 hb, range_below h.2.1 hb, h.2.2.trans (hb.mono h.2.2.size)⟩
theorem dg_getD {L : List Int} (hv : valid L = true) (i : Nat) : (dg L).getD i 0 = L.getD i 0 := by rw [dg_yes hv, pad_getD (valid_bd hv).2.2.2]
theorem lo_dg {P Q : List Int} (hp : valid P = true) (hq : valid Q = true) : (List.range 16).map (lo2 (dg P) (dg Q)) = pad (cutL P Q) := by
  have e : lo2 (dg P) (dg Q) = lo2 P Q := by funext i; unfold lo2; rw [dg_getD hp, dg_getD hq]
  rw [e]
  exact (pad_tr (lo2_fall hp hq) (lo2_nn hp hq)).symm
theorem hi_dg {P Q : List Int} (hp : valid P = true) (hq : valid Q = true) : (List.range 16).map (hi2 (dg P) (dg Q)) = pad (cutH P Q) ∧ sumL ((List.range 16).map (hi2 (dg P) (dg Q))) = sf (hi2 P Q) 16 ∧ sumFits ((List.range 16).map (hi2 (dg P) (dg Q))) ∧ 0 ≤ sf (hi2 P Q) 16 ∧ sf (hi2 P Q) 16 ≤ 1000 := by
  have e : hi2 (dg P) (dg Q) = hi2 P Q := by funext i; unfold hi2; rw [dg_getD hp, dg_getD hq]
  have hb : ∀ i, 0 ≤ hi2 P Q i ∧ hi2 P Q i ≤ 16 := fun i => by have := getD_nn hp i; have := getD_nn hq i; unfold hi2; omega
  rw [e]
  have hs := sf_le_all hb 16
  refine ⟨(pad_tr (hi2_fall hp hq) (hi2_nn hp hq)).symm, sumL_map _ _, fits_small (by simp) (fun k hk => ?_), hs.1, by omega⟩
  rw [List.getElem_map]
  exact hb _

set_option maxHeartbeats 4000000 in
theorem iCutInside_any (a b : Option Addr) (ca cb Ba Bb : Nat) (P Q : List Int) (w : World) (h : Rd w Ba a (ints P)) (hq : Rd w Bb b (ints Q)) (hBa : Ba ≤ w.heap.size) (hBb : Bb ≤ w.heap.size) (hl : P.length ≤ 4611686018427387904) (hlq : Q.length ≤ 4611686018427387904) :
    Calls Try.prog 32 #[.slice a P.length ca, .slice b Q.length cb] w fun e w' => ∃ a1 c1 a2 c2 md, e = .returned (.tuple #[.slice a1 (cutLF P Q).length c1, .slice a2 (cutHF P Q).length c2, .bool (cutOk P Q)]) ∧ Own w' w.heap.size md 3 (.slice a1 (cutLF P Q).length c1) (ints (cutLF P Q)) ∧ Own w' md w'.heap.size 3 (.slice a2 (cutHF P Q).length c2) (ints (cutHF P Q)) ∧ w.heap.size ≤ md ∧ md ≤ w'.heap.size ∧ Below w.heap.size w w' := by
  have hiP : (Try.prog.info? 40).map (·.size) = some (arr (dg P)).size := by rw [arr_size, dg_len]; exact T_info35
  have hszP : (arr (dg P)).size = (arr (List.replicate 16 0)).size := by rw [arr_size, arr_size, dg_len]; rfl
  have hiQ : (Try.prog.info? 40).map (·.size) = some (arr (dg Q)).size := by rw [arr_size, dg_len]; exact T_info35
  have hszQ : (arr (dg Q)).size = (arr (List.replicate 16 0)).size := by rw [arr_size, arr_size, dg_len]; rfl
  obtain ⟨X, hX⟩ : ∃ X, X = ((List.range 16).map (lo2 (dg P) (dg Q))) := ⟨_, rfl⟩
  obtain ⟨Y, hY⟩ : ∃ Y, Y = ((List.range 16).map (hi2 (dg P) (dg Q))) := ⟨_, rfl⟩
  have hXl : X.length = 16 := by rw [hX]; simp
  have hYl : Y.length = 16 := by rw [hY]; simp
  have hi32 : (Try.prog.info? 55).map (·.size) = some (arr (X ++ Y)).size := by rw [arr_size, List.length_append, hXl, hYl]; exact T_info_bounds
  have hsz32 : (arr (X ++ Y)).size = (arr (List.replicate 32 0)).size := by rw [arr_size, arr_size, List.length_append, hXl, hYl]; rfl
  have hiX := info_diag X hXl
  have hiY := info_diag Y hYl
  have hu := Try.underlying40
  have HXY : Hid (arr (((List.range 16).map (lo2 (dg P) (dg Q))) ++ ((List.range 16).map (hi2 (dg P) (dg Q)))) = arr (X ++ Y)) := Lib.hid (by rw [hX, hY])
  cases hv : (valid P && valid Q) with
  | false =>
    have HI : cutOk P Q = false := by unfold cutOk; rw [hv]; rfl
    rw [cutLF_no HI, cutHF_no HI, HI]
    have HV := Lib.hid hv
    clear hv HI hX hY
    go_enter Try.func32, Try.ntmps32
    go_wp2_with (first
      | ((with_reducible show wpList _ _ _ (Oper.mk _ (Op.store 55 (Operand.tmp 10) (Operand.tmp 20)) _ _ _ _ :: _) _ _); refine wpList_store_row rfl 55 (.tmp 10) (.tmp 20) rfl w2.heap.size rfl (arr (X ++ Y)) rfl 55 (arr (List.replicate 32 0)) (Blk.new w2 _ _) hi32 hsz32 (arr_one _) ?_)
      | (go_at_call 62; refine (byCells_any (dg P) (dg Q) (dg_len P) (dg_len Q) _).mono ?_; rintro e w2 ⟨rfl, hb2⟩; rw [HXY.out])
      | ((with_reducible show wpList _ _ _ (Oper.mk _ (Op.load 40 (Operand.tmp 7)) _ _ _ _ :: _) _ _); refine wpList_load_row rfl 40 (.tmp 7) rfl w1.heap.size rfl 40 (arr (dg P)) (0, 0) _ k5 Try.underlying40 rfl hiP ?_) | ((with_reducible show wpList _ _ _ (Oper.mk _ (Op.load 40 (Operand.tmp 8)) _ _ _ _ :: _) _ _); refine wpList_load_row rfl 40 (.tmp 8) rfl (w1.heap.size + 1) rfl 40 (arr (dg Q)) (0, 0) _ k6 Try.underlying40 rfl hiQ ?_)
      | ((with_reducible show wpList _ _ _ (Oper.mk _ (Op.store 40 (Operand.tmp 7) (Operand.tmp 15)) _ _ _ _ :: _) _ _); refine wpList_store_row rfl 40 (.tmp 7) (.tmp 15) rfl w1.heap.size rfl (arr (dg P)) rfl 40 (arr (List.replicate 16 0)) ((Blk.new w1 _ _).alloc _) hiP hszP (arr_one _) ?_) | ((with_reducible show wpList _ _ _ (Oper.mk _ (Op.store 40 (Operand.tmp 8) (Operand.tmp 16)) _ _ _ _ :: _) _ _); refine wpList_store_row rfl 40 (.tmp 8) (.tmp 16) rfl (w1.heap.size + 1) rfl (arr (dg Q)) rfl 40 (arr (List.replicate 16 0)) (first_row w1 _ _ _) hiQ hszQ (arr_one _) ?_)
      | (go_at_call 57; refine (twoDiagrams_any _ _ _ _ Ba Bb P Q _ h hq hBa hBb hl hlq).mono ?_; rintro e w1 ⟨rfl, hb1⟩; rw [HV.out]; obtain ⟨k5, k6, kb⟩ := two_rows w1 40 (arr (List.replicate 16 0)) (arr (dg P)) (arr (dg Q))))
    go_ret3
    have hB1 := hb1.trans (kb.mono hb1.size)
    have hB2 := hB1.trans (hb2.mono hB1.size)
    have hB3 : Below w.heap.size w ((w2.alloc (.cells (arr (List.replicate 32 0)) 55)).setRow w2.heap.size (arr (X ++ Y))) := below_setRow' (hB2.alloc hB2.size _) hB2.size _
    exact ⟨none, 0, none, 0, _, rfl, Own.nil _ _ _, Own.nil _ _ _, hB3.size, Nat.le_refl _, hB3⟩
  | true =>
    have hp : valid P = true := by simp at hv; exact hv.1
    have hq2 : valid Q = true := by simp at hv; exact hv.2
    have hlo := lo_dg hp hq2
    obtain ⟨hh1, hh2, hh3, hh4, hh5⟩ := hi_dg hp hq2
    rw [← hX] at hlo
    rw [← hY] at hh1 hh2 hh3
    have HV := Lib.hid hv
    have HL := Lib.hid hlo
    have HH := Lib.hid hh1
    have HVL := Lib.hid (valid_cutL hp hq2)
    have HSM := Lib.hid hh2
    have HFT := Lib.hid hh3
    have HYL := Lib.hid hYl
    have HXL := Lib.hid hXl
    cases hok : cutOk P Q with
    | false =>
      have hgt : decide (16 < sf (hi2 P Q) 16) = true := by
        unfold cutOk at hok
        rw [hp, hq2] at hok
        simp at hok
        exact decide_eq_true hok
      rw [cutLF_no hok, cutHF_no hok]
      obtain ⟨s, hs⟩ : ∃ s, s = sf (hi2 P Q) 16 := ⟨_, rfl⟩
      rw [← hs] at HSM hh4 hh5 hgt
      clear hv hok hX hY hp hq2 hlo hh1 hh2 hh3 hs hXl hYl
      go_enter Try.func32, Try.ntmps32
      go_wp2_with (first
        | ((with_reducible show wpList _ _ _ (Oper.mk _ (Op.load 40 (Operand.tmp 24)) _ _ _ _ :: _) _ _); refine wpList_load_mid_g rfl 40 (.tmp 24) rfl w2.heap.size 16 rfl (ints Y) _ kx.2 hu rfl hiY ?_)
        | ((with_reducible show wpList _ _ _ (Oper.mk _ (Op.store 55 (Operand.tmp 10) (Operand.tmp 20)) _ _ _ _ :: _) _ _); refine wpList_store_row rfl 55 (.tmp 10) (.tmp 20) rfl w2.heap.size rfl (arr (X ++ Y)) rfl 55 (arr (List.replicate 32 0)) (Blk.new w2 _ _) hi32 hsz32 (arr_one _) ?_; have kx := range_parts ((Blk.new w2 55 (arr (List.replicate 32 0))).row (vs := arr (X ++ Y))) 16 HXL.out)
        | (go_at_call 63; refine (dsum_any Y HYL.out HFT.out _).mono ?_; rintro e w3 ⟨rfl, hb3⟩; rw [HSM.out])
        | (go_at_call 62; refine (byCells_any (dg P) (dg Q) (dg_len P) (dg_len Q) _).mono ?_; rintro e w2 ⟨rfl, hb2⟩; rw [HXY.out])
        | ((with_reducible show wpList _ _ _ (Oper.mk _ (Op.load 40 (Operand.tmp 7)) _ _ _ _ :: _) _ _); refine wpList_load_row rfl 40 (.tmp 7) rfl w1.heap.size rfl 40 (arr (dg P)) (0, 0) _ k5 Try.underlying40 rfl hiP ?_) | ((with_reducible show wpList _ _ _ (Oper.mk _ (Op.load 40 (Operand.tmp 8)) _ _ _ _ :: _) _ _); refine wpList_load_row rfl 40 (.tmp 8) rfl (w1.heap.size + 1) rfl 40 (arr (dg Q)) (0, 0) _ k6 Try.underlying40 rfl hiQ ?_)
        | ((with_reducible show wpList _ _ _ (Oper.mk _ (Op.store 40 (Operand.tmp 7) (Operand.tmp 15)) _ _ _ _ :: _) _ _); refine wpList_store_row rfl 40 (.tmp 7) (.tmp 15) rfl w1.heap.size rfl (arr (dg P)) rfl 40 (arr (List.replicate 16 0)) ((Blk.new w1 _ _).alloc _) hiP hszP (arr_one _) ?_) | ((with_reducible show wpList _ _ _ (Oper.mk _ (Op.store 40 (Operand.tmp 8) (Operand.tmp 16)) _ _ _ _ :: _) _ _); refine wpList_store_row rfl 40 (.tmp 8) (.tmp 16) rfl (w1.heap.size + 1) rfl (arr (dg Q)) rfl 40 (arr (List.replicate 16 0)) (first_row w1 _ _ _) hiQ hszQ (arr_one _) ?_)
        | (go_at_call 57; refine (twoDiagrams_any _ _ _ _ Ba Bb P Q _ h hq hBa hBb hl hlq).mono ?_; rintro e w1 ⟨rfl, hb1⟩; rw [HV.out]; obtain ⟨k5, k6, kb⟩ := two_rows w1 40 (arr (List.replicate 16 0)) (arr (dg P)) (arr (dg Q))))
      go_ret3
      have hB1 := hb1.trans (kb.mono hb1.size)
      have hB2 := hB1.trans (hb2.mono hB1.size)
      have hB3 : Below w.heap.size w ((w2.alloc (.cells (arr (List.replicate 32 0)) 55)).setRow w2.heap.size (arr (X ++ Y))) := below_setRow' (hB2.alloc hB2.size _) hB2.size _
      have hB4 := hB3.trans (hb3.mono hB3.size)
      exact ⟨none, 0, none, 0, _, rfl, Own.nil _ _ _, Own.nil _ _ _, hB4.size, Nat.le_refl _, hB4⟩
    | true =>
      have hgt : decide (16 < sf (hi2 P Q) 16) = false := decide_eq_false (by have := (cutOk_out hok).2.2; omega)
      have HVH := Lib.hid (valid_cutH hok)
      rw [cutLF_yes hok, cutHF_yes hok]
      obtain ⟨s, hs⟩ : ∃ s, s = sf (hi2 P Q) 16 := ⟨_, rfl⟩
      rw [← hs] at HSM hh4 hh5 hgt
      clear hv hok hX hY hp hq2 hlo hh1 hh2 hh3 hs hXl hYl
      go_enter Try.func32, Try.ntmps32
      go_wp2_with (first
        | ((with_reducible show wpList _ _ _ (Oper.mk _ (Op.load 40 (Operand.tmp 24)) _ _ _ _ :: _) _ _); refine wpList_load_mid_g rfl 40 (.tmp 24) rfl w2.heap.size 16 rfl (ints Y) _ kx.2 hu rfl hiY ?_)
        | ((with_reducible show wpList _ _ _ (Oper.mk _ (Op.store 55 (Operand.tmp 10) (Operand.tmp 20)) _ _ _ _ :: _) _ _); refine wpList_store_row rfl 55 (.tmp 10) (.tmp 20) rfl w2.heap.size rfl (arr (X ++ Y)) rfl 55 (arr (List.replicate 32 0)) (Blk.new w2 _ _) hi32 hsz32 (arr_one _) ?_; have kx := range_parts ((Blk.new w2 55 (arr (List.replicate 32 0))).row (vs := arr (X ++ Y))) 16 HXL.out)
        | (go_at_call 63; refine (dsum_any Y HYL.out HFT.out _).mono ?_; rintro e w3 ⟨rfl, hb3⟩; rw [HSM.out])
        | (go_at_call 62; refine (byCells_any (dg P) (dg Q) (dg_len P) (dg_len Q) _).mono ?_; rintro e w2 ⟨rfl, hb2⟩; rw [HXY.out])
        | ((with_reducible show wpList _ _ _ (Oper.mk _ (Op.load 40 (Operand.tmp 7)) _ _ _ _ :: _) _ _); refine wpList_load_row rfl 40 (.tmp 7) rfl w1.heap.size rfl 40 (arr (dg P)) (0, 0) _ k5 Try.underlying40 rfl hiP ?_) | ((with_reducible show wpList _ _ _ (Oper.mk _ (Op.load 40 (Operand.tmp 8)) _ _ _ _ :: _) _ _); refine wpList_load_row rfl 40 (.tmp 8) rfl (w1.heap.size + 1) rfl 40 (arr (dg Q)) (0, 0) _ k6 Try.underlying40 rfl hiQ ?_)
        | ((with_reducible show wpList _ _ _ (Oper.mk _ (Op.store 40 (Operand.tmp 7) (Operand.tmp 15)) _ _ _ _ :: _) _ _); refine wpList_store_row rfl 40 (.tmp 7) (.tmp 15) rfl w1.heap.size rfl (arr (dg P)) rfl 40 (arr (List.replicate 16 0)) ((Blk.new w1 _ _).alloc _) hiP hszP (arr_one _) ?_) | ((with_reducible show wpList _ _ _ (Oper.mk _ (Op.store 40 (Operand.tmp 8) (Operand.tmp 16)) _ _ _ _ :: _) _ _); refine wpList_store_row rfl 40 (.tmp 8) (.tmp 16) rfl (w1.heap.size + 1) rfl (arr (dg Q)) rfl 40 (arr (List.replicate 16 0)) (first_row w1 _ _ _) hiQ hszQ (arr_one _) ?_)
        | (go_at_call 57; refine (twoDiagrams_any _ _ _ _ Ba Bb P Q _ h hq hBa hBb hl hlq).mono ?_; rintro e w1 ⟨rfl, hb1⟩; rw [HV.out]; obtain ⟨k5, k6, kb⟩ := two_rows w1 40 (arr (List.replicate 16 0)) (arr (dg P)) (arr (dg Q))))
      have hB1 := hb1.trans (kb.mono hb1.size)
      have hB2 := hB1.trans (hb2.mono hB1.size)
      have hB3 : Below w.heap.size w ((w2.alloc (.cells (arr (List.replicate 32 0)) 55)).setRow w2.heap.size (arr (X ++ Y))) := below_setRow' (hB2.alloc hB2.size _) hB2.size _
      have hB4 := hB3.trans (hb3.mono hB3.size)
      have r1 := range_below kx.1 hb3
      have r2 := range_below kx.2 hb3
      refine wp_region_held_drew (S := (fun w' => w'.rangeAt w2.heap.size 0 (ints X) ∧ w'.rangeAt w2.heap.size 16 (ints Y) ∧ Below w.heap.size w w')) (by kernel_rfl) ⟨r1, r2, hB4.trans ((Dr.n w3 1).below _)⟩ (fun hHeld => ?_)
      refine wpAnyH_take (i := 0) (v := (.pointer (some ⟨w2.heap.size, 0, none⟩))) (by simp only [List.getElem?_toArray, List.getElem?_cons_succ, List.getElem?_cons_zero]; exact rfl) (by kernel_rfl) (by kernel_rfl) (by kernel_rfl) (by intro _ _ _ h; exact h) (Or.inl ⟨by kernel_rfl, by intro w hSw; go_simp⟩) (by assumption) ?_
      simp only [Act.put, List.setIfInBounds_toArray, List.set_cons_zero, List.set_cons_succ, List.toList_toArray]
      refine wpAnyH_take (i := 3) (v := (.pointer (some ⟨w2.heap.size, 16, none⟩))) (by simp only [List.getElem?_toArray, List.getElem?_cons_succ, List.getElem?_cons_zero]; exact rfl) (by kernel_rfl) (by kernel_rfl) (by kernel_rfl) (by intro _ _ _ h; exact h) (Or.inl ⟨by kernel_rfl, by intro w hSw; go_simp⟩) (by assumption) ?_
      simp only [Act.put, List.setIfInBounds_toArray, List.set_cons_zero, List.set_cons_succ, List.toList_toArray]
      refine wpAnyH_take (i := 1) (v := _) (by simp only [List.getElem?_toArray, List.getElem?_cons_succ, List.getElem?_cons_zero]; exact rfl) (by kernel_rfl) (by kernel_rfl) (by kernel_rfl) (by intro _ _ _ h; exact h) (yieldsIf_load_mid (by kernel_rfl) _ _ rfl w2.heap.size 0 rfl (ints X) _ (fun _ hw => hw.1) hu rfl hiX) (by assumption) ?_
      simp only [Act.put, List.setIfInBounds_toArray, List.set_cons_zero, List.set_cons_succ, List.toList_toArray]
      refine wpAnyH_take (i := 4) (v := _) (by simp only [List.getElem?_toArray, List.getElem?_cons_succ, List.getElem?_cons_zero]; exact rfl) (by kernel_rfl) (by kernel_rfl) (by kernel_rfl) (by intro _ _ _ h; exact h) (yieldsIf_load_mid (by kernel_rfl) _ _ rfl w2.heap.size 16 rfl (ints Y) _ (fun _ hw => hw.2.1) hu rfl hiY) (by assumption) ?_
      simp only [Act.put, List.setIfInBounds_toArray, List.set_cons_zero, List.set_cons_succ, List.toList_toArray]
      refine wpAnyH_ready (rs := [2]) (by kernel_rfl) (by simp) ?_
      refine AllReadyH.cons (o := _) (by simp only [List.getElem?_toArray, List.getElem?_cons_succ, List.getElem?_cons_zero]; exact rfl) (fun K hK => ?_) AllReadyH.nil
      rw [if_pos (by rfl)]
      go_simp
      go_at_call 54
      rw [show (ints X).toArray = arr (pad (cutL P Q)) from by rw [← HL.out]; rfl]
      refine (list_any (cutL P Q) HVL.out _).mono ?_
      rintro e w5 ⟨a3, rfl, ho3, hbd⟩
      refine hK.out _ _ (keep_cut hHeld hbd) (fun hH3 => ?_)
      clear hK K
      try simp only [Act.put, List.setIfInBounds_toArray, List.set_cons_zero, List.set_cons_succ, List.toList_toArray]
      refine wpAnyH_ready (rs := [5]) (by kernel_rfl) (by simp) ?_
      refine AllReadyH.cons (o := _) (by simp only [List.getElem?_toArray, List.getElem?_cons_succ, List.getElem?_cons_zero]; exact rfl) (fun K hK => ?_) AllReadyH.nil
      rw [if_pos (by rfl)]
      go_simp
      go_at_call 54
      rw [show (ints Y).toArray = arr (pad (cutH P Q)) from by rw [← HH.out]; rfl]
      refine (list_any (cutH P Q) HVH.out _).mono ?_
      rintro e w6 ⟨a5, rfl, ho5, hbd4⟩
      refine hK.out _ _ (keep_cut hH3 hbd4) (fun hH4 => ?_)
      clear hK K
      try simp only [Act.put, List.setIfInBounds_toArray, List.set_cons_zero, List.set_cons_succ, List.toList_toArray]
      refine wpAnyH_take (i := 6) (v := (.slice a3 (cutL P Q).length (cutL P Q).length)) (by simp only [List.getElem?_toArray, List.getElem?_cons_succ, List.getElem?_cons_zero]; exact rfl) (by kernel_rfl) (by kernel_rfl) (by kernel_rfl) (by intro _ _ _ h; exact h) (Or.inl ⟨by kernel_rfl, by intro w hSw; go_simp⟩) (by assumption) ?_
      simp only [Act.put, List.setIfInBounds_toArray, List.set_cons_zero, List.set_cons_succ, List.toList_toArray]
      refine wpAnyH_take (i := 7) (v := (.slice a5 (cutH P Q).length (cutH P Q).length)) (by simp only [List.getElem?_toArray, List.getElem?_cons_succ, List.getElem?_cons_zero]; exact rfl) (by kernel_rfl) (by kernel_rfl) (by kernel_rfl) (by intro _ _ _ h; exact h) (Or.inl ⟨by kernel_rfl, by intro w hSw; go_simp⟩) (by assumption) ?_
      simp only [Act.put, List.setIfInBounds_toArray, List.set_cons_zero, List.set_cons_succ, List.toList_toArray]
      refine wpAnyH_take (i := 8) (v := (.bool true)) (by simp only [List.getElem?_toArray, List.getElem?_cons_succ, List.getElem?_cons_zero]; exact rfl) (by kernel_rfl) (by kernel_rfl) (by kernel_rfl) (by intro _ _ _ h; exact h) (Or.inl ⟨by kernel_rfl, by intro w hSw; go_simp⟩) (by assumption) ?_
      simp only [Act.put, List.setIfInBounds_toArray, List.set_cons_zero, List.set_cons_succ, List.toList_toArray]
      refine wpAnyH_done (by kernel_rfl) ?_ _
      try simp only [Act.put, List.setIfInBounds_toArray, List.set_cons_zero, List.set_cons_succ]
      go_wp2
      go_ret3
      have ho3' := ho3.below (hbd4.mono ho3.le)
      exact ⟨a3, _, a5, _, w5.heap.size, rfl, ho3'.lower (by exact hB4.size), ho5, hH3.2.2.size, hbd4.size, hH4.2.2⟩
end Go.Proofs.Ytlgglbgdopmkpaa
