/-
  Walks of the program: meets and joins.
-/
import Derived.Test.YtlgglbgdopmkpaaW53
import Derived.Test.YtlgglbgdopmkpaaArr2
namespace Go.Proofs.Ytlgglbgdopmkpaa
open Go.RowKit NP
set_option linter.unusedVariables false
set_option linter.unusedSimpArgs false


set_option maxHeartbeats 2000000 in
theorem iMeetParts_any (a b : Option Addr) (ca cb Ba Bb : Nat) (P Q : List Int) (w : World) (h : Rd w Ba a (ints P)) (hq : Rd w Bb b (ints Q)) (hBa : Ba ≤ w.heap.size) (hBb : Bb ≤ w.heap.size) (hl : P.length ≤ 4611686018427387904) (hlq : Q.length ≤ 4611686018427387904) :
    Calls Try.prog 41 #[.slice a P.length ca, .slice b Q.length cb] w fun e w' => ∃ a' c', e = .returned (.tuple #[.slice a' (mtF P Q).length c', .bool (oneS' P Q)]) ∧ Own w' w.heap.size w'.heap.size 3 (.slice a' (mtF P Q).length c') (ints (mtF P Q)) ∧ Below w.heap.size w w' := by
  have hiP : (Try.prog.info? 40).map (·.size) = some (arr (dg P)).size := by rw [arr_size, dg_len]; exact T_info35
  have hszP : (arr (dg P)).size = (arr (List.replicate 16 0)).size := by rw [arr_size, arr_size, dg_len]; rfl
  have hiQ : (Try.prog.info? 40).map (·.size) = some (arr (dg Q)).size := by rw [arr_size, dg_len]; exact T_info35
  have hszQ : (arr (dg Q)).size = (arr (List.replicate 16 0)).size := by rw [arr_size, arr_size, dg_len]; rfl
  cases hv : oneS P Q with
  | true =>
    have hv' : oneS' P Q = true := hv
    obtain ⟨hp, hq2, hs⟩ := oneS_out hv'
    have hm1 := valid_mt hp hq2
    have hj := valid_jn hp hq2
    have hlM := pad_len (valid_bd hm1).2.2.2
    have hlJ := pad_len (valid_bd hj).2.2.2
    have hx : ∀ w : World, (Instr.field 55 (.agg (arr (pad (NP.mt P Q) ++ pad (jn P Q)))) 0).run Try.prog w = .ok (.agg (arr (pad (NP.mt P Q)))) w := T_field0 _ _ hlM
    rw [mtF_yes hv', hv']
    have HV := Lib.hid hv
    have HP := Lib.hid hp
    have HQ := Lib.hid hq2
    have HM := Lib.hid hm1
    clear hv hv' hp hq2 hs hm1 hj hlM hlJ
    go_enter Try.func41, Try.ntmps41
    go_wp2_with (first
      | (go_at_call 54; refine (list_any (NP.mt P Q) HM.out _).mono ?_; rintro e w3 ⟨a3, rfl, ho3, hb3⟩)
      | (go_at_call 70; rw [dg_yes HP.out, dg_yes HQ.out]; refine (byDominance_any P Q HP.out HQ.out _).mono ?_; rintro e w2 ⟨rfl, hb2⟩)
      | ((with_reducible show wpList _ _ _ (Oper.mk _ (Op.load 40 (Operand.tmp 6)) _ _ _ _ :: _) _ _); refine wpList_load_row rfl 40 (.tmp 6) rfl w1.heap.size rfl 40 (arr (dg P)) (0, 0) _ k5 Try.underlying40 rfl hiP ?_)
      | ((with_reducible show wpList _ _ _ (Oper.mk _ (Op.load 40 (Operand.tmp 7)) _ _ _ _ :: _) _ _); refine wpList_load_row rfl 40 (.tmp 7) rfl (w1.heap.size + 1) rfl 40 (arr (dg Q)) (0, 0) _ k6 Try.underlying40 rfl hiQ ?_)
      | ((with_reducible show wpList _ _ _ (Oper.mk _ (Op.store 40 (Operand.tmp 6) (Operand.tmp 13)) _ _ _ _ :: _) _ _); refine wpList_store_row rfl 40 (.tmp 6) (.tmp 13) rfl w1.heap.size rfl (arr (dg P)) rfl 40 (arr (List.replicate 16 0)) ((Blk.new w1 _ _).alloc _) hiP hszP (arr_one _) ?_)
      | ((with_reducible show wpList _ _ _ (Oper.mk _ (Op.store 40 (Operand.tmp 7) (Operand.tmp 14)) _ _ _ _ :: _) _ _); refine wpList_store_row rfl 40 (.tmp 7) (.tmp 14) rfl (w1.heap.size + 1) rfl (arr (dg Q)) rfl 40 (arr (List.replicate 16 0)) (first_row w1 _ _ _) hiQ hszQ (arr_one _) ?_)
      | (go_at_call 69; refine (twoWithOneSum_any _ _ _ _ Ba Bb P Q _ h hq hBa hBb hl hlq).mono ?_; rintro e w1 ⟨rfl, hb1⟩; rw [HV.out]; obtain ⟨k5, k6, kb⟩ := two_rows w1 40 (arr (List.replicate 16 0)) (arr (dg P)) (arr (dg Q))))
    go_ret2
    rw [← dg_yes HP.out, ← dg_yes HQ.out] at hb2
    have hB1 := hb1.trans (kb.mono hb1.size)
    have hB2 := hB1.trans (hb2.mono hB1.size)
    exact ⟨a3, _, rfl, ho3.lower hB2.size, hB2.trans (hb3.mono hB2.size)⟩
  | false =>
    have hv' : oneS' P Q = false := hv
    rw [mtF_no hv', hv']
    have HV := Lib.hid hv
    clear hv hv'
    go_enter Try.func41, Try.ntmps41
    go_wp2_with (first
      | ((with_reducible show wpList _ _ _ (Oper.mk _ (Op.store 40 (Operand.tmp 6) (Operand.tmp 13)) _ _ _ _ :: _) _ _); refine wpList_store_row rfl 40 (.tmp 6) (.tmp 13) rfl w1.heap.size rfl (arr (dg P)) rfl 40 (arr (List.replicate 16 0)) ((Blk.new w1 _ _).alloc _) hiP hszP (arr_one _) ?_)
      | ((with_reducible show wpList _ _ _ (Oper.mk _ (Op.store 40 (Operand.tmp 7) (Operand.tmp 14)) _ _ _ _ :: _) _ _); refine wpList_store_row rfl 40 (.tmp 7) (.tmp 14) rfl (w1.heap.size + 1) rfl (arr (dg Q)) rfl 40 (arr (List.replicate 16 0)) (first_row w1 _ _ _) hiQ hszQ (arr_one _) ?_)
      | (go_at_call 69; refine (twoWithOneSum_any _ _ _ _ Ba Bb P Q _ h hq hBa hBb hl hlq).mono ?_; rintro e w1 ⟨rfl, hb1⟩; rw [HV.out]; obtain ⟨k5, k6, kb⟩ := two_rows w1 40 (arr (List.replicate 16 0)) (arr (dg P)) (arr (dg Q))))
    go_ret2
    exact ⟨none, 0, rfl, Own.nil _ _ _, hb1.trans (kb.mono hb1.size)⟩

set_option maxHeartbeats 2000000 in
theorem iJoinParts_any (a b : Option Addr) (ca cb Ba Bb : Nat) (P Q : List Int) (w : World) (h : Rd w Ba a (ints P)) (hq : Rd w Bb b (ints Q)) (hBa : Ba ≤ w.heap.size) (hBb : Bb ≤ w.heap.size) (hl : P.length ≤ 4611686018427387904) (hlq : Q.length ≤ 4611686018427387904) :
    Calls Try.prog 45 #[.slice a P.length ca, .slice b Q.length cb] w fun e w' => ∃ a' c', e = .returned (.tuple #[.slice a' (jnF P Q).length c', .bool (oneS' P Q)]) ∧ Own w' w.heap.size w'.heap.size 3 (.slice a' (jnF P Q).length c') (ints (jnF P Q)) ∧ Below w.heap.size w w' := by
  have hiP : (Try.prog.info? 40).map (·.size) = some (arr (dg P)).size := by rw [arr_size, dg_len]; exact T_info35
  have hszP : (arr (dg P)).size = (arr (List.replicate 16 0)).size := by rw [arr_size, arr_size, dg_len]; rfl
  have hiQ : (Try.prog.info? 40).map (·.size) = some (arr (dg Q)).size := by rw [arr_size, dg_len]; exact T_info35
  have hszQ : (arr (dg Q)).size = (arr (List.replicate 16 0)).size := by rw [arr_size, arr_size, dg_len]; rfl
  cases hv : oneS P Q with
  | true =>
    have hv' : oneS' P Q = true := hv
    obtain ⟨hp, hq2, hs⟩ := oneS_out hv'
    have hm1 := valid_mt hp hq2
    have hj := valid_jn hp hq2
    have hlM := pad_len (valid_bd hm1).2.2.2
    have hlJ := pad_len (valid_bd hj).2.2.2
    have hx : ∀ w : World, (Instr.field 55 (.agg (arr (pad (NP.mt P Q) ++ pad (jn P Q)))) 1).run Try.prog w = .ok (.agg (arr (pad (jn P Q)))) w := T_field1 _ _ hlM hlJ
    rw [jnF_yes hv', hv']
    have HV := Lib.hid hv
    have HP := Lib.hid hp
    have HQ := Lib.hid hq2
    have HM := Lib.hid hj
    clear hv hv' hp hq2 hs hm1 hj hlM hlJ
    go_enter Try.func45, Try.ntmps45
    go_wp2_with (first
      | (go_at_call 54; refine (list_any (jn P Q) HM.out _).mono ?_; rintro e w3 ⟨a3, rfl, ho3, hb3⟩)
      | (go_at_call 70; rw [dg_yes HP.out, dg_yes HQ.out]; refine (byDominance_any P Q HP.out HQ.out _).mono ?_; rintro e w2 ⟨rfl, hb2⟩)
      | ((with_reducible show wpList _ _ _ (Oper.mk _ (Op.load 40 (Operand.tmp 6)) _ _ _ _ :: _) _ _); refine wpList_load_row rfl 40 (.tmp 6) rfl w1.heap.size rfl 40 (arr (dg P)) (0, 0) _ k5 Try.underlying40 rfl hiP ?_)
      | ((with_reducible show wpList _ _ _ (Oper.mk _ (Op.load 40 (Operand.tmp 7)) _ _ _ _ :: _) _ _); refine wpList_load_row rfl 40 (.tmp 7) rfl (w1.heap.size + 1) rfl 40 (arr (dg Q)) (0, 0) _ k6 Try.underlying40 rfl hiQ ?_)
      | ((with_reducible show wpList _ _ _ (Oper.mk _ (Op.store 40 (Operand.tmp 6) (Operand.tmp 13)) _ _ _ _ :: _) _ _); refine wpList_store_row rfl 40 (.tmp 6) (.tmp 13) rfl w1.heap.size rfl (arr (dg P)) rfl 40 (arr (List.replicate 16 0)) ((Blk.new w1 _ _).alloc _) hiP hszP (arr_one _) ?_)
      | ((with_reducible show wpList _ _ _ (Oper.mk _ (Op.store 40 (Operand.tmp 7) (Operand.tmp 14)) _ _ _ _ :: _) _ _); refine wpList_store_row rfl 40 (.tmp 7) (.tmp 14) rfl (w1.heap.size + 1) rfl (arr (dg Q)) rfl 40 (arr (List.replicate 16 0)) (first_row w1 _ _ _) hiQ hszQ (arr_one _) ?_)
      | (go_at_call 69; refine (twoWithOneSum_any _ _ _ _ Ba Bb P Q _ h hq hBa hBb hl hlq).mono ?_; rintro e w1 ⟨rfl, hb1⟩; rw [HV.out]; obtain ⟨k5, k6, kb⟩ := two_rows w1 40 (arr (List.replicate 16 0)) (arr (dg P)) (arr (dg Q))))
    go_ret2
    rw [← dg_yes HP.out, ← dg_yes HQ.out] at hb2
    have hB1 := hb1.trans (kb.mono hb1.size)
    have hB2 := hB1.trans (hb2.mono hB1.size)
    exact ⟨a3, _, rfl, ho3.lower hB2.size, hB2.trans (hb3.mono hB2.size)⟩
  | false =>
    have hv' : oneS' P Q = false := hv
    rw [jnF_no hv', hv']
    have HV := Lib.hid hv
    clear hv hv'
    go_enter Try.func45, Try.ntmps45
    go_wp2_with (first
      | ((with_reducible show wpList _ _ _ (Oper.mk _ (Op.store 40 (Operand.tmp 6) (Operand.tmp 13)) _ _ _ _ :: _) _ _); refine wpList_store_row rfl 40 (.tmp 6) (.tmp 13) rfl w1.heap.size rfl (arr (dg P)) rfl 40 (arr (List.replicate 16 0)) ((Blk.new w1 _ _).alloc _) hiP hszP (arr_one _) ?_)
      | ((with_reducible show wpList _ _ _ (Oper.mk _ (Op.store 40 (Operand.tmp 7) (Operand.tmp 14)) _ _ _ _ :: _) _ _); refine wpList_store_row rfl 40 (.tmp 7) (.tmp 14) rfl (w1.heap.size + 1) rfl (arr (dg Q)) rfl 40 (arr (List.replicate 16 0)) (first_row w1 _ _ _) hiQ hszQ (arr_one _) ?_)
      | (go_at_call 69; refine (twoWithOneSum_any _ _ _ _ Ba Bb P Q _ h hq hBa hBb hl hlq).mono ?_; rintro e w1 ⟨rfl, hb1⟩; rw [HV.out]; obtain ⟨k5, k6, kb⟩ := two_rows w1 40 (arr (List.replicate 16 0)) (arr (dg P)) (arr (dg Q))))
    go_ret2
    exact ⟨none, 0, rfl, Own.nil _ _ _, hb1.trans (kb.mono hb1.size)⟩
end Go.Proofs.Ytlgglbgdopmkpaa
