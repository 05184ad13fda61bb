/-
  Walks of the program: dominance asked; meets and joins. Walks of the program: all parts with a sum. Walks: whether a list is among others. Walks of the model: all parts with a sum. All parts with a sum: their sums, their places, how many: tables.
-/
import Derived.Test.YtmnlmahjgmhdiaaZcov1
import Derived.Test.YtmnlmahjgmhdiaaZcov2
import Derived.Test.YtmnlmahjgmhdiaaZcov3
import Derived.Test.YtmnlmahjgmhdiaaZcov4
import Derived.Test.YtmnlmahjgmhdiaaZcov5
import Derived.Test.YtmnlmahjgmhdiaaZcov6
import Derived.Test.YtmnlmahjgmhdiaaZcov7
import Derived.Test.YtmnlmahjgmhdiaaZcov8
import Derived.Test.YtmnlmahjgmhdiaaZcov9
import Derived.Test.YtmnlmahjgmhdiaaZcov10
namespace Go.Proofs.Ytmnlmahjgmhdiaa
open Go.RowKit NP
set_option maxRecDepth 8000
set_option linter.unusedVariables false
set_option linter.unusedSimpArgs false

set_option maxHeartbeats 2000000 in
theorem ddominates_any (P Q : List Int) (hp : valid P = true) (hq : valid Q = true) (w : World) :
    Calls Try.prog 64 #[.agg (arr (pad P)), .agg (arr (pad Q))] w fun e w' => e = .returned (.bool (dom P Q)) ∧ Below w.heap.size w w' := by
  have hpl := (valid_bd hp).2.2.2
  have hql := (valid_bd hq).2.2.2
  have hlP := pad_len hpl
  have hlQ := pad_len hql
  have hiP := info_diag (pad P) hlP
  have hiQ := info_diag (pad Q) hlQ
  have hu := Try.underlying41
  have hm1 := valid_mt hp hq
  have hj := valid_jn hp hq
  have hlM := pad_len (valid_bd hm1).2.2.2
  have hlJ := pad_len (valid_bd hj).2.2.2
  obtain ⟨hb2, hb3, hal⟩ := rows_two w (pad P) (pad Q)
  have hr2 : ((w.alloc (.cells (arr (pad P)) 41)).alloc (.cells (arr (pad Q)) 41)).rangeAt w.heap.size 0 (ints (pad P)) := Blk.range hb2
  have hr3 : ((w.alloc (.cells (arr (pad P)) 41)).alloc (.cells (arr (pad Q)) 41)).rangeAt (w.heap.size + 1) 0 (ints (pad Q)) := Blk.range hb3
  have hbld : ∀ w : World, (Instr.build 68 #[(0, .agg (ints (pad Q)).toArray), (1, .agg (ints (pad P)).toArray)]).run Try.prog w = .ok (.agg (arr (pad Q ++ pad P))) w := T_build (pad Q) (pad P) hlQ hlP
  have heql : ∀ w : World, (Op.equalIn 10000 68 (.agg (arr (pad (NP.mt P Q) ++ pad (jn P Q)))) (.agg (arr (pad Q ++ pad P)))).run Try.prog w = .ok (dom P Q) w := fun w => by
    rw [T_eqb _ _ _ _ hlM hlJ hlQ hlP, dom_bounds hp hq]
    congr 2
    · rw [decide_eq_decide, NP.pad_inj hm1 hq]
    · rw [decide_eq_decide, NP.pad_inj hj hp]
  have hgt := T_guardB2
  have HP := Lib.hid hp
  have HQ := Lib.hid hq
  clear hp hq hpl hql hlP hlQ hb2 hb3 hm1 hj hlM hlJ
  go_enter Try.func64, Try.ntmps64
  go_wp2_with fail
  refine wp_region_held_drew (S := (fun w' => w'.rangeAt w.heap.size 0 (ints (pad P)) ∧ w'.rangeAt (w.heap.size + 1) 0 (ints (pad Q)) ∧ Below w.heap.size w w')) (by kernel_rfl) ⟨hr2, hr3, hal.trans ((Dr.n _ 1).below _)⟩ (fun hHeld => ?_)
  refine wpAnyH_take (i := 0) (v := _) (by simp only [List.getElem?_toArray, List.getElem?_cons_succ, List.getElem?_cons_zero]; exact rfl) (by kernel_rfl) (by kernel_rfl) (by kernel_rfl) (by intro _ _ _ h; exact h) (yieldsIf_load_mid (by kernel_rfl) _ _ rfl w.heap.size 0 rfl (ints (pad P)) _ (fun _ hw => hw.1) hu rfl hiP) (by assumption) ?_
  simp only [Act.put, List.setIfInBounds_toArray, List.set_cons_zero, List.set_cons_succ, List.toList_toArray]
  refine wpAnyH_take (i := 1) (v := _) (by simp only [List.getElem?_toArray, List.getElem?_cons_succ, List.getElem?_cons_zero]; exact rfl) (by kernel_rfl) (by kernel_rfl) (by kernel_rfl) (by intro _ _ _ h; exact h) (yieldsIf_load_mid (by kernel_rfl) _ _ rfl (w.heap.size + 1) 0 rfl (ints (pad Q)) _ (fun _ hw => hw.2.1) hu rfl hiQ) (by assumption) ?_
  simp only [Act.put, List.setIfInBounds_toArray, List.set_cons_zero, List.set_cons_succ, List.toList_toArray]
  refine wpAnyH_take (i := 3) (v := _) (by simp only [List.getElem?_toArray, List.getElem?_cons_succ, List.getElem?_cons_zero]; exact rfl) (by kernel_rfl) (by kernel_rfl) (by kernel_rfl) (by intro _ _ _ h; exact h) (yieldsIf_load_mid (by kernel_rfl) _ _ rfl (w.heap.size + 1) 0 rfl (ints (pad Q)) _ (fun _ hw => hw.2.1) hu rfl hiQ) (by assumption) ?_
  simp only [Act.put, List.setIfInBounds_toArray, List.set_cons_zero, List.set_cons_succ, List.toList_toArray]
  refine wpAnyH_take (i := 4) (v := _) (by simp only [List.getElem?_toArray, List.getElem?_cons_succ, List.getElem?_cons_zero]; exact rfl) (by kernel_rfl) (by kernel_rfl) (by kernel_rfl) (by intro _ _ _ h; exact h) (yieldsIf_load_mid (by kernel_rfl) _ _ rfl w.heap.size 0 rfl (ints (pad P)) _ (fun _ hw => hw.1) hu rfl hiP) (by assumption) ?_
  simp only [Act.put, List.setIfInBounds_toArray, List.set_cons_zero, List.set_cons_succ, List.toList_toArray]
  refine wpAnyH_take (i := 5) (v := (.agg (arr (pad Q ++ pad P)))) (by simp only [List.getElem?_toArray, List.getElem?_cons_succ, List.getElem?_cons_zero]; exact rfl) (by kernel_rfl) (by kernel_rfl) (by kernel_rfl) (by intro _ _ _ h; exact h) (Or.inl ⟨by kernel_rfl, by intro w hSw; exact exec_build _ _ _ rfl rfl rfl (hbld w)⟩) (by assumption) ?_
  simp only [Act.put, List.setIfInBounds_toArray, List.set_cons_zero, List.set_cons_succ, List.toList_toArray]
  refine wpAnyH_ready (rs := [2]) (by kernel_rfl) (by simp) ?_
  refine AllReadyH.cons (o := _) (by simp only [List.getElem?_toArray, List.getElem?_cons_succ, List.getElem?_cons_zero]; exact rfl) (fun K hK => ?_) AllReadyH.nil
  rw [if_pos (by rfl)]
  go_simp
  go_at_call 79
  refine (byDominance_any P Q HP.out HQ.out _).mono ?_
  rintro e w8 ⟨rfl, hbd⟩
  refine hK.out _ _ (keep_rr2 hHeld hbd) (fun hH => ?_)
  clear hK K
  try simp only [Act.put, List.setIfInBounds_toArray, List.set_cons_zero, List.set_cons_succ, List.toList_toArray]
  refine wpAnyH_take (i := 6) (v := (.bool (dom P Q))) (by simp only [List.getElem?_toArray, List.getElem?_cons_succ, List.getElem?_cons_zero]; exact rfl) (by kernel_rfl) (by kernel_rfl) (by kernel_rfl) (by intro _ _ _ h; exact h) (Or.inl ⟨by kernel_rfl, by intro w hSw; exact exec_eql _ _ _ _ rfl rfl rfl hgt (heql w)⟩) (by assumption) ?_
  simp only [Act.put, List.setIfInBounds_toArray, List.set_cons_zero, List.set_cons_succ, List.toList_toArray]
  refine wpAnyH_take (i := 7) (v := (.bool (dom P Q))) (by simp only [List.getElem?_toArray, List.getElem?_cons_succ, List.getElem?_cons_zero]; exact rfl) (by kernel_rfl) (by kernel_rfl) (by kernel_rfl) (by intro _ _ _ h; exact h) (Or.inl ⟨by kernel_rfl, by intro w hSw; go_simp⟩) (by assumption) ?_
  simp only [Act.put, List.setIfInBounds_toArray, List.set_cons_zero, List.set_cons_succ, List.toList_toArray]
  refine wpAnyH_done (by kernel_rfl) ?_ _
  try simp only [Act.put, List.setIfInBounds_toArray, List.set_cons_zero, List.set_cons_succ]
  go_wp2
  go_ret
  exact ⟨rfl, hH.2.2⟩

set_option maxHeartbeats 2000000 in
theorem iDominates_any (a b : Option Addr) (ca cb Ba Bb : Nat) (P Q : List Int) (w : World) (h : Rd w Ba a (ints P)) (hq : Rd w Bb b (ints Q)) (hBa : Ba ≤ w.heap.size) (hBb : Bb ≤ w.heap.size) (hl : P.length ≤ 4611686018427387904) (hlq : Q.length ≤ 4611686018427387904) :
    Calls Try.prog 34 #[.slice a P.length ca, .slice b Q.length cb] w fun e w' => e = .returned (.bool (dom P Q)) ∧ Below w.heap.size w w' := by
  have hiP : (Try.prog.info? 41).map (·.size) = some (arr (dg P)).size := by rw [arr_size, dg_len]; exact T_info35
  have hszP : (arr (dg P)).size = (arr (List.replicate 16 0)).size := by rw [arr_size, arr_size, dg_len]; rfl
  have hiQ : (Try.prog.info? 41).map (·.size) = some (arr (dg Q)).size := by rw [arr_size, dg_len]; exact T_info35
  have hszQ : (arr (dg Q)).size = (arr (List.replicate 16 0)).size := by rw [arr_size, arr_size, dg_len]; rfl
  cases hv : (valid P && valid Q) with
  | true =>
    have hp : valid P = true := by simp at hv; exact hv.1
    have hq2 : valid Q = true := by simp at hv; exact hv.2
    have HV := Lib.hid hv
    have HP := Lib.hid hp
    have HQ := Lib.hid hq2
    clear hv hp hq2
    go_enter Try.func34, Try.ntmps34
    go_wp2_with (first
      | ((with_reducible show wpList _ _ _ (Oper.mk _ (Op.load 41 (Operand.tmp 5)) _ _ _ _ :: _) _ _); refine wpList_load_row_g rfl 41 (.tmp 5) rfl w1.heap.size rfl 41 (arr (dg P)) (0, 0) _ k5 Try.underlying41 rfl hiP ?_)
      | ((with_reducible show wpList _ _ _ (Oper.mk _ (Op.load 41 (Operand.tmp 6)) _ _ _ _ :: _) _ _); refine wpList_load_row_g rfl 41 (.tmp 6) rfl (w1.heap.size + 1) rfl 41 (arr (dg Q)) (0, 0) _ k6 Try.underlying41 rfl hiQ ?_)
      | ((with_reducible show wpList _ _ _ (Oper.mk _ (Op.store 41 (Operand.tmp 5) (Operand.tmp 12)) _ _ _ _ :: _) _ _); refine wpList_store_row rfl 41 (.tmp 5) (.tmp 12) rfl w1.heap.size rfl (arr (dg P)) rfl 41 (arr (List.replicate 16 0)) ((Blk.new w1 _ _).alloc _) hiP hszP (arr_one _) ?_)
      | ((with_reducible show wpList _ _ _ (Oper.mk _ (Op.store 41 (Operand.tmp 6) (Operand.tmp 13)) _ _ _ _ :: _) _ _); refine wpList_store_row rfl 41 (.tmp 6) (.tmp 13) rfl (w1.heap.size + 1) rfl (arr (dg Q)) rfl 41 (arr (List.replicate 16 0)) (first_row w1 _ _ _) hiQ hszQ (arr_one _) ?_)
      | (go_at_call 64; rw [dg_yes HP.out, dg_yes HQ.out]; refine (ddominates_any P Q HP.out HQ.out _).mono ?_; rintro e w2 ⟨rfl, hb2⟩)
      | (go_at_call 63; refine (twoDiagrams_any _ _ _ _ Ba Bb P Q _ h hq hBa hBb hl hlq).mono ?_; rintro e w1 ⟨rfl, hb1⟩; rw [HV.out]; obtain ⟨k5, k6, kb⟩ := two_rows w1 41 (arr (List.replicate 16 0)) (arr (dg P)) (arr (dg Q))))
    go_ret
    rw [← dg_yes HP.out, ← dg_yes HQ.out] at hb2
    have hb3 := hb1.trans (kb.mono hb1.size)
    exact ⟨rfl, hb3.trans (hb2.mono hb3.size)⟩
  | false =>
    have HI : Hid (dom P Q = false) := Lib.hid (by unfold dom; rw [hv]; rfl)
    have HV := Lib.hid hv
    clear hv
    go_enter Try.func34, Try.ntmps34
    go_wp2_with (first
      | ((with_reducible show wpList _ _ _ (Oper.mk _ (Op.store 41 (Operand.tmp 5) (Operand.tmp 12)) _ _ _ _ :: _) _ _); refine wpList_store_row rfl 41 (.tmp 5) (.tmp 12) rfl w1.heap.size rfl (arr (dg P)) rfl 41 (arr (List.replicate 16 0)) ((Blk.new w1 _ _).alloc _) hiP hszP (arr_one _) ?_)
      | ((with_reducible show wpList _ _ _ (Oper.mk _ (Op.store 41 (Operand.tmp 6) (Operand.tmp 13)) _ _ _ _ :: _) _ _); refine wpList_store_row rfl 41 (.tmp 6) (.tmp 13) rfl (w1.heap.size + 1) rfl (arr (dg Q)) rfl 41 (arr (List.replicate 16 0)) (first_row w1 _ _ _) hiQ hszQ (arr_one _) ?_)
      | (go_at_call 63; refine (twoDiagrams_any _ _ _ _ Ba Bb P Q _ h hq hBa hBb hl hlq).mono ?_; rintro e w1 ⟨rfl, hb1⟩; rw [HV.out]; obtain ⟨k5, k6, kb⟩ := two_rows w1 41 (arr (List.replicate 16 0)) (arr (dg P)) (arr (dg Q))))
    go_ret
    exact ⟨ret_bool HI.out.symm, hb1.trans (kb.mono hb1.size)⟩
end Go.Proofs.Ytmnlmahjgmhdiaa
namespace Go.Proofs.Ytmnlmahjgmhdiaa
open Go.RowKit NP
set_option maxRecDepth 8000
set_option linter.unusedVariables false
set_option linter.unusedSimpArgs false
def apF (n : Int) : List (List Int) := if 0 ≤ n ∧ n ≤ 12 then allQ n.toNat n.toNat n.toNat else []
theorem apF_yes {n : Nat} (h : n ≤ 12) : apF (n : Int) = allQ n n n := by unfold apF; rw [if_pos (by omega)]; simp
theorem apF_no {n : Int} (h : ¬ (0 ≤ n ∧ n ≤ 12)) : apF n = [] := by unfold apF; rw [if_neg h]

theorem all1_any (D : List Int) (W : World) : Calls Try.prog 62 #[.agg (arr D)] W fun e W' => e = .returned (.bool true) ∧ Below W.heap.size W W' := by
  go_enter Try.func62, Try.ntmps62
  go_wp2_with fail
  go_ret
  exact ⟨rfl, (Below.refl _ _).alloc (Nat.le_refl _) _⟩
theorem all1_isK (w : World) : IsK w (.func (.func 62) #[] #[]) (fun _ => true) :=
  ⟨_, _, _, rfl, enters_of Try.func62 (by kernel_rfl) rfl, fun w1 _ L _ => by have := all1_any (pad L) w1; simpa using this⟩
theorem iAllParts_any (n : Int) (w : World) :
    Calls Try.prog 33 #[.int .i64 n] w fun e w' => ∃ (a' : Option Addr) (c' : Nat) (vs : List Value), e = .returned (.slice a' (apF n).length c') ∧ OwnLL w' w.heap.size w'.heap.size 22 3 (.slice a' (apF n).length c') vs (apF n) ∧ Below w.heap.size w w' := by
  by_cases h : 0 ≤ n ∧ n ≤ 12
  · obtain ⟨k, rfl⟩ := Int.eq_ofNat_of_zero_le h.1
    have hk : k ≤ 12 := by omega
    have HE := Lib.hid (apF_yes hk)
    clear h
    go_enter Try.func33, Try.ntmps33
    go_wp2_with (go_at_call 60; refine (listWhere_any k hk _ (fun _ => true) _ (all1_isK _)).mono ?_; rintro e w1 ⟨a', c', vs, rfl, hLL, hb⟩; have hfx : (allQ k k k).filter (fun _ => true) = allQ k k k := (by simp); rw [hfx] at hLL ⊢)
    go_ret
    rw [HE.out]
    exact ⟨a', c', vs, rfl, hLL, hb⟩
  · have HE := Lib.hid (apF_no h)
    have HH := Lib.hid h
    clear h
    go_enter Try.func33, Try.ntmps33
    go_wp2_with (go_at_call 60; refine (listWhere_no n HH.out _ _).mono ?_; rintro e w1 ⟨rfl, hb⟩)
    go_ret
    rw [HE.out]
    exact ⟨none, 0, [], rfl, OwnLL.nil _ _ _ _, hb⟩
end Go.Proofs.Ytmnlmahjgmhdiaa
namespace Go.Proofs.Ytmnlmahjgmhdiaa
open Go.RowKit NP
set_option maxRecDepth 100000
set_option linter.unusedVariables false
set_option linter.unusedSimpArgs false
theorem holdsList_any (a b : Option Addr) (ca cb Ba Bb : Nat) (A : List (List Int)) (L : List Int) (w : World) (h : RdLL w Ba a A) (hm : Rd w Bb b (ints L)) (hl : A.length ≤ 1099511627776) (hil : ∀ X ∈ A, X.length ≤ 4611686018427387904) (hl2 : L.length ≤ 4611686018427387904) :
    Calls Try.prog 39 #[.slice a A.length ca, .slice b L.length cb] w fun e w' => e = .returned (.bool (decide (L ∈ A))) ∧ Dr w w' := by
  go_enter Try.func39, Try.ntmps39
  go_wp2
  go_loopw [5] (fun i wr => ∃ k : Nat, k ≤ A.length ∧ i = .int .i64 k ∧ Dr w wr ∧ Hid (∀ j (hj : j < A.length), j < k → A[j] ≠ L)) (fun i _ => A.length - (intOf i).toNat)
  case atStart => exact ⟨0, Nat.zero_le _, rfl, Dr.refl _, Lib.hid fun j hj h => absurd h (by omega)⟩
  case round =>
    obtain ⟨k, hk, rfl, hdr, HT⟩ := hrel
    by_cases hlt : k < A.length
    · have hlti : (k : Int) < (A.length : Int) := by omega
      have hkw : IntKind.i64.wrap ((k : Int) + 1) = (k : Int) + 1 := IntWalk.i64_in _ (by omega)
      obtain ⟨b1, o1, a1, c1, rfl, -, hc1, hr1, -⟩ := (h.dr hdr).at_ hlt
      have hil1 := hil A[k] (List.getElem_mem hlt)
      have HMEM : Hid (A[k] = L → L ∈ A) := Lib.hid (fun e => e ▸ List.getElem_mem hlt)
      have HNX : Hid (A[k] ≠ L → ∀ j (hj : j < A.length), j < k + 1 → A[j] ≠ L) := Lib.hid (fun h9 j hj hjk => by
        rcases Nat.lt_or_ge j k with h8 | h8
        · exact HT.out j hj h8
        · have : j = k := by omega
          subst this; exact h9)
      generalize A[k] = M at hc1 hr1 hil1 HMEM HNX
      by_cases hx : M = L
      · have HD : Hid (decide (M = L) = true) := Lib.hid (decide_eq_true hx)
        have HF := Lib.hid (HMEM.out hx)
        clear hx
        go_wp2_with fail
        refine (equalInts_any a1 b c1 cb Ba Bb M L _ hr1 (hm.dr hdr) hil1 hl2).mono ?_
        rintro e w' ⟨rfl, n, rfl⟩
        rw [HD.out]
        go_wp2_with fail
        go_ret
        exact ⟨ret_bool (by rw [decide_eq_true HF.out]), hdr.drewN n⟩
      · have HD : Hid (decide (M = L) = false) := Lib.hid (decide_eq_false hx)
        have HF := Lib.hid (HNX.out hx)
        clear hx
        go_wp2_with fail
        refine (equalInts_any a1 b c1 cb Ba Bb M L _ hr1 (hm.dr hdr) hil1 hl2).mono ?_
        rintro e w' ⟨rfl, n, rfl⟩
        rw [HD.out]
        go_wp2_with fail
        go_roundw
        case rel => exact ⟨k + 1, by omega, by go_num, hdr.drewN n, HF⟩
        case measure => simp [intOf]; omega
    · obtain rfl : k = A.length := by omega
      have hge : ¬ (A.length : Int) < (A.length : Int) := by omega
      have HF : Hid (L ∉ A) := Lib.hid (fun hmem => by
        obtain ⟨j, hj, e⟩ := List.getElem_of_mem hmem
        exact HT.out j hj hj e)
      go_wp2_with fail
      go_ret
      exact ⟨ret_bool (by rw [decide_eq_false HF.out]), hdr⟩
end Go.Proofs.Ytmnlmahjgmhdiaa
namespace Go.Proofs.Ytmnlmahjgmhdiaa
open Go.RowKit NP
set_option maxRecDepth 8000
set_option linter.unusedVariables false
set_option linter.unusedSimpArgs false
theorem cntQQ : (List.range 13).all (fun k => decide (cntLL (allQ k k k) ≤ 2000)) = true := by decide +kernel
theorem apF_cnt (n : Int) : cntLL (apF n) ≤ 2000 := by
  unfold apF
  split
  · have := List.all_eq_true.1 cntQQ n.toNat (by simp; omega)
    simpa using this
  · simp [cntLL]
theorem apF_few2 (n : Int) : (apF n).length ≤ 1000 := by
  unfold apF
  split
  · exact allQ_len (by omega)
  · simp
theorem apF_shortTab : (List.range 13).all (fun k => (allQ k k k).all fun X => decide (X.length ≤ 16)) = true := by decide +kernel
theorem apF_short2 (n : Int) : ∀ X ∈ apF n, X.length ≤ 4611686018427387904 := by
  intro X hX
  unfold apF at hX
  split at hX
  · have h1 := List.all_eq_true.1 apF_shortTab n.toNat (by simp; omega)
    have h2 := List.all_eq_true.1 h1 X hX
    simp at h2
    omega
  · simp at hX
end Go.Proofs.Ytmnlmahjgmhdiaa
namespace Go.Proofs.Ytmnlmahjgmhdiaa
open NP
set_option linter.unusedVariables false
def apTab : Bool := (List.range 13).all fun n => decide (((allQ n n n).length : Int) = cpF n) && (List.range (allQ n n n).length).all fun k => decide (sumF ((allQ n n n).getD k []) = (n : Int)) && decide (plcF ((allQ n n n).getD k []) = (k : Int))
set_option maxRecDepth 100000 in
theorem apTab_all : apTab = true := by decide +kernel
theorem ap_facts {n : Nat} (hn : n ≤ 12) : ((allQ n n n).length : Int) = cpF n ∧ ∀ k (h : k < (allQ n n n).length), sumF (allQ n n n)[k] = (n : Int) ∧ plcF (allQ n n n)[k] = (k : Int) := by
  have h1 := List.all_eq_true.1 apTab_all n (by simp; omega)
  rw [Bool.and_eq_true] at h1
  refine ⟨by simpa using h1.1, fun k hk => ?_⟩
  have h2 := List.all_eq_true.1 h1.2 k (by simpa using hk)
  rw [List.getD_eq_getElem?_getD, List.getElem?_eq_getElem hk] at h2
  simpa using h2
end Go.Proofs.Ytmnlmahjgmhdiaa
