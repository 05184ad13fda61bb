/-
  Walks of the program: dominance asked; meets and joins. Walks of the program: the first diagram right below one that dominates another; the chain down. Lists of lists that come in: their sizes, their copies. Walks of the program: the chain down from one diagram to another. Walks of the program: ChainDown. Walks of the model: two lists the same. Walks: inRange, countTo of the model; withMany, countsUpTo of the program.
-/
import Derived.Test.YtmojonpjgaidgaaZchain1
import Derived.Test.YtmojonpjgaidgaaZchain2
import Derived.Test.YtmojonpjgaidgaaZchain3
import Derived.Test.YtmojonpjgaidgaaZchain4
import Derived.Test.YtmojonpjgaidgaaZchain5
import Derived.Test.YtmojonpjgaidgaaZchain6
import Derived.Test.YtmojonpjgaidgaaZchain7
import Derived.Deep.Matrix
import Derived.ScopeJumps
import Derived.WalkMore
import Derived.Scope
import Derived.Deep.QuietTactic
import Derived.BigQuiet
import Derived.Test.YtmojonpjgaidgaaProg
import Derived.StillTailTactics
import Derived.IntWalk
import Derived.Lib.Hide
import Derived.Shelf.Abstract
namespace Go.Proofs.Ytmojonpjgaidgaa
open Go.RowKit NP
set_option maxRecDepth 8000
set_option linter.unusedVariables false
set_option linter.unusedSimpArgs false

set_option maxHeartbeats 2000000 in
theorem ddominates_any (P Q : List Int) (hp : valid P = true) (hq : valid Q = true) (w : World) :
    Calls Try.prog 39 #[.agg (arr (pad P)), .agg (arr (pad Q))] w fun e w' => e = .returned (.bool (dom P Q)) ∧ Below w.heap.size w w' := by
  have hpl := (valid_bd hp).2.2.2
  have hql := (valid_bd hq).2.2.2
  have hlP := pad_len hpl
  have hlQ := pad_len hql
  have hiP := info_diag (pad P) hlP
  have hiQ := info_diag (pad Q) hlQ
  have hu := Try.underlying46
  have hm1 := valid_mt hp hq
  have hj := valid_jn hp hq
  have hlM := pad_len (valid_bd hm1).2.2.2
  have hlJ := pad_len (valid_bd hj).2.2.2
  obtain ⟨hb2, hb3, hal⟩ := rows_two w (pad P) (pad Q)
  have hr2 : ((w.alloc (.cells (arr (pad P)) 46)).alloc (.cells (arr (pad Q)) 46)).rangeAt w.heap.size 0 (ints (pad P)) := Blk.range hb2
  have hr3 : ((w.alloc (.cells (arr (pad P)) 46)).alloc (.cells (arr (pad Q)) 46)).rangeAt (w.heap.size + 1) 0 (ints (pad Q)) := Blk.range hb3
  have hbld : ∀ w : World, (Instr.build 75 #[(0, .agg (ints (pad Q)).toArray), (1, .agg (ints (pad P)).toArray)]).run Try.prog w = .ok (.agg (arr (pad Q ++ pad P))) w := T_build (pad Q) (pad P) hlQ hlP
  have heql : ∀ w : World, (Op.equalIn 10000 75 (.agg (arr (pad (NP.mt P Q) ++ pad (jn P Q)))) (.agg (arr (pad Q ++ pad P)))).run Try.prog w = .ok (dom P Q) w := fun w => by
    rw [T_eqb _ _ _ _ hlM hlJ hlQ hlP, dom_bounds hp hq]
    congr 2
    · rw [decide_eq_decide, NP.pad_inj hm1 hq]
    · rw [decide_eq_decide, NP.pad_inj hj hp]
  have hgt := T_guardB2
  have HP := Lib.hid hp
  have HQ := Lib.hid hq
  clear hp hq hpl hql hlP hlQ hb2 hb3 hm1 hj hlM hlJ
  go_enter Try.func39, Try.ntmps39
  go_wp2_with fail
  refine wp_region_held_drew (S := (fun w' => w'.rangeAt w.heap.size 0 (ints (pad P)) ∧ w'.rangeAt (w.heap.size + 1) 0 (ints (pad Q)) ∧ Below w.heap.size w w')) (by kernel_rfl) ⟨hr2, hr3, hal.trans ((Dr.n _ 1).below _)⟩ (fun hHeld => ?_)
  refine wpAnyH_take (i := 0) (v := _) (by simp only [List.getElem?_toArray, List.getElem?_cons_succ, List.getElem?_cons_zero]; exact rfl) (by kernel_rfl) (by kernel_rfl) (by kernel_rfl) (by intro _ _ _ h; exact h) (yieldsIf_load_mid (by kernel_rfl) _ _ rfl w.heap.size 0 rfl (ints (pad P)) _ (fun _ hw => hw.1) hu rfl hiP) (by assumption) ?_
  simp only [Act.put, List.setIfInBounds_toArray, List.set_cons_zero, List.set_cons_succ, List.toList_toArray]
  refine wpAnyH_take (i := 1) (v := _) (by simp only [List.getElem?_toArray, List.getElem?_cons_succ, List.getElem?_cons_zero]; exact rfl) (by kernel_rfl) (by kernel_rfl) (by kernel_rfl) (by intro _ _ _ h; exact h) (yieldsIf_load_mid (by kernel_rfl) _ _ rfl (w.heap.size + 1) 0 rfl (ints (pad Q)) _ (fun _ hw => hw.2.1) hu rfl hiQ) (by assumption) ?_
  simp only [Act.put, List.setIfInBounds_toArray, List.set_cons_zero, List.set_cons_succ, List.toList_toArray]
  refine wpAnyH_take (i := 3) (v := _) (by simp only [List.getElem?_toArray, List.getElem?_cons_succ, List.getElem?_cons_zero]; exact rfl) (by kernel_rfl) (by kernel_rfl) (by kernel_rfl) (by intro _ _ _ h; exact h) (yieldsIf_load_mid (by kernel_rfl) _ _ rfl (w.heap.size + 1) 0 rfl (ints (pad Q)) _ (fun _ hw => hw.2.1) hu rfl hiQ) (by assumption) ?_
  simp only [Act.put, List.setIfInBounds_toArray, List.set_cons_zero, List.set_cons_succ, List.toList_toArray]
  refine wpAnyH_take (i := 4) (v := _) (by simp only [List.getElem?_toArray, List.getElem?_cons_succ, List.getElem?_cons_zero]; exact rfl) (by kernel_rfl) (by kernel_rfl) (by kernel_rfl) (by intro _ _ _ h; exact h) (yieldsIf_load_mid (by kernel_rfl) _ _ rfl w.heap.size 0 rfl (ints (pad P)) _ (fun _ hw => hw.1) hu rfl hiP) (by assumption) ?_
  simp only [Act.put, List.setIfInBounds_toArray, List.set_cons_zero, List.set_cons_succ, List.toList_toArray]
  refine wpAnyH_take (i := 5) (v := (.agg (arr (pad Q ++ pad P)))) (by simp only [List.getElem?_toArray, List.getElem?_cons_succ, List.getElem?_cons_zero]; exact rfl) (by kernel_rfl) (by kernel_rfl) (by kernel_rfl) (by intro _ _ _ h; exact h) (Or.inl ⟨by kernel_rfl, by intro w hSw; exact exec_build _ _ _ rfl rfl rfl (hbld w)⟩) (by assumption) ?_
  simp only [Act.put, List.setIfInBounds_toArray, List.set_cons_zero, List.set_cons_succ, List.toList_toArray]
  refine wpAnyH_ready (rs := [2]) (by kernel_rfl) (by simp) ?_
  refine AllReadyH.cons (o := _) (by simp only [List.getElem?_toArray, List.getElem?_cons_succ, List.getElem?_cons_zero]; exact rfl) (fun K hK => ?_) AllReadyH.nil
  rw [if_pos (by rfl)]
  go_simp
  go_at_call 67
  refine (byDominance_any P Q HP.out HQ.out _).mono ?_
  rintro e w8 ⟨rfl, hbd⟩
  refine hK.out _ _ (keep_rr2 hHeld hbd) (fun hH => ?_)
  clear hK K
  try simp only [Act.put, List.setIfInBounds_toArray, List.set_cons_zero, List.set_cons_succ, List.toList_toArray]
  refine wpAnyH_take (i := 6) (v := (.bool (dom P Q))) (by simp only [List.getElem?_toArray, List.getElem?_cons_succ, List.getElem?_cons_zero]; exact rfl) (by kernel_rfl) (by kernel_rfl) (by kernel_rfl) (by intro _ _ _ h; exact h) (Or.inl ⟨by kernel_rfl, by intro w hSw; exact exec_eql _ _ _ _ rfl rfl rfl hgt (heql w)⟩) (by assumption) ?_
  simp only [Act.put, List.setIfInBounds_toArray, List.set_cons_zero, List.set_cons_succ, List.toList_toArray]
  refine wpAnyH_take (i := 7) (v := (.bool (dom P Q))) (by simp only [List.getElem?_toArray, List.getElem?_cons_succ, List.getElem?_cons_zero]; exact rfl) (by kernel_rfl) (by kernel_rfl) (by kernel_rfl) (by intro _ _ _ h; exact h) (Or.inl ⟨by kernel_rfl, by intro w hSw; go_simp⟩) (by assumption) ?_
  simp only [Act.put, List.setIfInBounds_toArray, List.set_cons_zero, List.set_cons_succ, List.toList_toArray]
  refine wpAnyH_done (by kernel_rfl) ?_ _
  try simp only [Act.put, List.setIfInBounds_toArray, List.set_cons_zero, List.set_cons_succ]
  go_wp2
  go_ret
  exact ⟨rfl, hH.2.2⟩

set_option maxHeartbeats 2000000 in
theorem iDominates_any (a b : Option Addr) (ca cb Ba Bb : Nat) (P Q : List Int) (w : World) (h : Rd w Ba a (ints P)) (hq : Rd w Bb b (ints Q)) (hBa : Ba ≤ w.heap.size) (hBb : Bb ≤ w.heap.size) (hl : P.length ≤ 4611686018427387904) (hlq : Q.length ≤ 4611686018427387904) :
    Calls Try.prog 21 #[.slice a P.length ca, .slice b Q.length cb] w fun e w' => e = .returned (.bool (dom P Q)) ∧ Below w.heap.size w w' := by
  have hiP : (Try.prog.info? 46).map (·.size) = some (arr (dg P)).size := by rw [arr_size, dg_len]; exact T_info35
  have hszP : (arr (dg P)).size = (arr (List.replicate 16 0)).size := by rw [arr_size, arr_size, dg_len]; rfl
  have hiQ : (Try.prog.info? 46).map (·.size) = some (arr (dg Q)).size := by rw [arr_size, dg_len]; exact T_info35
  have hszQ : (arr (dg Q)).size = (arr (List.replicate 16 0)).size := by rw [arr_size, arr_size, dg_len]; rfl
  cases hv : (valid P && valid Q) with
  | true =>
    have hp : valid P = true := by simp at hv; exact hv.1
    have hq2 : valid Q = true := by simp at hv; exact hv.2
    have HV := Lib.hid hv
    have HP := Lib.hid hp
    have HQ := Lib.hid hq2
    clear hv hp hq2
    go_enter Try.func21, Try.ntmps21
    go_wp2_with (first
      | ((with_reducible show wpList _ _ _ (Oper.mk _ (Op.load 46 (Operand.tmp 5)) _ _ _ _ :: _) _ _); refine wpList_load_row_g rfl 46 (.tmp 5) rfl w1.heap.size rfl 46 (arr (dg P)) (0, 0) _ k5 Try.underlying46 rfl hiP ?_)
      | ((with_reducible show wpList _ _ _ (Oper.mk _ (Op.load 46 (Operand.tmp 6)) _ _ _ _ :: _) _ _); refine wpList_load_row_g rfl 46 (.tmp 6) rfl (w1.heap.size + 1) rfl 46 (arr (dg Q)) (0, 0) _ k6 Try.underlying46 rfl hiQ ?_)
      | ((with_reducible show wpList _ _ _ (Oper.mk _ (Op.store 46 (Operand.tmp 5) (Operand.tmp 12)) _ _ _ _ :: _) _ _); refine wpList_store_row rfl 46 (.tmp 5) (.tmp 12) rfl w1.heap.size rfl (arr (dg P)) rfl 46 (arr (List.replicate 16 0)) ((Blk.new w1 _ _).alloc _) hiP hszP (arr_one _) ?_)
      | ((with_reducible show wpList _ _ _ (Oper.mk _ (Op.store 46 (Operand.tmp 6) (Operand.tmp 13)) _ _ _ _ :: _) _ _); refine wpList_store_row rfl 46 (.tmp 6) (.tmp 13) rfl (w1.heap.size + 1) rfl (arr (dg Q)) rfl 46 (arr (List.replicate 16 0)) (first_row w1 _ _ _) hiQ hszQ (arr_one _) ?_)
      | (go_at_call 39; rw [dg_yes HP.out, dg_yes HQ.out]; refine (ddominates_any P Q HP.out HQ.out _).mono ?_; rintro e w2 ⟨rfl, hb2⟩)
      | (go_at_call 37; refine (twoDiagrams_any _ _ _ _ Ba Bb P Q _ h hq hBa hBb hl hlq).mono ?_; rintro e w1 ⟨rfl, hb1⟩; rw [HV.out]; obtain ⟨k5, k6, kb⟩ := two_rows w1 46 (arr (List.replicate 16 0)) (arr (dg P)) (arr (dg Q))))
    go_ret
    rw [← dg_yes HP.out, ← dg_yes HQ.out] at hb2
    have hb3 := hb1.trans (kb.mono hb1.size)
    exact ⟨rfl, hb3.trans (hb2.mono hb3.size)⟩
  | false =>
    have HI : Hid (dom P Q = false) := Lib.hid (by unfold dom; rw [hv]; rfl)
    have HV := Lib.hid hv
    clear hv
    go_enter Try.func21, Try.ntmps21
    go_wp2_with (first
      | ((with_reducible show wpList _ _ _ (Oper.mk _ (Op.store 46 (Operand.tmp 5) (Operand.tmp 12)) _ _ _ _ :: _) _ _); refine wpList_store_row rfl 46 (.tmp 5) (.tmp 12) rfl w1.heap.size rfl (arr (dg P)) rfl 46 (arr (List.replicate 16 0)) ((Blk.new w1 _ _).alloc _) hiP hszP (arr_one _) ?_)
      | ((with_reducible show wpList _ _ _ (Oper.mk _ (Op.store 46 (Operand.tmp 6) (Operand.tmp 13)) _ _ _ _ :: _) _ _); refine wpList_store_row rfl 46 (.tmp 6) (.tmp 13) rfl (w1.heap.size + 1) rfl (arr (dg Q)) rfl 46 (arr (List.replicate 16 0)) (first_row w1 _ _ _) hiQ hszQ (arr_one _) ?_)
      | (go_at_call 37; refine (twoDiagrams_any _ _ _ _ Ba Bb P Q _ h hq hBa hBb hl hlq).mono ?_; rintro e w1 ⟨rfl, hb1⟩; rw [HV.out]; obtain ⟨k5, k6, kb⟩ := two_rows w1 46 (arr (List.replicate 16 0)) (arr (dg P)) (arr (dg Q))))
    go_ret
    exact ⟨ret_bool HI.out.symm, hb1.trans (kb.mono hb1.size)⟩
end Go.Proofs.Ytmojonpjgaidgaa
namespace Go.Proofs.Ytmojonpjgaidgaa
open Go.RowKit Go.Shelf NP
set_option maxRecDepth 8000
set_option linter.unusedVariables false
set_option linter.unusedSimpArgs false
attribute [local go_sem] Oper.semAt_some
theorem results_row_cell {P : Program} {fn : Func} {p q : Tmp} {ty tb : TypeId} (h : fn.results = #[.cell p ty, .cell q tb]) (tmps : Array Value) (w : World) (g g2 : Nat) (t : TypeId) (cs : Array Value) (fr : Nat × Nat) (d : TypeDesc) (v : Value)
    (hp : tmps.getD p undef = .pointer (some ⟨g, 0, none⟩)) (hq : tmps.getD q undef = .pointer (some ⟨g2, 0, none⟩)) (hg : w.heap[g]? = some (.cells cs t fr))
    (hu : P.underlying ty = some d) (hd : (match d with | .struct _ | .array _ _ => true | _ => false) = true) (hi : (P.info? ty).map (·.size) = some cs.size) (hv : (loadVar tb ⟨g2, 0, none⟩).run P w = .ok v w) :
    (results fn tmps).run P w = .ok (.tuple #[.agg cs, v]) w := by
  have hp' : tmps[p]?.getD undef = .pointer (some ⟨g, 0, none⟩) := by simpa using hp
  have hq' : tmps[q]?.getD undef = .pointer (some ⟨g2, 0, none⟩) := by simpa using hq
  simp [results, h, hp', hq', asAddr, run_loadVar_row w g t ty cs fr d hg hu hd hi, hv]
theorem wpListIn_load_row_g {F : Fence} {n : Nat} {P : Program} {ops : Array Oper} {rest : List Oper} {o : Oper} {a : Act} {w : World} {Q : Exit → Act → World → Prop} (hgd : Region.wanted o (yielded ops a.tmps) = true) (ty : TypeId) (x : Operand) (ho : o.op = .load ty x)
    (g : Nat) (hx : a.eval x = .pointer (some ⟨g, 0, none⟩)) (t : TypeId) (cs : Array Value) (fr : Nat × Nat) (d : TypeDesc) (hg : w.heap[g]? = some (.cells cs t fr))
    (hu : P.underlying ty = some d) (hd : (match d with | .struct _ | .array _ _ => true | _ => false) = true) (hi : (P.info? ty).map (·.size) = some cs.size)
    (h : wpListIn F n P ops Q rest (a.put o.dst (.agg cs)) w) : wpListIn F n P ops Q (o :: rest) a w :=
  wpListIn_step fun K hK => by
    rw [if_pos hgd]
    unfold Oper.wpIn
    refine ⟨by simp [Oper.about, ho], ?_⟩
    rw [Oper.semAt_plain F _ _ (by rw [ho]; intro c hc; cases hc)]
    simp only [execOp, ho, hx, Instr.loadAt, Instr.sureAddr, Sem.run_bind, Sem.run_pure, Result.andThen_ok, run_loadVar_row w g t ty cs fr d hg hu hd hi]
    exact hK _ _ h
theorem ko_setRow {W : World} {g : Nat} {t : TypeId} {cs : Array Value} (h : Blk W g t cs) (X : Array Value) : KeepsOthers W (W.setRow g X) :=
  ⟨by simp, fun j o hj ho => (setRow_other W g j X (by rintro rfl; rw [show W.heap[j]? = _ from h] at hj; injection hj with hj; subst hj; simp [Obj.isCells] at ho)).trans hj⟩
theorem load_bool (w : World) (g : Nat) (v : Value) (h : w.cell? ⟨g, 0, none⟩ = some v) : (loadVar 4 ⟨g, 0, none⟩).run Try.prog w = .ok v w := by
  have hq := h
  go_simp
def tw (P Q : List Int) (x : VL) : Bool := covB P x.1 && dom x.1 Q
/-- the memory of a round -/
def IC (w : World) (P Q : List Int) (pre : List VL) (W : World) : Prop :=
  Blk W w.heap.size 46 (arr (pad P)) ∧ Blk W (w.heap.size + 1) 46 (arr (pad Q)) ∧ Blk W (w.heap.size + 2) 46 (arr (List.replicate 16 0)) ∧ Blk W (w.heap.size + 3) 4 #[.bool false] ∧ Below w.heap.size w W ∧ ∀ y ∈ pre, tw P Q y = false
/-- what a round that returns leaves -/
def IX (w : World) (P Q : List Int) (c : Code) (pre : List VL) (W : World) : Prop :=
  c = .ret ∧ ∃ pre0 x, pre = pre0 ++ [x] ∧ (∀ y ∈ pre0, tw P Q y = false) ∧ tw P Q x = true ∧ Blk W (w.heap.size + 2) 46 (arr (pad x.1)) ∧ Blk W (w.heap.size + 3) 4 #[.bool true] ∧ Below w.heap.size w W
theorem ic_from (w : World) (P Q : List Int) (B : Nat) (hB : w.heap.size ≤ B) : OwnFrom B (IC w P Q) := by
  rintro s W W' row ⟨h1, h2, h3, h4, h5, h6⟩ hg hr
  have ne : ∀ (g : Nat) (cs : Array Value) (t : TypeId), W.heap[g]? = some (.cells cs t (0, 0)) → some g ≠ row := fun g cs t hc e => by
    obtain ⟨_, o, ho, hc'⟩ := hr g e.symm
    rw [hc] at ho; injection ho with ho; subst ho; simp [Obj.isCells] at hc'
  exact ⟨h1.grown hg (ne _ _ _ h1), h2.grown hg (ne _ _ _ h2), h3.grown hg (ne _ _ _ h3), h4.grown hg (ne _ _ _ h4), h5.grown hg h5.size (fun k e => Nat.le_trans hB (hr k e).1), h6⟩
theorem ix_from (w : World) (P Q : List Int) (c : Code) (B : Nat) (hB : w.heap.size ≤ B) : OwnFrom B (IX w P Q c) := by
  rintro s W W' row ⟨h0, pre0, x, h1, h2, h3, h4, h5, h6⟩ hg hr
  have ne : ∀ (g : Nat) (cs : Array Value) (t : TypeId), W.heap[g]? = some (.cells cs t (0, 0)) → some g ≠ row := fun g cs t hc e => by
    obtain ⟨_, o, ho, hc'⟩ := hr g e.symm
    rw [hc] at ho; injection ho with ho; subst ho; simp [Obj.isCells] at hc'
  exact ⟨h0, pre0, x, h1, h2, h3, h4.grown hg (ne _ _ _ h4), h5.grown hg (ne _ _ _ h5), h6.grown hg h6.size (fun k e => Nat.le_trans hB (hr k e).1)⟩
theorem ic_abt (w : World) (P Q : List Int) (B : Nat) (hB : w.heap.size + 4 ≤ B) : AbT B 46 (IC w P Q) := by
  refine ⟨?_, ?_, ?_⟩
  · rintro s W o ⟨h1, h2, h3, h4, h5, h6⟩
    exact ⟨h1.alloc o, h2.alloc o, h3.alloc o, h4.alloc o, h5.alloc h5.size o, h6⟩
  · rintro s W n ⟨h1, h2, h3, h4, h5, h6⟩
    exact ⟨h1, h2, h3, h4, h5.trans ((Dr.n W n).below _), h6⟩
  · rintro s W b i u cs fr ⟨h1, h2, h3, h4, h5, h6⟩ hb hc
    exact ⟨h1.off (by show w.heap.size ≠ b; omega) _, h2.off (by show w.heap.size + 1 ≠ b; omega) _, h3.off (by show w.heap.size + 2 ≠ b; omega) _, h4.off (by show w.heap.size + 3 ≠ b; omega) _, h5.setCell (p := ⟨b, i, none⟩) (by show w.heap.size ≤ b; omega) u, h6⟩
theorem ix_abt (w : World) (P Q : List Int) (c : Code) (B : Nat) (hB : w.heap.size + 4 ≤ B) : AbT B 46 (IX w P Q c) := by
  refine ⟨?_, ?_, ?_⟩
  · rintro s W o ⟨h0, pre0, x, h1, h2, h3, h4, h5, h6⟩
    exact ⟨h0, pre0, x, h1, h2, h3, h4.alloc o, h5.alloc o, h6.alloc h6.size o⟩
  · rintro s W n ⟨h0, pre0, x, h1, h2, h3, h4, h5, h6⟩
    exact ⟨h0, pre0, x, h1, h2, h3, h4, h5, h6.trans ((Dr.n W n).below _)⟩
  · rintro s W b i u cs fr ⟨h0, pre0, x, h1, h2, h3, h4, h5, h6⟩ hb hc
    exact ⟨h0, pre0, x, h1, h2, h3, h4.off (by show w.heap.size + 2 ≠ b; omega) _, h5.off (by show w.heap.size + 3 ≠ b; omega) _, h6.setCell (p := ⟨b, i, none⟩) (by show w.heap.size ≤ b; omega) u⟩
theorem ic_below {w : World} {P Q : List Int} {pre : List VL} {W W' : World} (h : IC w P Q pre W) (hb : Below W.heap.size W W') : IC w P Q pre W' :=
  ⟨h.1.below hb h.1.lt, h.2.1.below hb h.2.1.lt, h.2.2.1.below hb h.2.2.1.lt, h.2.2.2.1.below hb h.2.2.2.1.lt, h.2.2.2.2.1.trans (hb.mono h.2.2.2.2.1.size), h.2.2.2.2.2⟩
theorem ic_snoc {w : World} {P Q : List Int} {pre : List VL} {x : VL} {W : World} (h : IC w P Q pre W) (hx : tw P Q x = false) : IC w P Q (pre ++ [x]) W :=
  ⟨h.1, h.2.1, h.2.2.1, h.2.2.2.1, h.2.2.2.2.1, fun y hy => by
    rcases List.mem_append.1 hy with h1 | h1
    · exact h.2.2.2.2.2 y h1
    · rw [List.mem_singleton.1 h1]; exact hx⟩
theorem ic_again {w : World} {P Q : List Int} {pre : List VL} {W : World} (h : IC w P Q pre W) : IC w P Q pre ((W.setRow (w.heap.size + 2) (arr (List.replicate 16 0))).setCell ⟨w.heap.size + 1 + 1 + 1, 0, none⟩ (.bool false)) := by
  obtain ⟨h1, h2, h3, h4, h5, h6⟩ := h
  refine ⟨(h1.rowOff (by omega)).off (by show w.heap.size ≠ w.heap.size + 1 + 1 + 1; omega) _, (h2.rowOff (by omega)).off (by show w.heap.size + 1 ≠ w.heap.size + 1 + 1 + 1; omega) _, h3.row.off (by show w.heap.size + 2 ≠ w.heap.size + 1 + 1 + 1; omega) _, ?_, (below_setRow' h5 (by omega) _).setCell (p := ⟨w.heap.size + 1 + 1 + 1, 0, none⟩) (by show w.heap.size ≤ w.heap.size + 1 + 1 + 1; omega) _, h6⟩
  exact (show Blk (W.setRow (w.heap.size + 2) (arr (List.replicate 16 0))) (w.heap.size + 1 + 1 + 1) 4 #[.bool false] from h4.rowOff (by omega)).set 0 (.bool false)
theorem ic_start (w : World) (P Q : List Int) : IC w P Q [] ((((w.alloc (.cells (arr (pad P)) 46)).alloc (.cells (arr (pad Q)) 46)).alloc (.cells (arr (List.replicate 16 0)) 46)).alloc (.cells #[.bool false] 4)) := by
  have b1 := Blk.new w 46 (arr (pad P))
  have b2 := Blk.new (w.alloc (.cells (arr (pad P)) 46)) 46 (arr (pad Q))
  have b3 := Blk.new ((w.alloc (.cells (arr (pad P)) 46)).alloc (.cells (arr (pad Q)) 46)) 46 (arr (List.replicate 16 0))
  have b4 := Blk.new (((w.alloc (.cells (arr (pad P)) 46)).alloc (.cells (arr (pad Q)) 46)).alloc (.cells (arr (List.replicate 16 0)) 46)) 4 #[.bool false]
  simp only [World.size_alloc] at b1 b2 b3 b4
  exact ⟨((b1.alloc _).alloc _).alloc _, (b2.alloc _).alloc _, b3.alloc _, b4, ((((Below.refl _ _).alloc (Nat.le_refl _) _).alloc (by simp) _).alloc (by simp; omega) _).alloc (by simp; omega) _, fun y hy => by simp at hy⟩
def AxC (w : World) (P Q : List Int) (k n2 : Nat) (x : VL) (a' : Act) (W : World) : Prop := ∃ Bx, w.heap.size + 4 ≤ Bx ∧ Blk W Bx 46 (arr (pad x.1)) ∧
  a' = { tmps := #[.agg (arr (pad P)), .agg (arr (pad Q)), .pointer (some ⟨w.heap.size, 0, none⟩), .pointer (some ⟨w.heap.size + 1, 0, none⟩), .pointer (some ⟨w.heap.size + 1 + 1, 0, none⟩), .pointer (some ⟨w.heap.size + 1 + 1 + 1, 0, none⟩), .pointer (some ⟨Bx, 0, none⟩), .agg (arr (pad P)), .int .i64 k,
    .func (.func 96) #[] #[.pointer (some ⟨n2, 0, none⟩)], .agg (arr (pad x.1)), undef, undef, undef, undef, undef, undef, undef, undef, undef, undef], defers := [] }
def ctE (P Q : List Int) : Ending := match nxF P Q with
  | some R => .returned (.tuple #[.agg (arr (pad R)), .bool true])
  | none => .returned (.tuple #[.agg (arr (List.replicate 16 0)), .bool false])
theorem nx_of_all {P Q : List Int} {k : Nat} (hk : sumL P = (k : Int)) {ys : List VL} (h : ys.map (·.1) = allQ k k k) (hn : ∀ y ∈ ys, tw P Q y = false) : nxF P Q = none := by
  unfold nxF
  rw [hk, Int.toNat_natCast, ← h, List.find?_eq_none]
  intro X hX
  obtain ⟨y, hy, rfl⟩ := List.mem_map.1 hX
  have := hn y hy
  unfold tw at this
  rw [this]; decide
theorem nx_of_pre {P Q : List Int} {k : Nat} (hk : sumL P = (k : Int)) {pre0 : List VL} {x : VL} (h : (pre0 ++ [x]).map (·.1) <+: allQ k k k) (hn : ∀ y ∈ pre0, tw P Q y = false) (hx : tw P Q x = true) : nxF P Q = some x.1 := by
  obtain ⟨rest, hr⟩ := h
  unfold nxF
  rw [hk, Int.toNat_natCast, ← hr, List.map_append, List.append_assoc, List.find?_append]
  have h0 : (pre0.map (·.1)).find? (fun R => covB P R && dom R Q) = none := by
    rw [List.find?_eq_none]
    intro X hX
    obtain ⟨y, hy, rfl⟩ := List.mem_map.1 hX
    have := hn y hy
    unfold tw at this
    rw [this]; decide
  rw [h0]
  have h1 : (covB P x.1 && dom x.1 Q) = true := hx
  simp [h1]
set_option maxRecDepth 100000 in
set_option maxHeartbeats 4000000 in
theorem coverTowards_any (P Q : List Int) (hp : valid P = true) (hq : valid Q = true) (h12 : sumL P ≤ 12) (w : World) :
    Calls Try.prog 69 #[.agg (arr (pad P)), .agg (arr (pad Q))] w fun e w' => e = ctE P Q ∧ Below w.heap.size w w' := by
  refine (callsIn_wide (n := 6)).1 ?_
  have hlP := pad_len (valid_bd hp).2.2.2
  have hlQ := pad_len (valid_bd hq).2.2.2
  have hiP : (Try.prog.info? 46).map (·.size) = some (arr (pad P)).size := by rw [arr_size, hlP]; exact T_info35
  have hiQ : (Try.prog.info? 46).map (·.size) = some (arr (pad Q)).size := by rw [arr_size, hlQ]; exact T_info35
  have hiZ : (Try.prog.info? 46).map (·.size) = some (arr (List.replicate 16 0)).size := T_info35
  obtain ⟨k, hk⟩ : ∃ k : Nat, sumL P = (k : Int) := ⟨(sumL P).toNat, (Int.toNat_of_nonneg (valid_bd hp).1).symm⟩
  have hk12 : k ≤ 12 := by omega
  have HSM := Lib.hid (fun w => dsum_any (pad P) hlP (pad_fits hp) w)
  rw [sumL_pad, hk] at HSM
  have HK := Lib.hid hk
  have HP := Lib.hid hp
  have HQ := Lib.hid hq
  clear hk hp hq h12
  refine callsIn_of_wp_marks Try.func69 rfl trivial ?_ rfl
  simp only [Try.ntmps69, List.size_toArray, List.length_cons, List.length_nil, Nat.reduceAdd, Nat.reduceSub, Array.replicate_succ, Array.replicate_zero, List.push_toArray, List.append_toArray, List.nil_append, List.cons_append]
  have hI1 := ic_start w P Q
  gi_wp2_with (first
    | (refine wpListIn_load_row rfl 46 (.tmp 2) rfl w.heap.size rfl 46 (arr (pad P)) (0, 0) _ hI1.1 Try.underlying46 rfl hiP ?_)
    | (refine ⟨trivial, ?_⟩; gi_at_call 38; refine (callsIn_wide.2 (HSM.out _)).mono ?_; rintro e w2 ⟨rfl, hb2⟩)
    | (refine ⟨trivial, ?_⟩; gi_at_call 87; refine (dwith_in Fence.wide _ trivial rfl _ _).mono ?_; rintro e w' ⟨rfl, rfl⟩))
  have hI2 := ic_below hI1 hb2
  have hz2 : w.heap.size + 4 ≤ w2.heap.size := by
    have := hI2.2.2.2.1.lt
    omega
  clear hI1 hb2
  have hI0 : IC w P Q [] (w2.alloc (.cells #[.int .i64 (k : Int)] 3)) := ic_below hI2 ((Below.refl _ _).alloc (Nat.le_refl _) _)
  have hbn : (w2.alloc (.cells #[.int .i64 (k : Int)] 3)).cell? ⟨w2.heap.size, 0, none⟩ = some (.int .i64 k) := by
    rw [(Blk.new w2 3 #[.int .i64 (k : Int)]).cell 0]; rfl
  obtain ⟨W0, hW0⟩ : ∃ W0, w2.alloc (.cells #[.int .i64 (k : Int)] 3) = W0 := ⟨_, rfl⟩
  have hs0 : W0.heap.size = w2.heap.size + 1 := by rw [← hW0]; simp
  rw [hW0] at hI0 hbn ⊢
  clear hI2 hW0
  obtain ⟨n2, hn2⟩ : ∃ n2, w2.heap.size = n2 := ⟨_, rfl⟩
  rw [hn2] at hbn hs0 hz2 ⊢
  clear hn2
  refine wpIn_range_T 46 rfl (by omega) (gf := 96) (lb := #[.pointer (some ⟨n2, 0, none⟩)]) rfl trivial (enters_of Try.func96 (by kernel_rfl) rfl)
    (dwith_seq Fence.wide rfl trivial trivial rfl (6 - 1) k n2 (by omega) W0 (by omega) hbn) (Below.refl _ _) (fun _ => rfl)
    (IC w P Q) (IX w P Q) (ic_from w P Q _ (by omega)) (fun c => ix_from w P Q c _ (by omega)) (ic_abt w P Q _ (by omega)) (fun c => ix_abt w P Q c _ (by omega)) hI0
    (AxC w P Q k n2) ?hax ?assign ?body ?done ?stop
  case hax =>
    rintro a' s W W' row ⟨Bx, hBx, hb, rfl⟩ hg hr
    refine ⟨Bx, hBx, hb.grown hg (fun e => ?_), rfl⟩
    obtain ⟨_, o, ho, hc⟩ := hr Bx e.symm
    rw [show W.heap[Bx]? = _ from hb] at ho; injection ho with ho; subst ho; simp [Obj.isCells] at hc
  case assign =>
    intro l pre x W K hi hK
    have hlen : x.1.length ≤ 16 := (valid_bd x.2).2.2.2
    have hi16 : (Try.prog.info? 46).map (·.size) = some (arr (pad x.1)).size := by rw [arr_size, pad_len hlen]; exact T_info35
    have hszx : (arr (pad x.1)).size = (arr (List.replicate 16 0)).size := by rw [arr_size, arr_size, pad_len hlen]; rfl
    have hbz := Blk.new W 46 (arr (List.replicate 16 0))
    have hbw : Below W.heap.size W ((W.alloc (.cells (arr (List.replicate 16 0)) 46)).setRow W.heap.size (arr (pad x.1))) := below_setRow' ((Below.refl _ _).alloc (Nat.le_refl _) _) (Nat.le_refl _) _
    have hlt := hi.2.2.2.1.lt
    gi_wp2_with (refine wpListIn_store_row rfl 46 (.tmp 6) (.tmp 10) rfl W.heap.size (arr (pad x.1)) rfl rfl (run_storeVar_row _ W.heap.size 46 46 _ _ hbz hi16 hszx (arr_one _)) ?_)
    exact hK _ _ (ko_below hbw) (KpT.below hbw) (ic_below hi hbw) ⟨W.heap.size, by omega, hbz.row, rfl⟩
  case body =>
    rintro l pre x a' W hIC ⟨Bx, hBx, hbx, rfl⟩ hlen
    have hpl : x.1.length ≤ 16 := (valid_bd x.2).2.2.2
    have hi16 : (Try.prog.info? 46).map (·.size) = some (arr (pad x.1)).size := by rw [arr_size, pad_len hpl]; exact T_info35
    cases hc : covB P x.1 with
    | false =>
      have HC := Lib.hid hc
      clear hc
      gi_wp2_with (first
        | (refine wpListIn_load_row rfl 46 (.tmp 2) rfl w.heap.size rfl 46 (arr (pad P)) (0, 0) _ hIC.1 Try.underlying46 rfl hiP ?_)
        | (refine wpListIn_load_row rfl 46 (.tmp 6) rfl Bx rfl 46 (arr (pad x.1)) (0, 0) _ hbx Try.underlying46 rfl hi16 ?_)
        | (refine ⟨trivial, ?_⟩; gi_at_call 50; refine (CallsIn.inRound l (callsIn_wide.2 (covers_any P x.1 HP.out x.2 W))).mono ?_; rintro e W2 ⟨rfl, hb2⟩; rw [HC.out]))
      refine ⟨trivial, ?_⟩
      gi_wp2_with fail
      exact ⟨ko_below hb2, KpT.below hb2, ic_snoc (ic_below hIC hb2) (by unfold tw; rw [HC.out]; rfl)⟩
    | true =>
      have HC := Lib.hid hc
      clear hc
      obtain ⟨b, hd⟩ : ∃ b, dom x.1 Q = b := ⟨_, rfl⟩
      have HD := Lib.hid hd
      clear hd
      cases b with
      | false =>
        gi_wp2_with (first
          | (refine wpListIn_load_row rfl 46 (.tmp 2) rfl w.heap.size rfl 46 (arr (pad P)) (0, 0) _ hIC.1 Try.underlying46 rfl hiP ?_)
          | (refine wpListIn_load_row rfl 46 (.tmp 6) rfl Bx rfl 46 (arr (pad x.1)) (0, 0) _ hbx Try.underlying46 rfl hi16 ?_)
          | (refine ⟨trivial, ?_⟩; gi_at_call 50; refine (CallsIn.inRound l (callsIn_wide.2 (covers_any P x.1 HP.out x.2 W))).mono ?_; rintro e W2 ⟨rfl, hb2⟩; rw [HC.out]; have hI2 := ic_below hIC hb2; have hbx2 := hbx.below hb2 hbx.lt)
          | (refine wpListIn_load_row_g (by rfl) 46 (.tmp 6) rfl Bx rfl 46 (arr (pad x.1)) (0, 0) _ hbx2 Try.underlying46 rfl hi16 ?_)
          | (refine wpListIn_load_row_g (by rfl) 46 (.tmp 3) rfl (w.heap.size + 1) rfl 46 (arr (pad Q)) (0, 0) _ hI2.2.1 Try.underlying46 rfl hiQ ?_)
          | (refine ⟨trivial, ?_⟩; gi_at_call 39; refine (CallsIn.inRound l (callsIn_wide.2 (ddominates_any x.1 Q x.2 HQ.out W2))).mono ?_; rintro e W3 ⟨rfl, hb3⟩; rw [HD.out]))
        exact ⟨ko_below (hb2.trans (hb3.mono hb2.size)), KpT.below (hb2.trans (hb3.mono hb2.size)), ic_snoc (ic_below hI2 hb3) (by unfold tw; rw [HC.out, HD.out]; rfl)⟩
      | true =>
        gi_wp2_with (first
          | (refine wpListIn_load_row rfl 46 (.tmp 2) rfl w.heap.size rfl 46 (arr (pad P)) (0, 0) _ hIC.1 Try.underlying46 rfl hiP ?_)
          | (refine wpListIn_load_row rfl 46 (.tmp 6) rfl Bx rfl 46 (arr (pad x.1)) (0, 0) _ hbx Try.underlying46 rfl hi16 ?_)
          | (refine ⟨trivial, ?_⟩; gi_at_call 50; refine (CallsIn.inRound l (callsIn_wide.2 (covers_any P x.1 HP.out x.2 W))).mono ?_; rintro e W2 ⟨rfl, hb2⟩; rw [HC.out]; have hI2 := ic_below hIC hb2; have hbx2 := hbx.below hb2 hbx.lt)
          | (refine wpListIn_load_row_g (by rfl) 46 (.tmp 6) rfl Bx rfl 46 (arr (pad x.1)) (0, 0) _ hbx2 Try.underlying46 rfl hi16 ?_)
          | (refine wpListIn_load_row_g (by rfl) 46 (.tmp 3) rfl (w.heap.size + 1) rfl 46 (arr (pad Q)) (0, 0) _ hI2.2.1 Try.underlying46 rfl hiQ ?_)
          | (refine ⟨trivial, ?_⟩; gi_at_call 39; refine (CallsIn.inRound l (callsIn_wide.2 (ddominates_any x.1 Q x.2 HQ.out W2))).mono ?_; rintro e W3 ⟨rfl, hb3⟩; rw [HD.out]; have hI3 := ic_below hI2 hb3; have hbx3 := hbx2.below hb3 hbx2.lt; have hcb : W3.cell? ⟨w.heap.size + 1 + 1 + 1, 0, none⟩ = some (.bool false) := hI3.2.2.2.1.cell 0)
          | (refine wpListIn_load_row rfl 46 (.tmp 6) rfl Bx rfl 46 (arr (pad x.1)) (0, 0) _ hbx3 Try.underlying46 rfl hi16 ?_)
          | (refine wpListIn_store_row rfl 46 (.tmp 4) (.tmp 19) rfl (w.heap.size + 2) (arr (pad x.1)) rfl rfl (run_storeVar_row _ (w.heap.size + 2) 46 46 _ _ hI3.2.2.1 hi16 (by rw [arr_size, arr_size, pad_len hpl]; rfl) (arr_one _)) ?_; have hb4 : Blk (W3.setRow (w.heap.size + 2) (arr (pad x.1))) (w.heap.size + 1 + 1 + 1) 4 #[.bool false] := hI3.2.2.2.1.rowOff (by omega); have hc4 : (W3.setRow (w.heap.size + 2) (arr (pad x.1))).cell? ⟨w.heap.size + 1 + 1 + 1, 0, none⟩ = some (.bool false) := hb4.cell 0; have hf4 : (W3.setRow (w.heap.size + 2) (arr (pad x.1))).frozen? ⟨w.heap.size + 1 + 1 + 1, 0, none⟩ = false := hb4.free 0))
        exact ⟨((ko_below (hb2.trans (hb3.mono hb2.size))).trans (ko_setRow hI3.2.2.1 _)).trans (KeepsOthers.setCell _ _ _), rfl, pre, x, rfl, hIC.2.2.2.2.2, by unfold tw; rw [HC.out, HD.out]; rfl, hI3.2.2.1.row.off (by show w.heap.size + 2 ≠ w.heap.size + 1 + 1 + 1; omega) _, hb4.set 0 (.bool true), (below_setRow' hI3.2.2.2.2.1 (by omega) _).setCell (p := ⟨w.heap.size + 1 + 1 + 1, 0, none⟩) (by show w.heap.size ≤ w.heap.size + 1 + 1 + 1; omega) _⟩
  case done =>
    rintro D ys W hD hS hIC hK
    have hI4 := ic_again hIC
    have hb4 : Blk (W.setRow (w.heap.size + 2) (arr [0, 0, 0, 0, 0, 0, 0, 0, 0, 0, 0, 0, 0, 0, 0, 0])) (w.heap.size + 1 + 1 + 1) 4 #[.bool false] := hIC.2.2.2.1.rowOff (by omega)
    have hc4 : (W.setRow (w.heap.size + 2) (arr [0, 0, 0, 0, 0, 0, 0, 0, 0, 0, 0, 0, 0, 0, 0, 0])).cell? ⟨w.heap.size + 1 + 1 + 1, 0, none⟩ = some (.bool false) := hb4.cell 0
    have hf4 : (W.setRow (w.heap.size + 2) (arr [0, 0, 0, 0, 0, 0, 0, 0, 0, 0, 0, 0, 0, 0, 0, 0])).frozen? ⟨w.heap.size + 1 + 1 + 1, 0, none⟩ = false := hb4.free 0
    have hK4 := ((ko_setRow hIC.2.2.1 (arr (List.replicate 16 0))).trans (KeepsOthers.setCell _ ⟨w.heap.size + 1 + 1 + 1, 0, none⟩ (.bool false))).same D _ hK rfl
    have hI5 := (ic_from w P Q w.heap.size (Nat.le_refl _)).putObj (.deferred none) hI4 (by omega) hK4 rfl
    gi_wp2_with (refine wpListIn_store_row rfl 46 (.tmp 4) (.tmp 20) rfl (w.heap.size + 2) (arr (List.replicate 16 0)) rfl rfl (run_storeVar_row _ (w.heap.size + 2) 46 46 _ _ hIC.2.2.1 hiZ rfl (arr_one _)) ?_)
    refine ⟨by simp, .inl ⟨_, _, rfl, run_takeDeferred hK4, ?_⟩⟩
    have hc5 := hI5.2.2.2.1.cell 0
    refine ⟨_, results_row_cell rfl _ _ (w.heap.size + 2) (w.heap.size + 3) 46 (arr (List.replicate 16 0)) (0, 0) _ (.bool false) rfl rfl hI5.2.2.1 Try.underlying46 rfl hiZ (load_bool _ _ _ hc5), ?_, hI5.2.2.2.2.1⟩
    unfold ctE
    rw [nx_of_all HK.out hS hIC.2.2.2.2.2]
  case stop =>
    rintro D c pre W hD hS hIX hK
    have hI5 := (ix_from w P Q c w.heap.size (Nat.le_refl _)).putObj (.deferred none) hIX (by omega) hK rfl
    obtain ⟨rfl, pre0, x, rfl, hn, hx, hR, hB, hbel⟩ := hI5
    have hi16 : (Try.prog.info? 46).map (·.size) = some (arr (pad x.1)).size := by rw [arr_size, pad_len (valid_bd x.2).2.2.2]; exact T_info35
    have hc5 := hB.cell 0
    gi_wp2_with fail
    refine ⟨by simp, .inl ⟨_, _, rfl, run_takeDeferred hK, ?_⟩⟩
    refine ⟨_, results_row_cell rfl _ _ (w.heap.size + 2) (w.heap.size + 3) 46 (arr (pad x.1)) (0, 0) _ (.bool true) rfl rfl hR Try.underlying46 rfl hi16 (load_bool _ _ _ hc5), ?_, hbel⟩
    unfold ctE
    rw [nx_of_pre HK.out hS hn hx]
end Go.Proofs.Ytmojonpjgaidgaa
namespace Go.Proofs.Ytmojonpjgaidgaa
open Go.RowKit NP
set_option maxRecDepth 8000
set_option linter.unusedVariables false
set_option linter.unusedSimpArgs false
/-- a list put into its place: its block was made behind all others -/
theorem OwnLL.put {w : World} {lo hi lou : Nat} {eo e : TypeId} {g n c : Nat} {u : Value} {vs : List Value} {LL : List (List Int)} {L : List Int} (h : OwnLL w lo hi eo e (.slice (some ⟨g, 0, none⟩) n c) vs LL)
    (hu : Own w lou w.heap.size e u (ints L)) (hlou : hi ≤ lou) (hlo : lo ≤ lou) {k : Nat} (hk : k < vs.length) : OwnLL (w.setCell ⟨g, k, none⟩ u) lo w.heap.size eo e (.slice (some ⟨g, 0, none⟩) n c) (vs.set k u) (LL.set k L) := by
  have hgh : g < hi := h.outer.lt g rfl
  have hlen := h.len
  have hle := h.le
  refine ⟨h.outer.more.set k u, by rw [List.length_set, List.length_set]; exact hlen, fun j x M hx hM => ?_, fun j x q hx hq hv => ?_, fun i j x y q hx hy hqx hqy => ?_⟩
  · rw [List.getElem?_set] at hx hM
    by_cases hj : k = j
    · subst hj
      rw [if_pos rfl, if_pos hk] at hx
      rw [if_pos rfl, if_pos (by omega)] at hM
      cases hx; cases hM
      exact (hu.off (p := ⟨g, k, none⟩) (fun q hq e => by have := hu.base q hq; have e' : q = g := e; omega) u).lower hlo
    · rw [if_neg hj] at hx hM
      have hi' := h.inner j x M hx hM
      exact (hi'.more).off (p := ⟨g, k, none⟩) (fun q hq e => h.apartO j x q hx hq (by rw [e]; rfl)) u
  · rw [List.getElem?_set] at hx
    have hgq : g = q := by simp [Value.ownBlock] at hv; exact hv
    by_cases hj : k = j
    · subst hj
      rw [if_pos rfl, if_pos hk] at hx
      cases hx
      have := hu.base q hq
      omega
    · rw [if_neg hj] at hx
      exact h.apartO j x q hx hq hv
  · rw [List.getElem?_set] at hx hy
    by_cases hi : k = i
    · subst hi
      rw [if_pos rfl, if_pos hk] at hx
      cases hx
      by_cases hj : k = j
      · exact hj
      · rw [if_neg hj] at hy
        have h1 := h.lt hy hqy
        have h2 := hu.base q hqx
        omega
    · rw [if_neg hi] at hx
      by_cases hj : k = j
      · subst hj
        rw [if_pos rfl, if_pos hk] at hy
        cases hy
        have h1 := h.lt hx hqx
        have h2 := hu.base q hqy
        omega
      · rw [if_neg hj] at hy
        exact h.apart i j x y q hx hy hqx hqy
theorem own_nil2 (w : World) (lo hi : Nat) (e : TypeId) (h : hi ≤ w.heap.size) : Own w lo hi e (.slice none 0 0) [] :=
  ⟨World.ownsRow_nil w lo e 1, fun g hg => by simp [Value.ownBlock] at hg, h⟩
/-- a list of empty lists, laid anew -/
theorem OwnLL.zeros (w : World) (n : Nat) (eo e : TypeId) (hn : n ≤ maxLen) :
    OwnLL (w.alloc (.cells (List.replicate n (Value.slice none 0 0)).toArray eo)) w.heap.size (w.heap.size + 1) eo e (.slice (some ⟨w.heap.size, 0, none⟩) n n) (List.replicate n (Value.slice none 0 0)) (List.replicate n []) := by
  have hb := Blk.new w eo (List.replicate n (Value.slice none 0 0)).toArray
  have ho := hb.own (lo := w.heap.size) (vs := List.replicate n (Value.slice none 0 0)) (Nat.le_refl _) (by simpa using hn)
  rw [List.length_replicate, World.size_alloc] at ho
  refine ⟨ho, by simp, fun k u L hu hL => ?_, fun k u g hu hg => ?_, fun i j u u' g hu hu' hg => ?_⟩
  · have h1 := List.mem_of_getElem? hu
    have h2 := List.mem_of_getElem? hL
    rw [List.mem_replicate] at h1 h2
    rw [h1.2, h2.2]
    exact own_nil2 _ _ _ _ (by simp)
  · have h1 := List.mem_of_getElem? hu
    rw [List.mem_replicate] at h1
    rw [h1.2] at hg
    simp [Value.ownBlock] at hg
  · have h1 := List.mem_of_getElem? hu
    rw [List.mem_replicate] at h1
    rw [h1.2] at hg
    simp [Value.ownBlock] at hg
theorem run_make_lists {P : Program} (t e : TypeId) (i : TypeInfo) (h1 : P.underlying t = some (.slice e)) (h2 : P.info? e = some i) (h3 : i.zero = some (.slice none 0 0)) (h4 : i.size = 1) (h5 : i.bytes = 24)
    (n : Nat) (hn : n ≤ 4194304) (w : World) :
    (Instr.makeSlice t (.int .i64 n) (.int .i64 n)).run P w = .ok (.slice (some ⟨w.heap.size, 0, none⟩) n n) (w.alloc (.cells (List.replicate n (Value.slice none 0 0)).toArray e)) := by
  have hrun := run_make (P := P) w t e i (.slice none 0 0) h1 h2 h3 .i64 .i64 n n (by omega) (by omega) (by rw [h5]; omega) (by omega)
  rw [h4] at hrun
  simp only [Int.toNat_natCast, Nat.mul_one] at hrun
  rw [hrun]
  congr 3
  apply Array.toList_inj.1
  simp [Value.cells, toList_madeCells_one]
theorem fill_setV {us : List Value} {k n : Nat} (hk : us.length = k) (hn : k < n) (u : Value) : (us ++ List.replicate (n - k) (Value.slice none 0 0)).set k u = (us ++ [u]) ++ List.replicate (n - (k + 1)) (Value.slice none 0 0) := by
  rw [List.set_append_right _ _ (by omega), hk, Nat.sub_self, show n - k = (n - (k + 1)) + 1 by omega, List.replicate_succ, List.set_cons_zero, List.append_assoc]
  rfl
theorem fill_setL {LL : List (List Int)} {k : Nat} (hk : k < LL.length) : (LL.take k ++ List.replicate (LL.length - k) []).set k LL[k] = LL.take (k + 1) ++ List.replicate (LL.length - (k + 1)) [] := by
  rw [List.set_append_right _ _ (by simp; omega), List.length_take, Nat.min_eq_left (by omega), Nat.sub_self, show LL.length - k = (LL.length - (k + 1)) + 1 by omega, List.replicate_succ, List.set_cons_zero, List.take_succ_eq_append_getElem hk, List.append_assoc]
  rfl
/-- rows that came in, read as lists -/
theorem rows_of {w : World} {a : Addr} {len cap : Nat} {A : Nat → Option Addr} {L C : Nat → Nat} {Z : Nat → List Int} (hl : len ≤ cap)
    (h : ∀ r, r < cap → w.cell? (a.add r) = some (.slice (A r) (L r) (C r)) ∧ L r ≤ C r ∧ C r ≤ maxLen ∧ (Z r).length = C r ∧ (∀ n ∈ Z r, (Lit.int .i64 n).wf = true) ∧ (A r = none → C r = 0) ∧
      ∀ a', A r = some a' → 0 ≤ a'.block ∧ ∀ c, c < C r → w.cell? (a'.add c) = some (.int .i64 ((Z r).getD c 0))) :
    ∃ LL : List (List Int), LL.length = len ∧ RdLL w w.heap.size (some a) LL ∧ ∀ M ∈ LL, M.length ≤ maxLen := by
  have each : ∀ r, r < len → ∃ M : List Int, M.length = L r ∧ Rd w w.heap.size (A r) (ints M) ∧ M.length ≤ maxLen ∧ M.length ≤ C r := by
    intro r hr
    obtain ⟨h1, h2, h3, h4, h5, h6, h7⟩ := h r (by omega)
    have hrow : IsRow .i64 w (A r) (L r) (C r) (Z r) := by
      cases ha : A r with
      | none =>
        have := h6 ha
        exact .inl ⟨rfl, by omega, this, List.eq_nil_of_length_eq_zero (by omega)⟩
      | some x => exact .inr ⟨x, rfl, h2, h3, h4, fun i hi => (h7 x ha).2 i (by omega), h5⟩
    obtain ⟨M, e1, e2, _, e4⟩ := hrow.rd
    exact ⟨M, e1, e2, by omega, by omega⟩
  obtain ⟨y, hy⟩ := Go.Deep.choose_lt each
  refine ⟨(List.range len).map y, by simp, ⟨(List.range len).map fun r => .slice (A r) (L r) (C r), ?_, by simp, ?_⟩, ?_⟩
  · intro hne
    have h0 : 0 < len := by
      rcases Nat.eq_zero_or_pos len with h0 | h0
      · subst h0; simp at hne
      · exact h0
    obtain ⟨b, o, spot⟩ := a
    have hc0 := (h 0 (by omega)).1
    have hspot : spot = none := by simpa [Addr.add] using World.cell?_spot hc0
    subst hspot
    have hlt := World.block_lt_of_cell? _ _ hc0
    refine ⟨b, o, rfl, by simpa [Addr.add] using hlt, fun k v hv => ?_⟩
    have hk := (List.getElem?_eq_some_iff.1 hv).1
    simp at hk
    have h1 := (h k (by omega)).1
    rw [Addr.add_lit] at h1
    rw [h1]
    simpa [hk] using hv
  · intro k v M hv hM
    have hk := (List.getElem?_eq_some_iff.1 hv).1
    simp at hk
    simp [hk] at hv hM
    subst hv hM
    obtain ⟨e1, e2, e3, e4⟩ := hy k hk
    exact ⟨A k, C k, by rw [e1], e2, e4⟩
  · intro M hM
    obtain ⟨r, hr, rfl⟩ := List.mem_map.1 hM
    exact (hy r (List.mem_range.1 hr)).2.2.1
/-- what is left of a size when lists are taken from it -/
def szs (left : Int) : List (List Int) → Int
  | [] => left
  | L :: R => if left - (L.length : Int) < 0 then -1 else szs (left - (L.length : Int)) R
theorem szs_neg (left : Int) (LL : List (List Int)) (h : 0 ≤ left) (hs : 0 ≤ szs left LL) : ∀ L ∈ LL, (L.length : Int) ≤ left := by
  induction LL generalizing left with
  | nil => intro L hL; cases hL
  | cons x R ih =>
    unfold szs at hs
    split at hs
    · omega
    · rename_i h1
      intro L hL
      rcases List.mem_cons.1 hL with rfl | hL
      · omega
      · have := ih (left - (x.length : Int)) (by omega) hs L hL
        omega
theorem szs_cnt (left : Int) (LL : List (List Int)) (h : 0 ≤ left) (hs : 0 ≤ szs left LL) : (cntLL LL : Int) ≤ left := by
  induction LL generalizing left with
  | nil => simp [cntLL]; exact h
  | cons x R ih =>
    unfold szs at hs
    split at hs
    · omega
    · rename_i h1
      have := ih (left - (x.length : Int)) (by omega) hs
      simp [cntLL] at this ⊢
      omega
def szF (left : Int) (LL : List (List Int)) : Int := if left - (LL.length : Int) < 0 then -1 else szs (left - (LL.length : Int)) LL
theorem szF_ok {LL : List (List Int)} (h : 0 ≤ szF 1048576 LL) : LL.length ≤ 1048576 ∧ (∀ L ∈ LL, L.length ≤ 1048576) ∧ cntLL LL ≤ 1048576 := by
  unfold szF at h
  split at h
  · omega
  · rename_i h1
    have h2 := szs_neg _ _ (by omega) h
    have h3 := szs_cnt _ _ (by omega) h
    refine ⟨by omega, fun L hL => ?_, by omega⟩
    have := h2 L hL
    omega
theorem szs_drop (left : Int) {LL : List (List Int)} {k : Nat} (hk : k < LL.length) : szs left (LL.drop k) = if left - (LL[k].length : Int) < 0 then -1 else szs (left - (LL[k].length : Int)) (LL.drop (k + 1)) := by
  rw [List.drop_eq_getElem_cons hk]
  rfl
theorem T_ints3 : (Try.prog.info? 22).map (fun i => (i.zero, i.size, i.bytes)) = some (some (.slice none 0 0), 1, 24) := by kernel_rfl
end Go.Proofs.Ytmojonpjgaidgaa
namespace Go.Proofs.Ytmojonpjgaidgaa
open Go.RowKit Go.Shelf NP
set_option maxRecDepth 8000
set_option linter.unusedVariables false
set_option linter.unusedSimpArgs false
def lenOf : Value → Nat | .slice _ n _ => n | _ => 0
theorem OwnLL.kb2 {w : World} {lo hi : Nat} {eo e : TypeId} {v : Value} {vs : List Value} {LL : List (List Int)} (h : OwnLL w lo hi eo e v vs LL) (g : Nat) (X : Array Value) (hg : g < lo) : OwnLL (w.setRow g X) lo (w.setRow g X).heap.size eo e v vs LL := by
  have ks : ∀ j, lo ≤ j → (w.setRow g X).heap[j]? = w.heap[j]? := fun j hj => setRow_other w g j X (by omega)
  have h' : OwnLL (w.setRow g X) lo hi eo e v vs LL :=
    ⟨h.outer.keep (by simp) fun j hj => ks j (h.outer.base j hj), h.len, fun k u L hu hL => (h.inner k u L hu hL).keep (by simp) fun j hj => ks j ((h.inner k u L hu hL).base j hj), h.apartO, h.apart⟩
  exact h'.more
set_option maxRecDepth 100000 in
set_option maxHeartbeats 8000000 in
theorem chainTo_any (P Q : List Int) (hp : valid P = true) (hq : valid Q = true) (h12 : sumL P ≤ 12) (w : World) :
    Calls Try.prog 40 #[.agg (arr (pad P)), .agg (arr (pad Q))] w fun e w' => ∃ a' c' us, e = .returned (.slice a' (chD P Q).length c') ∧ OwnLL w' w.heap.size w'.heap.size 22 3 (.slice a' (chD P Q).length c') us (chD P Q) ∧ Below w.heap.size w w' := by
  obtain ⟨i1, hj, hy0, hy1, hy2⟩ := info_parts T_ints3
  have hiP : (Try.prog.info? 46).map (·.size) = some (arr (pad P)).size := by rw [arr_size, pad_len (valid_bd hp).2.2.2]; exact T_info35
  have hiQ : (Try.prog.info? 46).map (·.size) = some (arr (pad Q)).size := by rw [arr_size, pad_len (valid_bd hq).2.2.2]; exact T_info35
  have hiZ : (Try.prog.info? 46).map (·.size) = some (arr (List.replicate 16 0)).size := T_info35
  have HVQ := Lib.hid hq
  have HVP := Lib.hid hp
  have HLN : Hid ((chD P Q).length ≤ 1001) := Lib.hid (chD_ok Q hp h12).1
  obtain ⟨w0, hw0⟩ : ∃ w0, (w.alloc (.cells (arr (pad P)) 46)).alloc (.cells (arr (pad Q)) 46) = w0 := ⟨_, rfl⟩
  have hbP0 : Blk w0 w.heap.size 46 (arr (pad P)) := by rw [← hw0]; exact (Blk.new w _ _).alloc _
  have hbQ0 : Blk w0 (w.heap.size + 1) 46 (arr (pad Q)) := by
    have e := Blk.new (w.alloc (.cells (arr (pad P)) 46)) 46 (arr (pad Q))
    rw [World.size_alloc] at e
    rw [← hw0]; exact e
  have hbw0 : Below w.heap.size w w0 := by rw [← hw0]; exact ((Below.refl _ _).alloc (Nat.le_refl _) _).alloc (by simp) _
  have hzw0 : w0.heap.size = w.heap.size + 2 := by rw [← hw0]; simp
  clear hp hq
  go_enter Try.func40, Try.ntmps40
  go_wp2_with fail
  try rw [hw0]
  have HW0 := Lib.hid hw0
  clear hw0
  have hJ0 : Hid (OwnLL w0 (w.heap.size + 2) w0.heap.size 22 3 (.slice none 0 0) [] []) := Lib.hid (OwnLL.nil _ _ _ _)
  refine wp_scope_jumps 0 (fun a' w' => ∃ (R : List Int) (pre : List (List Int)) (us : List Value) (a5 : Option Addr) (c5 : Nat) (u6 u7 u8 u9 u10 u11 u12 u13 u14 u15 u16 u17 u18 u19 u20 u21 : Value), a' = { tmps := #[.agg (arr (pad P)), .agg (arr (pad Q)), .pointer (some ⟨w.heap.size, 0, none⟩), .pointer (some ⟨w.heap.size + 1, 0, none⟩), .slice none 0 0, .slice a5 pre.length c5, u6, u7, u8, u9, u10, u11, u12, u13, u14, u15, u16, u17, u18, u19, u20, u21], defers := [] } ∧ Hid (valid R = true) ∧ Hid (sumL R = sumL P) ∧ Hid (pre ++ chD R Q = chD P Q) ∧ Blk w' w.heap.size 46 (arr (pad R)) ∧ Blk w' (w.heap.size + 1) 46 (arr (pad Q)) ∧ OwnLL w' (w.heap.size + 2) w'.heap.size 22 3 (.slice a5 pre.length c5) us pre ∧ Below w.heap.size w w' ∧ w.heap.size + 2 ≤ w'.heap.size) (fun a' _ => 2000 - lenOf (a'.tmps.getD 5 undef)) rfl ?first ?pass
  case first =>
    obtain ⟨R, hR⟩ : ∃ R, R = P := ⟨_, rfl⟩
    have HVR : Hid (valid R = true) := Lib.hid (by rw [hR]; exact HVP.out)
    have HSR : Hid (sumL R = sumL P) := Lib.hid (by rw [hR])
    obtain ⟨pre, hpre⟩ : ∃ pre : List (List Int), pre = [] := ⟨_, rfl⟩
    obtain ⟨us, hus⟩ : ∃ us : List Value, us = [] := ⟨_, rfl⟩
    have HPR : Hid (pre ++ chD R Q = chD P Q) := Lib.hid (by rw [hR, hpre]; rfl)
    have hbR : Blk w0 w.heap.size 46 (arr (pad R)) := by rw [hR]; exact hbP0
    have HO : Hid (OwnLL w0 (w.heap.size + 2) w0.heap.size 22 3 (.slice none 0 0) us pre) := Lib.hid (by rw [hpre, hus]; exact hJ0.out)
    obtain ⟨wr, rfl⟩ : ∃ wr, wr = w0 := ⟨_, rfl⟩
    have hbQ := hbQ0
    have hbw := hbw0
    have hzr : w.heap.size + 2 ≤ wr.heap.size := by omega
    clear hR hpre hus
    have hiR : (Try.prog.info? 46).map (·.size) = some (arr (pad R)).size := by rw [arr_size, pad_len (valid_bd HVR.out).2.2.2]; exact T_info35
    have HUL : Hid (us.length ≤ 1001) := Lib.hid (by have h1 := HO.out.len; have h2 := HPR.out; have h3 := HLN.out; rw [← h2, List.length_append] at h3; omega)
    cases hnx : nxF R Q with
    | none =>
      have HCT : Hid (ctE R Q = .returned (.tuple #[.agg (arr (List.replicate 16 0)), .bool false])) := Lib.hid (by unfold ctE; rw [hnx])
      have HEND : Hid (pre ++ [R] = chD P Q) := Lib.hid (by rw [← HPR.out, chD_end hnx])
      clear hnx
      go_wp2
      go_step3
      go_wp2_with (first
        | ((with_reducible show wpList _ _ _ (Oper.mk _ (Op.load 46 (Operand.tmp 2)) _ _ _ _ :: _) _ _); refine wpList_load_row rfl 46 (.tmp 2) rfl w.heap.size rfl 46 (arr (pad R)) (0, 0) _ hbR Try.underlying46 rfl hiR ?_)
        | (go_at_call 68; refine (list_any R HVR.out _).mono ?_; rintro e w2 ⟨aL, rfl, hoL, hb2⟩; have HOL := Lib.hid hoL; have hz2 := hb2.size; clear hoL)
        | (at_builtin; refine wpList_append_o _ rfl (.tmp 8) (.tmp 11) 23 rfl (w.heap.size + 2) wr.heap.size 22 i1 (.slice none 0 0) 24 Try.underlying23 hj hy0 hy1 hy2 rfl _ us rfl ((HO.out.outer.below hb2).alloc _) (w2.heap.size + 1) (some ⟨w2.heap.size, 0, none⟩) 1 1 [.slice aL R.length R.length] rfl (Rd.one w2 _ _) rfl (by intro u hu; rw [List.mem_singleton.1 hu]; rfl) (by unfold maxLen; have := HUL.out; omega) (by have := HUL.out; omega) (by rw [World.size_alloc]; omega) ?_; intro v3 w3 ho3 hg3 hat3; have hb3 : Below (w.heap.size + 2) wr w3 := ((((Below.refl _ _).trans (hb2.mono hzr)).alloc (by omega) _).grown hg3 (by rw [World.size_alloc]; omega) (fun g e => HO.out.outer.base g e)); have HO3 := Lib.hid (((HO.out.below hb2).below ((Below.refl _ _).alloc (by omega) _)).append (HOL.out.alloc _) (Nat.le_refl _) (by omega) ho3 hg3 hat3); have hbR3 := hbR.below hb3 (by omega); have hbQ3 := hbQ.below hb3 (by omega); have hz3 := hb3.size; clear ho3 hg3 hat3)
        | ((with_reducible show wpList _ _ _ (Oper.mk _ (Op.load 46 (Operand.tmp 2)) _ _ _ _ :: _) _ _); refine wpList_load_row rfl 46 (.tmp 2) rfl w.heap.size rfl 46 (arr (pad R)) (0, 0) _ hbR3 Try.underlying46 rfl hiR ?_)
        | ((with_reducible show wpList _ _ _ (Oper.mk _ (Op.load 46 (Operand.tmp 3)) _ _ _ _ :: _) _ _); refine wpList_load_row rfl 46 (.tmp 3) rfl (w.heap.size + 1) rfl 46 (arr (pad Q)) (0, 0) _ hbQ3 Try.underlying46 rfl hiQ ?_)
        | (go_at_call 69; refine (coverTowards_any R Q HVR.out HVQ.out (by have := HSR.out; omega) w3).mono ?_; rintro e w4 ⟨rfl, hb4⟩; rw [HCT.out]; have HO4 := Lib.hid ((HO3.out.below hb4).more); have hbR4 := hbR3.below hb4 hbR3.lt; have hbQ4 := hbQ3.below hb4 hbQ3.lt; have hz4 := hb4.size)
        | ((with_reducible show wpList _ _ _ (Oper.mk _ (Op.store 46 (Operand.tmp 6) (Operand.tmp 17)) _ _ _ _ :: _) _ _); refine wpList_store_row rfl 46 (.tmp 6) (.tmp 17) rfl w4.heap.size rfl (arr (List.replicate 16 0)) rfl 46 (arr (List.replicate 16 0)) (Blk.new w4 _ _) hiZ rfl (arr_one _) ?_))
      simp only [Exit.jump]
      try rw [Exit.noGoto_ret]
      go_ret
      obtain ⟨a6, c6, e6⟩ := HO4.out.form
      have hbe : Below w.heap.size w ((w4.alloc (.cells #[.int .i64 0, .int .i64 0, .int .i64 0, .int .i64 0, .int .i64 0, .int .i64 0, .int .i64 0, .int .i64 0, .int .i64 0, .int .i64 0, .int .i64 0, .int .i64 0, .int .i64 0, .int .i64 0, .int .i64 0, .int .i64 0] 46)).setRow w4.heap.size (arr (List.replicate 16 0))) := below_setRow' (((hbw.trans (hb3.mono (by omega))).trans (hb4.mono (by omega))).alloc (by omega) _) (by omega) _
      refine ⟨a6, c6, us ++ [.slice aL R.length R.length], ?_, ?_, hbe⟩
      · rw [← HEND.out, ← e6]; rfl
      · rw [← HEND.out, ← e6]
        have := HO4.out.below (below_setRow' ((Below.refl _ _).alloc (Nat.le_refl w4.heap.size) (.cells #[.int .i64 0, .int .i64 0, .int .i64 0, .int .i64 0, .int .i64 0, .int .i64 0, .int .i64 0, .int .i64 0, .int .i64 0, .int .i64 0, .int .i64 0, .int .i64 0, .int .i64 0, .int .i64 0, .int .i64 0, .int .i64 0] 46)) (Nat.le_refl _) (arr (List.replicate 16 0)))
        exact (this.more).lower (by omega)
    | some S =>
      have HCT : Hid (ctE R Q = .returned (.tuple #[.agg (arr (pad S)), .bool true])) := Lib.hid (by unfold ctE; rw [hnx])
      have hsm := nx_some HVR.out (by have := HSR.out; omega) hnx
      have HVS := Lib.hid hsm.2.1
      have HSS : Hid (sumL S = sumL P) := Lib.hid (by rw [hsm.2.2.1, HSR.out])
      have HPS : Hid ((pre ++ [R]) ++ chD S Q = chD P Q) := Lib.hid (by rw [← HPR.out, chD_step HVR.out (by have := HSR.out; omega) hnx, List.append_assoc]; rfl)
      have hiS : (Try.prog.info? 46).map (·.size) = some (arr (pad S)).size := by rw [arr_size, pad_len (valid_bd HVS.out).2.2.2]; exact T_info35
      have hszS : (arr (pad S)).size = (arr (List.replicate 16 0)).size := by rw [arr_size, arr_size, pad_len (valid_bd HVS.out).2.2.2]; rfl
      have hszSR : (arr (pad S)).size = (arr (pad R)).size := by rw [arr_size, arr_size, pad_len (valid_bd HVS.out).2.2.2, pad_len (valid_bd HVR.out).2.2.2]
      clear hnx hsm
      go_wp2
      go_step3
      go_wp2_with (first
        | ((with_reducible show wpList _ _ _ (Oper.mk _ (Op.load 46 (Operand.tmp 2)) _ _ _ _ :: _) _ _); refine wpList_load_row rfl 46 (.tmp 2) rfl w.heap.size rfl 46 (arr (pad R)) (0, 0) _ hbR Try.underlying46 rfl hiR ?_)
        | (go_at_call 68; refine (list_any R HVR.out _).mono ?_; rintro e w2 ⟨aL, rfl, hoL, hb2⟩; have HOL := Lib.hid hoL; have hz2 := hb2.size; clear hoL)
        | (at_builtin; refine wpList_append_o _ rfl (.tmp 8) (.tmp 11) 23 rfl (w.heap.size + 2) wr.heap.size 22 i1 (.slice none 0 0) 24 Try.underlying23 hj hy0 hy1 hy2 rfl _ us rfl ((HO.out.outer.below hb2).alloc _) (w2.heap.size + 1) (some ⟨w2.heap.size, 0, none⟩) 1 1 [.slice aL R.length R.length] rfl (Rd.one w2 _ _) rfl (by intro u hu; rw [List.mem_singleton.1 hu]; rfl) (by unfold maxLen; have := HUL.out; omega) (by have := HUL.out; omega) (by rw [World.size_alloc]; omega) ?_; intro v3 w3 ho3 hg3 hat3; have hb3 : Below (w.heap.size + 2) wr w3 := ((((Below.refl _ _).trans (hb2.mono hzr)).alloc (by omega) _).grown hg3 (by rw [World.size_alloc]; omega) (fun g e => HO.out.outer.base g e)); have HO3 := Lib.hid (((HO.out.below hb2).below ((Below.refl _ _).alloc (by omega) _)).append (HOL.out.alloc _) (Nat.le_refl _) (by omega) ho3 hg3 hat3); have hbR3 := hbR.below hb3 (by omega); have hbQ3 := hbQ.below hb3 (by omega); have hz3 := hb3.size; clear ho3 hg3 hat3)
        | ((with_reducible show wpList _ _ _ (Oper.mk _ (Op.load 46 (Operand.tmp 2)) _ _ _ _ :: _) _ _); refine wpList_load_row rfl 46 (.tmp 2) rfl w.heap.size rfl 46 (arr (pad R)) (0, 0) _ hbR3 Try.underlying46 rfl hiR ?_)
        | ((with_reducible show wpList _ _ _ (Oper.mk _ (Op.load 46 (Operand.tmp 3)) _ _ _ _ :: _) _ _); refine wpList_load_row rfl 46 (.tmp 3) rfl (w.heap.size + 1) rfl 46 (arr (pad Q)) (0, 0) _ hbQ3 Try.underlying46 rfl hiQ ?_)
        | (go_at_call 69; refine (coverTowards_any R Q HVR.out HVQ.out (by have := HSR.out; omega) w3).mono ?_; rintro e w4 ⟨rfl, hb4⟩; rw [HCT.out]; have HO4 := Lib.hid ((HO3.out.below hb4).more); have hbR4 := hbR3.below hb4 hbR3.lt; have hbQ4 := hbQ3.below hb4 hbQ3.lt; have hz4 := hb4.size; have k6 : Blk ((w4.alloc (.cells #[.int .i64 0, .int .i64 0, .int .i64 0, .int .i64 0, .int .i64 0, .int .i64 0, .int .i64 0, .int .i64 0, .int .i64 0, .int .i64 0, .int .i64 0, .int .i64 0, .int .i64 0, .int .i64 0, .int .i64 0, .int .i64 0] 46)).setRow w4.heap.size (arr (pad S))) w4.heap.size 46 (arr (pad S)) := (Blk.new w4 46 (arr (List.replicate 16 0))).row; have k2 : Blk ((w4.alloc (.cells #[.int .i64 0, .int .i64 0, .int .i64 0, .int .i64 0, .int .i64 0, .int .i64 0, .int .i64 0, .int .i64 0, .int .i64 0, .int .i64 0, .int .i64 0, .int .i64 0, .int .i64 0, .int .i64 0, .int .i64 0, .int .i64 0] 46)).setRow w4.heap.size (arr (pad S))) w.heap.size 46 (arr (pad R)) := ((hbR4.alloc _).rowOff (by omega)))
        | ((with_reducible show wpList _ _ _ (Oper.mk _ (Op.store 46 (Operand.tmp 6) (Operand.tmp 17)) _ _ _ _ :: _) _ _); refine wpList_store_row rfl 46 (.tmp 6) (.tmp 17) rfl w4.heap.size rfl (arr (pad S)) rfl 46 (arr (List.replicate 16 0)) (Blk.new w4 _ _) hiS hszS (arr_one _) ?_)
        | ((with_reducible show wpList _ _ _ (Oper.mk _ (Op.load 46 (Operand.tmp 6)) _ _ _ _ :: _) _ _); refine wpList_load_row rfl 46 (.tmp 6) rfl w4.heap.size rfl 46 (arr (pad S)) (0, 0) _ k6 Try.underlying46 rfl hiS ?_)
        | ((with_reducible show wpList _ _ _ (Oper.mk _ (Op.store 46 (Operand.tmp 2) (Operand.tmp 20)) _ _ _ _ :: _) _ _); refine wpList_store_row rfl 46 (.tmp 2) (.tmp 20) rfl w.heap.size rfl (arr (pad S)) rfl 46 (arr (pad R)) k2 hiS hszSR (arr_one _) ?_))
      go_step3
      obtain ⟨a6, c6, e6⟩ := HO4.out.form
      subst e6
      have hbe : Below (w.heap.size + 2) wr ((w4.alloc (.cells #[.int .i64 0, .int .i64 0, .int .i64 0, .int .i64 0, .int .i64 0, .int .i64 0, .int .i64 0, .int .i64 0, .int .i64 0, .int .i64 0, .int .i64 0, .int .i64 0, .int .i64 0, .int .i64 0, .int .i64 0, .int .i64 0] 46)).setRow w4.heap.size (arr (pad S))) := below_setRow' ((hb3.trans (hb4.mono (by omega))).alloc (by omega) _) (by omega) _
      have hO5 := HO4.out.below (below_setRow' ((Below.refl _ _).alloc (Nat.le_refl w4.heap.size) (.cells #[.int .i64 0, .int .i64 0, .int .i64 0, .int .i64 0, .int .i64 0, .int .i64 0, .int .i64 0, .int .i64 0, .int .i64 0, .int .i64 0, .int .i64 0, .int .i64 0, .int .i64 0, .int .i64 0, .int .i64 0, .int .i64 0] 46)) (Nat.le_refl _) (arr (pad S)))
      have hbQ5 := hbQ.below hbe (by omega)
      have hO6 := hO5.kb2 w.heap.size (arr (pad S)) (by omega)
      have hbw6 : Below w.heap.size w (((w4.alloc (.cells #[.int .i64 0, .int .i64 0, .int .i64 0, .int .i64 0, .int .i64 0, .int .i64 0, .int .i64 0, .int .i64 0, .int .i64 0, .int .i64 0, .int .i64 0, .int .i64 0, .int .i64 0, .int .i64 0, .int .i64 0, .int .i64 0] 46)).setRow w4.heap.size (arr (pad S))).setRow w.heap.size (arr (pad S))) := below_setRow' (hbw.trans (hbe.mono (by omega))) (Nat.le_refl _) _
      exact ⟨rfl, S, pre ++ [R], us ++ [.slice aL R.length R.length], a6, c6, _, _, _, _, _, _, _, _, _, _, _, _, _, _, _, _, rfl, HVS, HSS, HPS, k2.row, hbQ5.rowOff (by omega), hO6, hbw6, by simp; omega⟩
  case pass =>
    rintro a' wr ⟨R, pre, us, a5, c5, u6, u7, u8, u9, u10, u11, u12, u13, u14, u15, u16, u17, u18, u19, u20, u21, rfl, HVR, HSR, HPR, hbR, hbQ, hO, hbw, hzr⟩
    have HO := Lib.hid hO
    clear hO
    have hiR : (Try.prog.info? 46).map (·.size) = some (arr (pad R)).size := by rw [arr_size, pad_len (valid_bd HVR.out).2.2.2]; exact T_info35
    have HUL : Hid (us.length ≤ 1001) := Lib.hid (by have h1 := HO.out.len; have h2 := HPR.out; have h3 := HLN.out; rw [← h2, List.length_append] at h3; omega)
    cases hnx : nxF R Q with
    | none =>
      have HCT : Hid (ctE R Q = .returned (.tuple #[.agg (arr (List.replicate 16 0)), .bool false])) := Lib.hid (by unfold ctE; rw [hnx])
      have HEND : Hid (pre ++ [R] = chD P Q) := Lib.hid (by rw [← HPR.out, chD_end hnx])
      clear hnx
      go_wp2_with (first
        | ((with_reducible show wpList _ _ _ (Oper.mk _ (Op.load 46 (Operand.tmp 2)) _ _ _ _ :: _) _ _); refine wpList_load_row rfl 46 (.tmp 2) rfl w.heap.size rfl 46 (arr (pad R)) (0, 0) _ hbR Try.underlying46 rfl hiR ?_)
        | (go_at_call 68; refine (list_any R HVR.out _).mono ?_; rintro e w2 ⟨aL, rfl, hoL, hb2⟩; have HOL := Lib.hid hoL; have hz2 := hb2.size; clear hoL)
        | (at_builtin; refine wpList_append_o _ rfl (.tmp 8) (.tmp 11) 23 rfl (w.heap.size + 2) wr.heap.size 22 i1 (.slice none 0 0) 24 Try.underlying23 hj hy0 hy1 hy2 rfl _ us rfl ((HO.out.outer.below hb2).alloc _) (w2.heap.size + 1) (some ⟨w2.heap.size, 0, none⟩) 1 1 [.slice aL R.length R.length] rfl (Rd.one w2 _ _) rfl (by intro u hu; rw [List.mem_singleton.1 hu]; rfl) (by unfold maxLen; have := HUL.out; omega) (by have := HUL.out; omega) (by rw [World.size_alloc]; omega) ?_; intro v3 w3 ho3 hg3 hat3; have hb3 : Below (w.heap.size + 2) wr w3 := ((((Below.refl _ _).trans (hb2.mono hzr)).alloc (by omega) _).grown hg3 (by rw [World.size_alloc]; omega) (fun g e => HO.out.outer.base g e)); have HO3 := Lib.hid (((HO.out.below hb2).below ((Below.refl _ _).alloc (by omega) _)).append (HOL.out.alloc _) (Nat.le_refl _) (by omega) ho3 hg3 hat3); have hbR3 := hbR.below hb3 (by omega); have hbQ3 := hbQ.below hb3 (by omega); have hz3 := hb3.size; clear ho3 hg3 hat3)
        | ((with_reducible show wpList _ _ _ (Oper.mk _ (Op.load 46 (Operand.tmp 2)) _ _ _ _ :: _) _ _); refine wpList_load_row rfl 46 (.tmp 2) rfl w.heap.size rfl 46 (arr (pad R)) (0, 0) _ hbR3 Try.underlying46 rfl hiR ?_)
        | ((with_reducible show wpList _ _ _ (Oper.mk _ (Op.load 46 (Operand.tmp 3)) _ _ _ _ :: _) _ _); refine wpList_load_row rfl 46 (.tmp 3) rfl (w.heap.size + 1) rfl 46 (arr (pad Q)) (0, 0) _ hbQ3 Try.underlying46 rfl hiQ ?_)
        | (go_at_call 69; refine (coverTowards_any R Q HVR.out HVQ.out (by have := HSR.out; omega) w3).mono ?_; rintro e w4 ⟨rfl, hb4⟩; rw [HCT.out]; have HO4 := Lib.hid ((HO3.out.below hb4).more); have hbR4 := hbR3.below hb4 hbR3.lt; have hbQ4 := hbQ3.below hb4 hbQ3.lt; have hz4 := hb4.size)
        | ((with_reducible show wpList _ _ _ (Oper.mk _ (Op.store 46 (Operand.tmp 6) (Operand.tmp 17)) _ _ _ _ :: _) _ _); refine wpList_store_row rfl 46 (.tmp 6) (.tmp 17) rfl w4.heap.size rfl (arr (List.replicate 16 0)) rfl 46 (arr (List.replicate 16 0)) (Blk.new w4 _ _) hiZ rfl (arr_one _) ?_))
      simp only [Exit.jump]
      try rw [Exit.noGoto_ret]
      go_ret
      obtain ⟨a6, c6, e6⟩ := HO4.out.form
      have hbe : Below w.heap.size w ((w4.alloc (.cells #[.int .i64 0, .int .i64 0, .int .i64 0, .int .i64 0, .int .i64 0, .int .i64 0, .int .i64 0, .int .i64 0, .int .i64 0, .int .i64 0, .int .i64 0, .int .i64 0, .int .i64 0, .int .i64 0, .int .i64 0, .int .i64 0] 46)).setRow w4.heap.size (arr (List.replicate 16 0))) := below_setRow' (((hbw.trans (hb3.mono (by omega))).trans (hb4.mono (by omega))).alloc (by omega) _) (by omega) _
      refine ⟨a6, c6, us ++ [.slice aL R.length R.length], ?_, ?_, hbe⟩
      · rw [← HEND.out, ← e6]; rfl
      · rw [← HEND.out, ← e6]
        have := HO4.out.below (below_setRow' ((Below.refl _ _).alloc (Nat.le_refl w4.heap.size) (.cells #[.int .i64 0, .int .i64 0, .int .i64 0, .int .i64 0, .int .i64 0, .int .i64 0, .int .i64 0, .int .i64 0, .int .i64 0, .int .i64 0, .int .i64 0, .int .i64 0, .int .i64 0, .int .i64 0, .int .i64 0, .int .i64 0] 46)) (Nat.le_refl _) (arr (List.replicate 16 0)))
        exact (this.more).lower (by omega)
    | some S =>
      have HCT : Hid (ctE R Q = .returned (.tuple #[.agg (arr (pad S)), .bool true])) := Lib.hid (by unfold ctE; rw [hnx])
      have hsm := nx_some HVR.out (by have := HSR.out; omega) hnx
      have HVS := Lib.hid hsm.2.1
      have HSS : Hid (sumL S = sumL P) := Lib.hid (by rw [hsm.2.2.1, HSR.out])
      have HPS : Hid ((pre ++ [R]) ++ chD S Q = chD P Q) := Lib.hid (by rw [← HPR.out, chD_step HVR.out (by have := HSR.out; omega) hnx, List.append_assoc]; rfl)
      have hiS : (Try.prog.info? 46).map (·.size) = some (arr (pad S)).size := by rw [arr_size, pad_len (valid_bd HVS.out).2.2.2]; exact T_info35
      have hszS : (arr (pad S)).size = (arr (List.replicate 16 0)).size := by rw [arr_size, arr_size, pad_len (valid_bd HVS.out).2.2.2]; rfl
      have hszSR : (arr (pad S)).size = (arr (pad R)).size := by rw [arr_size, arr_size, pad_len (valid_bd HVS.out).2.2.2, pad_len (valid_bd HVR.out).2.2.2]
      clear hnx hsm
      go_wp2_with (first
        | ((with_reducible show wpList _ _ _ (Oper.mk _ (Op.load 46 (Operand.tmp 2)) _ _ _ _ :: _) _ _); refine wpList_load_row rfl 46 (.tmp 2) rfl w.heap.size rfl 46 (arr (pad R)) (0, 0) _ hbR Try.underlying46 rfl hiR ?_)
        | (go_at_call 68; refine (list_any R HVR.out _).mono ?_; rintro e w2 ⟨aL, rfl, hoL, hb2⟩; have HOL := Lib.hid hoL; have hz2 := hb2.size; clear hoL)
        | (at_builtin; refine wpList_append_o _ rfl (.tmp 8) (.tmp 11) 23 rfl (w.heap.size + 2) wr.heap.size 22 i1 (.slice none 0 0) 24 Try.underlying23 hj hy0 hy1 hy2 rfl _ us rfl ((HO.out.outer.below hb2).alloc _) (w2.heap.size + 1) (some ⟨w2.heap.size, 0, none⟩) 1 1 [.slice aL R.length R.length] rfl (Rd.one w2 _ _) rfl (by intro u hu; rw [List.mem_singleton.1 hu]; rfl) (by unfold maxLen; have := HUL.out; omega) (by have := HUL.out; omega) (by rw [World.size_alloc]; omega) ?_; intro v3 w3 ho3 hg3 hat3; have hb3 : Below (w.heap.size + 2) wr w3 := ((((Below.refl _ _).trans (hb2.mono hzr)).alloc (by omega) _).grown hg3 (by rw [World.size_alloc]; omega) (fun g e => HO.out.outer.base g e)); have HO3 := Lib.hid (((HO.out.below hb2).below ((Below.refl _ _).alloc (by omega) _)).append (HOL.out.alloc _) (Nat.le_refl _) (by omega) ho3 hg3 hat3); have hbR3 := hbR.below hb3 (by omega); have hbQ3 := hbQ.below hb3 (by omega); have hz3 := hb3.size; clear ho3 hg3 hat3)
        | ((with_reducible show wpList _ _ _ (Oper.mk _ (Op.load 46 (Operand.tmp 2)) _ _ _ _ :: _) _ _); refine wpList_load_row rfl 46 (.tmp 2) rfl w.heap.size rfl 46 (arr (pad R)) (0, 0) _ hbR3 Try.underlying46 rfl hiR ?_)
        | ((with_reducible show wpList _ _ _ (Oper.mk _ (Op.load 46 (Operand.tmp 3)) _ _ _ _ :: _) _ _); refine wpList_load_row rfl 46 (.tmp 3) rfl (w.heap.size + 1) rfl 46 (arr (pad Q)) (0, 0) _ hbQ3 Try.underlying46 rfl hiQ ?_)
        | (go_at_call 69; refine (coverTowards_any R Q HVR.out HVQ.out (by have := HSR.out; omega) w3).mono ?_; rintro e w4 ⟨rfl, hb4⟩; rw [HCT.out]; have HO4 := Lib.hid ((HO3.out.below hb4).more); have hbR4 := hbR3.below hb4 hbR3.lt; have hbQ4 := hbQ3.below hb4 hbQ3.lt; have hz4 := hb4.size; have k6 : Blk ((w4.alloc (.cells #[.int .i64 0, .int .i64 0, .int .i64 0, .int .i64 0, .int .i64 0, .int .i64 0, .int .i64 0, .int .i64 0, .int .i64 0, .int .i64 0, .int .i64 0, .int .i64 0, .int .i64 0, .int .i64 0, .int .i64 0, .int .i64 0] 46)).setRow w4.heap.size (arr (pad S))) w4.heap.size 46 (arr (pad S)) := (Blk.new w4 46 (arr (List.replicate 16 0))).row; have k2 : Blk ((w4.alloc (.cells #[.int .i64 0, .int .i64 0, .int .i64 0, .int .i64 0, .int .i64 0, .int .i64 0, .int .i64 0, .int .i64 0, .int .i64 0, .int .i64 0, .int .i64 0, .int .i64 0, .int .i64 0, .int .i64 0, .int .i64 0, .int .i64 0] 46)).setRow w4.heap.size (arr (pad S))) w.heap.size 46 (arr (pad R)) := ((hbR4.alloc _).rowOff (by omega)))
        | ((with_reducible show wpList _ _ _ (Oper.mk _ (Op.store 46 (Operand.tmp 6) (Operand.tmp 17)) _ _ _ _ :: _) _ _); refine wpList_store_row rfl 46 (.tmp 6) (.tmp 17) rfl w4.heap.size rfl (arr (pad S)) rfl 46 (arr (List.replicate 16 0)) (Blk.new w4 _ _) hiS hszS (arr_one _) ?_)
        | ((with_reducible show wpList _ _ _ (Oper.mk _ (Op.load 46 (Operand.tmp 6)) _ _ _ _ :: _) _ _); refine wpList_load_row rfl 46 (.tmp 6) rfl w4.heap.size rfl 46 (arr (pad S)) (0, 0) _ k6 Try.underlying46 rfl hiS ?_)
        | ((with_reducible show wpList _ _ _ (Oper.mk _ (Op.store 46 (Operand.tmp 2) (Operand.tmp 20)) _ _ _ _ :: _) _ _); refine wpList_store_row rfl 46 (.tmp 2) (.tmp 20) rfl w.heap.size rfl (arr (pad S)) rfl 46 (arr (pad R)) k2 hiS hszSR (arr_one _) ?_))
      go_step3
      obtain ⟨a6, c6, e6⟩ := HO4.out.form
      subst e6
      have hbe : Below (w.heap.size + 2) wr ((w4.alloc (.cells #[.int .i64 0, .int .i64 0, .int .i64 0, .int .i64 0, .int .i64 0, .int .i64 0, .int .i64 0, .int .i64 0, .int .i64 0, .int .i64 0, .int .i64 0, .int .i64 0, .int .i64 0, .int .i64 0, .int .i64 0, .int .i64 0] 46)).setRow w4.heap.size (arr (pad S))) := below_setRow' ((hb3.trans (hb4.mono (by omega))).alloc (by omega) _) (by omega) _
      have hO5 := HO4.out.below (below_setRow' ((Below.refl _ _).alloc (Nat.le_refl w4.heap.size) (.cells #[.int .i64 0, .int .i64 0, .int .i64 0, .int .i64 0, .int .i64 0, .int .i64 0, .int .i64 0, .int .i64 0, .int .i64 0, .int .i64 0, .int .i64 0, .int .i64 0, .int .i64 0, .int .i64 0, .int .i64 0, .int .i64 0] 46)) (Nat.le_refl _) (arr (pad S)))
      have hbQ5 := hbQ.below hbe (by omega)
      have hO6 := hO5.kb2 w.heap.size (arr (pad S)) (by omega)
      have hbw6 : Below w.heap.size w (((w4.alloc (.cells #[.int .i64 0, .int .i64 0, .int .i64 0, .int .i64 0, .int .i64 0, .int .i64 0, .int .i64 0, .int .i64 0, .int .i64 0, .int .i64 0, .int .i64 0, .int .i64 0, .int .i64 0, .int .i64 0, .int .i64 0, .int .i64 0] 46)).setRow w4.heap.size (arr (pad S))).setRow w.heap.size (arr (pad S))) := below_setRow' (hbw.trans (hbe.mono (by omega))) (Nat.le_refl _) _
      refine ⟨rfl, ⟨S, pre ++ [R], us ++ [.slice aL R.length R.length], a6, c6, _, _, _, _, _, _, _, _, _, _, _, _, _, _, _, _, rfl, HVS, HSS, HPS, k2.row, hbQ5.rowOff (by omega), hO6, hbw6, by simp; omega⟩, ?_⟩
      have h1 := HO.out.len
      have h2 := HUL.out
      have h3 : pre.length ≤ 1001 := by omega
      clear h1 h2
      show 2000 - (pre ++ [R]).length < 2000 - pre.length
      rw [List.length_append]
      simp only [List.length_singleton]
      omega
end Go.Proofs.Ytmojonpjgaidgaa
namespace Go.Proofs.Ytmojonpjgaidgaa
open Go.RowKit Go.Shelf NP
set_option maxRecDepth 8000
set_option linter.unusedVariables false
set_option linter.unusedSimpArgs false
def cdB (P Q : List Int) : Bool := dom P Q && decide (sumL P ≤ 12)
def cdF (P Q : List Int) : List (List Int) := if cdB P Q then chD P Q else []
theorem cdB_no {P Q : List Int} (h : dom P Q = false) : cdB P Q = false := by simp [cdB, h]
theorem cdB_big {P Q : List Int} (h : ¬ sumL P ≤ 12) : cdB P Q = false := by simp [cdB, h]
theorem cdB_yes {P Q : List Int} (h : dom P Q = true) (h2 : sumL P ≤ 12) : cdB P Q = true := by simp [cdB, h, h2]
theorem cdF_no {P Q : List Int} (h : dom P Q = false) : cdF P Q = [] := by simp [cdF, cdB_no h]
theorem cdF_big {P Q : List Int} (h : ¬ sumL P ≤ 12) : cdF P Q = [] := by simp [cdF, cdB_big h]
theorem cdF_yes {P Q : List Int} (h : dom P Q = true) (h2 : sumL P ≤ 12) : cdF P Q = chD P Q := by simp [cdF, cdB_yes h h2]
theorem cdF_ok (P Q : List Int) : (cdF P Q).length ≤ 1001 ∧ ∀ X ∈ cdF P Q, valid X = true ∧ X.length ≤ 16 ∧ sumL X = sumL P := by
  unfold cdF
  split
  · rename_i h
    simp only [cdB, Bool.and_eq_true, decide_eq_true_eq] at h
    exact chD_ok Q (dom_iff.1 h.1).1 h.2
  · simp
set_option maxRecDepth 100000 in
set_option maxHeartbeats 8000000 in
theorem iChainDown_any (a b : Option Addr) (ca cb Ba Bb : Nat) (P Q : List Int) (w : World) (h : Rd w Ba a (ints P)) (hq : Rd w Bb b (ints Q)) (hBa : Ba ≤ w.heap.size) (hBb : Bb ≤ w.heap.size) (hl : P.length ≤ 4611686018427387904) (hlq : Q.length ≤ 4611686018427387904) :
    Calls Try.prog 11 #[.slice a P.length ca, .slice b Q.length cb] w fun e w' => ∃ a' c' us, e = .returned (.tuple #[.slice a' (cdF P Q).length c', .bool (cdB P Q)]) ∧ OwnLL w' w.heap.size w'.heap.size 22 3 (.slice a' (cdF P Q).length c') us (cdF P Q) ∧ Below w.heap.size w w' := by
  have hiP : (Try.prog.info? 46).map (·.size) = some (arr (dg P)).size := by rw [arr_size, dg_len]; exact T_info35
  have hszP : (arr (dg P)).size = (arr (List.replicate 16 0)).size := by rw [arr_size, arr_size, dg_len]; rfl
  have hiQ : (Try.prog.info? 46).map (·.size) = some (arr (dg Q)).size := by rw [arr_size, dg_len]; exact T_info35
  have hszQ : (arr (dg Q)).size = (arr (List.replicate 16 0)).size := by rw [arr_size, arr_size, dg_len]; rfl
  cases hv : (valid P && valid Q) with
  | false =>
    rw [cdB_no (by unfold dom; rw [hv]; rfl), cdF_no (by unfold dom; rw [hv]; rfl)]
    have HV := Lib.hid hv
    clear hv
    go_enter Try.func11, Try.ntmps11
    go_wp2_with (first
      | (go_at_call 37; refine (twoDiagrams_any _ _ _ _ Ba Bb P Q _ h hq hBa hBb hl hlq).mono ?_; rintro e w1 ⟨rfl, hb1⟩; rw [HV.out]; obtain ⟨k6, k7, kb⟩ := two_rows w1 46 (arr (List.replicate 16 0)) (arr (dg P)) (arr (dg Q)))
      | ((with_reducible show wpList _ _ _ (Oper.mk _ (Op.store 46 (Operand.tmp 6) (Operand.tmp 13)) _ _ _ _ :: _) _ _); refine wpList_store_row rfl 46 (.tmp 6) (.tmp 13) rfl w1.heap.size rfl (arr (dg P)) rfl 46 (arr (List.replicate 16 0)) ((Blk.new w1 _ _).alloc _) hiP hszP (arr_one _) ?_)
      | ((with_reducible show wpList _ _ _ (Oper.mk _ (Op.store 46 (Operand.tmp 7) (Operand.tmp 14)) _ _ _ _ :: _) _ _); refine wpList_store_row rfl 46 (.tmp 7) (.tmp 14) rfl (w1.heap.size + 1) rfl (arr (dg Q)) rfl 46 (arr (List.replicate 16 0)) (first_row w1 _ _ _) hiQ hszQ (arr_one _) ?_)
      | ((with_reducible show wpList _ _ _ (Oper.mk _ (Op.load 46 (Operand.tmp 6)) _ _ _ _ :: _) _ _); refine wpList_load_row_g rfl 46 (.tmp 6) rfl w1.heap.size rfl 46 (arr (dg P)) (0, 0) _ k6 Try.underlying46 rfl hiP ?_)
      | (go_at_call 38; refine (HSM.out _).mono ?_; rintro e w2 ⟨rfl, hb2⟩; have m6 := k6.below hb2 k6.lt; have m7 := k7.below hb2 k7.lt)
      | ((with_reducible show wpList _ _ _ (Oper.mk _ (Op.load 46 (Operand.tmp 6)) _ _ _ _ :: _) _ _); refine wpList_load_row_g rfl 46 (.tmp 6) rfl w1.heap.size rfl 46 (arr (dg P)) (0, 0) _ m6 Try.underlying46 rfl hiP ?_)
      | ((with_reducible show wpList _ _ _ (Oper.mk _ (Op.load 46 (Operand.tmp 7)) _ _ _ _ :: _) _ _); refine wpList_load_row_g rfl 46 (.tmp 7) rfl (w1.heap.size + 1) rfl 46 (arr (dg Q)) (0, 0) _ m7 Try.underlying46 rfl hiQ ?_)
      | (go_at_call 39; refine (ddominates_any P Q HP.out HQ.out _).mono ?_; rintro e w3 ⟨rfl, hb3⟩; rw [HD.out]; have n6 := m6.below hb3 m6.lt; have n7 := m7.below hb3 m7.lt)
      | ((with_reducible show wpList _ _ _ (Oper.mk _ (Op.load 46 (Operand.tmp 6)) _ _ _ _ :: _) _ _); refine wpList_load_row rfl 46 (.tmp 6) rfl w1.heap.size rfl 46 (arr (dg P)) (0, 0) _ n6 Try.underlying46 rfl hiP ?_)
      | ((with_reducible show wpList _ _ _ (Oper.mk _ (Op.load 46 (Operand.tmp 7)) _ _ _ _ :: _) _ _); refine wpList_load_row rfl 46 (.tmp 7) rfl (w1.heap.size + 1) rfl 46 (arr (dg Q)) (0, 0) _ n7 Try.underlying46 rfl hiQ ?_)
      | (go_at_call 40; refine (chainTo_any P Q HP.out HQ.out (by omega) _).mono ?_; rintro e w4 ⟨a4, c4, us, rfl, ho, hb4⟩))
    go_ret2
    exact ⟨none, 0, [], rfl, OwnLL.nil _ _ _ _, hb1.trans (kb.mono hb1.size)⟩
  | true =>
    have hp : valid P = true := by simp at hv; exact hv.1
    have hq2 : valid Q = true := by simp at hv; exact hv.2
    have HV := Lib.hid hv
    have HP := Lib.hid hp
    have HQ := Lib.hid hq2
    have HDP := Lib.hid (dg_yes hp)
    have HDQ := Lib.hid (dg_yes hq2)
    have HSM := Lib.hid (fun w => dsum_any (pad P) (pad_len (valid_bd hp).2.2.2) (pad_fits hp) w)
    rw [sumL_pad] at HSM
    rw [HDP.out] at hiP hszP
    rw [HDQ.out] at hiQ hszQ
    clear hv hp hq2
    by_cases h12 : 12 < sumL P
    · rw [cdB_big (by omega), cdF_big (by omega)]
      go_enter Try.func11, Try.ntmps11
      go_wp2_with (first
        | (go_at_call 37; refine (twoDiagrams_any _ _ _ _ Ba Bb P Q _ h hq hBa hBb hl hlq).mono ?_; rintro e w1 ⟨rfl, hb1⟩; rw [HV.out, HDP.out, HDQ.out]; obtain ⟨k6, k7, kb⟩ := two_rows w1 46 (arr (List.replicate 16 0)) (arr (pad P)) (arr (pad Q)))
        | ((with_reducible show wpList _ _ _ (Oper.mk _ (Op.store 46 (Operand.tmp 6) (Operand.tmp 13)) _ _ _ _ :: _) _ _); refine wpList_store_row rfl 46 (.tmp 6) (.tmp 13) rfl w1.heap.size rfl (arr (pad P)) rfl 46 (arr (List.replicate 16 0)) ((Blk.new w1 _ _).alloc _) hiP hszP (arr_one _) ?_)
        | ((with_reducible show wpList _ _ _ (Oper.mk _ (Op.store 46 (Operand.tmp 7) (Operand.tmp 14)) _ _ _ _ :: _) _ _); refine wpList_store_row rfl 46 (.tmp 7) (.tmp 14) rfl (w1.heap.size + 1) rfl (arr (pad Q)) rfl 46 (arr (List.replicate 16 0)) (first_row w1 _ _ _) hiQ hszQ (arr_one _) ?_)
        | ((with_reducible show wpList _ _ _ (Oper.mk _ (Op.load 46 (Operand.tmp 6)) _ _ _ _ :: _) _ _); refine wpList_load_row_g rfl 46 (.tmp 6) rfl w1.heap.size rfl 46 (arr (pad P)) (0, 0) _ k6 Try.underlying46 rfl hiP ?_)
        | (go_at_call 38; refine (HSM.out _).mono ?_; rintro e w2 ⟨rfl, hb2⟩; have m6 := k6.below hb2 k6.lt; have m7 := k7.below hb2 k7.lt)
        | ((with_reducible show wpList _ _ _ (Oper.mk _ (Op.load 46 (Operand.tmp 6)) _ _ _ _ :: _) _ _); refine wpList_load_row_g rfl 46 (.tmp 6) rfl w1.heap.size rfl 46 (arr (pad P)) (0, 0) _ m6 Try.underlying46 rfl hiP ?_)
        | ((with_reducible show wpList _ _ _ (Oper.mk _ (Op.load 46 (Operand.tmp 7)) _ _ _ _ :: _) _ _); refine wpList_load_row_g rfl 46 (.tmp 7) rfl (w1.heap.size + 1) rfl 46 (arr (pad Q)) (0, 0) _ m7 Try.underlying46 rfl hiQ ?_)
        | (go_at_call 39; refine (ddominates_any P Q HP.out HQ.out _).mono ?_; rintro e w3 ⟨rfl, hb3⟩; rw [HD.out]; have n6 := m6.below hb3 m6.lt; have n7 := m7.below hb3 m7.lt)
        | ((with_reducible show wpList _ _ _ (Oper.mk _ (Op.load 46 (Operand.tmp 6)) _ _ _ _ :: _) _ _); refine wpList_load_row rfl 46 (.tmp 6) rfl w1.heap.size rfl 46 (arr (pad P)) (0, 0) _ n6 Try.underlying46 rfl hiP ?_)
        | ((with_reducible show wpList _ _ _ (Oper.mk _ (Op.load 46 (Operand.tmp 7)) _ _ _ _ :: _) _ _); refine wpList_load_row rfl 46 (.tmp 7) rfl (w1.heap.size + 1) rfl 46 (arr (pad Q)) (0, 0) _ n7 Try.underlying46 rfl hiQ ?_)
        | (go_at_call 40; refine (chainTo_any P Q HP.out HQ.out (by omega) _).mono ?_; rintro e w4 ⟨a4, c4, us, rfl, ho, hb4⟩))
      go_ret2
      exact ⟨none, 0, [], rfl, OwnLL.nil _ _ _ _, (hb1.trans (kb.mono hb1.size)).trans (hb2.mono (hb1.trans (kb.mono hb1.size)).size)⟩
    · have h12' : ¬ 12 < sumL P := h12
      have hdec : decide (12 < sumL P) = false := decide_eq_false h12'
      cases hd : dom P Q with
      | false =>
        rw [cdB_no hd, cdF_no hd]
        have HD := Lib.hid hd
        clear hd
        go_enter Try.func11, Try.ntmps11
        go_wp2_with (first
          | (go_at_call 37; refine (twoDiagrams_any _ _ _ _ Ba Bb P Q _ h hq hBa hBb hl hlq).mono ?_; rintro e w1 ⟨rfl, hb1⟩; rw [HV.out, HDP.out, HDQ.out]; obtain ⟨k6, k7, kb⟩ := two_rows w1 46 (arr (List.replicate 16 0)) (arr (pad P)) (arr (pad Q)))
          | ((with_reducible show wpList _ _ _ (Oper.mk _ (Op.store 46 (Operand.tmp 6) (Operand.tmp 13)) _ _ _ _ :: _) _ _); refine wpList_store_row rfl 46 (.tmp 6) (.tmp 13) rfl w1.heap.size rfl (arr (pad P)) rfl 46 (arr (List.replicate 16 0)) ((Blk.new w1 _ _).alloc _) hiP hszP (arr_one _) ?_)
          | ((with_reducible show wpList _ _ _ (Oper.mk _ (Op.store 46 (Operand.tmp 7) (Operand.tmp 14)) _ _ _ _ :: _) _ _); refine wpList_store_row rfl 46 (.tmp 7) (.tmp 14) rfl (w1.heap.size + 1) rfl (arr (pad Q)) rfl 46 (arr (List.replicate 16 0)) (first_row w1 _ _ _) hiQ hszQ (arr_one _) ?_)
          | ((with_reducible show wpList _ _ _ (Oper.mk _ (Op.load 46 (Operand.tmp 6)) _ _ _ _ :: _) _ _); refine wpList_load_row_g rfl 46 (.tmp 6) rfl w1.heap.size rfl 46 (arr (pad P)) (0, 0) _ k6 Try.underlying46 rfl hiP ?_)
          | (go_at_call 38; refine (HSM.out _).mono ?_; rintro e w2 ⟨rfl, hb2⟩; have m6 := k6.below hb2 k6.lt; have m7 := k7.below hb2 k7.lt)
          | ((with_reducible show wpList _ _ _ (Oper.mk _ (Op.load 46 (Operand.tmp 6)) _ _ _ _ :: _) _ _); refine wpList_load_row_g rfl 46 (.tmp 6) rfl w1.heap.size rfl 46 (arr (pad P)) (0, 0) _ m6 Try.underlying46 rfl hiP ?_)
          | ((with_reducible show wpList _ _ _ (Oper.mk _ (Op.load 46 (Operand.tmp 7)) _ _ _ _ :: _) _ _); refine wpList_load_row_g rfl 46 (.tmp 7) rfl (w1.heap.size + 1) rfl 46 (arr (pad Q)) (0, 0) _ m7 Try.underlying46 rfl hiQ ?_)
          | (go_at_call 39; refine (ddominates_any P Q HP.out HQ.out _).mono ?_; rintro e w3 ⟨rfl, hb3⟩; rw [HD.out]; have n6 := m6.below hb3 m6.lt; have n7 := m7.below hb3 m7.lt)
          | ((with_reducible show wpList _ _ _ (Oper.mk _ (Op.load 46 (Operand.tmp 6)) _ _ _ _ :: _) _ _); refine wpList_load_row rfl 46 (.tmp 6) rfl w1.heap.size rfl 46 (arr (pad P)) (0, 0) _ n6 Try.underlying46 rfl hiP ?_)
          | ((with_reducible show wpList _ _ _ (Oper.mk _ (Op.load 46 (Operand.tmp 7)) _ _ _ _ :: _) _ _); refine wpList_load_row rfl 46 (.tmp 7) rfl (w1.heap.size + 1) rfl 46 (arr (pad Q)) (0, 0) _ n7 Try.underlying46 rfl hiQ ?_)
          | (go_at_call 40; refine (chainTo_any P Q HP.out HQ.out (by omega) _).mono ?_; rintro e w4 ⟨a4, c4, us, rfl, ho, hb4⟩))
        go_ret2
        have hbw := (hb1.trans (kb.mono hb1.size)).trans (hb2.mono (hb1.trans (kb.mono hb1.size)).size)
        exact ⟨none, 0, [], rfl, OwnLL.nil _ _ _ _, hbw.trans (hb3.mono hbw.size)⟩
      | true =>
        rw [cdB_yes hd (by omega), cdF_yes hd (by omega)]
        have HD := Lib.hid hd
        clear hd
        go_enter Try.func11, Try.ntmps11
        go_wp2_with (first
          | (go_at_call 37; refine (twoDiagrams_any _ _ _ _ Ba Bb P Q _ h hq hBa hBb hl hlq).mono ?_; rintro e w1 ⟨rfl, hb1⟩; rw [HV.out, HDP.out, HDQ.out]; obtain ⟨k6, k7, kb⟩ := two_rows w1 46 (arr (List.replicate 16 0)) (arr (pad P)) (arr (pad Q)))
          | ((with_reducible show wpList _ _ _ (Oper.mk _ (Op.store 46 (Operand.tmp 6) (Operand.tmp 13)) _ _ _ _ :: _) _ _); refine wpList_store_row rfl 46 (.tmp 6) (.tmp 13) rfl w1.heap.size rfl (arr (pad P)) rfl 46 (arr (List.replicate 16 0)) ((Blk.new w1 _ _).alloc _) hiP hszP (arr_one _) ?_)
          | ((with_reducible show wpList _ _ _ (Oper.mk _ (Op.store 46 (Operand.tmp 7) (Operand.tmp 14)) _ _ _ _ :: _) _ _); refine wpList_store_row rfl 46 (.tmp 7) (.tmp 14) rfl (w1.heap.size + 1) rfl (arr (pad Q)) rfl 46 (arr (List.replicate 16 0)) (first_row w1 _ _ _) hiQ hszQ (arr_one _) ?_)
          | ((with_reducible show wpList _ _ _ (Oper.mk _ (Op.load 46 (Operand.tmp 6)) _ _ _ _ :: _) _ _); refine wpList_load_row_g rfl 46 (.tmp 6) rfl w1.heap.size rfl 46 (arr (pad P)) (0, 0) _ k6 Try.underlying46 rfl hiP ?_)
          | (go_at_call 38; refine (HSM.out _).mono ?_; rintro e w2 ⟨rfl, hb2⟩; have m6 := k6.below hb2 k6.lt; have m7 := k7.below hb2 k7.lt)
          | ((with_reducible show wpList _ _ _ (Oper.mk _ (Op.load 46 (Operand.tmp 6)) _ _ _ _ :: _) _ _); refine wpList_load_row_g rfl 46 (.tmp 6) rfl w1.heap.size rfl 46 (arr (pad P)) (0, 0) _ m6 Try.underlying46 rfl hiP ?_)
          | ((with_reducible show wpList _ _ _ (Oper.mk _ (Op.load 46 (Operand.tmp 7)) _ _ _ _ :: _) _ _); refine wpList_load_row_g rfl 46 (.tmp 7) rfl (w1.heap.size + 1) rfl 46 (arr (pad Q)) (0, 0) _ m7 Try.underlying46 rfl hiQ ?_)
          | (go_at_call 39; refine (ddominates_any P Q HP.out HQ.out _).mono ?_; rintro e w3 ⟨rfl, hb3⟩; rw [HD.out]; have n6 := m6.below hb3 m6.lt; have n7 := m7.below hb3 m7.lt)
          | ((with_reducible show wpList _ _ _ (Oper.mk _ (Op.load 46 (Operand.tmp 6)) _ _ _ _ :: _) _ _); refine wpList_load_row rfl 46 (.tmp 6) rfl w1.heap.size rfl 46 (arr (pad P)) (0, 0) _ n6 Try.underlying46 rfl hiP ?_)
          | ((with_reducible show wpList _ _ _ (Oper.mk _ (Op.load 46 (Operand.tmp 7)) _ _ _ _ :: _) _ _); refine wpList_load_row rfl 46 (.tmp 7) rfl (w1.heap.size + 1) rfl 46 (arr (pad Q)) (0, 0) _ n7 Try.underlying46 rfl hiQ ?_)
          | (go_at_call 40; refine (chainTo_any P Q HP.out HQ.out (by omega) _).mono ?_; rintro e w4 ⟨a4, c4, us, rfl, ho, hb4⟩))
        go_ret2
        have hbw := (hb1.trans (kb.mono hb1.size)).trans (hb2.mono (hb1.trans (kb.mono hb1.size)).size)
        have hbw3 := hbw.trans (hb3.mono hbw.size)
        exact ⟨a4, c4, us, rfl, ho.lower hbw3.size, hbw3.trans (hb4.mono hbw3.size)⟩
end Go.Proofs.Ytmojonpjgaidgaa
namespace Go.Proofs.Ytmojonpjgaidgaa
open Go.RowKit NP
set_option maxRecDepth 8000
set_option linter.unusedVariables false
set_option linter.unusedSimpArgs false
set_option maxHeartbeats 1000000 in
theorem sameL_any (a b : Option Addr) (ca cb Ba Bb : Nat) (L M : List Int) (hl : L.length ≤ 1000) (w : World) (h : Rd w Ba a (ints L)) (hm : Rd w Bb b (ints M)) (hml : M.length ≤ 1000) :
    Calls Try.prog 35 #[.slice a L.length ca, .slice b M.length cb] w fun e w' => e = .returned (.bool (decide (L = M))) ∧ ∃ n, w' = w.drewN n := by
  by_cases hlen : L.length = M.length
  · have b0 : ((L.length : Int) != (M.length : Int)) = false := by simp [hlen]
    go_enter Try.func35, Try.ntmps35
    go_wp2_with fail
    clear b0
    go_loopw [5] (fun vi wr => ∃ k : Nat, k ≤ L.length ∧ vi = .int .i64 k ∧ Dr w wr ∧ Hid (∀ j, j < k → L.getD j 0 = M.getD j 0)) (fun vi _ => L.length - (intOf vi).toNat)
    case atStart => exact ⟨0, Nat.zero_le _, rfl, Dr.refl _, Lib.hid fun j hj => by omega⟩
    case round =>
      obtain ⟨k, hk, rfl, hdr, HP⟩ := hrel
      by_cases hlt : k < L.length
      · have hlt' : (k : Int) < (L.length : Int) := by omega
        have hltm : k < M.length := by omega
        have hlt'm : (k : Int) < (M.length : Int) := by omega
        obtain ⟨b1, o1, rfl, _, hc⟩ := (h.dr hdr).at_ hlt
        obtain ⟨b2, o2, rfl, _, hc'⟩ := (hm.dr hdr).at_ hltm
        have HG : Hid (L.getD k 0 = L[k]) := Lib.hid (getD_lt hlt)
        have HG' : Hid (M.getD k 0 = M[k]) := Lib.hid (getD_lt hltm)
        by_cases e1 : L[k] = M[k]
        · have HE : Hid (L.getD k 0 = M.getD k 0) := Lib.hid (by rw [HG.out, HG'.out, e1])
          have b1 : (L[k] != M[k]) = false := by simp [e1]
          clear e1 hlen
          generalize L[k] = x at hc HG b1
          generalize M[k] = y at hc' HG' b1
          go_wp2_with fail
          go_quiet (fail)
          go_wp2
          go_roundw
          case rel => exact ⟨k + 1, by omega, by go_num, hdr.drewN _, Lib.hid fun j hj => by
            rcases Nat.lt_or_ge j k with h1 | h1
            · exact HP.out j h1
            · obtain rfl : j = k := by omega
              exact HE.out⟩
          case measure => simp [intOf]; omega
        · have HF : Hid (decide (L = M) = false) := Lib.hid (decide_eq_false fun hc => e1 (by subst hc; rfl))
          have b1 : (L[k] != M[k]) = true := by simpa using e1
          clear e1 hlen
          generalize L[k] = x at hc HG b1
          generalize M[k] = y at hc' HG' b1
          go_wp2_with fail
          go_quiet (fail)
          go_wp2
          go_ret
          exact ⟨ret_bool HF.out.symm, hdr.trans (Dr.n _ _)⟩
      · obtain rfl : k = L.length := by omega
        have HF : Hid (decide (L = M) = true) := Lib.hid (decide_eq_true (List.ext_getElem hlen fun j h1 h2 => by
          have := HP.out j h1
          rwa [getD_lt h1, getD_lt h2] at this))
        clear hlen
        go_wp2
        go_ret
        exact ⟨ret_bool HF.out.symm, hdr⟩
  · have b0 : ((L.length : Int) != (M.length : Int)) = true := by simp; omega
    have HF : Hid (decide (L = M) = false) := Lib.hid (decide_eq_false fun hc => hlen (by rw [hc]))
    clear hlen
    go_enter Try.func35, Try.ntmps35
    go_wp2_with fail
    go_ret
    exact ⟨ret_bool HF.out.symm, 0, rfl⟩
end Go.Proofs.Ytmojonpjgaidgaa
namespace Go.Proofs.Ytmojonpjgaidgaa
open Go.RowKit NP
set_option maxRecDepth 8000
set_option linter.unusedVariables false

theorem rngYes (n lo hi : Int) (w : World) (h1 : lo ≤ n) (h2 : n ≤ hi) : Calls Try.prog 51 #[.int .i64 n, .int .i64 lo, .int .i64 hi] w fun e w' => e = .returned (.bool true) ∧ w' = w := by
  go_enter Try.func51, Try.ntmps51
  go_wp2
  go_ret
  exact ⟨rfl, rfl⟩
theorem rngNo (n lo hi : Int) (w : World) (h : n < lo ∨ hi < n) : Calls Try.prog 51 #[.int .i64 n, .int .i64 lo, .int .i64 hi] w fun e w' => e = .returned (.bool false) ∧ w' = w := by
  by_cases h1 : lo ≤ n
  · have h2 : hi < n := by omega
    clear h
    go_enter Try.func51, Try.ntmps51
    go_wp2
    go_ret
    exact ⟨ret_bool (by simp; omega), rfl⟩
  · clear h
    go_enter Try.func51, Try.ntmps51
    go_wp2
    go_ret
    exact ⟨rfl, rfl⟩
def inR (n lo hi : Int) : Bool := decide (lo ≤ n) && decide (n ≤ hi)
theorem inRange_any (n lo hi : Int) (w : World) : Calls Try.prog 51 #[.int .i64 n, .int .i64 lo, .int .i64 hi] w fun e w' => e = .returned (.bool (inR n lo hi)) ∧ w = w' := by
  by_cases h : lo ≤ n ∧ n ≤ hi
  · refine (rngYes n lo hi w h.1 h.2).mono ?_
    rintro e w' ⟨rfl, rfl⟩
    exact ⟨ret_bool (by unfold inR; rw [decide_eq_true h.1, decide_eq_true h.2]; rfl), rfl⟩
  · refine (rngNo n lo hi w (by omega)).mono ?_
    rintro e w' ⟨rfl, rfl⟩
    refine ⟨ret_bool ?_, rfl⟩
    unfold inR
    rcases Int.lt_or_le n lo with h1 | h1
    · rw [decide_eq_false (by omega : ¬ lo ≤ n)]; rfl
    · rw [decide_eq_false (by omega : ¬ n ≤ hi)]; simp

theorem countTo_any (m : Nat) : ∀ (n k : Int) (w : World), n.toNat + k.toNat = m → -1000 ≤ n → n ≤ 40 → 0 ≤ k → k ≤ 40 →
    Calls Try.prog 94 #[.int .i64 n, .int .i64 k] w fun e w' => e = .returned (.int .i64 (ctZ n k)) ∧ w = w' := by
  induction m using Nat.strongRecOn with
  | _ m ih =>
    intro n k w hm hn0 hn hk0 hk
    by_cases h0 : n = 0
    · subst h0
      have HZ := Lib.hid (ctZ_zero k)
      clear ih
      go_enter Try.func94, Try.ntmps94
      go_wp2
      go_ret
      exact ⟨ret_i64 HZ.out.symm, rfl⟩
    · have e0 : (n == 0) = false := beq_eq_false_iff_ne.2 h0
      by_cases h1 : n < 0
      · have HZ := Lib.hid (ctZ_neg n k h1)
        clear ih h0
        go_enter Try.func94, Try.ntmps94
        go_wp2
        go_ret
        exact ⟨ret_i64 HZ.out.symm, rfl⟩
      · by_cases h2 : k = 0
        · subst h2
          have HZ := Lib.hid (ctZ_none n (by omega))
          have h1' : 0 ≤ n := by omega
          clear ih h0 h1
          go_enter Try.func94, Try.ntmps94
          go_wp2
          go_ret
          exact ⟨ret_i64 HZ.out.symm, rfl⟩
        · have e2 : (k == 0) = false := beq_eq_false_iff_ne.2 h2
          have h1' : 0 ≤ n := by omega
          have h3 := ctZ_rec n k (by omega) (by omega)
          have b1 := ctZ_bd n (k - 1) hn
          have b2 := ctZ_bd (n - k) k (by omega)
          have HZ := Lib.hid h3
          have i1 := fun w => ih (n.toNat + (k - 1).toNat) (by omega) n (k - 1) w rfl (by omega) hn (by omega) (by omega)
          have i2 := fun w => ih ((n - k).toNat + k.toNat) (by omega) (n - k) k w rfl (by omega) (by omega) hk0 hk
          have hk1 : 1 ≤ k := by omega
          have hn1 : 1 ≤ n := by omega
          clear ih h0 h1 h2 h3 hm
          have I1 := Lib.hid i1
          have I2 := Lib.hid i2
          clear i1 i2
          generalize ctZ n (k - 1) = x at *
          generalize ctZ (n - k) k = y at *
          go_enter Try.func94, Try.ntmps94
          go_wp2_with fail
          refine (I1.out _).mono ?_
          rintro e w1 ⟨rfl, rfl⟩
          go_wp2_with fail
          refine (I2.out _).mono ?_
          rintro e w1 ⟨rfl, rfl⟩
          go_wp2_with fail
          go_ret
          exact ⟨ret_i64 HZ.out.symm, rfl⟩
theorem countTo_at (n k : Int) (w : World) (hn0 : -1000 ≤ n) (hn : n ≤ 40) (hk0 : 0 ≤ k) (hk : k ≤ 40) :
    Calls Try.prog 94 #[.int .i64 n, .int .i64 k] w fun e w' => e = .returned (.int .i64 (ctZ n k)) ∧ w = w' := countTo_any _ n k w rfl hn0 hn hk0 hk



theorem crow_bd (k : Nat) : ∀ s, s < 41 → (0 ≤ (crow k).getD s 0 ∧ (crow k).getD s 0 ≤ 1099511627776) ∧ 0 ≤ wv (crow k) (k + 1) s ∧ wv (crow k) (k + 1) s ≤ 1099511627776 := fun s hs => by
  rw [crow_getD k s hs, wv_crow k s hs]
  have := ct_le s k (by omega)
  have := ct_le s (k + 1) (by omega)
  omega


end Go.Proofs.Ytmojonpjgaidgaa
