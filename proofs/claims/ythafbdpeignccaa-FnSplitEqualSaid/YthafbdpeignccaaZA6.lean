/-
  Walks of the program: whether a diagram covers another. Walks of the program: whether equal parts may be taken apart. Walks of the program: equal parts put together, taken apart. Plain mathematics: equal parts put together and taken apart, as the laws ask it. Words for lists of lists: readable (RdLL), the call's own (OwnLL). Walks: the laws' own helpers on lists of lists: compared (eqIntSS, equalLists). Lists of lists that come in: their sizes, their copies. Walks of the model: whether a number divides a part; parts taken apart. Walks of the model: equal parts put together. Walks of the model: MergeEqual.
-/
import Derived.Test.YthafbdpeignccaaZA1
import Derived.Test.YthafbdpeignccaaZA2
import Derived.Test.YthafbdpeignccaaZA3
import Derived.Test.YthafbdpeignccaaZA4
import Derived.Test.YthafbdpeignccaaZA5
import Derived.Shelf.Abstract
import Derived.Deep.RegionHeld3
import Derived.Deep.Matrix
namespace Go.Proofs.Ythafbdpeignccaa
open Go.RowKit Go.Shelf NP
set_option maxRecDepth 8000
set_option linter.unusedVariables false
set_option linter.unusedSimpArgs false
theorem op_loadv {P : Program} {o : Oper} {a : Act} {w w' : World} {K : Act → World → Prop} {Q : Exit → Act → World → Prop} {v : Value} (ty : TypeId) (x : Operand) (ho : o.op = .load ty x) (p : Addr) (hx : a.eval x = .pointer (some p))
    (hrun : (loadVar ty p).run P w = .ok v w') (hK : K (a.put o.dst v) w') : o.wp P a w K Q := by
  unfold Oper.wp execOp
  simp only [ho, hx, Instr.loadAt, Instr.sureAddr, Sem.run_bind, Sem.run_pure, Result.andThen_ok, hrun]
  exact hK
theorem conj_cells3 {P : List Int} (hp : valid P = true) : acc (pad P) 16 0 = pad (conj P) := (acc_end (pad P) (pad_len (valid_bd hp).2.2.2)).trans (conj_pad hp)
def covB (P Q : List Int) : Bool := dropB (pad P) (pad Q) || dropB (pad (conj Q)) (pad (conj P))
end Go.Proofs.Ythafbdpeignccaa
namespace Go.Proofs.Ythafbdpeignccaa
open Go.RowKit NP
set_option maxRecDepth 8000
set_option linter.unusedVariables false
set_option linter.unusedSimpArgs false
theorem exec_loadv {P : Program} {ev : Operand → Value} {o : Oper} {w : World} {v : Value} (ty : TypeId) (x : Operand) (ho : o.op = .load ty x) (p : Addr) (hx : ev x = .pointer (some p)) (hrun : (loadVar ty p).run P w = .ok v w) :
    (execOp ev o).run P w = .ok (.value v) w := by
  simp only [execOp, ho, Instr.loadAt, hx, Instr.sureAddr, Sem.run_bind, Sem.run_pure, Result.andThen_ok, hrun]
def kSp (m : Int) (P : List Int) : Bool := inLim m && kNone m.toNat P
set_option maxRecDepth 100000 in
set_option maxHeartbeats 2000000 in
theorem maySplit_any (m : Int) (P : List Int) (hp : valid P = true) (w : World) :
    Calls Try.prog 61 #[.int .i64 m, .agg (arr (pad P))] w fun e w' => e = .returned (.bool (kSp m P)) ∧ Below w.heap.size w w' := by
  have hlP := pad_len (valid_bd hp).2.2.2
  have hiP : (Try.prog.info? 59).map (·.size) = some (arr (pad P)).size := by rw [arr_size, hlP]; exact T_info35
  have hb0 := Blk.new w 59 (arr (pad P))
  have hB0 : Below w.heap.size w (w.alloc (.cells (arr (pad P)) 59)) := (Below.refl _ _).alloc (Nat.le_refl _) _
  have HP := Lib.hid hp
  have hmx : Try.prog.follows .mixedOrders = true := by kernel_rfl
  clear hp
  obtain ⟨w0, hw0⟩ : ∃ w0, w.alloc (.cells (arr (pad P)) 59) = w0 := ⟨_, rfl⟩
  rw [hw0] at hb0 hB0
  cases hm : inLim m with
  | false =>
    have HM := Lib.hid hm
    clear hm
    go_enter Try.func61, Try.ntmps61
    go_wp2_with fail
    try rw [hw0]
    refine wp_region_vals [0, 1, 2, 3, 4, 5, 6, 7, 8] [.int .i64 m, .bool false, .bool false, undef, undef, undef, undef, .bool false, .bool false] (fun w' => Below w0.heap.size w0 w') _ hmx (fun y hy => hy.below _) rfl rfl (by kernel_rfl) (by kernel_rfl) rfl ?steps ?rest
    case steps =>
      simp only [putsOfG, Act.put, List.getElem?_toArray, List.getElem?_cons_succ, List.getElem?_cons_zero, Option.bind_some, Nat.reduceAdd, List.setIfInBounds_toArray, List.set_cons_zero, List.set_cons_succ]
      refine StepsG.cons rfl rfl (fun wq hS => ?_) ?_
      · go_simp
      refine StepsG.cons rfl rfl (fun wq hS => ?_) ?_
      · go_simp
        go_at_call 95
        refine (isInLimits_any m wq).mono ?_
        rintro e w5 ⟨rfl, rfl⟩
        rw [HM.out]
        exact ⟨rfl, hS⟩
      refine StepsG.cons rfl rfl (fun wq hS => ?_) ?_
      · go_simp
      refine StepsG.skip rfl rfl rfl ?_
      refine StepsG.skip rfl rfl rfl ?_
      refine StepsG.skip rfl rfl rfl ?_
      refine StepsG.skip rfl rfl rfl ?_
      refine StepsG.cons rfl rfl (fun wq hS => ?_) ?_
      · go_simp
      refine StepsG.cons rfl rfl (fun wq hS => ?_) ?_
      · go_simp
      exact StepsG.nil
    case rest =>
      intro wq hS
      simp only [putsOfG, Act.put, List.getElem?_toArray, List.getElem?_cons_succ, List.getElem?_cons_zero, Option.bind_some, Nat.reduceAdd, List.setIfInBounds_toArray, List.set_cons_zero, List.set_cons_succ]
      go_wp2_with fail
      go_ret
      exact ⟨by unfold kSp; rw [HM.out]; rfl, hB0.trans (hS.mono hB0.size)⟩
  | true =>
    have hm2 := hm
    unfold inLim at hm2
    simp only [Bool.and_eq_true, decide_eq_true_eq] at hm2
    obtain ⟨n, rfl⟩ := Int.eq_ofNat_of_zero_le (show 0 ≤ m by omega)
    have hn : 2 ≤ n ∧ n ≤ 16 := by omega
    have HM := Lib.hid hm
    have HK : Hid (kSp (n : Int) P = kNone n P) := Lib.hid (by unfold kSp; rw [hm]; simp)
    clear hm hm2
    go_enter Try.func61, Try.ntmps61
    go_wp2_with fail
    try rw [hw0]
    refine wp_region_held_drew (S := (fun w' => Below w0.heap.size w0 w')) (by kernel_rfl) (((Dr.n w0 1).below _)) (fun hS0 => ?_)
    refine wpAnyH_take (i := 0) (v := .int .i64 (n : Int)) (by simp only [List.getElem?_toArray, List.getElem?_cons_succ, List.getElem?_cons_zero]; exact rfl) (by kernel_rfl) (by kernel_rfl) (by kernel_rfl) (by intro _ _ _ h; exact h) (Or.inl ⟨by kernel_rfl, by intro w' hSw; go_simp⟩) (by assumption) ?_
    simp only [Act.put, List.setIfInBounds_toArray, List.set_cons_zero, List.set_cons_succ, List.toList_toArray]
    refine wpAnyH_ready (rs := [1]) (by kernel_rfl) (by simp) ?_
    refine AllReadyH.cons (o := _) (by simp only [List.getElem?_toArray, List.getElem?_cons_succ, List.getElem?_cons_zero]; exact rfl) (fun K hK => ?_) AllReadyH.nil
    rw [if_pos (by rfl)]
    go_simp
    go_at_call 95
    refine (isInLimits_any (n : Int) _).mono ?_
    rintro e wq1 ⟨rfl, rfl⟩
    rw [HM.out]
    refine hK.out _ _ hS0 (fun _ => ?_)
    clear hK K
    try simp only [Act.put, List.setIfInBounds_toArray, List.set_cons_zero, List.set_cons_succ, List.toList_toArray]
    refine wpAnyH_take (i := 2) (v := .bool true) (by simp only [List.getElem?_toArray, List.getElem?_cons_succ, List.getElem?_cons_zero]; exact rfl) (by kernel_rfl) (by kernel_rfl) (by kernel_rfl) (by intro _ _ _ h; exact h) (Or.inl ⟨by kernel_rfl, by intro w' hSw; go_simp⟩) (by assumption) ?_
    simp only [Act.put, List.setIfInBounds_toArray, List.set_cons_zero, List.set_cons_succ, List.toList_toArray]
    refine wpAnyH_take (i := 3) (v := .int .i64 (n : Int)) (by simp only [List.getElem?_toArray, List.getElem?_cons_succ, List.getElem?_cons_zero]; exact rfl) (by kernel_rfl) (by kernel_rfl) (by kernel_rfl) (by intro _ _ _ h; exact h) (Or.inl ⟨by kernel_rfl, by intro w' hSw; go_simp⟩) (by assumption) ?_
    simp only [Act.put, List.setIfInBounds_toArray, List.set_cons_zero, List.set_cons_succ, List.toList_toArray]
    refine wpAnyH_take (i := 5) (v := .agg (arr (pad P))) (by simp only [List.getElem?_toArray, List.getElem?_cons_succ, List.getElem?_cons_zero]; exact rfl) (by kernel_rfl) (by kernel_rfl) (by kernel_rfl) (by intro _ _ _ h; exact h) (Or.inl ⟨by kernel_rfl, by intro w' hSw; exact exec_loadv 59 (.tmp 3) rfl ⟨w.heap.size, 0, none⟩ rfl (run_loadVar_row w' w.heap.size 59 59 (arr (pad P)) (0, 0) _ (hb0.below hSw hb0.lt) Try.underlying59 rfl hiP)⟩) (by assumption) ?_
    simp only [Act.put, List.setIfInBounds_toArray, List.set_cons_zero, List.set_cons_succ, List.toList_toArray]
    refine wpAnyH_ready (rs := [4]) (by kernel_rfl) (by simp) ?_
    refine AllReadyH.cons (o := _) (by simp only [List.getElem?_toArray, List.getElem?_cons_succ, List.getElem?_cons_zero]; exact rfl) (fun K hK => ?_) AllReadyH.nil
    rw [if_pos (by rfl)]
    go_simp
    go_at_call 98
    refine (noneComes_any n hn _).mono ?_
    rintro e wq2 ⟨v, rfl, hv, hb2⟩
    obtain ⟨f1, p1, c1, rfl, he1, hK1⟩ := (hv _ (.inr (Nat.le_refl _))).isK
    have hS2 := hS0.trans (hb2.mono hS0.size)
    refine hK.out _ _ hS2 (fun _ => ?_)
    clear hK K
    try simp only [Act.put, List.setIfInBounds_toArray, List.set_cons_zero, List.set_cons_succ, List.toList_toArray]
    refine wpAnyH_ready (rs := [6]) (by kernel_rfl) (by simp) ?_
    refine AllReadyH.cons (o := _) (by simp only [List.getElem?_toArray, List.getElem?_cons_succ, List.getElem?_cons_zero]; exact rfl) (fun K hK => ?_) AllReadyH.nil
    rw [if_pos (by rfl)]
    go_simp
    refine (hK1 _ (Below.refl _ _) P HP.out).mono ?_
    rintro e wq3 ⟨rfl, hb3⟩
    have hS3 := hS2.trans (hb3.mono hS2.size)
    refine hK.out _ _ hS3 (fun _ => ?_)
    clear hK K
    try simp only [Act.put, List.setIfInBounds_toArray, List.set_cons_zero, List.set_cons_succ, List.toList_toArray]
    refine wpAnyH_take (i := 7) (v := .bool (kNone n P)) (by simp only [List.getElem?_toArray, List.getElem?_cons_succ, List.getElem?_cons_zero]; exact rfl) (by kernel_rfl) (by kernel_rfl) (by kernel_rfl) (by intro _ _ _ h; exact h) (Or.inl ⟨by kernel_rfl, by intro w' hSw; go_simp⟩) (by assumption) ?_
    simp only [Act.put, List.setIfInBounds_toArray, List.set_cons_zero, List.set_cons_succ, List.toList_toArray]
    refine wpAnyH_take (i := 8) (v := .bool (kNone n P)) (by simp only [List.getElem?_toArray, List.getElem?_cons_succ, List.getElem?_cons_zero]; exact rfl) (by kernel_rfl) (by kernel_rfl) (by kernel_rfl) (by intro _ _ _ h; exact h) (Or.inl ⟨by kernel_rfl, by intro w' hSw; go_simp⟩) (by assumption) ?_
    simp only [Act.put, List.setIfInBounds_toArray, List.set_cons_zero, List.set_cons_succ, List.toList_toArray]
    refine wpAnyH_done (by kernel_rfl) ?_ _
    try simp only [Act.put, List.setIfInBounds_toArray, List.set_cons_zero, List.set_cons_succ]
    go_wp2_with fail
    go_ret
    exact ⟨by rw [HK.out]; rfl, hB0.trans (hS3.mono hB0.size)⟩
theorem maySplit_isK (m : Int) (w : World) : IsK w (.func (.func 61) #[.int .i64 m] #[]) (kSp m) :=
  ⟨_, _, _, rfl, enters_of Try.func61 (by kernel_rfl) rfl, fun w1 _ L hL => maySplit_any m L hL w1⟩
end Go.Proofs.Ythafbdpeignccaa
namespace Go.Proofs.Ythafbdpeignccaa
open Go.RowKit NP
set_option maxRecDepth 8000
set_option linter.unusedVariables false
set_option linter.unusedSimpArgs false
theorem kMg_in {m : Int} {L : List Int} (h : kMg m L = true) : 2 ≤ m ∧ m ≤ 16 := by
  unfold kMg inLim at h
  simp only [Bool.and_eq_true, decide_eq_true_eq] at h
  exact h.1
theorem kSp_in {m : Int} {L : List Int} (h : kSp m L = true) : 2 ≤ m ∧ m ≤ 16 := by
  unfold kSp inLim at h
  simp only [Bool.and_eq_true, decide_eq_true_eq] at h
  exact h.1
theorem merge1_isMv (m : Nat) (hm : 2 ≤ m ∧ m ≤ 16) (g : Nat) (w : World) (hg : g < w.heap.size) (hc : w.cell? ⟨g, 0, none⟩ = some (.int .i64 m)) : IsMv w (.func (.func 97) #[] #[.pointer (some ⟨g, 0, none⟩)]) (fM m) :=
  ⟨_, _, _, rfl, enters_of Try.func97 (by kernel_rfl) rfl, fun w1 h1 x y hx hy => merge1_any x y m g ⟨hx.1, by omega⟩ ⟨hy.1, by omega⟩ ⟨by omega, by omega⟩ w1 ((h1.cell (p := ⟨g, 0, none⟩) hg).trans hc)⟩
set_option maxHeartbeats 1000000 in
theorem bmerge_any (m : Nat) (hm : 2 ≤ m ∧ m ≤ 16) (P : List Int) (hv : valid P = true) (w : World) :
    Calls Try.prog 54 #[.int .i64 m, .agg (arr (pad P))] w fun e w' => e = .returned (.agg (arr (pad (puF m P)))) ∧ Below w.heap.size w w' := by
  have hl16 := (valid_bd hv).2.2.2
  have hi16 : ∀ L, L.length ≤ 16 → (Try.prog.info? 59).map (·.size) = some (arr (pad L)).size := fun L h => by rw [arr_size, pad_len h]; exact T_info35
  have hiP := hi16 P hl16
  have HR := Lib.hid (hi16 (puF m P) (valid_bd (puF_valid hm (vsm_of_valid hv))).2.2.2)
  have HS : Hid ((arr (pad (puF m P))).size = (arr (List.replicate 16 0)).size) := Lib.hid (by rw [arr_size, arr_size, pad_len (valid_bd (puF_valid hm (vsm_of_valid hv))).2.2.2]; rfl)
  have HV := Lib.hid hv
  have HE : Hid (∀ L, vsm L = true → Alike m L P → (∀ k, 1 ≤ k → k * m ≤ 16 → eqc k L < (m : Int)) → mrg L = puF m P) := Lib.hid (fun L h1 h2 h3 => pu_end hm (vsm_of_valid hv) h1 h2 h3)
  have hm1 : (w.alloc (.cells #[.int .i64 m] 46)).cell? ⟨w.heap.size, 0, none⟩ = some (.int .i64 m) := by rw [(Blk.new w 46 #[.int .i64 m]).cell 0]; rfl
  clear hi16 hv
  obtain ⟨w1, hw1⟩ : ∃ w1, ((w.alloc (.cells #[.int .i64 m] 46)).alloc (.cells (arr (pad P)) 59)).alloc (.cells #[.int .i64 0, .int .i64 0, .int .i64 0, .int .i64 0, .int .i64 0, .int .i64 0, .int .i64 0, .int .i64 0, .int .i64 0, .int .i64 0, .int .i64 0, .int .i64 0, .int .i64 0, .int .i64 0, .int .i64 0, .int .i64 0] 59) = w1 := ⟨_, rfl⟩
  have hb1 : Blk w1 w.heap.size 46 #[.int .i64 m] := by rw [← hw1]; exact ((Blk.new w _ _).alloc _).alloc _
  have hb2 : Blk w1 (w.heap.size + 1) 59 (arr (pad P)) := by
    have e := Blk.new (w.alloc (.cells #[.int .i64 m] 46)) 59 (arr (pad P))
    rw [World.size_alloc] at e
    rw [← hw1]; exact e.alloc _
  have hb3 : Blk w1 (w.heap.size + 1 + 1) 59 (arr (List.replicate 16 0)) := by
    have e := Blk.new ((w.alloc (.cells #[.int .i64 m] 46)).alloc (.cells (arr (pad P)) 59)) 59 (arr (List.replicate 16 0))
    rw [World.size_alloc, World.size_alloc] at e
    rw [← hw1]; exact e
  have hA : Below w.heap.size w w1 := by rw [← hw1]; exact (((Below.refl _ _).alloc (Nat.le_refl _) _).alloc (by simp) _).alloc (by simp <;> omega) _
  have hcm : w1.cell? ⟨w.heap.size, 0, none⟩ = some (.int .i64 m) := by rw [hb1.cell 0]; rfl
  have hz1 := hb3.lt
  have HMV := Lib.hid (merge1_isMv m hm w.heap.size w1 (by omega) hcm)
  clear hm1
  go_enter Try.func54, Try.ntmps54
  go_wp2_with (first
    | (refine wpList_load_row rfl 59 (.tmp 3) rfl (w.heap.size + 1) rfl 59 (arr (pad P)) (0, 0) _ (by first | exact hb2 | (rw [hw1]; exact hb2)) Try.underlying59 rfl hiP ?_)
    | (go_at_call 96; (try rw [hw1]); refine (moveEqual_any m hm _ _ _ _ (mv_merge hm) P HV.out _ w1 HMV.out).mono ?_; rintro e w2 ⟨L, hvL, haL, hsL, rfl, hbL⟩; rw [HE.out L hvL haL hsL]; have hb4 := hb3.below (hbL) hb3.lt; have hA4 := hA.trans (hbL.mono (by omega)); clear hvL haL hsL)
    | (refine wpList_store_row rfl 59 (.tmp 4) (.tmp 8) rfl (w.heap.size + 1 + 1) rfl (arr (pad (puF m P))) rfl 59 _ hb4 HR.out HS.out (arr_one _) ?_))
  refine bodyPost_ret (results_cell_row rfl _ _ (w.heap.size + 1 + 1) 59 (arr (pad (puF m P))) (0, 0) _ rfl hb4.row Try.underlying59 rfl HR.out) rfl ?_
  exact ⟨rfl, below_setRow' hA4 (by omega) _⟩
theorem bmerge_isWay (m : Int) (w : World) : IsWay w (.func (.func 54) #[.int .i64 m] #[]) (kMg m) (puF m.toNat) :=
  ⟨_, _, _, rfl, enters_of Try.func54 (by kernel_rfl) rfl, fun w1 _ L hL hK => by
    obtain ⟨h1, h2⟩ := kMg_in hK
    obtain ⟨n, rfl⟩ := Int.eq_ofNat_of_zero_le (show 0 ≤ m by omega)
    exact bmerge_any n ⟨by omega, by omega⟩ L hL w1⟩
theorem split1_isMv (m : Nat) (hm : 2 ≤ m ∧ m ≤ 16) (g : Nat) (w : World) (hg : g < w.heap.size) (hc : w.cell? ⟨g, 0, none⟩ = some (.int .i64 m)) : IsMv w (.func (.func 99) #[] #[.pointer (some ⟨g, 0, none⟩)]) (fS m) :=
  ⟨_, _, _, rfl, enters_of Try.func99 (by kernel_rfl) rfl, fun w1 h1 x y hx hy => split1_any x y m g ⟨hx.1, by omega⟩ ⟨hy.1, by omega⟩ ⟨by omega, by omega⟩ w1 ((h1.cell (p := ⟨g, 0, none⟩) hg).trans hc)⟩
set_option maxHeartbeats 1000000 in
theorem bsplit_any (m : Nat) (hm : 2 ≤ m ∧ m ≤ 16) (P : List Int) (hv : valid P = true) (w : World) :
    Calls Try.prog 62 #[.int .i64 m, .agg (arr (pad P))] w fun e w' => e = .returned (.agg (arr (pad (soF m P)))) ∧ Below w.heap.size w w' := by
  have hl16 := (valid_bd hv).2.2.2
  have hi16 : ∀ L, L.length ≤ 16 → (Try.prog.info? 59).map (·.size) = some (arr (pad L)).size := fun L h => by rw [arr_size, pad_len h]; exact T_info35
  have hiP := hi16 P hl16
  have HR := Lib.hid (hi16 (soF m P) (valid_bd (soF_valid hm (vsm_of_valid hv))).2.2.2)
  have HS : Hid ((arr (pad (soF m P))).size = (arr (List.replicate 16 0)).size) := Lib.hid (by rw [arr_size, arr_size, pad_len (valid_bd (soF_valid hm (vsm_of_valid hv))).2.2.2]; rfl)
  have HV := Lib.hid hv
  have HE : Hid (∀ L, vsm L = true → Alike m L P → (∀ k, 1 ≤ k → k * m ≤ 16 → eqc ((k * m : Nat) : Int) L = 0) → mrg L = soF m P) := Lib.hid (fun L h1 h2 h3 => sp_end hm (vsm_of_valid hv) h1 h2 h3)
  have hm1 : (w.alloc (.cells #[.int .i64 m] 46)).cell? ⟨w.heap.size, 0, none⟩ = some (.int .i64 m) := by rw [(Blk.new w 46 #[.int .i64 m]).cell 0]; rfl
  clear hi16 hv
  obtain ⟨w1, hw1⟩ : ∃ w1, ((w.alloc (.cells #[.int .i64 m] 46)).alloc (.cells (arr (pad P)) 59)).alloc (.cells #[.int .i64 0, .int .i64 0, .int .i64 0, .int .i64 0, .int .i64 0, .int .i64 0, .int .i64 0, .int .i64 0, .int .i64 0, .int .i64 0, .int .i64 0, .int .i64 0, .int .i64 0, .int .i64 0, .int .i64 0, .int .i64 0] 59) = w1 := ⟨_, rfl⟩
  have hb1 : Blk w1 w.heap.size 46 #[.int .i64 m] := by rw [← hw1]; exact ((Blk.new w _ _).alloc _).alloc _
  have hb2 : Blk w1 (w.heap.size + 1) 59 (arr (pad P)) := by
    have e := Blk.new (w.alloc (.cells #[.int .i64 m] 46)) 59 (arr (pad P))
    rw [World.size_alloc] at e
    rw [← hw1]; exact e.alloc _
  have hb3 : Blk w1 (w.heap.size + 1 + 1) 59 (arr (List.replicate 16 0)) := by
    have e := Blk.new ((w.alloc (.cells #[.int .i64 m] 46)).alloc (.cells (arr (pad P)) 59)) 59 (arr (List.replicate 16 0))
    rw [World.size_alloc, World.size_alloc] at e
    rw [← hw1]; exact e
  have hA : Below w.heap.size w w1 := by rw [← hw1]; exact (((Below.refl _ _).alloc (Nat.le_refl _) _).alloc (by simp) _).alloc (by simp <;> omega) _
  have hcm : w1.cell? ⟨w.heap.size, 0, none⟩ = some (.int .i64 m) := by rw [hb1.cell 0]; rfl
  have hz1 := hb3.lt
  have HMV := Lib.hid (split1_isMv m hm w.heap.size w1 (by omega) hcm)
  clear hm1
  go_enter Try.func62, Try.ntmps62
  go_wp2_with (first
    | (refine wpList_load_row rfl 59 (.tmp 3) rfl (w.heap.size + 1) rfl 59 (arr (pad P)) (0, 0) _ (by first | exact hb2 | (rw [hw1]; exact hb2)) Try.underlying59 rfl hiP ?_)
    | (go_at_call 96; (try rw [hw1]); refine (moveEqual_any m hm _ _ _ _ (mv_split hm) P HV.out _ w1 HMV.out).mono ?_; rintro e w2 ⟨L, hvL, haL, hsL, rfl, hbL⟩; rw [HE.out L hvL haL hsL]; have hb4 := hb3.below (hbL) hb3.lt; have hA4 := hA.trans (hbL.mono (by omega)); clear hvL haL hsL)
    | (refine wpList_store_row rfl 59 (.tmp 4) (.tmp 8) rfl (w.heap.size + 1 + 1) rfl (arr (pad (soF m P))) rfl 59 _ hb4 HR.out HS.out (arr_one _) ?_))
  refine bodyPost_ret (results_cell_row rfl _ _ (w.heap.size + 1 + 1) 59 (arr (pad (soF m P))) (0, 0) _ rfl hb4.row Try.underlying59 rfl HR.out) rfl ?_
  exact ⟨rfl, below_setRow' hA4 (by omega) _⟩
theorem bsplit_isWay (m : Int) (w : World) : IsWay w (.func (.func 62) #[.int .i64 m] #[]) (kSp m) (soF m.toNat) :=
  ⟨_, _, _, rfl, enters_of Try.func62 (by kernel_rfl) rfl, fun w1 _ L hL hK => by
    obtain ⟨h1, h2⟩ := kSp_in hK
    obtain ⟨n, rfl⟩ := Int.eq_ofNat_of_zero_le (show 0 ≤ m by omega)
    exact bsplit_any n ⟨by omega, by omega⟩ L hL w1⟩
set_option maxHeartbeats 1000000 in
theorem iMergeEqual_any (a : Option Addr) (c B : Nat) (P : List Int) (m : Int) (w : World) (h : Rd w B a (ints P)) (hB : B ≤ w.heap.size) (hl : P.length ≤ 4611686018427387904) :
    Calls Try.prog 15 #[.slice a P.length c, .int .i64 m] w fun e w' => ∃ a' c', e = .returned (.tuple #[.slice a' (mpF (kMg m) (puF m.toNat) P).length c', .bool (mpOk (kMg m) P)]) ∧ Own w' w.heap.size w'.heap.size 3 (.slice a' (mpF (kMg m) (puF m.toNat) P).length c') (ints (mpF (kMg m) (puF m.toNat) P)) ∧ Below w.heap.size w w' := by
  have hF : Hid (valid P = true → kMg m P = true → valid (puF m.toNat P) = true) := Lib.hid fun hv hk => by
    obtain ⟨h1, h2⟩ := kMg_in hk
    exact puF_valid ⟨by omega, by omega⟩ (vsm_of_valid hv)
  have HK : Hid (∀ w, IsK w (.func (.func 53) #[.int .i64 m] #[]) (kMg m)) := Lib.hid fun w => mayMerge_isK m w
  have HW : Hid (∀ w, IsWay w (.func (.func 54) #[.int .i64 m] #[]) (fun M => decide (M = P) && kMg m M) (puF m.toNat)) := Lib.hid fun w => (bmerge_isWay m w).at_ P
  have H := Lib.hid h
  clear h
  go_enter Try.func15, Try.ntmps15
  go_wp2_with (go_at_call 52; refine (mapped_any _ _ B P _ _ (kMg m) (puF m.toNat) hF.out _ (HK.out _) (HW.out _) H.out hB hl).mono ?_; rintro e w1 ⟨a1, c1, rfl, ho, hb⟩)
  go_ret2
  exact ⟨a1, c1, rfl, ho, hb⟩
set_option maxHeartbeats 1000000 in
theorem iSplitEqual_any (a : Option Addr) (c B : Nat) (P : List Int) (m : Int) (w : World) (h : Rd w B a (ints P)) (hB : B ≤ w.heap.size) (hl : P.length ≤ 4611686018427387904) :
    Calls Try.prog 21 #[.slice a P.length c, .int .i64 m] w fun e w' => ∃ a' c', e = .returned (.tuple #[.slice a' (mpF (kSp m) (soF m.toNat) P).length c', .bool (mpOk (kSp m) P)]) ∧ Own w' w.heap.size w'.heap.size 3 (.slice a' (mpF (kSp m) (soF m.toNat) P).length c') (ints (mpF (kSp m) (soF m.toNat) P)) ∧ Below w.heap.size w w' := by
  have hF : Hid (valid P = true → kSp m P = true → valid (soF m.toNat P) = true) := Lib.hid fun hv hk => by
    obtain ⟨h1, h2⟩ := kSp_in hk
    exact soF_valid ⟨by omega, by omega⟩ (vsm_of_valid hv)
  have HK : Hid (∀ w, IsK w (.func (.func 61) #[.int .i64 m] #[]) (kSp m)) := Lib.hid fun w => maySplit_isK m w
  have HW : Hid (∀ w, IsWay w (.func (.func 62) #[.int .i64 m] #[]) (fun M => decide (M = P) && kSp m M) (soF m.toNat)) := Lib.hid fun w => (bsplit_isWay m w).at_ P
  have H := Lib.hid h
  clear h
  go_enter Try.func21, Try.ntmps21
  go_wp2_with (go_at_call 52; refine (mapped_any _ _ B P _ _ (kSp m) (soF m.toNat) hF.out _ (HK.out _) (HW.out _) H.out hB hl).mono ?_; rintro e w1 ⟨a1, c1, rfl, ho, hb⟩)
  go_ret2
  exact ⟨a1, c1, rfl, ho, hb⟩
end Go.Proofs.Ythafbdpeignccaa
namespace Go.Proofs.Ythafbdpeignccaa
open Go.RowKit NP
set_option linter.unusedVariables false
def kfTab (N : List Nat) : Bool :=
  let L := N.map Int.ofNat
  (List.range 17).all fun m => decide (m < 2) || decide (kNone m L = (List.range 17).all fun k => decide (k < 1) || decide (eqc (k : Int) L < (m : Int)))
set_option maxRecDepth 100000 in
theorem kfTab_all : all16.all kfTab = true := by decide +kernel
def kfTab2 (N : List Nat) : Bool :=
  let L := N.map Int.ofNat
  decide (kFall 1 1 L = kNone 2 L) && decide (kRem 2 1 L = L.all fun x => x % 2 != 0)
set_option maxRecDepth 100000 in
theorem kfTab2_all : all16.all kfTab2 = true := by decide +kernel
theorem kNone_few {L : List Int} (hv : valid L = true) {m : Nat} (hm : 2 ≤ m ∧ m ≤ 16) : kNone m L = true ↔ ∀ k : Nat, 1 ≤ k → eqc (k : Int) L < (m : Int) := by
  have hb := vsm_each (vsm_of_valid hv)
  obtain ⟨N, hN, e⟩ := of_all kfTab_all hv
  have h1 := List.all_eq_true.1 hN m (by simp; omega)
  simp only [Bool.or_eq_true, decide_eq_true_eq] at h1
  rw [← e] at h1
  rw [h1.resolve_left (by omega), List.all_eq_true]
  constructor
  · intro h k hk
    rcases Nat.lt_or_ge 16 k with h2 | h2
    · rw [eqc_neg hb (by omega)]; omega
    · have := h k (by simp; omega)
      simp only [Bool.or_eq_true, decide_eq_true_eq] at this
      exact this.resolve_left (by omega)
  · intro h k hk
    simp only [Bool.or_eq_true, decide_eq_true_eq]
    rcases Nat.lt_or_ge k 1 with h2 | h2
    · exact .inl h2
    · exact .inr (h k h2)
theorem kFall_none {L : List Int} (hv : valid L = true) : kFall 1 1 L = kNone 2 L ∧ kRem 2 1 L = L.all fun x => x % 2 != 0 := by
  obtain ⟨N, hN, rfl⟩ := of_all kfTab2_all hv
  unfold kfTab2 at hN
  simp only [Bool.and_eq_true, decide_eq_true_eq] at hN
  exact hN
theorem all_nd {m : Nat} {L : List Int} : (L.all fun x => x % (m : Int) != 0) = true ↔ ∀ x ∈ L, x % (m : Int) ≠ 0 := by simp
/-- what is put together may be taken apart, and is then as it was -/
theorem mg_back {m : Nat} {P : List Int} (h : mpOk (kMg (m : Int)) P = true) : (2 ≤ m ∧ m ≤ 16) ∧ valid P = true ∧ mpF (kMg (m : Int)) (puF (m : Int).toNat) P = puF m P ∧ mpOk (kSp (m : Int)) (puF m P) = true ∧ mpF (kSp (m : Int)) (soF (m : Int).toNat) (puF m P) = P ∧ sumL (puF m P) = sumL P ∧ valid (puF m P) = true ∧ kNone m (puF m P) = true := by
  have h0 := h
  unfold mpOk at h
  rw [Bool.and_eq_true] at h
  obtain ⟨hv, hk⟩ := h
  have hin := kMg_in hk
  have hm : 2 ≤ m ∧ m ≤ 16 := by omega
  unfold kMg at hk
  rw [Bool.and_eq_true] at hk
  have hs := vsm_of_valid hv
  have hvX := puF_valid hm hs
  have hkX := (kNone_few hvX hm).2 fun k hk => puF_few hm hs k hk
  have hok : mpOk (kSp (m : Int)) (puF m P) = true := by
    unfold mpOk kSp inLim
    rw [hvX, Int.toNat_natCast, hkX]
    simp [hin.1, hin.2]
  refine ⟨hm, hv, ?_, hok, ?_, puF_sum hm hs, hvX, hkX⟩
  · unfold mpF; rw [if_pos h0, Int.toNat_natCast]
  · unfold mpF; rw [if_pos hok, Int.toNat_natCast]; exact soF_puF hm hv (all_nd.1 hk.2)
theorem sp_back {m : Nat} {P : List Int} (h : mpOk (kSp (m : Int)) P = true) : (2 ≤ m ∧ m ≤ 16) ∧ valid P = true ∧ mpF (kSp (m : Int)) (soF (m : Int).toNat) P = soF m P ∧ mpOk (kMg (m : Int)) (soF m P) = true ∧ mpF (kMg (m : Int)) (puF (m : Int).toNat) (soF m P) = P ∧ sumL (soF m P) = sumL P ∧ valid (soF m P) = true ∧ (soF m P).all (fun x => x % (m : Int) != 0) = true := by
  have h0 := h
  unfold mpOk at h
  rw [Bool.and_eq_true] at h
  obtain ⟨hv, hk⟩ := h
  have hin := kSp_in hk
  have hm : 2 ≤ m ∧ m ≤ 16 := by omega
  unfold kSp at hk
  rw [Bool.and_eq_true, Int.toNat_natCast] at hk
  have hs := vsm_of_valid hv
  have hvX := soF_valid hm hs
  have hkX : (soF m P).all (fun x => x % (m : Int) != 0) = true := all_nd.2 (soF_nod hm hs)
  have hok : mpOk (kMg (m : Int)) (soF m P) = true := by
    unfold mpOk kMg inLim
    rw [hvX, hkX]
    simp [hin.1, hin.2]
  refine ⟨hm, hv, ?_, hok, ?_, soF_sum hm hs, hvX, hkX⟩
  · unfold mpF; rw [if_pos h0, Int.toNat_natCast]
  · unfold mpF; rw [if_pos hok, Int.toNat_natCast]; exact puF_soF hm hv ((kNone_few hv hm).1 hk.2)
theorem mpM_len (L : List Int) (n : Int) : (mpF (kMg n) (puF n.toNat) L).length ≤ 16 := by
  unfold mpF
  split
  · rename_i h
    unfold mpOk at h
    rw [Bool.and_eq_true] at h
    have hin := kMg_in h.2
    exact (valid_bd (puF_valid ⟨by omega, by omega⟩ (vsm_of_valid h.1))).2.2.2
  · simp
theorem mpS_len (L : List Int) (n : Int) : (mpF (kSp n) (soF n.toNat) L).length ≤ 16 := by
  unfold mpF
  split
  · rename_i h
    unfold mpOk at h
    rw [Bool.and_eq_true] at h
    have hin := kSp_in h.2
    exact (valid_bd (soF_valid ⟨by omega, by omega⟩ (vsm_of_valid h.1))).2.2.2
  · simp
end Go.Proofs.Ythafbdpeignccaa
namespace Go.Proofs.Ythafbdpeignccaa
open Go.RowKit
set_option maxRecDepth 8000

/-- a value reads as a list of numbers -/
def Inn (w : World) (B : Nat) (v : Value) (L : List Int) : Prop := ∃ a c, v = .slice a L.length c ∧ Rd w B a (ints L) ∧ L.length ≤ c
def RdLL (w : World) (B : Nat) (a : Option Addr) (LL : List (List Int)) : Prop :=
  ∃ vs, Rd w B a vs ∧ vs.length = LL.length ∧ ∀ (k : Nat) v L, vs[k]? = some v → LL[k]? = some L → Inn w B v L

theorem Inn.below {w w' : World} {B : Nat} {v : Value} {L : List Int} (h : Inn w B v L) (hb : Below B w w') : Inn w' B v L := by
  obtain ⟨a, c, rfl, h1, h2⟩ := h
  exact ⟨a, c, rfl, h1.below hb, h2⟩
theorem Inn.more {w : World} {B B' : Nat} {v : Value} {L : List Int} (h : Inn w B v L) (hB : B ≤ B') : Inn w B' v L := by
  obtain ⟨a, c, rfl, h1, h2⟩ := h
  exact ⟨a, c, rfl, h1.more hB, h2⟩
theorem RdLL.below {w w' : World} {B : Nat} {a : Option Addr} {LL : List (List Int)} (h : RdLL w B a LL) (hb : Below B w w') : RdLL w' B a LL := by
  obtain ⟨vs, h1, h2, h3⟩ := h
  exact ⟨vs, h1.below hb, h2, fun k v L hv hL => (h3 k v L hv hL).below hb⟩
theorem RdLL.more {w : World} {B B' : Nat} {a : Option Addr} {LL : List (List Int)} (h : RdLL w B a LL) (hB : B ≤ B') : RdLL w B' a LL := by
  obtain ⟨vs, h1, h2, h3⟩ := h
  exact ⟨vs, h1.more hB, h2, fun k v L hv hL => (h3 k v L hv hL).more hB⟩
theorem RdLL.dr {w w' : World} {B : Nat} {a : Option Addr} {LL : List (List Int)} (h : RdLL w B a LL) (hb : Dr w w') : RdLL w' B a LL := h.below (hb.below B)
/-- the k-th list -/
theorem RdLL.at_ {w : World} {B : Nat} {a : Option Addr} {LL : List (List Int)} (h : RdLL w B a LL) {k : Nat} (hk : k < LL.length) :
    ∃ b o a' c', a = some ⟨b, o, none⟩ ∧ b < B ∧ w.cell? ⟨b, o + k, none⟩ = some (.slice a' LL[k].length c') ∧ Rd w B a' (ints LL[k]) ∧ LL[k].length ≤ c' := by
  obtain ⟨vs, h1, h2, h3⟩ := h
  have hkv : k < vs.length := by omega
  obtain ⟨b, o, rfl, hb, hc⟩ := h1 (by intro e; subst e; simp at hkv)
  obtain ⟨a', c', e, hr, hl⟩ := h3 k vs[k] LL[k] (List.getElem?_eq_getElem hkv) (List.getElem?_eq_getElem hk)
  exact ⟨b, o, a', c', rfl, hb, by rw [hc k vs[k] (List.getElem?_eq_getElem hkv), e], hr, hl⟩

/-- the outer block and each list's block are the call's own, and no two are one -/
structure OwnLL (w : World) (lo hi : Nat) (eo e : TypeId) (v : Value) (vs : List Value) (LL : List (List Int)) : Prop where
  outer : Own w lo hi eo v vs
  len : vs.length = LL.length
  inner : ∀ (k : Nat) u L, vs[k]? = some u → LL[k]? = some L → Own w lo hi e u (ints L)
  apartO : ∀ (k : Nat) u g, vs[k]? = some u → u.ownBlock = some g → v.ownBlock ≠ some g
  apart : ∀ (j k : Nat) u u' g, vs[j]? = some u → vs[k]? = some u' → u.ownBlock = some g → u'.ownBlock = some g → j = k

theorem OwnLL.below {w w' : World} {lo hi : Nat} {eo e : TypeId} {v : Value} {vs : List Value} {LL : List (List Int)} (h : OwnLL w lo hi eo e v vs LL) (hb : Below hi w w') : OwnLL w' lo hi eo e v vs LL :=
  ⟨h.outer.below hb, h.len, fun k u L hu hL => (h.inner k u L hu hL).below hb, h.apartO, h.apart⟩
theorem OwnLL.lower {w : World} {lo lo' hi : Nat} {eo e : TypeId} {v : Value} {vs : List Value} {LL : List (List Int)} (h : OwnLL w lo hi eo e v vs LL) (hl : lo' ≤ lo) : OwnLL w lo' hi eo e v vs LL :=
  ⟨h.outer.lower hl, h.len, fun k u L hu hL => (h.inner k u L hu hL).lower hl, h.apartO, h.apart⟩
theorem OwnLL.more {w : World} {lo hi : Nat} {eo e : TypeId} {v : Value} {vs : List Value} {LL : List (List Int)} (h : OwnLL w lo hi eo e v vs LL) : OwnLL w lo w.heap.size eo e v vs LL :=
  ⟨h.outer.more, h.len, fun k u L hu hL => (h.inner k u L hu hL).more, h.apartO, h.apart⟩
theorem OwnLL.le {w : World} {lo hi : Nat} {eo e : TypeId} {v : Value} {vs : List Value} {LL : List (List Int)} (h : OwnLL w lo hi eo e v vs LL) : hi ≤ w.heap.size := h.outer.le
theorem OwnLL.form {w : World} {lo hi : Nat} {eo e : TypeId} {v : Value} {vs : List Value} {LL : List (List Int)} (h : OwnLL w lo hi eo e v vs LL) : ∃ a c, v = .slice a LL.length c := by
  obtain ⟨a, c, hv⟩ := h.outer.form
  exact ⟨a, c, by rw [← h.len]; exact hv⟩
theorem OwnLL.empty (w : World) (eo e : TypeId) : OwnLL (w.alloc (.cells #[] eo)) w.heap.size (w.heap.size + 1) eo e (.slice (some ⟨w.heap.size, 0, none⟩) 0 0) [] [] :=
  ⟨Own.empty w eo, rfl, fun k u L hu => by simp at hu, fun k u g hu => by simp at hu, fun j k u u' g hu => by simp at hu⟩
theorem OwnLL.nil (w : World) (lo : Nat) (eo e : TypeId) : OwnLL w lo w.heap.size eo e (.slice none 0 0) [] [] :=
  ⟨Own.nil w lo eo, rfl, fun k u L hu => by simp at hu, fun k u g hu => by simp at hu, fun j k u u' g hu => by simp at hu⟩
theorem OwnLL.rd {w : World} {lo hi : Nat} {eo e : TypeId} {a : Option Addr} {n c : Nat} {vs : List Value} {LL : List (List Int)} (h : OwnLL w lo hi eo e (.slice a n c) vs LL) : RdLL w hi a LL := by
  refine ⟨vs, h.outer.rd, h.len, fun k u L hu hL => ?_⟩
  have hi' := h.inner k u L hu hL
  obtain ⟨a', c', rfl⟩ := hi'.form
  refine ⟨a', c', by rw [List.length_map], hi'.rd, ?_⟩
  rcases Nat.eq_zero_or_pos L.length with h0 | h0
  · omega
  · obtain ⟨g, c2, e2, hc⟩ := hi'.formN (by simpa using h0)
    injection e2 with _ _ e3
    rw [List.length_map] at hc
    omega
/-- one list more, its block beyond all that there was: the outer list anew or in its place -/
theorem OwnLL.push {w w' : World} {lo hi hi' : Nat} {eo e : TypeId} {v v' u : Value} {vs : List Value} {LL : List (List Int)} {L : List Int} (h : OwnLL w lo hi eo e v vs LL)
    (ho : Own w' lo hi' eo v' (vs ++ [u])) (hin : ∀ (k : Nat) u L, vs[k]? = some u → LL[k]? = some L → Own w' lo hi' e u (ints L)) (hu : Own w' lo hi' e u (ints L))
    (h1 : ∀ g, u.ownBlock = some g → v'.ownBlock ≠ some g) (h2 : ∀ (k : Nat) x g, vs[k]? = some x → x.ownBlock = some g → v'.ownBlock ≠ some g ∧ u.ownBlock ≠ some g) : OwnLL w' lo hi' eo e v' (vs ++ [u]) (LL ++ [L]) := by
  have hl := h.len
  refine ⟨ho, by simp [hl], fun k x M hx hM => ?_, fun k x g hx hg => ?_, fun j k x y g hx hy hgx hgy => ?_⟩
  · by_cases hk : k < vs.length
    · rw [List.getElem?_append_left hk] at hx
      rw [List.getElem?_append_left (by omega)] at hM
      exact hin k x M hx hM
    · rw [List.getElem?_append_right (by omega)] at hx
      rw [List.getElem?_append_right (by omega)] at hM
      have e0 : k - vs.length = 0 := by
        rcases Nat.eq_zero_or_pos (k - vs.length) with z | z
        · exact z
        · rw [List.getElem?_eq_none (by simp only [List.length_singleton]; omega)] at hx; cases hx
      rw [e0] at hx
      rw [← hl, e0] at hM
      cases hx; cases hM
      exact hu
  · by_cases hk : k < vs.length
    · rw [List.getElem?_append_left hk] at hx
      exact (h2 k x g hx hg).1
    · rw [List.getElem?_append_right (by omega)] at hx
      have e0 : k - vs.length = 0 := by
        rcases Nat.eq_zero_or_pos (k - vs.length) with z | z
        · exact z
        · rw [List.getElem?_eq_none (by simp only [List.length_singleton]; omega)] at hx; cases hx
      rw [e0] at hx
      cases hx
      exact h1 g hg
  · have last : ∀ i, ¬ i < vs.length → ∀ z, (vs ++ [u])[i]? = some z → i = vs.length ∧ z = u := fun i hi z hz => by
      rw [List.getElem?_append_right (by omega)] at hz
      have e0 : i - vs.length = 0 := by
        rcases Nat.eq_zero_or_pos (i - vs.length) with q | q
        · exact q
        · rw [List.getElem?_eq_none (by simp only [List.length_singleton]; omega)] at hz; cases hz
      rw [e0] at hz
      cases hz
      exact ⟨by omega, rfl⟩
    by_cases hj : j < vs.length
    · rw [List.getElem?_append_left hj] at hx
      by_cases hk : k < vs.length
      · rw [List.getElem?_append_left hk] at hy
        exact h.apart j k x y g hx hy hgx hgy
      · obtain ⟨_, rfl⟩ := last k hk y hy
        exact absurd hgy (h2 j x g hx hgx).2
    · obtain ⟨hj2, rfl⟩ := last j hj x hx
      by_cases hk : k < vs.length
      · rw [List.getElem?_append_left hk] at hy
        exact absurd hgx (h2 k y g hy hgy).2
      · obtain ⟨hk2, _⟩ := last k hk y hy
        omega
/-- one list more by append: its block was made behind the outer list's -/
theorem OwnLL.append {w w' : World} {lo hi lou hiu : Nat} {eo e : TypeId} {v v' u : Value} {vs : List Value} {LL : List (List Int)} {L : List Int} (h : OwnLL w lo hi eo e v vs LL)
    (hu : Own w lou hiu e u (ints L)) (hlou : hi ≤ lou) (hlo : lo ≤ lou) (ho : Own w' lo w'.heap.size eo v' (vs ++ [u])) (hg : w.grownBy w' v.ownBlock) (hat : v'.ownBlock = v.ownBlock ∨ v'.ownBlock = some w.heap.size) :
    OwnLL w' lo w'.heap.size eo e v' (vs ++ [u]) (LL ++ [L]) := by
  have hL : ∀ (k : Nat) x g, vs[k]? = some x → x.ownBlock = some g → g < hi := fun k x g hx hgx => by
    have hkv := (List.getElem?_eq_some_iff.1 hx).1
    have hkl : k < LL.length := by rw [← h.len]; exact hkv
    exact (h.inner k x LL[k] hx (List.getElem?_eq_getElem hkl)).lt g hgx
  refine h.push ho (fun k x M hx hM => ?_) ?_ (fun g hgu hv => ?_) (fun k x g hx hgx => ⟨fun hv => ?_, fun hgu => ?_⟩)
  · have hk := h.inner k x M hx hM
    refine (hk.grown hg ?_).more
    cases hb : x.ownBlock with
    | none => exact .inl rfl
    | some g => exact .inr fun e => h.apartO k x g hx hb e.symm
  · refine ((hu.grown hg ?_).more).lower hlo
    cases hb : u.ownBlock with
    | none => exact .inl rfl
    | some g => exact .inr fun e => by have h1 := hu.base g hb; have h2 := h.outer.lt g e.symm; omega
  · have h1 := hu.base g hgu
    rcases hat with e | e
    · have h2 := h.outer.lt g (e ▸ hv); omega
    · rw [e] at hv; cases hv; have h2 := hu.lt _ hgu; have h3 := hu.le; omega
  · rcases hat with e | e
    · exact h.apartO k x g hx hgx (e ▸ hv)
    · rw [e] at hv; cases hv; have h2 := hL k x _ hx hgx; have h3 := h.le; omega
  · have h1 := hu.base g hgu; have h2 := hL k x g hx hgx; omega
/-- the k-th list, its block and its place -/
theorem OwnLL.at_ {w : World} {lo hi : Nat} {eo e : TypeId} {a : Option Addr} {n c : Nat} {vs : List Value} {LL : List (List Int)} (h : OwnLL w lo hi eo e (.slice a n c) vs LL) {k : Nat} (hk : k < LL.length) :
    ∃ g a' c', a = some ⟨g, 0, none⟩ ∧ lo ≤ g ∧ g < hi ∧ w.cell? ⟨g, k, none⟩ = some (.slice a' LL[k].length c') ∧ Own w lo hi e (.slice a' LL[k].length c') (ints LL[k]) ∧ vs[k]? = some (.slice a' LL[k].length c') := by
  have hkv : k < vs.length := by rw [h.len]; exact hk
  obtain ⟨g, c1, e1, h1, h2, h3, _⟩ := h.outer.at_ hkv
  injection e1 with e1 _ _
  have hi' := h.inner k vs[k] LL[k] (List.getElem?_eq_getElem hkv) (List.getElem?_eq_getElem hk)
  obtain ⟨a', c', e2⟩ := hi'.form
  rw [List.length_map] at e2
  exact ⟨g, a', c', e1, h1, h2, by rw [h3, e2], e2 ▸ hi', by rw [List.getElem?_eq_getElem hkv, e2]⟩
/-- one list written anew in its place -/
theorem OwnLL.setIn {w w' : World} {lo hi : Nat} {eo e : TypeId} {v u : Value} {vs : List Value} {LL : List (List Int)} {L : List Int} (h : OwnLL w lo hi eo e v vs LL) {k : Nat} (hk : vs[k]? = some u)
    (hg : w.grownBy w' u.ownBlock) (hu : Own w' lo hi e u (ints L)) : OwnLL w' lo hi eo e v vs (LL.set k L) := by
  have hv : v.ownBlock = none ∨ v.ownBlock ≠ u.ownBlock := by
    cases hb : v.ownBlock with
    | none => exact .inl rfl
    | some g => exact .inr fun e => h.apartO k u g hk e.symm hb
  refine ⟨h.outer.grown hg hv, by rw [List.length_set]; exact h.len, fun j x M hx hM => ?_, h.apartO, h.apart⟩
  rw [List.getElem?_set] at hM
  by_cases hj : k = j
  · subst hj
    rw [if_pos rfl] at hM
    split at hM
    · cases hM
      obtain rfl : x = u := by rw [hk] at hx; cases hx; rfl
      exact hu
    · cases hM
  · rw [if_neg hj] at hM
    refine (h.inner j x M hx hM).grown hg ?_
    cases hb : x.ownBlock with
    | none => exact .inl rfl
    | some g => exact .inr fun e => hj (h.apart k j u x g hk hx e.symm hb)
/-- the marks of lists, one behind another -/
def marksLL (m : Int) : List (List Int) → List (List Int)
  | [] => []
  | L :: R => ((List.range L.length).map fun (j : Nat) => m + (j : Int)) :: marksLL (m + (L.length : Int)) R
def cntLL (LL : List (List Int)) : Nat := (LL.map List.length).sum
theorem cntLL_append (A : List (List Int)) (L : List Int) : cntLL (A ++ [L]) = cntLL A + L.length := by simp [cntLL]
theorem marksLL_append (m : Int) (A : List (List Int)) (L : List Int) : marksLL m (A ++ [L]) = marksLL m A ++ [(List.range L.length).map fun (j : Nat) => (m + (cntLL A : Int)) + (j : Int)] := by
  induction A generalizing m with
  | nil => simp [marksLL, cntLL]
  | cons x R ih =>
    have e : m + (x.length : Int) + (cntLL R : Int) = m + (cntLL (x :: R) : Int) := by simp [cntLL]; omega
    show _ :: marksLL (m + (x.length : Int)) (R ++ [L]) = _
    rw [ih, e]
    rfl
theorem marksLL_len (m : Int) (A : List (List Int)) : (marksLL m A).length = A.length := by
  induction A generalizing m with
  | nil => rfl
  | cons x R ih => simp [marksLL, ih]
theorem cntLL_take (LL : List (List Int)) (k : Nat) : cntLL (LL.take k) ≤ cntLL LL := by
  induction LL generalizing k with
  | nil => simp [cntLL]
  | cons x R ih =>
    cases k with
    | zero => simp [cntLL]
    | succ k => have := ih k; simp [cntLL] at this ⊢; omega
/-- one list more is marked -/
theorem marksLL_set (m : Int) {LL : List (List Int)} {k : Nat} (hk : k < LL.length) :
    (marksLL m (LL.take k) ++ LL.drop k).set k ((List.range LL[k].length).map fun (j : Nat) => (m + (cntLL (LL.take k) : Int)) + (j : Int)) = marksLL m (LL.take (k + 1)) ++ LL.drop (k + 1) := by
  have e1 : (marksLL m (LL.take k)).length = k := by rw [marksLL_len, List.length_take]; omega
  rw [List.drop_eq_getElem_cons hk, List.set_append_right _ _ (by omega), e1, Nat.sub_self, List.set_cons_zero, List.take_succ_eq_append_getElem hk, marksLL_append]
  simp
theorem marksLL_get (m : Int) (LL : List (List Int)) (k : Nat) (hk : k < LL.length) (hh : k < (marksLL m LL).length) :
    (marksLL m LL)[k] = (List.range LL[k].length).map fun (j : Nat) => (m + (cntLL (LL.take k) : Int)) + (j : Int) := by
  induction LL generalizing m k with
  | nil => simp at hk
  | cons x R ih =>
    cases k with
    | zero => simp [marksLL, cntLL]
    | succ k =>
      have h2 : k < (marksLL (m + (x.length : Int)) R).length := by rw [marksLL_len]; simpa using hk
      have := ih (m + (x.length : Int)) k (by simpa using hk) h2
      have e : m + (x.length : Int) + (cntLL (R.take k) : Int) = m + (cntLL ((x :: R).take (k + 1)) : Int) := by simp [cntLL]; omega
      rw [e] at this
      exact this
theorem OwnLL.lt {w : World} {lo hi : Nat} {eo e : TypeId} {v : Value} {vs : List Value} {LL : List (List Int)} (h : OwnLL w lo hi eo e v vs LL) {k : Nat} {x : Value} {g : Nat} (hx : vs[k]? = some x) (hg : x.ownBlock = some g) : lo ≤ g ∧ g < hi := by
  have hkv := (List.getElem?_eq_some_iff.1 hx).1
  have hkl : k < LL.length := by rw [← h.len]; exact hkv
  have hi' := h.inner k x LL[k] hx (List.getElem?_eq_getElem hkl)
  exact ⟨hi'.base g hg, hi'.lt g hg⟩
/-- many lists more by append: theirs were made behind the outer list's -/
theorem OwnLL.appendAll {w w' : World} {lo hi lox hix : Nat} {eo e : TypeId} {v v' vx : Value} {vs vsx : List Value} {LL LLx : List (List Int)} (h : OwnLL w lo hi eo e v vs LL)
    (hx : OwnLL w lox hix eo e vx vsx LLx) (hd : hi ≤ lox) (hlo : lo ≤ lox) (ho : Own w' lo w'.heap.size eo v' (vs ++ vsx)) (hg : w.grownBy w' v.ownBlock) (hat : v'.ownBlock = v.ownBlock ∨ v'.ownBlock = some w.heap.size) :
    OwnLL w' lo w'.heap.size eo e v' (vs ++ vsx) (LL ++ LLx) := by
  have hl := h.len
  have L1 : ∀ {k : Nat} {x : Value} {g : Nat}, vs[k]? = some x → x.ownBlock = some g → lo ≤ g ∧ g < hi := fun a b => h.lt a b
  have L2 : ∀ {k : Nat} {x : Value} {g : Nat}, vsx[k]? = some x → x.ownBlock = some g → lox ≤ g ∧ g < hix := fun a b => hx.lt a b
  have hle := h.le
  have hlx := hx.le
  refine ⟨ho, by simp [hl, hx.len], fun k x M hk hM => ?_, fun k x g hk hgx hv => ?_, fun j k x y g hj hk hgx hgy => ?_⟩
  · by_cases hkv : k < vs.length
    · rw [List.getElem?_append_left hkv] at hk
      rw [List.getElem?_append_left (by omega)] at hM
      refine ((h.inner k x M hk hM).grown hg ?_).more
      cases hb : x.ownBlock with
      | none => exact .inl rfl
      | some g => exact .inr fun e => h.apartO k x g hk hb e.symm
    · rw [List.getElem?_append_right (by omega)] at hk
      rw [List.getElem?_append_right (by omega), ← hl] at hM
      refine (((hx.inner _ x M hk hM).grown hg ?_).more).lower hlo
      cases hb : x.ownBlock with
      | none => exact .inl rfl
      | some g => exact .inr fun e => by have h1 := L2 hk hb; have h2 := h.outer.lt g e.symm; omega
  · by_cases hkv : k < vs.length
    · rw [List.getElem?_append_left hkv] at hk
      rcases hat with e | e
      · exact h.apartO k x g hk hgx (e ▸ hv)
      · rw [e] at hv; cases hv; have h2 := L1 hk hgx; omega
    · rw [List.getElem?_append_right (by omega)] at hk
      have h2 := L2 hk hgx
      rcases hat with e | e
      · have h1 := h.outer.lt g (e ▸ hv); omega
      · rw [e] at hv; cases hv; omega
  · by_cases hjv : j < vs.length
    · rw [List.getElem?_append_left hjv] at hj
      by_cases hkv : k < vs.length
      · rw [List.getElem?_append_left hkv] at hk
        exact h.apart j k x y g hj hk hgx hgy
      · rw [List.getElem?_append_right (by omega)] at hk
        have h1 := L1 hj hgx; have h2 := L2 hk hgy; omega
    · rw [List.getElem?_append_right (by omega)] at hj
      by_cases hkv : k < vs.length
      · rw [List.getElem?_append_left hkv] at hk
        have h1 := L2 hj hgx; have h2 := L1 hk hgy; omega
      · rw [List.getElem?_append_right (by omega)] at hk
        have := hx.apart _ _ x y g hj hk hgx hgy
        omega
theorem Own.single (w : World) (u : Value) (e : TypeId) : Own (w.alloc (.cells #[u] e)) w.heap.size (w.heap.size + 1) e (.slice (some ⟨w.heap.size, 0, none⟩) 1 1) [u] :=
  ⟨⟨rfl, .inr ⟨w.heap.size, 1, #[u], rfl, Nat.le_refl _, heap_alloc_new w _, Nat.le_refl _, by decide, rfl, rfl⟩⟩, fun g hg => by simp [Value.ownBlock] at hg; omega, by simp⟩
/-- a list of one list -/
theorem OwnLL.single {w : World} {lo hi : Nat} {eo e : TypeId} {u : Value} {L : List Int} (hu : Own w lo hi e u (ints L)) (hlo : lo ≤ w.heap.size) :
    OwnLL (w.alloc (.cells #[u] eo)) lo (w.heap.size + 1) eo e (.slice (some ⟨w.heap.size, 0, none⟩) 1 1) [u] [L] := by
  have hle := hu.le
  have one : ∀ (k : Nat) x, [u][k]? = some x → k = 0 ∧ x = u := fun k x hx => by
    match k, hx with
    | 0, hx => simp at hx; exact ⟨rfl, hx.symm⟩
  refine ⟨(Own.single w u eo).lower hlo, rfl, fun k x M hx hM => ?_, fun k x g hx hg hv => ?_, fun j k x y g hx hy _ _ => ?_⟩
  · obtain ⟨rfl, rfl⟩ := one k x hx
    simp at hM
    subst hM
    have h := hu.alloc (.cells #[x] eo)
    exact ⟨h.row, fun g hg => by have := h.lt g hg; omega, by simp⟩
  · obtain ⟨rfl, rfl⟩ := one k x hx
    have := hu.lt g hg
    simp [Value.ownBlock] at hv
    omega
  · rw [(one j x hx).1, (one k y hy).1]
end Go.Proofs.Ythafbdpeignccaa
namespace Go.Proofs.Ythafbdpeignccaa
open Go.RowKit NP
set_option maxRecDepth 8000
set_option linter.unusedVariables false
theorem keepD2 {wr wx w' : World} {p q : Addr} {x y : Value} (h1 : wx.cell? p = some x) (h2 : wx.cell? q = some y) (h3 : Dr wr wx) (hd : Dr wx w') : w'.cell? p = some x ∧ w'.cell? q = some y ∧ Dr wr w' := by
  obtain ⟨n, rfl⟩ := hd
  exact ⟨h1, h2, h3.drewN n⟩


theorem equalLists_same (a b : Option Addr) (ca cb Ba Bb : Nat) (LL : List (List Int)) (w : World) (h : RdLL w Ba a LL) (hm : RdLL w Bb b LL) (hl : LL.length ≤ 4611686018427387904) (hil : ∀ L ∈ LL, L.length ≤ 4611686018427387904) :
    Calls Try.prog 34 #[.slice a LL.length ca, .slice b LL.length cb] w fun e w' => e = .returned (.bool true) ∧ Dr w w' := by
  have hne : ((LL.length : Int) != (LL.length : Int)) = false := by simp
  go_enter Try.func34, Try.ntmps34
  go_wp2
  go_loopw [5] (fun i wr => ∃ k : Nat, k ≤ LL.length ∧ i = .int .i64 k ∧ Dr w wr) (fun i _ => LL.length - (intOf i).toNat)
  case atStart => exact ⟨0, Nat.zero_le _, rfl, Dr.refl _⟩
  case round =>
    obtain ⟨k, hk, rfl, hdr⟩ := hrel
    by_cases hlt : k < LL.length
    · obtain ⟨b1, o1, a1, c1, rfl, -, hc1, hr1, -⟩ := (h.dr hdr).at_ hlt
      obtain ⟨b2, o2, a2, c2, rfl, -, hc2, hr2, -⟩ := (hm.dr hdr).at_ hlt
      have hil' := hil LL[k] (List.getElem_mem hlt)
      clear hil h hm
      generalize LL[k] = M at hc1 hc2 hr1 hr2 hil'
      go_wp2_with fail
      go_region_held3 (fun w' => w'.cell? ⟨b1, o1 + k, none⟩ = some (.slice a1 M.length c1) ∧ w'.cell? ⟨b2, o2 + k, none⟩ = some (.slice a2 M.length c2) ∧ Dr wr w') (first | exact ⟨hc1, hc2, Dr.n wr 1⟩ | exact keepD2 (by assumption) (by assumption) (Dr.n wr 1) hd)
        (first | (go_at_call 20; refine (equalInts_same a1 a2 c1 c2 Ba Bb M _ (hr1.dr (Dr.n wr 1)) (hr2.dr (Dr.n wr 1)) hil').mono ?_; rintro e w' ⟨rfl, hd⟩))
      have hdw : Dr wr w' := by obtain ⟨n, rfl⟩ := hd; exact (Dr.n wr 1).drewN n
      go_wp2_with fail
      go_roundw
      case rel => exact ⟨k + 1, by omega, by go_num, by obtain ⟨n, rfl⟩ := hdw; exact hdr.drewN n⟩
      case measure => simp [intOf]; omega
    · obtain rfl : k = LL.length := by omega
      go_wp2
      go_ret
      exact ⟨rfl, hdr⟩

end Go.Proofs.Ythafbdpeignccaa
namespace Go.Proofs.Ythafbdpeignccaa
open Go.RowKit NP
set_option maxRecDepth 8000
set_option linter.unusedVariables false
set_option linter.unusedSimpArgs false
/-- a list put into its place: its block was made behind all others -/
theorem OwnLL.put {w : World} {lo hi lou : Nat} {eo e : TypeId} {g n c : Nat} {u : Value} {vs : List Value} {LL : List (List Int)} {L : List Int} (h : OwnLL w lo hi eo e (.slice (some ⟨g, 0, none⟩) n c) vs LL)
    (hu : Own w lou w.heap.size e u (ints L)) (hlou : hi ≤ lou) (hlo : lo ≤ lou) {k : Nat} (hk : k < vs.length) : OwnLL (w.setCell ⟨g, k, none⟩ u) lo w.heap.size eo e (.slice (some ⟨g, 0, none⟩) n c) (vs.set k u) (LL.set k L) := by
  have hgh : g < hi := h.outer.lt g rfl
  have hlen := h.len
  have hle := h.le
  refine ⟨h.outer.more.set k u, by rw [List.length_set, List.length_set]; exact hlen, fun j x M hx hM => ?_, fun j x q hx hq hv => ?_, fun i j x y q hx hy hqx hqy => ?_⟩
  · rw [List.getElem?_set] at hx hM
    by_cases hj : k = j
    · subst hj
      rw [if_pos rfl, if_pos hk] at hx
      rw [if_pos rfl, if_pos (by omega)] at hM
      cases hx; cases hM
      exact (hu.off (p := ⟨g, k, none⟩) (fun q hq e => by have := hu.base q hq; have e' : q = g := e; omega) u).lower hlo
    · rw [if_neg hj] at hx hM
      have hi' := h.inner j x M hx hM
      exact (hi'.more).off (p := ⟨g, k, none⟩) (fun q hq e => h.apartO j x q hx hq (by rw [e]; rfl)) u
  · rw [List.getElem?_set] at hx
    have hgq : g = q := by simp [Value.ownBlock] at hv; exact hv
    by_cases hj : k = j
    · subst hj
      rw [if_pos rfl, if_pos hk] at hx
      cases hx
      have := hu.base q hq
      omega
    · rw [if_neg hj] at hx
      exact h.apartO j x q hx hq hv
  · rw [List.getElem?_set] at hx hy
    by_cases hi : k = i
    · subst hi
      rw [if_pos rfl, if_pos hk] at hx
      cases hx
      by_cases hj : k = j
      · exact hj
      · rw [if_neg hj] at hy
        have h1 := h.lt hy hqy
        have h2 := hu.base q hqx
        omega
    · rw [if_neg hi] at hx
      by_cases hj : k = j
      · subst hj
        rw [if_pos rfl, if_pos hk] at hy
        cases hy
        have h1 := h.lt hx hqx
        have h2 := hu.base q hqy
        omega
      · rw [if_neg hj] at hy
        exact h.apart i j x y q hx hy hqx hqy
theorem own_nil2 (w : World) (lo hi : Nat) (e : TypeId) (h : hi ≤ w.heap.size) : Own w lo hi e (.slice none 0 0) [] :=
  ⟨World.ownsRow_nil w lo e 1, fun g hg => by simp [Value.ownBlock] at hg, h⟩
/-- a list of empty lists, laid anew -/
theorem OwnLL.zeros (w : World) (n : Nat) (eo e : TypeId) (hn : n ≤ maxLen) :
    OwnLL (w.alloc (.cells (List.replicate n (Value.slice none 0 0)).toArray eo)) w.heap.size (w.heap.size + 1) eo e (.slice (some ⟨w.heap.size, 0, none⟩) n n) (List.replicate n (Value.slice none 0 0)) (List.replicate n []) := by
  have hb := Blk.new w eo (List.replicate n (Value.slice none 0 0)).toArray
  have ho := hb.own (lo := w.heap.size) (vs := List.replicate n (Value.slice none 0 0)) (Nat.le_refl _) (by simpa using hn)
  rw [List.length_replicate, World.size_alloc] at ho
  refine ⟨ho, by simp, fun k u L hu hL => ?_, fun k u g hu hg => ?_, fun i j u u' g hu hu' hg => ?_⟩
  · have h1 := List.mem_of_getElem? hu
    have h2 := List.mem_of_getElem? hL
    rw [List.mem_replicate] at h1 h2
    rw [h1.2, h2.2]
    exact own_nil2 _ _ _ _ (by simp)
  · have h1 := List.mem_of_getElem? hu
    rw [List.mem_replicate] at h1
    rw [h1.2] at hg
    simp [Value.ownBlock] at hg
  · have h1 := List.mem_of_getElem? hu
    rw [List.mem_replicate] at h1
    rw [h1.2] at hg
    simp [Value.ownBlock] at hg
theorem run_make_lists {P : Program} (t e : TypeId) (i : TypeInfo) (h1 : P.underlying t = some (.slice e)) (h2 : P.info? e = some i) (h3 : i.zero = some (.slice none 0 0)) (h4 : i.size = 1) (h5 : i.bytes = 24)
    (n : Nat) (hn : n ≤ 4194304) (w : World) :
    (Instr.makeSlice t (.int .i64 n) (.int .i64 n)).run P w = .ok (.slice (some ⟨w.heap.size, 0, none⟩) n n) (w.alloc (.cells (List.replicate n (Value.slice none 0 0)).toArray e)) := by
  have hrun := run_make (P := P) w t e i (.slice none 0 0) h1 h2 h3 .i64 .i64 n n (by omega) (by omega) (by rw [h5]; omega) (by omega)
  rw [h4] at hrun
  simp only [Int.toNat_natCast, Nat.mul_one] at hrun
  rw [hrun]
  congr 3
  apply Array.toList_inj.1
  simp [Value.cells, toList_madeCells_one]
theorem fill_setV {us : List Value} {k n : Nat} (hk : us.length = k) (hn : k < n) (u : Value) : (us ++ List.replicate (n - k) (Value.slice none 0 0)).set k u = (us ++ [u]) ++ List.replicate (n - (k + 1)) (Value.slice none 0 0) := by
  rw [List.set_append_right _ _ (by omega), hk, Nat.sub_self, show n - k = (n - (k + 1)) + 1 by omega, List.replicate_succ, List.set_cons_zero, List.append_assoc]
  rfl
theorem fill_setL {LL : List (List Int)} {k : Nat} (hk : k < LL.length) : (LL.take k ++ List.replicate (LL.length - k) []).set k LL[k] = LL.take (k + 1) ++ List.replicate (LL.length - (k + 1)) [] := by
  rw [List.set_append_right _ _ (by simp; omega), List.length_take, Nat.min_eq_left (by omega), Nat.sub_self, show LL.length - k = (LL.length - (k + 1)) + 1 by omega, List.replicate_succ, List.set_cons_zero, List.take_succ_eq_append_getElem hk, List.append_assoc]
  rfl
/-- rows that came in, read as lists -/
theorem rows_of {w : World} {a : Addr} {len cap : Nat} {A : Nat → Option Addr} {L C : Nat → Nat} {Z : Nat → List Int} (hl : len ≤ cap)
    (h : ∀ r, r < cap → w.cell? (a.add r) = some (.slice (A r) (L r) (C r)) ∧ L r ≤ C r ∧ C r ≤ maxLen ∧ (Z r).length = C r ∧ (∀ n ∈ Z r, (Lit.int .i64 n).wf = true) ∧ (A r = none → C r = 0) ∧
      ∀ a', A r = some a' → 0 ≤ a'.block ∧ ∀ c, c < C r → w.cell? (a'.add c) = some (.int .i64 ((Z r).getD c 0))) :
    ∃ LL : List (List Int), LL.length = len ∧ RdLL w w.heap.size (some a) LL ∧ ∀ M ∈ LL, M.length ≤ maxLen := by
  have each : ∀ r, r < len → ∃ M : List Int, M.length = L r ∧ Rd w w.heap.size (A r) (ints M) ∧ M.length ≤ maxLen ∧ M.length ≤ C r := by
    intro r hr
    obtain ⟨h1, h2, h3, h4, h5, h6, h7⟩ := h r (by omega)
    have hrow : IsRow .i64 w (A r) (L r) (C r) (Z r) := by
      cases ha : A r with
      | none =>
        have := h6 ha
        exact .inl ⟨rfl, by omega, this, List.eq_nil_of_length_eq_zero (by omega)⟩
      | some x => exact .inr ⟨x, rfl, h2, h3, h4, fun i hi => (h7 x ha).2 i (by omega), h5⟩
    obtain ⟨M, e1, e2, _, e4⟩ := hrow.rd
    exact ⟨M, e1, e2, by omega, by omega⟩
  obtain ⟨y, hy⟩ := Go.Deep.choose_lt each
  refine ⟨(List.range len).map y, by simp, ⟨(List.range len).map fun r => .slice (A r) (L r) (C r), ?_, by simp, ?_⟩, ?_⟩
  · intro hne
    have h0 : 0 < len := by
      rcases Nat.eq_zero_or_pos len with h0 | h0
      · subst h0; simp at hne
      · exact h0
    obtain ⟨b, o, spot⟩ := a
    have hc0 := (h 0 (by omega)).1
    have hspot : spot = none := by simpa [Addr.add] using World.cell?_spot hc0
    subst hspot
    have hlt := World.block_lt_of_cell? _ _ hc0
    refine ⟨b, o, rfl, by simpa [Addr.add] using hlt, fun k v hv => ?_⟩
    have hk := (List.getElem?_eq_some_iff.1 hv).1
    simp at hk
    have h1 := (h k (by omega)).1
    rw [Addr.add_lit] at h1
    rw [h1]
    simpa [hk] using hv
  · intro k v M hv hM
    have hk := (List.getElem?_eq_some_iff.1 hv).1
    simp at hk
    simp [hk] at hv hM
    subst hv hM
    obtain ⟨e1, e2, e3, e4⟩ := hy k hk
    exact ⟨A k, C k, by rw [e1], e2, e4⟩
  · intro M hM
    obtain ⟨r, hr, rfl⟩ := List.mem_map.1 hM
    exact (hy r (List.mem_range.1 hr)).2.2.1
/-- what is left of a size when lists are taken from it -/
def szs (left : Int) : List (List Int) → Int
  | [] => left
  | L :: R => if left - (L.length : Int) < 0 then -1 else szs (left - (L.length : Int)) R
theorem szs_neg (left : Int) (LL : List (List Int)) (h : 0 ≤ left) (hs : 0 ≤ szs left LL) : ∀ L ∈ LL, (L.length : Int) ≤ left := by
  induction LL generalizing left with
  | nil => intro L hL; cases hL
  | cons x R ih =>
    unfold szs at hs
    split at hs
    · omega
    · rename_i h1
      intro L hL
      rcases List.mem_cons.1 hL with rfl | hL
      · omega
      · have := ih (left - (x.length : Int)) (by omega) hs L hL
        omega
theorem szs_cnt (left : Int) (LL : List (List Int)) (h : 0 ≤ left) (hs : 0 ≤ szs left LL) : (cntLL LL : Int) ≤ left := by
  induction LL generalizing left with
  | nil => simp [cntLL]; exact h
  | cons x R ih =>
    unfold szs at hs
    split at hs
    · omega
    · rename_i h1
      have := ih (left - (x.length : Int)) (by omega) hs
      simp [cntLL] at this ⊢
      omega
def szF (left : Int) (LL : List (List Int)) : Int := if left - (LL.length : Int) < 0 then -1 else szs (left - (LL.length : Int)) LL
theorem szF_ok {LL : List (List Int)} (h : 0 ≤ szF 1048576 LL) : LL.length ≤ 1048576 ∧ (∀ L ∈ LL, L.length ≤ 1048576) ∧ cntLL LL ≤ 1048576 := by
  unfold szF at h
  split at h
  · omega
  · rename_i h1
    have h2 := szs_neg _ _ (by omega) h
    have h3 := szs_cnt _ _ (by omega) h
    refine ⟨by omega, fun L hL => ?_, by omega⟩
    have := h2 L hL
    omega
theorem szs_drop (left : Int) {LL : List (List Int)} {k : Nat} (hk : k < LL.length) : szs left (LL.drop k) = if left - (LL[k].length : Int) < 0 then -1 else szs (left - (LL[k].length : Int)) (LL.drop (k + 1)) := by
  rw [List.drop_eq_getElem_cons hk]
  rfl
theorem T_ints3 : (Try.prog.info? 22).map (fun i => (i.zero, i.size, i.bytes)) = some (some (.slice none 0 0), 1, 24) := by kernel_rfl
end Go.Proofs.Ythafbdpeignccaa
namespace Go.Proofs.Ythafbdpeignccaa
open Go.RowKit NP
set_option maxRecDepth 8000
set_option linter.unusedVariables false
set_option linter.unusedSimpArgs false
attribute [local go_sem ↓] Go.wp_at_zero Go.wp_at_succ
theorem divides_any (m : Int) (hm : 2 ≤ m ∧ m ≤ 16) (a : Option Addr) (c B : Nat) (P : List Int) (w : World) (h : Rd w B a (ints P)) (hP : ∀ i (h : i < P.length), 1 ≤ P[i] ∧ P[i] ≤ 16) (hl : P.length ≤ 16) :
    Calls Try.prog 50 #[.int .i64 m, .slice a P.length c] w fun e w' => e = .returned (.bool (!(P.all fun x => x % m != 0))) ∧ w = w' := by
  have HXB := Lib.hid hP
  have hm0 : m ≠ 0 := by omega
  clear hP
  go_enter Try.func50, Try.ntmps50
  go_wp2_with fail
  go_loopw [5] (fun ii wr => ∃ i : Nat, i ≤ P.length ∧ ii = .int .i64 (i : Int) ∧ w = wr ∧ Hid (∀ j (hj : j < P.length), j < i → P[j] % m ≠ 0)) (fun ii _ => P.length - (intOf ii).toNat)
  case atStart => exact ⟨0, Nat.zero_le _, rfl, rfl, Lib.hid (fun j _ hj => by omega)⟩
  case round =>
    obtain ⟨i, hin, rfl, rfl, HN⟩ := hrel
    by_cases hlt : i < P.length
    · have hlt' : (i : Int) < (P.length : Int) := by omega
      obtain ⟨b, o, rfl, hbB, hcx⟩ := h.at_ hlt
      have hx := HXB.out i hlt
      obtain ⟨x, hxx⟩ : ∃ x, P[i] = x := ⟨_, rfl⟩
      have HX := Lib.hid hxx
      rw [hxx] at hx hcx
      have htm : Int.tmod x m = x % m := Int.tmod_eq_emod_of_nonneg (by omega)
      have hrb := Int.emod_nonneg x hm0
      have hrb2 := Int.emod_lt_of_pos x (show (0 : Int) < m by omega)
      obtain ⟨r, hr⟩ : ∃ r, x % m = r := ⟨_, rfl⟩
      rw [hr] at htm hrb hrb2
      have HR := Lib.hid hr
      clear hxx hr
      by_cases hz : r = 0
      · have hzb : (r == 0) = true := by simp [hz]
        have hall : (P.all fun x => x % m != 0) = false := by
          rw [List.all_eq_false]
          exact ⟨P[i], List.getElem_mem hlt, by rw [HX.out, HR.out]; simp [hz]⟩
        have HALL := Lib.hid hall
        clear hz hall
        go_wp2_with fail
        go_ret
        exact ⟨by rw [HALL.out]; rfl, rfl⟩
      · have hzb : (r == 0) = false := by simp [hz]
        go_wp2_with fail
        go_roundw
        case rel => exact ⟨i + 1, by omega, by go_num, by first | rfl | trivial, Lib.hid (fun j hj h1 => by
          rcases Nat.lt_or_ge j i with h3 | h3
          · exact HN.out j hj h3
          · obtain rfl : j = i := by omega
            rw [HX.out, HR.out]; exact hz)⟩
        case measure => simp [intOf] <;> omega
    · have hall : (P.all fun x => x % m != 0) = true := by
        rw [List.all_eq_true]
        intro y hy
        obtain ⟨j, hj, rfl⟩ := List.getElem_of_mem hy
        simpa using HN.out j hj (by omega)
      have HALL := Lib.hid hall
      clear hall
      go_wp2_with fail
      go_ret
      exact ⟨by rw [HALL.out]; rfl, rfl⟩
theorem wrapN {p : Nat} (h : p ≤ 16) : IntKind.i64.wrap (p : Int) = (p : Int) := IntWalk.i64_in _ (by omega)
theorem wrapM {n m p : Nat} (e : n * m = p) (h : p ≤ 16) : IntKind.i64.wrap ((n : Int) * (m : Int)) = (p : Int) ∧ wrap64 ((n : Int) * (m : Int)) = (p : Int) := by
  have hpi : (n : Int) * (m : Int) = (p : Int) := by rw [← e]; simp
  rw [hpi]
  exact ⟨wrapN h, by unfold wrap64; omega⟩
theorem soG_step {m f x n : Nat} (h : x % m = 0) : soG m (f + 1) x n = soG m f (x / m) (n * m) := by rw [soG, if_pos h]
theorem soG_end {m f x n : Nat} (h : ¬ x % m = 0) : soG m f x n = (x, n) := by
  cases f with
  | zero => rfl
  | succ f => rw [soG, if_neg h]
set_option maxHeartbeats 2000000 in
theorem splitOff_any (m : Nat) (hm : 2 ≤ m ∧ m ≤ 16) (a : Option Addr) (c B : Nat) (P : List Int) (w : World) (h : Rd w B a (ints P)) (hB : B ≤ w.heap.size) (hP : ∀ i (h : i < P.length), 1 ≤ P[i] ∧ P[i] ≤ 16) (hl : P.length ≤ 16) :
    Calls Try.prog 66 #[.slice a P.length c, .int .i64 (m : Int)] w fun e w' => ∃ a' c', e = .returned (.slice a' (soF m P).length c') ∧ Own w' w.heap.size w'.heap.size 3 (.slice a' (soF m P).length c') (ints (soF m P)) ∧ Below w.heap.size w w' := by
  obtain ⟨i0, hi, hz0, hz1, hz2⟩ := T_int'
  have HXB := Lib.hid hP
  have hm0 : (m : Int) ≠ 0 := by omega
  clear hP
  go_enter Try.func66, Try.ntmps66
  go_wp2_with fail
  go_loopw [5, 6] (fun v ii wr => ∃ i : Nat, i ≤ P.length ∧ ii = .int .i64 (i : Int) ∧ Below w.heap.size w wr ∧ ∃ M, Hid (M = (P.take i).flatMap (soL m)) ∧ M.length ≤ 16 * i ∧ Own wr w.heap.size wr.heap.size 3 v (ints M)) (fun _ ii _ => P.length - (intOf ii).toNat)
  case atStart => exact ⟨0, Nat.zero_le _, rfl, (Below.refl _ _).alloc (Nat.le_refl _) _, [], Lib.hid rfl, Nat.zero_le _, (Own.empty w 3).more⟩
  case round =>
    obtain ⟨i, hin, rfl, hbr, M, HM, hMl, hown⟩ := hrel
    obtain ⟨wo, rfl⟩ : ∃ wx : World, wx = wr := ⟨_, rfl⟩
    have hzo := hbr.size
    have HO := Lib.hid hown
    clear hown
    by_cases hlt : i < P.length
    · have hlt' : (i : Int) < (P.length : Int) := by omega
      obtain ⟨b, o, rfl, hbB, hcx⟩ := ((h.more hB).below hbr).at_ hlt
      have hx := HXB.out i hlt
      obtain ⟨x0, hx0⟩ : ∃ x0 : Nat, P[i] = (x0 : Int) := ⟨P[i].toNat, by omega⟩
      have HX := Lib.hid hx0
      rw [hx0] at hx hcx
      clear hx0
      go_wp2_with fail
      go_loopw [7, 8] (fun vx vn wr => ∃ (x n f : Nat), vx = .int .i64 (x : Int) ∧ vn = .int .i64 (n : Int) ∧ wo = wr ∧ 1 ≤ x ∧ x ≤ 16 ∧ x * n = x0 ∧ x < 2 ^ f ∧ Hid (soG m f x n = soG m 5 x0 1)) (fun vx _ _ => (intOf vx).toNat)
      case atStart => exact ⟨x0, 1, 5, rfl, rfl, rfl, by omega, by omega, by simp, by omega, Lib.hid rfl⟩
      case round =>
        obtain ⟨x, n, f, rfl, rfl, rfl, hx1, hx16, hxn, hf, HG⟩ := hrel
        have HFF := Lib.hid hf
        clear hf
        have hn16 : 1 ≤ n ∧ n ≤ 16 := by
          rcases Nat.eq_zero_or_pos n with h0 | h0
          · subst h0; simp at hxn; omega
          · have := Nat.mul_le_mul_right n hx1
            omega
        have htm : Int.tmod (x : Int) (m : Int) = ((x % m : Nat) : Int) := by rw [Int.tmod_eq_emod_of_nonneg (by omega)]; rfl
        have htd : Int.tdiv (x : Int) (m : Int) = ((x / m : Nat) : Int) := by rw [Int.tdiv_eq_ediv_of_nonneg (by omega)]; rfl
        obtain ⟨r, hr⟩ : ∃ r, x % m = r := ⟨_, rfl⟩
        obtain ⟨q, hq⟩ : ∃ q, x / m = q := ⟨_, rfl⟩
        have hdm := Nat.div_add_mod x m
        have hqx : q ≤ x := by rw [← hq]; exact Nat.div_le_self x m
        rw [hr] at htm
        rw [hq] at htd
        rw [hr, hq] at hdm
        have hrm : r ≤ 16 := by rw [← hr]; have := Nat.mod_le x m; omega
        have HR := Lib.hid hr
        have HQ := Lib.hid hq
        clear hr hq
        by_cases hz : r = 0
        · have hzb : ((r : Int) == 0) = true := by simp [hz]
          have hdm2 : m * q = x := by omega
          have hq1 : 1 ≤ q := by
            rcases Nat.eq_zero_or_pos q with h0 | h0
            · subst h0; simp at hdm2; omega
            · exact h0
          have hqn : q * (n * m) = x0 := by rw [← hxn, ← hdm2, Nat.mul_comm m q, Nat.mul_assoc, Nat.mul_comm n m]
          have hnm : n * m ≤ 16 := by
            have := Nat.mul_le_mul_right (n * m) hq1
            omega
          have hq2 : 2 * q ≤ x := by
            have := Nat.mul_le_mul_right q hm.1
            omega
          have hf := HFF.out
          clear HFF
          obtain ⟨f', rfl⟩ : ∃ f', f = f' + 1 := by
            cases f with
            | zero => simp at hf; omega
            | succ f => exact ⟨f, rfl⟩
          have HF' : Hid (q < 2 ^ f') := Lib.hid (by rw [Nat.pow_succ] at hf; omega)
          clear hf
          have HG2 : Hid (soG m f' q (n * m) = soG m 5 x0 1) := Lib.hid (by rw [← HG.out, soG_step (by rw [HR.out]; exact hz), HQ.out])
          obtain ⟨p, hp⟩ : ∃ p : Nat, n * m = p := ⟨_, rfl⟩
          have hnm' := hnm
          rw [hp] at hnm'
          have hww := wrapM hp hnm'
          have hw1 := hww.2
          have hw2 := hww.1
          have hw3 : IntKind.i64.wrap (q : Int) = (q : Int) := wrapN (by omega)
          clear hww hnm'
          rw [hp] at hqn hnm HG2
          clear hp hz hdm hdm2
          go_wp2_with fail
          go_roundw
          case rel => exact ⟨q, p, f', by first | rfl | trivial, by first | rfl | trivial, by first | rfl | trivial, hq1, by omega, hqn, HF'.out, HG2⟩
          case measure => simp [intOf] <;> omega
        · have hzb : ((r : Int) == 0) = false := by simp; omega
          have HS : Hid (soL m (P[i]) = List.replicate n (x : Int)) := Lib.hid (by unfold soL; rw [HX.out, Int.toNat_natCast, ← HG.out, soG_end (by rw [HR.out]; exact hz)])
          clear hz
          go_wp2_with fail
          go_loopw [5, 9] (fun v kk wr => ∃ k : Nat, k ≤ n ∧ kk = .int .i64 (k : Int) ∧ Below w.heap.size w wr ∧ Own wr w.heap.size wr.heap.size 3 v (ints (M ++ List.replicate k (x : Int)))) (fun _ kk _ => n - (intOf kk).toNat)
          case atStart => exact ⟨0, Nat.zero_le _, rfl, hbr, by simpa using HO.out⟩
          case round =>
            obtain ⟨k, hk, rfl, hbk, hok⟩ := hrel
            by_cases hkn : k < n
            · have hkn' : (k : Int) < (n : Int) := by omega
              obtain ⟨V, hV⟩ : ∃ V, V = ints (M ++ List.replicate k (x : Int)) := ⟨_, rfl⟩
              have hVl : V.length = M.length + k := by rw [hV]; simp
              have HV := Lib.hid hV
              rw [← hV] at hok
              have HOK := Lib.hid hok
              have hzk := hbk.size
              clear hV hok
              go_wp2_with (at_builtin; refine wpList_append_o _ rfl (.tmp 36) (.tmp 38) 22 rfl w.heap.size wr.heap.size 3 i0 (.int .i64 0) 8 Try.underlying22 hi hz0 hz1 hz2 rfl _ V rfl (HOK.out.alloc _) (wr.heap.size + 1) (some ⟨wr.heap.size, 0, none⟩) 1 1 [.int .i64 (x : Int)] rfl (Rd.one wr _ _) rfl (by simp; rfl) (by unfold maxLen; omega) (by omega) (by rw [World.size_alloc]; omega) ?_; intro v7 w7 ho7 hg7 hat7)
              go_roundw
              case rel =>
                refine ⟨k + 1, by omega, by go_num, (hbk.alloc hzk _).grown hg7 (by rw [World.size_alloc]; omega) (fun g e => HOK.out.base g e), ?_⟩
                rw [HV.out] at ho7
                rw [List.replicate_succ', ← List.append_assoc]
                simpa [ints] using ho7
              case measure => simp [intOf] <;> omega
            · obtain rfl : k = n := by omega
              go_wp2_with fail
              go_roundw
              case rel => exact ⟨i + 1, by omega, by go_num, hbk, M ++ List.replicate k (x : Int), Lib.hid (by rw [List.take_succ_eq_append_getElem hlt, List.flatMap_append, ← HM.out]; simp [HS.out]), by rw [List.length_append, List.length_replicate]; omega, hok⟩
              case measure => simp [intOf] <;> omega
    · obtain rfl : i = P.length := by omega
      have HMF : Hid (mrg M = soF m P) := Lib.hid (by rw [HM.out, List.take_length]; rfl)
      obtain ⟨a5, c5, e5⟩ := HO.out.form
      have hil : (ints M).length = M.length := by simp
      rw [hil] at e5
      subst e5
      have hM6 : M.length ≤ 1048576 := by omega
      clear hil
      go_wp2_with (go_at_call 60; refine (merge_any _ _ _ M _ HO.out.rd (Nat.le_refl _) hM6).mono ?_; rintro e w6 ⟨a6, c6, rfl, ho6, hb6⟩; rw [HMF.out] at ho6 ⊢)
      go_ret
      exact ⟨a6, c6, rfl, ho6.lower hzo, hbr.trans (hb6.mono hzo)⟩
end Go.Proofs.Ythafbdpeignccaa
namespace Go.Proofs.Ythafbdpeignccaa
open Go.RowKit NP
set_option maxRecDepth 8000
set_option linter.unusedVariables false
set_option linter.unusedSimpArgs false
attribute [local go_sem ↓] Go.wp_at_zero Go.wp_at_succ
theorem wrapM2 {n m p : Nat} (e : n * m = p) (h : p ≤ 256) : IntKind.i64.wrap ((n : Int) * (m : Int)) = (p : Int) ∧ wrap64 ((n : Int) * (m : Int)) = (p : Int) := by
  have hpi : (n : Int) * (m : Int) = (p : Int) := by rw [← e]; simp
  rw [hpi]
  exact ⟨IntWalk.i64_in _ (by omega), by unfold wrap64; omega⟩
def cK (k : Nat) (M : List Int) : Nat := M.countP fun x => x == (k : Int)
def fK (k : Nat) (M : List Int) : List Int := M.filter fun x => x != (k : Int)
theorem cf_len (k : Nat) (M : List Int) : (fK k M).length + cK k M = M.length := by
  induction M with
  | nil => rfl
  | cons x r ih =>
    unfold fK cK at ih ⊢
    rw [List.filter_cons, List.countP_cons]
    by_cases h : x = (k : Int)
    · simp [h]; omega
    · simp [h]; omega
theorem cK_yes {k : Nat} {A : List Int} {x : Int} (h : x = (k : Int)) : cK k (A ++ [x]) = cK k A + 1 := by unfold cK; rw [List.countP_append]; simp [h]
theorem cK_no {k : Nat} {A : List Int} {x : Int} (h : ¬ x = (k : Int)) : cK k (A ++ [x]) = cK k A := by unfold cK; rw [List.countP_append]; simp [h]
theorem fK_yes {k : Nat} {A : List Int} {x : Int} (h : x = (k : Int)) : fK k (A ++ [x]) = fK k A := by unfold fK; rw [List.filter_append]; simp [h]
theorem fK_no {k : Nat} {A : List Int} {x : Int} (h : ¬ x = (k : Int)) : fK k (A ++ [x]) = fK k A ++ [x] := by unfold fK; rw [List.filter_append]; simp [h]
theorem puStep_eq (m : Nat) (M : List Int) (k : Nat) : puStep m M k = fK k M ++ List.replicate (cK k M / m) ((k * m : Nat) : Int) ++ List.replicate (cK k M % m) (k : Int) := rfl
theorem puStep_len (m : Nat) (hm : 2 ≤ m) (M : List Int) (k : Nat) : (puStep m M k).length ≤ M.length := by
  rw [puStep_eq]
  simp only [List.length_append, List.length_replicate]
  have h1 := cf_len k M
  have h2 := Nat.div_add_mod (cK k M) m
  have h3 : cK k M / m ≤ m * (cK k M / m) := Nat.le_mul_of_pos_left _ (by omega)
  omega
set_option maxHeartbeats 2000000 in
theorem putUp_any (m : Nat) (hm : 2 ≤ m ∧ m ≤ 16) (a : Option Addr) (c B : Nat) (P : List Int) (w : World) (h : Rd w B a (ints P)) (hB : B ≤ w.heap.size) (hv : valid P = true) :
    Calls Try.prog 51 #[.slice a P.length c, .int .i64 (m : Int)] w fun e w' => ∃ a' c', e = .returned (.slice a' (puF m P).length c') ∧ Own w' w.heap.size w'.heap.size 3 (.slice a' (puF m P).length c') (ints (puF m P)) ∧ Below w.heap.size w w' := by
  obtain ⟨i0, hi, hz0, hz1, hz2⟩ := T_int'
  have hl := (valid_bd hv).2.2.2
  have hs := valid_bd hv
  have HF := Lib.hid (valid_fits hv)
  obtain ⟨s, hs0⟩ : ∃ s : Nat, sumL P = (s : Int) := ⟨(sumL P).toNat, by omega⟩
  have hs16 : s ≤ 16 := by omega
  have HS := Lib.hid hs0
  have hm0 : (m : Int) ≠ 0 := by omega
  have HLI : Hid ((ints P).length = P.length) := Lib.hid (by simp)
  clear hv hs hs0
  go_enter Try.func51, Try.ntmps51
  go_wp2_with (at_builtin; refine wpList_append_o _ rfl (.tmp 12) (.tmp 13) 22 rfl w.heap.size (w.heap.size + 1) 3 i0 (.int .i64 0) 8 Try.underlying22 hi hz0 hz1 hz2 rfl _ [] rfl (own_empty1 w _ (Nat.le_refl _)) B a P.length c (ints P) rfl (h.below ((Below.refl _ _).alloc (by omega) _)) HLI.out.symm (ints_one _) (by simp only [List.length_nil]; unfold maxLen; omega) (by simp only [List.length_nil]; omega) (by rw [World.size_alloc]; omega) ?_; intro v2 w2 ho2 hg2 hat2; replace ho2 : Own w2 w.heap.size w2.heap.size 3 v2 (ints P) := ho2)
  have hb2 : Below w.heap.size w w2 := ((Below.refl _ _).alloc (Nat.le_refl _) _).grown hg2 (by rw [World.size_alloc]; omega) (own_empty1 w 3 (Nat.le_refl _)).base
  have HO2 := Lib.hid ho2
  clear ho2 hg2 hat2
  go_loopw [5, 6] (fun v kk wr => ∃ i : Nat, i ≤ s ∧ kk = .int .i64 ((i : Int) + 1) ∧ Below w.heap.size w wr ∧ ∃ M, Hid (M = (List.range i).foldl (fun out j => puStep m out (j + 1)) P) ∧ M.length ≤ 16 ∧ Own wr w.heap.size wr.heap.size 3 v (ints M)) (fun _ kk _ => 20 - (intOf kk).toNat)
  case atStart => exact ⟨0, Nat.zero_le _, rfl, hb2, P, Lib.hid rfl, hl, HO2.out⟩
  case round =>
    obtain ⟨i, hin, rfl, hbr, M, HM, hMl, hown⟩ := hrel
    obtain ⟨wo, rfl⟩ : ∃ wx : World, wx = wr := ⟨_, rfl⟩
    have hzo := hbr.size
    obtain ⟨aM, cM, hvM⟩ := hown.form
    rw [show (ints M).length = M.length by simp] at hvM
    subst hvM
    have HO := Lib.hid hown
    have hr := (h.more hB).below hbr
    clear hown
    obtain ⟨k, hk⟩ : ∃ k : Nat, i + 1 = k := ⟨_, rfl⟩
    have hki : (i : Int) + 1 = (k : Int) := by omega
    have HKI := Lib.hid hk
    rw [hki]
    go_wp2_with fail
    refine (sum_any _ _ _ P _ hr HF.out (by omega)).mono ?_
    rintro e w' ⟨rfl, rfl⟩
    rw [HS.out]
    by_cases hlt : k ≤ s
    · have hlt' : (k : Int) ≤ (s : Int) := by omega
      go_wp2_with fail
      go_loopw [7, 8, 9] (fun vn v jj wr => ∃ j : Nat, j ≤ M.length ∧ jj = .int .i64 (j : Int) ∧ vn = .int .i64 (cK k (M.take j) : Int) ∧ Below wo.heap.size wo wr ∧ Own wr wo.heap.size wr.heap.size 3 v (ints (fK k (M.take j)))) (fun _ _ jj _ => M.length - (intOf jj).toNat)
      case atStart => exact ⟨0, Nat.zero_le _, rfl, by first | rfl | simp [cK], (Below.refl _ _).alloc (Nat.le_refl _) _, (Own.empty wo 3).more⟩
      case round =>
        obtain ⟨j, hj, rfl, rfl, hbj, hoj⟩ := hrel
        have hzj := hbj.size
        by_cases hjl : j < M.length
        · have hjl' : (j : Int) < (M.length : Int) := by omega
          obtain ⟨gM, eM, hc⟩ := (HO.out.below hbj).read (k := j) (by simpa using hjl)
          subst eM
          obtain ⟨x, hx⟩ : ∃ x, M[j] = x := ⟨_, rfl⟩
          have hcx : wr.cell? ⟨gM, j, none⟩ = some (.int .i64 x) := by rw [hc]; simp [hx]
          have HT : Hid (M.take (j + 1) = M.take j ++ [x]) := Lib.hid (by rw [List.take_succ_eq_append_getElem hjl, hx])
          have hck : cK k (M.take j) ≤ 16 := by have := cf_len k (M.take j); rw [List.length_take] at this; omega
          have hfk : (fK k (M.take j)).length ≤ 16 := by have := cf_len k (M.take j); rw [List.length_take] at this; omega
          clear hc hx
          by_cases hxk : x = (k : Int)
          · have hxb : (x == (k : Int)) = true := by simp [hxk]
            have HXK := Lib.hid hxk
            have HOJ := Lib.hid hoj
            clear hxk hoj
            go_wp2_with fail
            go_roundw
            case rel => exact ⟨j + 1, by omega, by go_num, by rw [HT.out, cK_yes HXK.out]; go_num, hbj, by rw [HT.out, fK_yes HXK.out]; exact HOJ.out⟩
            case measure => simp [intOf] <;> omega
          · have hxb : (x == (k : Int)) = false := by simp [hxk]
            have HXK := Lib.hid hxk
            obtain ⟨V, hV⟩ : ∃ V, V = ints (fK k (M.take j)) := ⟨_, rfl⟩
            have hVl : V.length = (fK k (M.take j)).length := by rw [hV]; simp
            have HV := Lib.hid hV
            rw [← hV] at hoj
            have HOK := Lib.hid hoj
            clear hxk hoj hV
            go_wp2_with (at_builtin; refine wpList_append_o _ rfl (.tmp 36) (.tmp 41) 22 rfl wo.heap.size wr.heap.size 3 i0 (.int .i64 0) 8 Try.underlying22 hi hz0 hz1 hz2 rfl _ V rfl (HOK.out.alloc _) (wr.heap.size + 1) (some ⟨wr.heap.size, 0, none⟩) 1 1 [.int .i64 x] rfl (Rd.one wr _ _) rfl (by simp; rfl) (by unfold maxLen; omega) (by omega) (by rw [World.size_alloc]; omega) ?_; intro v7 w7 ho7 hg7 hat7)
            go_roundw
            case rel =>
              refine ⟨j + 1, by omega, by go_num, by rw [HT.out, cK_no HXK.out], (hbj.alloc hzj _).grown hg7 (by rw [World.size_alloc]; omega) (fun g e => HOK.out.base g e), ?_⟩
              rw [HV.out] at ho7
              rw [HT.out, fK_no HXK.out]
              simpa [ints] using ho7
            case measure => simp [intOf] <;> omega
        · obtain rfl : j = M.length := by omega
          rw [List.take_length] at hoj ⊢
          obtain ⟨n, hn⟩ : ∃ n, cK k M = n := ⟨_, rfl⟩
          have hcf := cf_len k M
          rw [hn] at hcf ⊢
          have HN := Lib.hid hn
          obtain ⟨F, hF⟩ : ∃ F, fK k M = F := ⟨_, rfl⟩
          rw [hF] at hoj hcf
          have HFK := Lib.hid hF
          obtain ⟨q, hq⟩ : ∃ q, n / m = q := ⟨_, rfl⟩
          obtain ⟨r, hr2⟩ : ∃ r, n % m = r := ⟨_, rfl⟩
          have hdm := Nat.div_add_mod n m
          have hqn : q ≤ n := by rw [← hq]; exact Nat.div_le_self n m
          have hrn : r ≤ n := by rw [← hr2]; exact Nat.mod_le n m
          have htd : Int.tdiv (n : Int) (m : Int) = (q : Int) := by rw [Int.tdiv_eq_ediv_of_nonneg (by omega), ← hq]; rfl
          have htm : Int.tmod (n : Int) (m : Int) = (r : Int) := by rw [Int.tmod_eq_emod_of_nonneg (by omega), ← hr2]; rfl
          have hwq : IntKind.i64.wrap (q : Int) = (q : Int) := wrapN (by omega)
          obtain ⟨p, hp⟩ : ∃ p : Nat, k * m = p := ⟨_, rfl⟩
          have hp256 : p ≤ 256 := by rw [← hp]; have := Nat.mul_le_mul (show k ≤ 16 by omega) hm.2; omega
          have hww := wrapM2 hp hp256
          have hw1 := hww.2
          have hw2 := hww.1
          have HQ := Lib.hid hq
          have HR := Lib.hid hr2
          have HPP := Lib.hid hp
          clear hn hF hq hr2 hdm hp hww
          go_wp2_with fail
          go_loopw [8, 10] (fun v jj wr => ∃ j : Nat, j ≤ q ∧ jj = .int .i64 (j : Int) ∧ Below wo.heap.size wo wr ∧ Own wr wo.heap.size wr.heap.size 3 v (ints (F ++ List.replicate j ((p : Int))))) (fun _ jj _ => q - (intOf jj).toNat)
          case atStart => exact ⟨0, Nat.zero_le _, rfl, hbj, by simpa using hoj⟩
          case round =>
            clear hbj hoj hzj
            obtain ⟨j, hj, rfl, hbj, hoj⟩ := hrel
            have hzj := hbj.size
            by_cases hjl : j < q
            · have hjl' : (j : Int) < (q : Int) := by omega
              obtain ⟨V, hV⟩ : ∃ V, V = ints (F ++ List.replicate j ((p : Int))) := ⟨_, rfl⟩
              have hVl : V.length = F.length + j := by rw [hV]; simp
              have HV := Lib.hid hV
              rw [← hV] at hoj
              have HOK := Lib.hid hoj
              clear hV hoj
              go_wp2_with (at_builtin; refine wpList_append_o _ rfl (.tmp 50) (.tmp 54) 22 rfl wo.heap.size wr.heap.size 3 i0 (.int .i64 0) 8 Try.underlying22 hi hz0 hz1 hz2 rfl _ V rfl (HOK.out.alloc _) (wr.heap.size + 1) (some ⟨wr.heap.size, 0, none⟩) 1 1 [.int .i64 (p : Int)] rfl (Rd.one wr _ _) rfl (by simp; rfl) (by unfold maxLen; omega) (by omega) (by rw [World.size_alloc]; omega) ?_; intro v7 w7 ho7 hg7 hat7)
              go_roundw
              case rel =>
                refine ⟨j + 1, by omega, by go_num, (hbj.alloc hzj _).grown hg7 (by rw [World.size_alloc]; omega) (fun g e => HOK.out.base g e), ?_⟩
                rw [HV.out] at ho7
                rw [List.replicate_succ', ← List.append_assoc]
                simpa [ints] using ho7
              case measure => simp [intOf] <;> omega
            · obtain rfl : j = q := by omega
              go_wp2_with fail
              obtain ⟨G, hG⟩ : ∃ G, F ++ List.replicate j (p : Int) = G := ⟨_, rfl⟩
              rw [hG] at hoj
              have hGl : G.length = F.length + j := by rw [← hG]; simp
              have HG := Lib.hid hG
              have HQJ := Lib.hid HQ.out
              clear hG
              go_loopw [8, 11] (fun v jj wr => ∃ j : Nat, j ≤ r ∧ jj = .int .i64 (j : Int) ∧ Below wo.heap.size wo wr ∧ Own wr wo.heap.size wr.heap.size 3 v (ints (G ++ List.replicate j ((k : Int))))) (fun _ jj _ => r - (intOf jj).toNat)
              case atStart => exact ⟨0, Nat.zero_le _, rfl, hbj, by simpa using hoj⟩
              case round =>
                clear hbj hoj hzj
                obtain ⟨j, hj, rfl, hbj, hoj⟩ := hrel
                have hzj := hbj.size
                by_cases hjl : j < r
                · have hjl' : (j : Int) < (r : Int) := by omega
                  obtain ⟨V, hV⟩ : ∃ V, V = ints (G ++ List.replicate j ((k : Int))) := ⟨_, rfl⟩
                  have hVl : V.length = G.length + j := by rw [hV]; simp
                  have HV := Lib.hid hV
                  rw [← hV] at hoj
                  have HOK := Lib.hid hoj
                  clear hV hoj
                  go_wp2_with (at_builtin; refine wpList_append_o _ rfl (.tmp 63) (.tmp 65) 22 rfl wo.heap.size wr.heap.size 3 i0 (.int .i64 0) 8 Try.underlying22 hi hz0 hz1 hz2 rfl _ V rfl (HOK.out.alloc _) (wr.heap.size + 1) (some ⟨wr.heap.size, 0, none⟩) 1 1 [.int .i64 (k : Int)] rfl (Rd.one wr _ _) rfl (by simp; rfl) (by unfold maxLen; omega) (by omega) (by rw [World.size_alloc]; omega) ?_; intro v7 w7 ho7 hg7 hat7)
                  go_roundw
                  case rel =>
                    refine ⟨j + 1, by omega, by go_num, (hbj.alloc hzj _).grown hg7 (by rw [World.size_alloc]; omega) (fun g e => HOK.out.base g e), ?_⟩
                    rw [HV.out] at ho7
                    rw [List.replicate_succ', ← List.append_assoc]
                    simpa [ints] using ho7
                  case measure => simp [intOf] <;> omega
                · obtain rfl : j = r := by omega
                  go_wp2_with fail
                  go_roundw
                  case rel => exact ⟨i + 1, by omega, by go_num, hbr.trans (hbj.mono hzo), puStep m M k, Lib.hid (by rw [List.range_succ, List.foldl_append, ← HM.out, ← HKI.out]; rfl), Nat.le_trans (puStep_len m hm.1 M k) hMl, by rw [puStep_eq, HFK.out, HN.out, HQJ.out, HR.out, HPP.out, HG.out]; exact hoj.lower hzo⟩
                  case measure => simp [intOf] <;> omega
    · have hlt' : (s : Int) < (k : Int) := by omega
      have hd : decide ((k : Int) ≤ (s : Int)) = false := decide_eq_false (by omega)
      obtain rfl : i = s := by omega
      have HMF : Hid (mrg M = puF m P) := Lib.hid (by unfold puF; rw [HS.out, Int.toNat_natCast, HM.out])
      go_wp2_with (go_at_call 60; refine (merge_any _ _ _ M _ HO.out.rd (Nat.le_refl _) (by omega)).mono ?_; rintro e w6 ⟨a6, c6, rfl, ho6, hb6⟩; rw [HMF.out] at ho6 ⊢)
      go_ret
      exact ⟨a6, c6, rfl, ho6.lower hzo, hbr.trans (hb6.mono hzo)⟩
end Go.Proofs.Ythafbdpeignccaa
namespace Go.Proofs.Ythafbdpeignccaa
open Go.RowKit NP
set_option maxRecDepth 8000
set_option linter.unusedVariables false
set_option linter.unusedSimpArgs false
set_option maxHeartbeats 1000000 in
theorem sMergeEqual_any (a : Option Addr) (c B : Nat) (P : List Int) (m : Int) (w : World) (h : Rd w B a (ints P)) (hB : B ≤ w.heap.size) (hl : P.length ≤ 4611686018427387904) :
    Calls Try.prog 13 #[.slice a P.length c, .int .i64 m] w fun e w' => ∃ a' c', e = .returned (.tuple #[.slice a' (mpF (kMg m) (puF m.toNat) P).length c', .bool (mpOk (kMg m) P)]) ∧ Own w' w.heap.size w'.heap.size 3 (.slice a' (mpF (kMg m) (puF m.toNat) P).length c') (ints (mpF (kMg m) (puF m.toNat) P)) ∧ Below w.heap.size w w' := by
  have no : mpOk (kMg m) P = false → mpF (kMg m) (puF m.toNat) P = [] := fun h => by unfold mpF; rw [h]; rfl
  have yes : mpOk (kMg m) P = true → mpF (kMg m) (puF m.toNat) P = puF m.toNat P := fun h => by unfold mpF; rw [h]; rfl
  cases hv : valid P with
  | false =>
    have hk : mpOk (kMg m) P = false := by unfold mpOk; rw [hv]; rfl
    rw [no hk, hk]
    have HV := Lib.hid hv
    clear hv hk no yes
    go_enter Try.func13, Try.ntmps13
    go_wp2_with fail
    refine (validParts_any _ _ _ P _ h (by omega)).mono ?_
    rintro e w1 ⟨rfl, hd1⟩
    rw [HV.out]
    go_wp2_with fail
    go_ret2
    exact ⟨none, 0, rfl, Own.nil _ _ _, Dr.below hd1 _⟩
  | true =>
    have HV := Lib.hid hv
    have hl16 := (valid_bd hv).2.2.2
    have HXB : Hid (∀ i (h : i < P.length), 1 ≤ P[i] ∧ P[i] ≤ 16) := Lib.hid (fun i h => by
      have h3 := pad_nonneg hv i (by rw [pad_len hl16]; omega)
      rw [pad_get hl16 h] at h3
      have h4 := preS_of_valid hv i h h
      omega)
    by_cases hm : 2 ≤ m ∧ m ≤ 16
    · obtain ⟨n, rfl⟩ := Int.eq_ofNat_of_zero_le (show 0 ≤ m by omega)
      have hn : 2 ≤ n ∧ n ≤ 16 := by omega
      have hk : mpOk (kMg (n : Int)) P = (P.all fun x => x % (n : Int) != 0) := by unfold mpOk kMg inLim; rw [hv]; simp [hm.1, hm.2]
      rw [Int.toNat_natCast] at no yes ⊢
      obtain ⟨t, ht⟩ : ∃ t, (P.all fun x => x % (n : Int) != 0) = t := ⟨_, rfl⟩
      rw [ht] at hk
      have HT := Lib.hid ht
      clear hv ht
      cases t with
      | false =>
        rw [no hk, hk]
        clear no yes hk
        go_enter Try.func13, Try.ntmps13
        go_wp2_with fail
        refine (validParts_any _ _ _ P _ h (by omega)).mono ?_
        rintro e w1 ⟨rfl, hd1⟩
        rw [HV.out]
        have h1 := h.dr hd1
        have hb1 : Below w.heap.size w w1 := Dr.below hd1 _
        have hz1 := hb1.size
        go_wp2_with fail
        refine (inRange_yes (n : Int) 2 16 _ hm.1 hm.2).mono ?_
        rintro e w2 ⟨rfl, rfl⟩
        go_wp2_with fail
        refine (divides_any (n : Int) hm _ _ _ P _ h1 HXB.out (by omega)).mono ?_
        rintro e w3 ⟨rfl, rfl⟩
        rw [HT.out]
        have hbT := hb1
        have hT := h1
        go_wp2_with fail
        go_ret2
        exact ⟨none, 0, rfl, Own.nil _ _ _, hbT⟩
      | true =>
        rw [yes hk, hk]
        clear no yes hk
        go_enter Try.func13, Try.ntmps13
        go_wp2_with fail
        refine (validParts_any _ _ _ P _ h (by omega)).mono ?_
        rintro e w1 ⟨rfl, hd1⟩
        rw [HV.out]
        have h1 := h.dr hd1
        have hb1 : Below w.heap.size w w1 := Dr.below hd1 _
        have hz1 := hb1.size
        go_wp2_with fail
        refine (inRange_yes (n : Int) 2 16 _ hm.1 hm.2).mono ?_
        rintro e w2 ⟨rfl, rfl⟩
        go_wp2_with fail
        refine (divides_any (n : Int) hm _ _ _ P _ h1 HXB.out (by omega)).mono ?_
        rintro e w3 ⟨rfl, rfl⟩
        rw [HT.out]
        have hbT := hb1
        have hT := h1
        have hzT := hbT.size
        go_wp2_with fail
        refine (putUp_any n hn _ _ _ P _ hT (by omega) HV.out).mono ?_
        rintro e w6 ⟨a6, c6, rfl, ho6, hb6⟩
        go_wp2_with fail
        go_ret2
        exact ⟨a6, c6, rfl, ho6.lower hzT, hbT.trans (hb6.mono hzT)⟩
    · have hk : mpOk (kMg m) P = false := by
        unfold mpOk kMg inLim
        have : (decide (2 ≤ m) && decide (m ≤ 16)) = false := by
          rw [Bool.eq_false_iff]; intro e; simp at e; exact hm e
        rw [this]; simp
      rw [no hk, hk]
      clear no yes hk hv
      go_enter Try.func13, Try.ntmps13
      go_wp2_with fail
      refine (validParts_any _ _ _ P _ h (by omega)).mono ?_
      rintro e w1 ⟨rfl, hd1⟩
      rw [HV.out]
      go_wp2_with fail
      refine (inRange_no m 2 16 _ (by omega)).mono ?_
      rintro e w2 ⟨rfl, rfl⟩
      go_wp2_with fail
      go_ret2
      exact ⟨none, 0, rfl, Own.nil _ _ _, Dr.below hd1 _⟩
end Go.Proofs.Ythafbdpeignccaa
