/-
  Walks: parts in a box, by the program.
-/
import Derived.Test.YtgbkaahmmpgjfaaW79
import Derived.RegionTactic
namespace Go.Proofs.Ytgbkaahmmpgjfaa
open Go.RowKit NP
set_option linter.unusedVariables false
set_option linter.unusedSimpArgs false
def inbF (L : List Int) (a b : Int) : Bool := valid L && (limB a b && decide ((L.length : Int) ≤ a ∧ L.headD 0 ≤ b))
theorem oper_store_row {P : Program} {o : Oper} {a : Act} {w : World} {K : Act → World → Prop} {Q : Exit → Act → World → Prop} (ty : TypeId) (x v : Operand) (ho : o.op = .store ty x v)
    (g : Nat) (hx : a.eval x = .pointer (some ⟨g, 0, none⟩)) (vs : Array Value) (hv : a.eval v = .agg vs) (t : TypeId) (cs : Array Value) (hg : Blk w g t cs)
    (hi : (P.info? ty).map (·.size) = some vs.size) (hs : vs.size = cs.size) (h1 : ∀ v ∈ vs.toList, v.oneCell' = true)
    (h : K (a.put o.dst undef) (w.setRow g vs)) : Oper.wp P o a w K Q := by
  unfold Oper.wp execOp
  simp only [ho, hx, hv, Instr.storeAt, Instr.sureAddr, Sem.run_bind, Sem.run_pure, Result.andThen_ok, run_storeVar_row w g t ty cs vs hg hi hs h1]
  exact h
theorem results_2blk2_tmp {P : Program} {fn : Func} {p1 p2 q : Tmp} {ty ty2 : TypeId} (h : fn.results = #[.cell p1 ty, .cell p2 ty2, .tmp q]) (tmps : Array Value) (w : World) (g1 g2 : Nat) (t t2 : TypeId) (c1 c2 : Array Value) (d d2 : TypeDesc)
    (hp1 : tmps.getD p1 undef = .pointer (some ⟨g1, 0, none⟩)) (hp2 : tmps.getD p2 undef = .pointer (some ⟨g2, 0, none⟩)) (h1 : Blk w g1 t c1) (h2 : Blk w g2 t2 c2)
    (hu : P.underlying ty = some d) (hd : (match d with | .struct _ | .array _ _ => true | _ => false) = true) (hu2 : P.underlying ty2 = some d2) (hd2 : (match d2 with | .struct _ | .array _ _ => true | _ => false) = true) (hi1 : (P.info? ty).map (·.size) = some c1.size) (hi2 : (P.info? ty2).map (·.size) = some c2.size) :
    (results fn tmps).run P w = .ok (.tuple #[.agg c1, .agg c2, tmps.getD q undef]) w := by
  have hp1' : tmps[p1]?.getD undef = .pointer (some ⟨g1, 0, none⟩) := by simpa using hp1
  have hp2' : tmps[p2]?.getD undef = .pointer (some ⟨g2, 0, none⟩) := by simpa using hp2
  simp [results, h, hp1', hp2', asAddr, run_loadVar_row w g1 t ty c1 (0, 0) d h1 hu hd hi1, run_loadVar_row w g2 t2 ty2 c2 (0, 0) d2 h2 hu2 hd2 hi2]
theorem two_oneB (a b : Int) : ∀ v ∈ (#[Value.int .i64 a, Value.int .i64 b]).toList, v.oneCell' = true := by
  intro v hv
  simp only [List.mem_cons, List.not_mem_nil, or_false] at hv
  rcases hv with rfl | rfl <;> rfl
theorem T_box : (Try.prog.info? 43).map (·.size) = some 2 := by kernel_rfl
theorem keepS {w w1 u v : World} {L : List Int} {a b : Int} (h : (fun w' => (∃ c6, Blk w' w.heap.size 41 c6 ∧ c6.size = 16) ∧ (∃ c7, Blk w' (w.heap.size + 1) 43 c7 ∧ c7.size = 2) ∧ Blk w' w1.heap.size 41 (arr (dg L)) ∧ Blk w' (w1.heap.size + 1) 43 #[.int .i64 a, .int .i64 b] ∧ Below w.heap.size w w') u) (hb : Below u.heap.size u v) : (fun w' => (∃ c6, Blk w' w.heap.size 41 c6 ∧ c6.size = 16) ∧ (∃ c7, Blk w' (w.heap.size + 1) 43 c7 ∧ c7.size = 2) ∧ Blk w' w1.heap.size 41 (arr (dg L)) ∧ Blk w' (w1.heap.size + 1) 43 #[.int .i64 a, .int .i64 b] ∧ Below w.heap.size w w') v := by
  obtain ⟨⟨c6, hc6, hz6⟩, ⟨c7, hc7, hz7⟩, hD, hX, hA⟩ := h
  exact ⟨⟨c6, hc6.below hb hc6.lt, hz6⟩, ⟨c7, hc7.below hb hc7.lt, hz7⟩, hD.below hb hD.lt, hX.below hb hX.lt, hA.trans (hb.mono hA.size)⟩
set_option maxHeartbeats 2000000 in
theorem partsInBox_any (p : Option Addr) (c B : Nat) (L : List Int) (a b : Int) (w : World) (h : Rd w B p (ints L)) (hB : B ≤ w.heap.size) (hl : L.length ≤ 4611686018427387904) :
    Calls Try.prog 43 #[.slice p L.length c, .int .i64 a, .int .i64 b] w fun e w' => e = .returned (.tuple #[.agg (arr (dg L)), .agg #[.int .i64 a, .int .i64 b], .bool (inbF L a b)]) ∧ Below w.heap.size w w' := by
  have hi16 : (Try.prog.info? 41).map (·.size) = some (arr (dg L)).size := by rw [arr_size, dg_len]; exact T_info35
  have hiL : (Try.prog.info? 41).map (·.size) = some (ints (dg L)).length := by rw [List.length_map, dg_len]; exact T_info35
  have hiB : (Try.prog.info? 43).map (·.size) = some ([Value.int .i64 a, Value.int .i64 b]).length := T_box
  have hu := Try.underlying41
  have huB := Try.underlying43
  have hsz : (arr (dg L)).size = (arr (List.replicate 16 0)).size := by rw [arr_size, arr_size, dg_len]; rfl
  have hd0 := Blk.new w 41 (arr (List.replicate 16 0))
  have hx0 := Blk.new (w.alloc (.cells (arr (List.replicate 16 0)) 41)) 43 #[.int .i64 0, .int .i64 0]
  have hd1 := hd0.alloc (.cells #[.int .i64 0, .int .i64 0] 43)
  have hbel0 := ((Below.refl w.heap.size w).alloc (Nat.le_refl _) (.cells (arr (List.replicate 16 0)) 41)).alloc (by simp) (.cells #[.int .i64 0, .int .i64 0] 43)
  obtain ⟨v, hv⟩ : ∃ v, v = valid L := ⟨_, rfl⟩
  have HV := Lib.hid hv
  clear hv
  go_enter Try.func43, Try.ntmps43
  go_wp2_with (first
    | (go_at_call 49; refine (diagramOf_any _ _ B L _ (h.below (hbel0.mono hB)) (by simp; omega) hl).mono ?_; rintro e w1 ⟨rfl, hb1⟩; rw [← HV.out]; have hz1 := hb1.size; rw [World.size_alloc, World.size_alloc] at hz1)
    | (refine wpList_store_row rfl 41 (.tmp 9) (.tmp 15) rfl w1.heap.size rfl (arr (dg L)) rfl 41 (arr (List.replicate 16 0)) (Blk.new w1 _ _) hi16 hsz (arr_one _) ?_; have hB3 := (Blk.new w1 41 (arr (List.replicate 16 0))).row (vs := arr (dg L)); have hb13 : Below w1.heap.size w1 ((w1.alloc (.cells (arr (List.replicate 16 0)) 41)).setRow w1.heap.size (arr (dg L))) := below_setRow' ((Below.refl _ _).alloc (Nat.le_refl _) _) (Nat.le_refl _) _; have hs3 : ((w1.alloc (.cells (arr (List.replicate 16 0)) 41)).setRow w1.heap.size (arr (dg L))).heap.size = w1.heap.size + 1 := (by simp); obtain ⟨w3, hw3⟩ : ∃ w3, w3 = (w1.alloc (.cells (#[.int .i64 0, .int .i64 0, .int .i64 0, .int .i64 0, .int .i64 0, .int .i64 0, .int .i64 0, .int .i64 0, .int .i64 0, .int .i64 0, .int .i64 0, .int .i64 0, .int .i64 0, .int .i64 0, .int .i64 0, .int .i64 0]) 41)).setRow w1.heap.size (arr (dg L)) := ⟨_, rfl⟩; rw [← hw3]; replace hB3 : Blk w3 w1.heap.size 41 (arr (dg L)) := hw3 ▸ hB3; replace hb13 : Below w1.heap.size w1 w3 := hw3 ▸ hb13; replace hs3 : w3.heap.size = w1.heap.size + 1 := hw3 ▸ hs3; clear hw3))
  rw [World.size_alloc] at hx0
  have hw41 : w3.heap.size = w1.heap.size + 1 := hs3
  have hS0 : (fun w' => (∃ c6, Blk w' w.heap.size 41 c6 ∧ c6.size = 16) ∧ (∃ c7, Blk w' (w.heap.size + 1) 43 c7 ∧ c7.size = 2) ∧ Blk w' w1.heap.size 41 (arr (dg L)) ∧ Blk w' (w1.heap.size + 1) 43 #[.int .i64 a, .int .i64 b] ∧ Below w.heap.size w w') (w3.alloc (.cells #[.int .i64 a, .int .i64 b] 43)).drew := by
    have e := Blk.new w3 43 #[Value.int .i64 a, Value.int .i64 b]
    rw [hs3] at e
    rw [World.size_alloc, World.size_alloc] at hb1
    refine ⟨⟨_, (((hd1.below hb1 (by omega)).below hb13 (by omega)).alloc _).drew, by rfl⟩, ⟨_, (((hx0.below hb1 (by omega)).below hb13 (by omega)).alloc _).drew, by rfl⟩, (hB3.alloc _).drew, e.drew, ?_⟩
    exact ((((hbel0.trans (hb1.mono (by omega))).trans (hb13.mono (by omega))).alloc (by omega) _)).trans ((Dr.n _ 1).below _)
  have HS0 := Lib.hid hS0
  clear hd0 hd1 hx0 hbel0 hB3 hS0
  cases v with
  | false =>
    have HR : Hid (inbF L a b = false) := Lib.hid (by unfold inbF; rw [← HV.out]; rfl)
    have hS0 := HS0.out
    refine wp_region_held_drew (S := fun w' => (∃ c6, Blk w' w.heap.size 41 c6 ∧ c6.size = 16) ∧ (∃ c7, Blk w' (w.heap.size + 1) 43 c7 ∧ c7.size = 2) ∧ Blk w' w1.heap.size 41 (arr (dg L)) ∧ Blk w' (w1.heap.size + 1) 43 #[.int .i64 a, .int .i64 b] ∧ Below w.heap.size w w') (by kernel_rfl) hS0 (fun hHeld => ?_)
    refine wpAnyH_take (i := 0) (v := _) (by simp only [List.getElem?_toArray, List.getElem?_cons_succ, List.getElem?_cons_zero]; exact rfl) (by kernel_rfl) (by kernel_rfl) (by kernel_rfl) (by intro _ _ _ h; exact h) (yieldsIf_load_mid (by kernel_rfl) _ _ rfl w1.heap.size 0 rfl (ints (dg L)) _ (fun _ hw => Blk.rangeB (vs := ints (dg L)) hw.2.2.1) hu rfl hiL) (by assumption) ?_
    simp only [Act.put, List.setIfInBounds_toArray, List.set_cons_zero, List.set_cons_succ, List.toList_toArray]
    refine wpAnyH_take (i := 1) (v := _) (by simp only [List.getElem?_toArray, List.getElem?_cons_succ, List.getElem?_cons_zero]; exact rfl) (by kernel_rfl) (by kernel_rfl) (by kernel_rfl) (by intro _ _ _ h; exact h) (yieldsIf_load_mid (by kernel_rfl) _ _ rfl (w1.heap.size + 1) 0 rfl [.int .i64 a, .int .i64 b] _ (fun _ hw => Blk.rangeB (vs := [.int .i64 a, .int .i64 b]) hw.2.2.2.1) huB rfl hiB) (by assumption) ?_
    simp only [Act.put, List.setIfInBounds_toArray, List.set_cons_zero, List.set_cons_succ, List.toList_toArray]
    refine wpAnyH_take (i := 2) (v := .bool false) (by simp only [List.getElem?_toArray, List.getElem?_cons_succ, List.getElem?_cons_zero]; exact rfl) (by kernel_rfl) (by kernel_rfl) (by kernel_rfl) (by intro _ _ _ h; exact h) (Or.inl ⟨by kernel_rfl, by intro w hSw; go_simp⟩) (by assumption) ?_
    simp only [Act.put, List.setIfInBounds_toArray, List.set_cons_zero, List.set_cons_succ, List.toList_toArray]
    refine wpAnyH_take (i := 3) (v := .bool false) (by simp only [List.getElem?_toArray, List.getElem?_cons_succ, List.getElem?_cons_zero]; exact rfl) (by kernel_rfl) (by kernel_rfl) (by kernel_rfl) (by intro _ _ _ h; exact h) (Or.inl ⟨by kernel_rfl, by intro w hSw; go_simp⟩) (by assumption) ?_
    simp only [Act.put, List.setIfInBounds_toArray, List.set_cons_zero, List.set_cons_succ, List.toList_toArray]
    refine wpAnyH_take (i := 4) (v := undef) (by simp only [List.getElem?_toArray, List.getElem?_cons_succ, List.getElem?_cons_zero]; exact rfl) (by kernel_rfl) (by kernel_rfl) (by kernel_rfl) (by intro _ _ _ h; exact h) (Or.inr ⟨by kernel_rfl, rfl⟩) (by assumption) ?_
    simp only [Act.put, List.setIfInBounds_toArray, List.set_cons_zero, List.set_cons_succ, List.toList_toArray]
    refine wpAnyH_take (i := 5) (v := undef) (by simp only [List.getElem?_toArray, List.getElem?_cons_succ, List.getElem?_cons_zero]; exact rfl) (by kernel_rfl) (by kernel_rfl) (by kernel_rfl) (by intro _ _ _ h; exact h) (Or.inr ⟨by kernel_rfl, rfl⟩) (by assumption) ?_
    simp only [Act.put, List.setIfInBounds_toArray, List.set_cons_zero, List.set_cons_succ, List.toList_toArray]
    refine wpAnyH_take (i := 6) (v := .bool false) (by simp only [List.getElem?_toArray, List.getElem?_cons_succ, List.getElem?_cons_zero]; exact rfl) (by kernel_rfl) (by kernel_rfl) (by kernel_rfl) (by intro _ _ _ h; exact h) (Or.inl ⟨by kernel_rfl, by intro w hSw; go_simp⟩) (by assumption) ?_
    simp only [Act.put, List.setIfInBounds_toArray, List.set_cons_zero, List.set_cons_succ, List.toList_toArray]
    refine wpAnyH_take (i := 7) (v := .bool false) (by simp only [List.getElem?_toArray, List.getElem?_cons_succ, List.getElem?_cons_zero]; exact rfl) (by kernel_rfl) (by kernel_rfl) (by kernel_rfl) (by intro _ _ _ h; exact h) (Or.inl ⟨by kernel_rfl, by intro w hSw; go_simp⟩) (by assumption) ?_
    simp only [Act.put, List.setIfInBounds_toArray, List.set_cons_zero, List.set_cons_succ, List.toList_toArray]
    refine wpAnyH_take (i := 8) (v := undef) (by simp only [List.getElem?_toArray, List.getElem?_cons_succ, List.getElem?_cons_zero]; exact rfl) (by kernel_rfl) (by kernel_rfl) (by kernel_rfl) (by intro _ _ _ h; exact h) (Or.inr ⟨by kernel_rfl, rfl⟩) (by assumption) ?_
    simp only [Act.put, List.setIfInBounds_toArray, List.set_cons_zero, List.set_cons_succ, List.toList_toArray]
    refine wpAnyH_take (i := 9) (v := undef) (by simp only [List.getElem?_toArray, List.getElem?_cons_succ, List.getElem?_cons_zero]; exact rfl) (by kernel_rfl) (by kernel_rfl) (by kernel_rfl) (by intro _ _ _ h; exact h) (Or.inr ⟨by kernel_rfl, rfl⟩) (by assumption) ?_
    simp only [Act.put, List.setIfInBounds_toArray, List.set_cons_zero, List.set_cons_succ, List.toList_toArray]
    refine wpAnyH_take (i := 10) (v := undef) (by simp only [List.getElem?_toArray, List.getElem?_cons_succ, List.getElem?_cons_zero]; exact rfl) (by kernel_rfl) (by kernel_rfl) (by kernel_rfl) (by intro _ _ _ h; exact h) (Or.inr ⟨by kernel_rfl, rfl⟩) (by assumption) ?_
    simp only [Act.put, List.setIfInBounds_toArray, List.set_cons_zero, List.set_cons_succ, List.toList_toArray]
    refine wpAnyH_take (i := 11) (v := .bool false) (by simp only [List.getElem?_toArray, List.getElem?_cons_succ, List.getElem?_cons_zero]; exact rfl) (by kernel_rfl) (by kernel_rfl) (by kernel_rfl) (by intro _ _ _ h; exact h) (Or.inl ⟨by kernel_rfl, by intro w hSw; go_simp⟩) (by assumption) ?_
    simp only [Act.put, List.setIfInBounds_toArray, List.set_cons_zero, List.set_cons_succ, List.toList_toArray]
    obtain ⟨⟨c6, hc6, hz6⟩, ⟨c7, hc7, hz7⟩, hD, hX, hA⟩ := hHeld
    refine wpAnyH_ready (rs := [12]) (by kernel_rfl) (by simp) ?_
    refine AllReadyH.cons (o := _) (by simp only [List.getElem?_toArray, List.getElem?_cons_succ, List.getElem?_cons_zero]; exact rfl) (fun K hK => ?_) AllReadyH.nil
    rw [if_pos (by rfl)]
    refine oper_store_row 41 (.tmp 6) (.tmp 20) rfl w.heap.size rfl (arr (dg L)) rfl 41 _ hc6 hi16 (by rw [hz6, arr_size, dg_len]) (arr_one _) ?_
    refine hK.out _ _ ⟨⟨_, hc6.row, by rw [arr_size, dg_len]⟩, ⟨c7, hc7.rowOff (by omega), hz7⟩, hD.rowOff (by omega), hX.rowOff (by omega), below_setRow' hA (Nat.le_refl _) _⟩ (fun hF1 => ?_)
    clear hK K
    try simp only [Act.put, List.setIfInBounds_toArray, List.set_cons_zero, List.set_cons_succ, List.toList_toArray]
    refine wpAnyH_ready (rs := [13]) (by kernel_rfl) (by simp) ?_
    refine AllReadyH.cons (o := _) (by simp only [List.getElem?_toArray, List.getElem?_cons_succ, List.getElem?_cons_zero]; exact rfl) (fun K hK => ?_) AllReadyH.nil
    rw [if_pos (by rfl)]
    refine oper_store_row 43 (.tmp 7) (.tmp 21) rfl (w.heap.size + 1) rfl #[.int .i64 a, .int .i64 b] rfl 43 _ (hc7.rowOff (by omega)) T_box (by rw [hz7]; rfl) (two_oneB _ _) ?_
    refine hK.out _ _ ⟨⟨_, (hc6.row (vs := arr (dg L))).rowOff (by omega), by rw [arr_size, dg_len]⟩, ⟨_, (hc7.rowOff (by omega)).row, rfl⟩, (hD.rowOff (by omega)).rowOff (by omega), (hX.rowOff (by omega)).rowOff (by omega), below_setRow' (below_setRow' hA (Nat.le_refl _) _) (by omega) _⟩ (fun hF2 => ?_)
    clear hK K
    try simp only [Act.put, List.setIfInBounds_toArray, List.set_cons_zero, List.set_cons_succ, List.toList_toArray]
    refine wpAnyH_take (i := 14) (v := .bool false) (by simp only [List.getElem?_toArray, List.getElem?_cons_succ, List.getElem?_cons_zero]; exact rfl) (by kernel_rfl) (by kernel_rfl) (by kernel_rfl) (by intro _ _ _ h; exact h) (Or.inl ⟨by kernel_rfl, by intro w hSw; go_simp⟩) (by assumption) ?_
    simp only [Act.put, List.setIfInBounds_toArray, List.set_cons_zero, List.set_cons_succ, List.toList_toArray]
    refine wpAnyH_done (by kernel_rfl) ?_ _
    try simp only [Act.put, List.setIfInBounds_toArray, List.set_cons_zero, List.set_cons_succ]
    go_wp2_with fail
    refine bodyPost_ret (results_2blk2_tmp rfl _ _ w.heap.size (w.heap.size + 1) 41 43 (arr (dg L)) #[.int .i64 a, .int .i64 b] _ _ rfl rfl ((hc6.row (vs := arr (dg L))).rowOff (by omega)) ((hc7.rowOff (by omega)).row) hu rfl huB rfl hi16 T_box) rfl ?_
    rw [HR.out]
    exact ⟨rfl, hF2.2.2.2.2⟩
  | true =>
    cases hlim : limB a b with
    | false =>
      have HR : Hid (inbF L a b = false) := Lib.hid (by unfold inbF; rw [← HV.out, hlim]; rfl)
      have HLI := Lib.hid hlim
      clear hlim
      have hS0 := HS0.out
      refine wp_region_held_drew (S := fun w' => (∃ c6, Blk w' w.heap.size 41 c6 ∧ c6.size = 16) ∧ (∃ c7, Blk w' (w.heap.size + 1) 43 c7 ∧ c7.size = 2) ∧ Blk w' w1.heap.size 41 (arr (dg L)) ∧ Blk w' (w1.heap.size + 1) 43 #[.int .i64 a, .int .i64 b] ∧ Below w.heap.size w w') (by kernel_rfl) hS0 (fun hHeld => ?_)
      refine wpAnyH_take (i := 0) (v := _) (by simp only [List.getElem?_toArray, List.getElem?_cons_succ, List.getElem?_cons_zero]; exact rfl) (by kernel_rfl) (by kernel_rfl) (by kernel_rfl) (by intro _ _ _ h; exact h) (yieldsIf_load_mid (by kernel_rfl) _ _ rfl w1.heap.size 0 rfl (ints (dg L)) _ (fun _ hw => Blk.rangeB (vs := ints (dg L)) hw.2.2.1) hu rfl hiL) (by assumption) ?_
      simp only [Act.put, List.setIfInBounds_toArray, List.set_cons_zero, List.set_cons_succ, List.toList_toArray]
      refine wpAnyH_take (i := 1) (v := _) (by simp only [List.getElem?_toArray, List.getElem?_cons_succ, List.getElem?_cons_zero]; exact rfl) (by kernel_rfl) (by kernel_rfl) (by kernel_rfl) (by intro _ _ _ h; exact h) (yieldsIf_load_mid (by kernel_rfl) _ _ rfl (w1.heap.size + 1) 0 rfl [.int .i64 a, .int .i64 b] _ (fun _ hw => Blk.rangeB (vs := [.int .i64 a, .int .i64 b]) hw.2.2.2.1) huB rfl hiB) (by assumption) ?_
      simp only [Act.put, List.setIfInBounds_toArray, List.set_cons_zero, List.set_cons_succ, List.toList_toArray]
      refine wpAnyH_take (i := 2) (v := .bool true) (by simp only [List.getElem?_toArray, List.getElem?_cons_succ, List.getElem?_cons_zero]; exact rfl) (by kernel_rfl) (by kernel_rfl) (by kernel_rfl) (by intro _ _ _ h; exact h) (Or.inl ⟨by kernel_rfl, by intro w hSw; go_simp⟩) (by assumption) ?_
      simp only [Act.put, List.setIfInBounds_toArray, List.set_cons_zero, List.set_cons_succ, List.toList_toArray]
      refine wpAnyH_take (i := 3) (v := .bool true) (by simp only [List.getElem?_toArray, List.getElem?_cons_succ, List.getElem?_cons_zero]; exact rfl) (by kernel_rfl) (by kernel_rfl) (by kernel_rfl) (by intro _ _ _ h; exact h) (Or.inl ⟨by kernel_rfl, by intro w hSw; go_simp⟩) (by assumption) ?_
      simp only [Act.put, List.setIfInBounds_toArray, List.set_cons_zero, List.set_cons_succ, List.toList_toArray]
      refine wpAnyH_take (i := 4) (v := _) (by simp only [List.getElem?_toArray, List.getElem?_cons_succ, List.getElem?_cons_zero]; exact rfl) (by kernel_rfl) (by kernel_rfl) (by kernel_rfl) (by intro _ _ _ h; exact h) (yieldsIf_load_mid (by kernel_rfl) _ _ rfl (w1.heap.size + 1) 0 rfl [.int .i64 a, .int .i64 b] _ (fun _ hw => Blk.rangeB (vs := [.int .i64 a, .int .i64 b]) hw.2.2.2.1) huB rfl hiB) (by assumption) ?_
      simp only [Act.put, List.setIfInBounds_toArray, List.set_cons_zero, List.set_cons_succ, List.toList_toArray]
      refine wpAnyH_ready (rs := [5]) (by kernel_rfl) (by simp) ?_
      refine AllReadyH.cons (o := _) (by simp only [List.getElem?_toArray, List.getElem?_cons_succ, List.getElem?_cons_zero]; exact rfl) (fun K hK => ?_) AllReadyH.nil
      rw [if_pos (by rfl)]
      go_simp
      go_at_call 71
      refine (isInLimits_any a b _).mono ?_
      rintro e w5 ⟨rfl, hb5⟩
      rw [HLI.out]
      refine hK.out _ _ (keepS hHeld hb5) (fun hH5 => ?_)
      clear hK K
      try simp only [Act.put, List.setIfInBounds_toArray, List.set_cons_zero, List.set_cons_succ, List.toList_toArray]
      refine wpAnyH_take (i := 6) (v := .bool false) (by simp only [List.getElem?_toArray, List.getElem?_cons_succ, List.getElem?_cons_zero]; exact rfl) (by kernel_rfl) (by kernel_rfl) (by kernel_rfl) (by intro _ _ _ h; exact h) (Or.inl ⟨by kernel_rfl, by intro w hSw; go_simp⟩) (by assumption) ?_
      simp only [Act.put, List.setIfInBounds_toArray, List.set_cons_zero, List.set_cons_succ, List.toList_toArray]
      refine wpAnyH_take (i := 7) (v := .bool false) (by simp only [List.getElem?_toArray, List.getElem?_cons_succ, List.getElem?_cons_zero]; exact rfl) (by kernel_rfl) (by kernel_rfl) (by kernel_rfl) (by intro _ _ _ h; exact h) (Or.inl ⟨by kernel_rfl, by intro w hSw; go_simp⟩) (by assumption) ?_
      simp only [Act.put, List.setIfInBounds_toArray, List.set_cons_zero, List.set_cons_succ, List.toList_toArray]
      refine wpAnyH_take (i := 8) (v := undef) (by simp only [List.getElem?_toArray, List.getElem?_cons_succ, List.getElem?_cons_zero]; exact rfl) (by kernel_rfl) (by kernel_rfl) (by kernel_rfl) (by intro _ _ _ h; exact h) (Or.inr ⟨by kernel_rfl, rfl⟩) (by assumption) ?_
      simp only [Act.put, List.setIfInBounds_toArray, List.set_cons_zero, List.set_cons_succ, List.toList_toArray]
      refine wpAnyH_take (i := 9) (v := undef) (by simp only [List.getElem?_toArray, List.getElem?_cons_succ, List.getElem?_cons_zero]; exact rfl) (by kernel_rfl) (by kernel_rfl) (by kernel_rfl) (by intro _ _ _ h; exact h) (Or.inr ⟨by kernel_rfl, rfl⟩) (by assumption) ?_
      simp only [Act.put, List.setIfInBounds_toArray, List.set_cons_zero, List.set_cons_succ, List.toList_toArray]
      refine wpAnyH_take (i := 10) (v := undef) (by simp only [List.getElem?_toArray, List.getElem?_cons_succ, List.getElem?_cons_zero]; exact rfl) (by kernel_rfl) (by kernel_rfl) (by kernel_rfl) (by intro _ _ _ h; exact h) (Or.inr ⟨by kernel_rfl, rfl⟩) (by assumption) ?_
      simp only [Act.put, List.setIfInBounds_toArray, List.set_cons_zero, List.set_cons_succ, List.toList_toArray]
      refine wpAnyH_take (i := 11) (v := .bool false) (by simp only [List.getElem?_toArray, List.getElem?_cons_succ, List.getElem?_cons_zero]; exact rfl) (by kernel_rfl) (by kernel_rfl) (by kernel_rfl) (by intro _ _ _ h; exact h) (Or.inl ⟨by kernel_rfl, by intro w hSw; go_simp⟩) (by assumption) ?_
      simp only [Act.put, List.setIfInBounds_toArray, List.set_cons_zero, List.set_cons_succ, List.toList_toArray]
      obtain ⟨⟨c6, hc6, hz6⟩, ⟨c7, hc7, hz7⟩, hD, hX, hA⟩ := hH5
      refine wpAnyH_ready (rs := [12]) (by kernel_rfl) (by simp) ?_
      refine AllReadyH.cons (o := _) (by simp only [List.getElem?_toArray, List.getElem?_cons_succ, List.getElem?_cons_zero]; exact rfl) (fun K hK => ?_) AllReadyH.nil
      rw [if_pos (by rfl)]
      refine oper_store_row 41 (.tmp 6) (.tmp 20) rfl w.heap.size rfl (arr (dg L)) rfl 41 _ hc6 hi16 (by rw [hz6, arr_size, dg_len]) (arr_one _) ?_
      refine hK.out _ _ ⟨⟨_, hc6.row, by rw [arr_size, dg_len]⟩, ⟨c7, hc7.rowOff (by omega), hz7⟩, hD.rowOff (by omega), hX.rowOff (by omega), below_setRow' hA (Nat.le_refl _) _⟩ (fun hF1 => ?_)
      clear hK K
      try simp only [Act.put, List.setIfInBounds_toArray, List.set_cons_zero, List.set_cons_succ, List.toList_toArray]
      refine wpAnyH_ready (rs := [13]) (by kernel_rfl) (by simp) ?_
      refine AllReadyH.cons (o := _) (by simp only [List.getElem?_toArray, List.getElem?_cons_succ, List.getElem?_cons_zero]; exact rfl) (fun K hK => ?_) AllReadyH.nil
      rw [if_pos (by rfl)]
      refine oper_store_row 43 (.tmp 7) (.tmp 21) rfl (w.heap.size + 1) rfl #[.int .i64 a, .int .i64 b] rfl 43 _ (hc7.rowOff (by omega)) T_box (by rw [hz7]; rfl) (two_oneB _ _) ?_
      refine hK.out _ _ ⟨⟨_, (hc6.row (vs := arr (dg L))).rowOff (by omega), by rw [arr_size, dg_len]⟩, ⟨_, (hc7.rowOff (by omega)).row, rfl⟩, (hD.rowOff (by omega)).rowOff (by omega), (hX.rowOff (by omega)).rowOff (by omega), below_setRow' (below_setRow' hA (Nat.le_refl _) _) (by omega) _⟩ (fun hF2 => ?_)
      clear hK K
      try simp only [Act.put, List.setIfInBounds_toArray, List.set_cons_zero, List.set_cons_succ, List.toList_toArray]
      refine wpAnyH_take (i := 14) (v := .bool false) (by simp only [List.getElem?_toArray, List.getElem?_cons_succ, List.getElem?_cons_zero]; exact rfl) (by kernel_rfl) (by kernel_rfl) (by kernel_rfl) (by intro _ _ _ h; exact h) (Or.inl ⟨by kernel_rfl, by intro w hSw; go_simp⟩) (by assumption) ?_
      simp only [Act.put, List.setIfInBounds_toArray, List.set_cons_zero, List.set_cons_succ, List.toList_toArray]
      refine wpAnyH_done (by kernel_rfl) ?_ _
      try simp only [Act.put, List.setIfInBounds_toArray, List.set_cons_zero, List.set_cons_succ]
      go_wp2_with fail
      refine bodyPost_ret (results_2blk2_tmp rfl _ _ w.heap.size (w.heap.size + 1) 41 43 (arr (dg L)) #[.int .i64 a, .int .i64 b] _ _ rfl rfl ((hc6.row (vs := arr (dg L))).rowOff (by omega)) ((hc7.rowOff (by omega)).row) hu rfl huB rfl hi16 T_box) rfl ?_
      rw [HR.out]
      exact ⟨rfl, hF2.2.2.2.2⟩
    | true =>
      obtain ⟨q, hq⟩ : ∃ q, q = decide ((L.length : Int) ≤ a ∧ L.headD 0 ≤ b) := ⟨_, rfl⟩
      have HR : Hid (inbF L a b = q) := Lib.hid (by unfold inbF; rw [← HV.out, hlim, hq]; rfl)
      have HQ := Lib.hid hq
      have HLI := Lib.hid hlim
      have HVL : Hid (valid L = true) := Lib.hid HV.out.symm
      have HDG := Lib.hid (dg_yes HV.out.symm)
      clear hlim hq
      have hS0 := HS0.out
      refine wp_region_held_drew (S := fun w' => (∃ c6, Blk w' w.heap.size 41 c6 ∧ c6.size = 16) ∧ (∃ c7, Blk w' (w.heap.size + 1) 43 c7 ∧ c7.size = 2) ∧ Blk w' w1.heap.size 41 (arr (dg L)) ∧ Blk w' (w1.heap.size + 1) 43 #[.int .i64 a, .int .i64 b] ∧ Below w.heap.size w w') (by kernel_rfl) hS0 (fun hHeld => ?_)
      refine wpAnyH_take (i := 0) (v := _) (by simp only [List.getElem?_toArray, List.getElem?_cons_succ, List.getElem?_cons_zero]; exact rfl) (by kernel_rfl) (by kernel_rfl) (by kernel_rfl) (by intro _ _ _ h; exact h) (yieldsIf_load_mid (by kernel_rfl) _ _ rfl w1.heap.size 0 rfl (ints (dg L)) _ (fun _ hw => Blk.rangeB (vs := ints (dg L)) hw.2.2.1) hu rfl hiL) (by assumption) ?_
      simp only [Act.put, List.setIfInBounds_toArray, List.set_cons_zero, List.set_cons_succ, List.toList_toArray]
      refine wpAnyH_take (i := 1) (v := _) (by simp only [List.getElem?_toArray, List.getElem?_cons_succ, List.getElem?_cons_zero]; exact rfl) (by kernel_rfl) (by kernel_rfl) (by kernel_rfl) (by intro _ _ _ h; exact h) (yieldsIf_load_mid (by kernel_rfl) _ _ rfl (w1.heap.size + 1) 0 rfl [.int .i64 a, .int .i64 b] _ (fun _ hw => Blk.rangeB (vs := [.int .i64 a, .int .i64 b]) hw.2.2.2.1) huB rfl hiB) (by assumption) ?_
      simp only [Act.put, List.setIfInBounds_toArray, List.set_cons_zero, List.set_cons_succ, List.toList_toArray]
      refine wpAnyH_take (i := 2) (v := .bool true) (by simp only [List.getElem?_toArray, List.getElem?_cons_succ, List.getElem?_cons_zero]; exact rfl) (by kernel_rfl) (by kernel_rfl) (by kernel_rfl) (by intro _ _ _ h; exact h) (Or.inl ⟨by kernel_rfl, by intro w hSw; go_simp⟩) (by assumption) ?_
      simp only [Act.put, List.setIfInBounds_toArray, List.set_cons_zero, List.set_cons_succ, List.toList_toArray]
      refine wpAnyH_take (i := 3) (v := .bool true) (by simp only [List.getElem?_toArray, List.getElem?_cons_succ, List.getElem?_cons_zero]; exact rfl) (by kernel_rfl) (by kernel_rfl) (by kernel_rfl) (by intro _ _ _ h; exact h) (Or.inl ⟨by kernel_rfl, by intro w hSw; go_simp⟩) (by assumption) ?_
      simp only [Act.put, List.setIfInBounds_toArray, List.set_cons_zero, List.set_cons_succ, List.toList_toArray]
      refine wpAnyH_take (i := 4) (v := _) (by simp only [List.getElem?_toArray, List.getElem?_cons_succ, List.getElem?_cons_zero]; exact rfl) (by kernel_rfl) (by kernel_rfl) (by kernel_rfl) (by intro _ _ _ h; exact h) (yieldsIf_load_mid (by kernel_rfl) _ _ rfl (w1.heap.size + 1) 0 rfl [.int .i64 a, .int .i64 b] _ (fun _ hw => Blk.rangeB (vs := [.int .i64 a, .int .i64 b]) hw.2.2.2.1) huB rfl hiB) (by assumption) ?_
      simp only [Act.put, List.setIfInBounds_toArray, List.set_cons_zero, List.set_cons_succ, List.toList_toArray]
      refine wpAnyH_ready (rs := [5]) (by kernel_rfl) (by simp) ?_
      refine AllReadyH.cons (o := _) (by simp only [List.getElem?_toArray, List.getElem?_cons_succ, List.getElem?_cons_zero]; exact rfl) (fun K hK => ?_) AllReadyH.nil
      rw [if_pos (by rfl)]
      go_simp
      go_at_call 71
      refine (isInLimits_any a b _).mono ?_
      rintro e w5 ⟨rfl, hb5⟩
      rw [HLI.out]
      refine hK.out _ _ (keepS hHeld hb5) (fun hH5 => ?_)
      clear hK K
      try simp only [Act.put, List.setIfInBounds_toArray, List.set_cons_zero, List.set_cons_succ, List.toList_toArray]
      refine wpAnyH_take (i := 6) (v := .bool true) (by simp only [List.getElem?_toArray, List.getElem?_cons_succ, List.getElem?_cons_zero]; exact rfl) (by kernel_rfl) (by kernel_rfl) (by kernel_rfl) (by intro _ _ _ h; exact h) (Or.inl ⟨by kernel_rfl, by intro w hSw; go_simp⟩) (by assumption) ?_
      simp only [Act.put, List.setIfInBounds_toArray, List.set_cons_zero, List.set_cons_succ, List.toList_toArray]
      refine wpAnyH_take (i := 7) (v := .bool true) (by simp only [List.getElem?_toArray, List.getElem?_cons_succ, List.getElem?_cons_zero]; exact rfl) (by kernel_rfl) (by kernel_rfl) (by kernel_rfl) (by intro _ _ _ h; exact h) (Or.inl ⟨by kernel_rfl, by intro w hSw; go_simp⟩) (by assumption) ?_
      simp only [Act.put, List.setIfInBounds_toArray, List.set_cons_zero, List.set_cons_succ, List.toList_toArray]
      refine wpAnyH_take (i := 8) (v := _) (by simp only [List.getElem?_toArray, List.getElem?_cons_succ, List.getElem?_cons_zero]; exact rfl) (by kernel_rfl) (by kernel_rfl) (by kernel_rfl) (by intro _ _ _ h; exact h) (yieldsIf_load_mid (by kernel_rfl) _ _ rfl (w1.heap.size + 1) 0 rfl [.int .i64 a, .int .i64 b] _ (fun _ hw => Blk.rangeB (vs := [.int .i64 a, .int .i64 b]) hw.2.2.2.1) huB rfl hiB) (by assumption) ?_
      simp only [Act.put, List.setIfInBounds_toArray, List.set_cons_zero, List.set_cons_succ, List.toList_toArray]
      refine wpAnyH_take (i := 9) (v := .agg (arr (pad L))) (by simp only [List.getElem?_toArray, List.getElem?_cons_succ, List.getElem?_cons_zero]; exact rfl) (by kernel_rfl) (by kernel_rfl) (by kernel_rfl) (by intro _ _ _ h; exact h) (by rw [← HDG.out]; exact yieldsIf_load_mid (by kernel_rfl) _ _ rfl w1.heap.size 0 rfl (ints (dg L)) _ (fun _ hw => Blk.rangeB (vs := ints (dg L)) hw.2.2.1) hu rfl hiL) (by assumption) ?_
      simp only [Act.put, List.setIfInBounds_toArray, List.set_cons_zero, List.set_cons_succ, List.toList_toArray]
      refine wpAnyH_ready (rs := [10]) (by kernel_rfl) (by simp) ?_
      refine AllReadyH.cons (o := _) (by simp only [List.getElem?_toArray, List.getElem?_cons_succ, List.getElem?_cons_zero]; exact rfl) (fun K hK => ?_) AllReadyH.nil
      rw [if_pos (by rfl)]
      go_simp
      go_at_call 72
      refine (holds_any a b L HVL.out _).mono ?_
      rintro e w6 ⟨rfl, hb6⟩
      rw [← HQ.out]
      refine hK.out _ _ (keepS hH5 hb6) (fun hH6 => ?_)
      clear hK K
      try simp only [Act.put, List.setIfInBounds_toArray, List.set_cons_zero, List.set_cons_succ, List.toList_toArray]
      refine wpAnyH_take (i := 11) (v := .bool q) (by simp only [List.getElem?_toArray, List.getElem?_cons_succ, List.getElem?_cons_zero]; exact rfl) (by kernel_rfl) (by kernel_rfl) (by kernel_rfl) (by intro _ _ _ h; exact h) (Or.inl ⟨by kernel_rfl, by intro w hSw; go_simp⟩) (by assumption) ?_
      simp only [Act.put, List.setIfInBounds_toArray, List.set_cons_zero, List.set_cons_succ, List.toList_toArray]
      obtain ⟨⟨c6, hc6, hz6⟩, ⟨c7, hc7, hz7⟩, hD, hX, hA⟩ := hH6
      refine wpAnyH_ready (rs := [12]) (by kernel_rfl) (by simp) ?_
      refine AllReadyH.cons (o := _) (by simp only [List.getElem?_toArray, List.getElem?_cons_succ, List.getElem?_cons_zero]; exact rfl) (fun K hK => ?_) AllReadyH.nil
      rw [if_pos (by rfl)]
      refine oper_store_row 41 (.tmp 6) (.tmp 20) rfl w.heap.size rfl (arr (dg L)) rfl 41 _ hc6 hi16 (by rw [hz6, arr_size, dg_len]) (arr_one _) ?_
      refine hK.out _ _ ⟨⟨_, hc6.row, by rw [arr_size, dg_len]⟩, ⟨c7, hc7.rowOff (by omega), hz7⟩, hD.rowOff (by omega), hX.rowOff (by omega), below_setRow' hA (Nat.le_refl _) _⟩ (fun hF1 => ?_)
      clear hK K
      try simp only [Act.put, List.setIfInBounds_toArray, List.set_cons_zero, List.set_cons_succ, List.toList_toArray]
      refine wpAnyH_ready (rs := [13]) (by kernel_rfl) (by simp) ?_
      refine AllReadyH.cons (o := _) (by simp only [List.getElem?_toArray, List.getElem?_cons_succ, List.getElem?_cons_zero]; exact rfl) (fun K hK => ?_) AllReadyH.nil
      rw [if_pos (by rfl)]
      refine oper_store_row 43 (.tmp 7) (.tmp 21) rfl (w.heap.size + 1) rfl #[.int .i64 a, .int .i64 b] rfl 43 _ (hc7.rowOff (by omega)) T_box (by rw [hz7]; rfl) (two_oneB _ _) ?_
      refine hK.out _ _ ⟨⟨_, (hc6.row (vs := arr (dg L))).rowOff (by omega), by rw [arr_size, dg_len]⟩, ⟨_, (hc7.rowOff (by omega)).row, rfl⟩, (hD.rowOff (by omega)).rowOff (by omega), (hX.rowOff (by omega)).rowOff (by omega), below_setRow' (below_setRow' hA (Nat.le_refl _) _) (by omega) _⟩ (fun hF2 => ?_)
      clear hK K
      try simp only [Act.put, List.setIfInBounds_toArray, List.set_cons_zero, List.set_cons_succ, List.toList_toArray]
      refine wpAnyH_take (i := 14) (v := .bool q) (by simp only [List.getElem?_toArray, List.getElem?_cons_succ, List.getElem?_cons_zero]; exact rfl) (by kernel_rfl) (by kernel_rfl) (by kernel_rfl) (by intro _ _ _ h; exact h) (Or.inl ⟨by kernel_rfl, by intro w hSw; go_simp⟩) (by assumption) ?_
      simp only [Act.put, List.setIfInBounds_toArray, List.set_cons_zero, List.set_cons_succ, List.toList_toArray]
      refine wpAnyH_done (by kernel_rfl) ?_ _
      try simp only [Act.put, List.setIfInBounds_toArray, List.set_cons_zero, List.set_cons_succ]
      go_wp2_with fail
      refine bodyPost_ret (results_2blk2_tmp rfl _ _ w.heap.size (w.heap.size + 1) 41 43 (arr (dg L)) #[.int .i64 a, .int .i64 b] _ _ rfl rfl ((hc6.row (vs := arr (dg L))).rowOff (by omega)) ((hc7.rowOff (by omega)).row) hu rfl huB rfl hi16 T_box) rfl ?_
      rw [HR.out]
      exact ⟨rfl, hF2.2.2.2.2⟩
theorem iInBox_any (p : Option Addr) (c B : Nat) (L : List Int) (a b : Int) (w : World) (h : Rd w B p (ints L)) (hB : B ≤ w.heap.size) (hl : L.length ≤ 4611686018427387904) :
    Calls Try.prog 15 #[.slice p L.length c, .int .i64 a, .int .i64 b] w fun e w' => e = .returned (.bool (inbF L a b)) ∧ Below w.heap.size w w' := by
  have hi16 : (Try.prog.info? 41).map (·.size) = some (arr (dg L)).size := by rw [arr_size, dg_len]; exact T_info35
  have hsz : (arr (dg L)).size = (arr (List.replicate 16 0)).size := by rw [arr_size, arr_size, dg_len]; rfl
  go_enter Try.func15, Try.ntmps15
  go_wp2_with (first
    | (go_at_call 43; refine (partsInBox_any _ _ B L a b _ h hB hl).mono ?_; rintro e w1 ⟨rfl, hb1⟩; have hz1 := hb1.size; have hd0 := (Blk.new w1 41 (arr (List.replicate 16 0))).alloc (.cells #[.int .i64 0, .int .i64 0] 43); have hx0 := Blk.new (w1.alloc (.cells (arr (List.replicate 16 0)) 41)) 43 #[Value.int .i64 0, Value.int .i64 0]; rw [World.size_alloc] at hx0; have hA := (hb1.alloc hz1 (.cells (arr (List.replicate 16 0)) 41)).alloc (by simp; omega) (.cells #[.int .i64 0, .int .i64 0] 43))
    | (refine wpList_store_row rfl 41 (.tmp 7) (.tmp 15) rfl w1.heap.size rfl (arr (dg L)) rfl 41 (arr (List.replicate 16 0)) hd0 hi16 hsz (arr_one _) ?_)
    | (refine wpList_store_row rfl 43 (.tmp 8) (.tmp 16) rfl (w1.heap.size + 1) rfl #[.int .i64 a, .int .i64 b] rfl 43 _ (hx0.rowOff (by omega)) T_box rfl (two_oneB _ _) ?_))
  go_ret
  exact ⟨rfl, below_setRow' (below_setRow' hA (by omega) _) (by omega) _⟩
end Go.Proofs.Ytgbkaahmmpgjfaa
