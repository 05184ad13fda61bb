/-
  Walks of the program: two diagrams at once: of any parts, of parts that fit, of parts with one sum.
-/
import Derived.Test.YtnheolhgdinjgaaW44
namespace Go.Proofs.Ytnheolhgdinjgaa
open Go.RowKit NP
set_option maxRecDepth 8000
set_option linter.unusedVariables false
set_option linter.unusedSimpArgs false

theorem results_2cells_tmp {P : Program} {fn : Func} {p1 p2 q : Tmp} {ty : TypeId} (h : fn.results = #[.cell p1 ty, .cell p2 ty, .tmp q]) (tmps : Array Value) (w : World) (g1 g2 : Nat) (c1 c2 : List Value) (d : TypeDesc)
    (hp1 : tmps.getD p1 undef = .pointer (some ⟨g1, 0, none⟩)) (hp2 : tmps.getD p2 undef = .pointer (some ⟨g2, 0, none⟩)) (h1 : w.rangeAt g1 0 c1) (h2 : w.rangeAt g2 0 c2)
    (hu : P.underlying ty = some d) (hd : d.isRow = true) (hi1 : (P.info? ty).map (·.size) = some c1.length) (hi2 : (P.info? ty).map (·.size) = some c2.length) :
    (results fn tmps).run P w = .ok (.tuple #[.agg c1.toArray, .agg c2.toArray, tmps.getD q undef]) w := by
  have hp1' : tmps[p1]?.getD undef = .pointer (some ⟨g1, 0, none⟩) := by simpa using hp1
  have hp2' : tmps[p2]?.getD undef = .pointer (some ⟨g2, 0, none⟩) := by simpa using hp2
  simp [results, h, hp1', hp2', asAddr, run_loadVar_mid w g1 0 ty c1 d h1 hu hd hi1, run_loadVar_mid w g2 0 ty c2 d h2 hu hd hi2]
theorem Blk.there {w : World} {g : Nat} {t : TypeId} {cs : Array Value} (h : Blk w g t cs) : w.there g 0 cs.size := fun j hj => by
  rw [Nat.zero_add, h.cell j]
  exact ⟨by simp [hj], h.free j⟩
theorem there_below {w w' : World} {b o n : Nat} (h : w.there b o n) (hb : Below w.heap.size w w') : w'.there b o n := fun j hj => by
  obtain ⟨h1, h2⟩ := h j hj
  obtain ⟨v, hv⟩ := Option.isSome_iff_exists.1 h1
  have hlt := World.block_lt_of_cell? w _ hv
  exact ⟨by rw [hb.cell (p := ⟨b, o + j, none⟩) hlt]; exact h1, by rw [hb.frozen (p := ⟨b, o + j, none⟩) hlt]; exact h2⟩
theorem below_setCells {B b : Nat} (hb : B ≤ b) : ∀ (vs : List Value) (o : Nat) (w0 w : World), Below B w0 w → Below B w0 (w.setCells b o vs)
  | [], _, _, _, h => h
  | v :: r, o, w0, w, h => by
    rw [World.setCells]
    exact below_setCells hb r (o + 1) w0 _ (h.setCell (by show B ≤ b; exact hb) v)
theorem two_rows (w1 : World) (t : TypeId) (Z X Y : Array Value) : Blk ((((w1.alloc (.cells Z t)).alloc (.cells Z t)).setRow w1.heap.size X).setRow (w1.heap.size + 1) Y) w1.heap.size t X ∧ Blk ((((w1.alloc (.cells Z t)).alloc (.cells Z t)).setRow w1.heap.size X).setRow (w1.heap.size + 1) Y) (w1.heap.size + 1) t Y ∧ Below w1.heap.size w1 ((((w1.alloc (.cells Z t)).alloc (.cells Z t)).setRow w1.heap.size X).setRow (w1.heap.size + 1) Y) := by
  have a1 : Blk (w1.alloc (.cells Z t)) w1.heap.size t Z := Blk.new w1 t Z
  have a2 := Blk.new (w1.alloc (.cells Z t)) t Z
  rw [World.size_alloc] at a2
  exact ⟨((a1.alloc _).row).rowOff (by omega), ((a2.rowOff (by omega)).row), below_setRow' (below_setRow' (((Below.refl _ _).alloc (Nat.le_refl _) _).alloc (by simp) _) (Nat.le_refl _) _) (by omega) _⟩
theorem first_row (w1 : World) (t : TypeId) (Z X : Array Value) : Blk (((w1.alloc (.cells Z t)).alloc (.cells Z t)).setRow w1.heap.size X) (w1.heap.size + 1) t Z := by
  have a2 := Blk.new (w1.alloc (.cells Z t)) t Z
  rw [World.size_alloc] at a2
  exact a2.rowOff (by omega)
theorem dg_fits {L : List Int} (h : valid L = true) : sumFits (dg L) := by rw [dg_yes h]; exact pad_fits h
theorem dg_sum {L : List Int} (h : valid L = true) : sumL (dg L) = sumL L := by rw [dg_yes h, sumL_pad]

set_option maxHeartbeats 4000000 in
theorem twoDiagrams_any (a b : Option Addr) (ca cb Ba Bb : Nat) (P Q : List Int) (w : World) (h : Rd w Ba a (ints P)) (hq : Rd w Bb b (ints Q)) (hBa : Ba ≤ w.heap.size) (hBb : Bb ≤ w.heap.size) (hl : P.length ≤ 4611686018427387904) (hlq : Q.length ≤ 4611686018427387904) :
    Calls Try.prog 50 #[.slice a P.length ca, .slice b Q.length cb] w fun e w' => e = .returned (.tuple #[.agg (arr (dg P)), .agg (arr (dg Q)), .bool (valid P && valid Q)]) ∧ Below w.heap.size w w' := by
  have hiP : (Try.prog.info? 36).map (·.size) = some (arr (dg P)).size := by rw [arr_size, dg_len]; exact T_info35
  have hszP : (arr (dg P)).size = (arr (List.replicate 16 0)).size := by rw [arr_size, arr_size, dg_len]; rfl
  have hiQ : (Try.prog.info? 36).map (·.size) = some (arr (dg Q)).size := by rw [arr_size, dg_len]; exact T_info35
  have hszQ : (arr (dg Q)).size = (arr (List.replicate 16 0)).size := by rw [arr_size, arr_size, dg_len]; rfl
  have hiP' := info_diag (dg P) (dg_len P)
  have hiQ' := info_diag (dg Q) (dg_len Q)
  have hu := Try.underlying36
  have hlP : (ints (dg P)).length = 16 := by rw [List.length_map, dg_len]
  have hlQ : (ints (dg Q)).length = 16 := by rw [List.length_map, dg_len]
  have h1P := ints_one (dg P)
  have h1Q := ints_one (dg Q)
  have hzP : (ints (dg P)).toArray.size = 16 := by rw [List.size_toArray]; exact hlP
  have hzQ : (ints (dg Q)).toArray.size = 16 := by rw [List.size_toArray]; exact hlQ
  obtain ⟨wA, hwA⟩ : ∃ wA, wA = (w.alloc (.cells (#[.int .i64 0, .int .i64 0, .int .i64 0, .int .i64 0, .int .i64 0, .int .i64 0, .int .i64 0, .int .i64 0, .int .i64 0, .int .i64 0, .int .i64 0, .int .i64 0, .int .i64 0, .int .i64 0, .int .i64 0, .int .i64 0]) 36)).alloc (.cells (#[.int .i64 0, .int .i64 0, .int .i64 0, .int .i64 0, .int .i64 0, .int .i64 0, .int .i64 0, .int .i64 0, .int .i64 0, .int .i64 0, .int .i64 0, .int .i64 0, .int .i64 0, .int .i64 0, .int .i64 0, .int .i64 0]) 36) := ⟨_, rfl⟩
  have hA4 : wA.there w.heap.size 0 16 := by rw [hwA]; exact World.there_alloc (Blk.new w 36 (arr (List.replicate 16 0))).there _
  have hA5 : wA.there (w.heap.size + 1) 0 16 := by
    rw [hwA]
    have e := (Blk.new (w.alloc (.cells (arr (List.replicate 16 0)) 36)) 36 (arr (List.replicate 16 0))).there
    rw [World.size_alloc] at e
    exact e
  have hAb : Below w.heap.size w wA := by rw [hwA]; exact ((Below.refl _ _).alloc (Nat.le_refl _) _).alloc (by simp) _
  have hAs : wA.heap.size = w.heap.size + 2 := by rw [hwA]; simp
  go_enter Try.func50, Try.ntmps50
  go_wp2_with fail
  rw [← hwA]
  clear hwA
  refine (diagramOf_any _ _ w.heap.size P _ ((h.more hBa).below hAb) hAb.size hl).mono ?_
  rintro e w1 ⟨rfl, hb1⟩
  have h4 := there_below hA4 hb1
  have h5 := there_below hA5 hb1
  have hb1' := hAb.trans (hb1.mono hAb.size)
  have hs1 : w.heap.size + 2 ≤ w1.heap.size := by have := hb1.size; omega
  have hR := (hq.more hBb).below hb1'
  clear hA4 hA5 hAb hAs hb1 h hq hl
  go_wp2_with (refine wpList_store_row rfl 36 (.tmp 7) (.tmp 14) rfl w1.heap.size rfl (arr (dg P)) rfl 36 (arr (List.replicate 16 0)) (Blk.new w1 _ _) hiP hszP (arr_one _) ?_)
  have hB7 := (Blk.new w1 36 (arr (List.replicate 16 0))).row (vs := arr (dg P))
  have hbel2 : Below w1.heap.size w1 ((w1.alloc (.cells (arr (List.replicate 16 0)) 36)).setRow w1.heap.size (arr (dg P))) := below_setRow' ((Below.refl _ _).alloc (Nat.le_refl _) _) (Nat.le_refl _) _
  obtain ⟨w2, hw2⟩ : ∃ w2, w2 = (w1.alloc (.cells (#[.int .i64 0, .int .i64 0, .int .i64 0, .int .i64 0, .int .i64 0, .int .i64 0, .int .i64 0, .int .i64 0, .int .i64 0, .int .i64 0, .int .i64 0, .int .i64 0, .int .i64 0, .int .i64 0, .int .i64 0, .int .i64 0]) 36)).setRow w1.heap.size (arr (dg P)) := ⟨_, rfl⟩
  rw [← hw2]
  replace hB7 : Blk w2 w1.heap.size 36 (arr (dg P)) := hw2 ▸ hB7
  replace hbel2 : Below w1.heap.size w1 w2 := hw2 ▸ hbel2
  clear hw2
  replace h4 := there_below h4 hbel2
  replace h5 := there_below h5 hbel2
  have hb2' := hb1'.trans (hbel2.mono hb1'.size)
  have hs2 := hB7.lt
  refine (diagramOf_any _ _ w.heap.size Q _ (hR.below (hbel2.mono hb1'.size)) hb2'.size hlq).mono ?_
  rintro e w3 ⟨rfl, hb3⟩
  replace h4 := there_below h4 hb3
  replace h5 := there_below h5 hb3
  have hB7' := hB7.below hb3 hB7.lt
  have hb3' := hb2'.trans (hb3.mono hb2'.size)
  have hs3 := hb3.size
  clear hR hB7 hb3 hb2' hb1' hbel2 hlq
  go_wp2_with (refine wpList_store_row rfl 36 (.tmp 9) (.tmp 19) rfl w3.heap.size rfl (arr (dg Q)) rfl 36 (arr (List.replicate 16 0)) (Blk.new w3 _ _) hiQ hszQ (arr_one _) ?_)
  have hB9 := (Blk.new w3 36 (arr (List.replicate 16 0))).row (vs := arr (dg Q))
  have hbel4 : Below w3.heap.size w3 ((w3.alloc (.cells (arr (List.replicate 16 0)) 36)).setRow w3.heap.size (arr (dg Q))) := below_setRow' ((Below.refl _ _).alloc (Nat.le_refl _) _) (Nat.le_refl _) _
  obtain ⟨w4, hw4⟩ : ∃ w4, w4 = (w3.alloc (.cells (#[.int .i64 0, .int .i64 0, .int .i64 0, .int .i64 0, .int .i64 0, .int .i64 0, .int .i64 0, .int .i64 0, .int .i64 0, .int .i64 0, .int .i64 0, .int .i64 0, .int .i64 0, .int .i64 0, .int .i64 0, .int .i64 0]) 36)).setRow w3.heap.size (arr (dg Q)) := ⟨_, rfl⟩
  rw [← hw4]
  replace hB9 : Blk w4 w3.heap.size 36 (arr (dg Q)) := hw4 ▸ hB9
  replace hbel4 : Below w3.heap.size w3 w4 := hw4 ▸ hbel4
  clear hw4
  replace h4 := there_below h4 hbel4
  replace h5 := there_below h5 hbel4
  have hr7 : w4.rangeAt w1.heap.size 0 (ints (dg P)) := Blk.range (hB7'.below hbel4 hB7'.lt)
  have hr9 : w4.rangeAt w3.heap.size 0 (ints (dg Q)) := Blk.range hB9
  have hb4' := hb3'.trans (hbel4.mono hb3'.size)
  have n1 : w1.heap.size ≠ w.heap.size := by omega
  have n2 : w1.heap.size ≠ w.heap.size + 1 := by omega
  have n3 : w3.heap.size ≠ w.heap.size := by omega
  have n4 : w3.heap.size ≠ w.heap.size + 1 := by omega
  clear hB7' hB9 hb3' hbel4
  cases hvP : valid P with
  | false =>
    have HTW : Hid ((valid P && valid Q) = false) := Lib.hid (by rw [hvP]; rfl)
    clear hvP
    refine wp_region_held_drew (S := (fun w' => w'.rangeAt w1.heap.size 0 (ints (dg P)) ∧ w'.rangeAt w3.heap.size 0 (ints (dg Q)) ∧ w'.there w.heap.size 0 16 ∧ w'.there (w.heap.size + 1) 0 16 ∧ Below w.heap.size w w')) (by kernel_rfl) ⟨hr7, hr9, h4, h5, hb4'.trans ((Dr.n w4 1).below _)⟩ (fun hHeld => ?_)
    refine wpAnyH_take (i := 0) (v := _) (by simp only [List.getElem?_toArray, List.getElem?_cons_succ, List.getElem?_cons_zero]; exact rfl) (by kernel_rfl) (by kernel_rfl) (by kernel_rfl) (by intro _ _ _ h; exact h) (yieldsIf_load_mid (by kernel_rfl) _ _ rfl w1.heap.size 0 rfl (ints (dg P)) _ (fun _ hw => hw.1) hu rfl hiP') (by assumption) ?_
    simp only [Act.put, List.setIfInBounds_toArray, List.set_cons_zero, List.set_cons_succ, List.toList_toArray]
    refine wpAnyH_take (i := 1) (v := _) (by simp only [List.getElem?_toArray, List.getElem?_cons_succ, List.getElem?_cons_zero]; exact rfl) (by kernel_rfl) (by kernel_rfl) (by kernel_rfl) (by intro _ _ _ h; exact h) (yieldsIf_load_mid (by kernel_rfl) _ _ rfl w3.heap.size 0 rfl (ints (dg Q)) _ (fun _ hw => hw.2.1) hu rfl hiQ') (by assumption) ?_
    simp only [Act.put, List.setIfInBounds_toArray, List.set_cons_zero, List.set_cons_succ, List.toList_toArray]
    refine wpAnyH_take (i := 2) (v := (.bool false)) (by simp only [List.getElem?_toArray, List.getElem?_cons_succ, List.getElem?_cons_zero]; exact rfl) (by kernel_rfl) (by kernel_rfl) (by kernel_rfl) (by intro _ _ _ h; exact h) (Or.inl ⟨by kernel_rfl, by intro w hSw; go_simp⟩) (by assumption) ?_
    simp only [Act.put, List.setIfInBounds_toArray, List.set_cons_zero, List.set_cons_succ, List.toList_toArray]
    refine wpAnyH_take (i := 3) (v := (.bool false)) (by simp only [List.getElem?_toArray, List.getElem?_cons_succ, List.getElem?_cons_zero]; exact rfl) (by kernel_rfl) (by kernel_rfl) (by kernel_rfl) (by intro _ _ _ h; exact h) (Or.inl ⟨by kernel_rfl, by intro w hSw; go_simp⟩) (by assumption) ?_
    simp only [Act.put, List.setIfInBounds_toArray, List.set_cons_zero, List.set_cons_succ, List.toList_toArray]
    refine wpAnyH_take (i := 4) (v := undef) (by simp only [List.getElem?_toArray, List.getElem?_cons_succ, List.getElem?_cons_zero]; exact rfl) (by kernel_rfl) (by kernel_rfl) (by kernel_rfl) (by intro _ _ _ h; exact h) (Or.inr ⟨by kernel_rfl, rfl⟩) (by assumption) ?_
    simp only [Act.put, List.setIfInBounds_toArray, List.set_cons_zero, List.set_cons_succ, List.toList_toArray]
    refine wpAnyH_take (i := 5) (v := (.bool false)) (by simp only [List.getElem?_toArray, List.getElem?_cons_succ, List.getElem?_cons_zero]; exact rfl) (by kernel_rfl) (by kernel_rfl) (by kernel_rfl) (by intro _ _ _ h; exact h) (Or.inl ⟨by kernel_rfl, by intro w hSw; go_simp⟩) (by assumption) ?_
    simp only [Act.put, List.setIfInBounds_toArray, List.set_cons_zero, List.set_cons_succ, List.toList_toArray]
    refine wpAnyH_ready (rs := [6]) (by kernel_rfl) (by simp) ?_
    refine AllReadyH.cons (o := _) (by simp only [List.getElem?_toArray, List.getElem?_cons_succ, List.getElem?_cons_zero]; exact rfl) (fun K hK => ?_) AllReadyH.nil
    rw [if_pos (by rfl)]
    refine wp_store_mid _ _ _ rfl w.heap.size 0 (ints (dg P)).toArray rfl rfl (by rw [hzP]; exact hHeld.2.2.1) (by rw [hzP]; exact T_info35) (all_oneCell_toArray h1P) ?_
    simp only [Act.put, List.setIfInBounds_toArray, List.set_cons_zero, List.set_cons_succ, List.toList_toArray]
    refine hK.out _ _ ⟨World.rangeAt_setCells_apart hHeld.1 _ _ _ (.inl n1), World.rangeAt_setCells_apart hHeld.2.1 _ _ _ (.inl n3), World.there_setCells hHeld.2.2.1 _ _ _, World.there_setCells hHeld.2.2.2.1 _ _ _, below_setCells (Nat.le_refl _) _ _ _ _ hHeld.2.2.2.2⟩ (fun hT => ?_)
    clear hK K
    try simp only [Act.put, List.setIfInBounds_toArray, List.set_cons_zero, List.set_cons_succ, List.toList_toArray]
    refine wpAnyH_ready (rs := [7]) (by kernel_rfl) (by simp) ?_
    refine AllReadyH.cons (o := _) (by simp only [List.getElem?_toArray, List.getElem?_cons_succ, List.getElem?_cons_zero]; exact rfl) (fun K hK => ?_) AllReadyH.nil
    rw [if_pos (by rfl)]
    refine wp_store_mid _ _ _ rfl (w.heap.size + 1) 0 (ints (dg Q)).toArray rfl rfl (by rw [hzQ]; exact hT.2.2.2.1) (by rw [hzQ]; exact T_info35) (all_oneCell_toArray h1Q) ?_
    simp only [Act.put, List.setIfInBounds_toArray, List.set_cons_zero, List.set_cons_succ, List.toList_toArray]
    refine hK.out _ _ ⟨World.rangeAt_setCells_apart hT.1 _ _ _ (.inl n2), World.rangeAt_setCells_apart hT.2.1 _ _ _ (.inl n4), World.there_setCells hT.2.2.1 _ _ _, World.there_setCells hT.2.2.2.1 _ _ _, below_setCells (Nat.le_succ _) _ _ _ _ hT.2.2.2.2⟩ (fun hU => ?_)
    clear hK K
    try simp only [Act.put, List.setIfInBounds_toArray, List.set_cons_zero, List.set_cons_succ, List.toList_toArray]
    refine wpAnyH_take (i := 8) (v := (.bool false)) (by simp only [List.getElem?_toArray, List.getElem?_cons_succ, List.getElem?_cons_zero]; exact rfl) (by kernel_rfl) (by kernel_rfl) (by kernel_rfl) (by intro _ _ _ h; exact h) (Or.inl ⟨by kernel_rfl, by intro w hSw; go_simp⟩) (by assumption) ?_
    refine wpAnyH_done (by kernel_rfl) ?_ _
    simp only [Act.put, List.setIfInBounds_toArray, List.set_cons_succ]
    have rP := World.rangeAt_setCells_apart (World.rangeAt_setCells_same _ w.heap.size 0 (ints (dg P)) (by rw [hlP]; exact hHeld.2.2.1)) (w.heap.size + 1) 0 (ints (dg Q)) (.inl (by omega))
    have rQ := World.rangeAt_setCells_same _ (w.heap.size + 1) 0 (ints (dg Q)) (by rw [hlQ]; exact hT.2.2.2.1)
    go_wp2_with fail
    refine bodyPost_ret (results_2cells_tmp rfl _ _ w.heap.size (w.heap.size + 1) (ints (dg P)) (ints (dg Q)) _ rfl rfl rP rQ hu rfl hiP' hiQ') rfl ?_
    exact ⟨by rw [HTW.out]; rfl, hU.2.2.2.2⟩
  | true =>
    have HTW : Hid ((valid P && valid Q) = valid Q) := Lib.hid (by rw [hvP]; rfl)
    clear hvP
    refine wp_region_held_drew (S := (fun w' => w'.rangeAt w1.heap.size 0 (ints (dg P)) ∧ w'.rangeAt w3.heap.size 0 (ints (dg Q)) ∧ w'.there w.heap.size 0 16 ∧ w'.there (w.heap.size + 1) 0 16 ∧ Below w.heap.size w w')) (by kernel_rfl) ⟨hr7, hr9, h4, h5, hb4'.trans ((Dr.n w4 1).below _)⟩ (fun hHeld => ?_)
    refine wpAnyH_take (i := 0) (v := _) (by simp only [List.getElem?_toArray, List.getElem?_cons_succ, List.getElem?_cons_zero]; exact rfl) (by kernel_rfl) (by kernel_rfl) (by kernel_rfl) (by intro _ _ _ h; exact h) (yieldsIf_load_mid (by kernel_rfl) _ _ rfl w1.heap.size 0 rfl (ints (dg P)) _ (fun _ hw => hw.1) hu rfl hiP') (by assumption) ?_
    simp only [Act.put, List.setIfInBounds_toArray, List.set_cons_zero, List.set_cons_succ, List.toList_toArray]
    refine wpAnyH_take (i := 1) (v := _) (by simp only [List.getElem?_toArray, List.getElem?_cons_succ, List.getElem?_cons_zero]; exact rfl) (by kernel_rfl) (by kernel_rfl) (by kernel_rfl) (by intro _ _ _ h; exact h) (yieldsIf_load_mid (by kernel_rfl) _ _ rfl w3.heap.size 0 rfl (ints (dg Q)) _ (fun _ hw => hw.2.1) hu rfl hiQ') (by assumption) ?_
    simp only [Act.put, List.setIfInBounds_toArray, List.set_cons_zero, List.set_cons_succ, List.toList_toArray]
    refine wpAnyH_take (i := 2) (v := (.bool true)) (by simp only [List.getElem?_toArray, List.getElem?_cons_succ, List.getElem?_cons_zero]; exact rfl) (by kernel_rfl) (by kernel_rfl) (by kernel_rfl) (by intro _ _ _ h; exact h) (Or.inl ⟨by kernel_rfl, by intro w hSw; go_simp⟩) (by assumption) ?_
    simp only [Act.put, List.setIfInBounds_toArray, List.set_cons_zero, List.set_cons_succ, List.toList_toArray]
    refine wpAnyH_take (i := 3) (v := (.bool true)) (by simp only [List.getElem?_toArray, List.getElem?_cons_succ, List.getElem?_cons_zero]; exact rfl) (by kernel_rfl) (by kernel_rfl) (by kernel_rfl) (by intro _ _ _ h; exact h) (Or.inl ⟨by kernel_rfl, by intro w hSw; go_simp⟩) (by assumption) ?_
    simp only [Act.put, List.setIfInBounds_toArray, List.set_cons_zero, List.set_cons_succ, List.toList_toArray]
    refine wpAnyH_take (i := 4) (v := (.bool (valid Q))) (by simp only [List.getElem?_toArray, List.getElem?_cons_succ, List.getElem?_cons_zero]; exact rfl) (by kernel_rfl) (by kernel_rfl) (by kernel_rfl) (by intro _ _ _ h; exact h) (Or.inl ⟨by kernel_rfl, by intro w hSw; go_simp⟩) (by assumption) ?_
    simp only [Act.put, List.setIfInBounds_toArray, List.set_cons_zero, List.set_cons_succ, List.toList_toArray]
    refine wpAnyH_take (i := 5) (v := (.bool (valid Q))) (by simp only [List.getElem?_toArray, List.getElem?_cons_succ, List.getElem?_cons_zero]; exact rfl) (by kernel_rfl) (by kernel_rfl) (by kernel_rfl) (by intro _ _ _ h; exact h) (Or.inl ⟨by kernel_rfl, by intro w hSw; go_simp⟩) (by assumption) ?_
    simp only [Act.put, List.setIfInBounds_toArray, List.set_cons_zero, List.set_cons_succ, List.toList_toArray]
    refine wpAnyH_ready (rs := [6]) (by kernel_rfl) (by simp) ?_
    refine AllReadyH.cons (o := _) (by simp only [List.getElem?_toArray, List.getElem?_cons_succ, List.getElem?_cons_zero]; exact rfl) (fun K hK => ?_) AllReadyH.nil
    rw [if_pos (by rfl)]
    refine wp_store_mid _ _ _ rfl w.heap.size 0 (ints (dg P)).toArray rfl rfl (by rw [hzP]; exact hHeld.2.2.1) (by rw [hzP]; exact T_info35) (all_oneCell_toArray h1P) ?_
    simp only [Act.put, List.setIfInBounds_toArray, List.set_cons_zero, List.set_cons_succ, List.toList_toArray]
    refine hK.out _ _ ⟨World.rangeAt_setCells_apart hHeld.1 _ _ _ (.inl n1), World.rangeAt_setCells_apart hHeld.2.1 _ _ _ (.inl n3), World.there_setCells hHeld.2.2.1 _ _ _, World.there_setCells hHeld.2.2.2.1 _ _ _, below_setCells (Nat.le_refl _) _ _ _ _ hHeld.2.2.2.2⟩ (fun hT => ?_)
    clear hK K
    try simp only [Act.put, List.setIfInBounds_toArray, List.set_cons_zero, List.set_cons_succ, List.toList_toArray]
    refine wpAnyH_ready (rs := [7]) (by kernel_rfl) (by simp) ?_
    refine AllReadyH.cons (o := _) (by simp only [List.getElem?_toArray, List.getElem?_cons_succ, List.getElem?_cons_zero]; exact rfl) (fun K hK => ?_) AllReadyH.nil
    rw [if_pos (by rfl)]
    refine wp_store_mid _ _ _ rfl (w.heap.size + 1) 0 (ints (dg Q)).toArray rfl rfl (by rw [hzQ]; exact hT.2.2.2.1) (by rw [hzQ]; exact T_info35) (all_oneCell_toArray h1Q) ?_
    simp only [Act.put, List.setIfInBounds_toArray, List.set_cons_zero, List.set_cons_succ, List.toList_toArray]
    refine hK.out _ _ ⟨World.rangeAt_setCells_apart hT.1 _ _ _ (.inl n2), World.rangeAt_setCells_apart hT.2.1 _ _ _ (.inl n4), World.there_setCells hT.2.2.1 _ _ _, World.there_setCells hT.2.2.2.1 _ _ _, below_setCells (Nat.le_succ _) _ _ _ _ hT.2.2.2.2⟩ (fun hU => ?_)
    clear hK K
    try simp only [Act.put, List.setIfInBounds_toArray, List.set_cons_zero, List.set_cons_succ, List.toList_toArray]
    refine wpAnyH_take (i := 8) (v := (.bool (valid Q))) (by simp only [List.getElem?_toArray, List.getElem?_cons_succ, List.getElem?_cons_zero]; exact rfl) (by kernel_rfl) (by kernel_rfl) (by kernel_rfl) (by intro _ _ _ h; exact h) (Or.inl ⟨by kernel_rfl, by intro w hSw; go_simp⟩) (by assumption) ?_
    refine wpAnyH_done (by kernel_rfl) ?_ _
    simp only [Act.put, List.setIfInBounds_toArray, List.set_cons_succ]
    have rP := World.rangeAt_setCells_apart (World.rangeAt_setCells_same _ w.heap.size 0 (ints (dg P)) (by rw [hlP]; exact hHeld.2.2.1)) (w.heap.size + 1) 0 (ints (dg Q)) (.inl (by omega))
    have rQ := World.rangeAt_setCells_same _ (w.heap.size + 1) 0 (ints (dg Q)) (by rw [hlQ]; exact hT.2.2.2.1)
    go_wp2_with fail
    refine bodyPost_ret (results_2cells_tmp rfl _ _ w.heap.size (w.heap.size + 1) (ints (dg P)) (ints (dg Q)) _ rfl rfl rP rQ hu rfl hiP' hiQ') rfl ?_
    exact ⟨by rw [HTW.out]; rfl, hU.2.2.2.2⟩


def oneS (P Q : List Int) : Bool := valid P && valid Q && (sumL P == sumL Q)
end Go.Proofs.Ytnheolhgdinjgaa
