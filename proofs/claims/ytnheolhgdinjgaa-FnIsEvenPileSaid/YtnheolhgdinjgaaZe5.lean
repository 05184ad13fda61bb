/-
  Walks of the program: two diagrams at once: of any parts, of parts that fit, of parts with one sum. Arrays of numbers compared. Two rows of numbers in one value: built, compared, parted. Walks of the program: the bounds of two diagrams by their cells; one inside of another. Walks of the program: one inside of another. Piles of the program: sixteen rows of sixteen in one block.
-/
import Derived.Test.YtnheolhgdinjgaaZe1
import Derived.Test.YtnheolhgdinjgaaZe2
import Derived.Test.YtnheolhgdinjgaaZe3
import Derived.Test.YtnheolhgdinjgaaZe4
import Derived.ChangeKeysEq
import Derived.Deep.MidRow
namespace Go.Proofs.Ytnheolhgdinjgaa
open Go.RowKit NP
set_option maxRecDepth 8000
set_option linter.unusedVariables false
set_option linter.unusedSimpArgs false

theorem results_2cells_tmp {P : Program} {fn : Func} {p1 p2 q : Tmp} {ty : TypeId} (h : fn.results = #[.cell p1 ty, .cell p2 ty, .tmp q]) (tmps : Array Value) (w : World) (g1 g2 : Nat) (c1 c2 : List Value) (d : TypeDesc)
    (hp1 : tmps.getD p1 undef = .pointer (some ⟨g1, 0, none⟩)) (hp2 : tmps.getD p2 undef = .pointer (some ⟨g2, 0, none⟩)) (h1 : w.rangeAt g1 0 c1) (h2 : w.rangeAt g2 0 c2)
    (hu : P.underlying ty = some d) (hd : d.isRow = true) (hi1 : (P.info? ty).map (·.size) = some c1.length) (hi2 : (P.info? ty).map (·.size) = some c2.length) :
    (results fn tmps).run P w = .ok (.tuple #[.agg c1.toArray, .agg c2.toArray, tmps.getD q undef]) w := by
  have hp1' : tmps[p1]?.getD undef = .pointer (some ⟨g1, 0, none⟩) := by simpa using hp1
  have hp2' : tmps[p2]?.getD undef = .pointer (some ⟨g2, 0, none⟩) := by simpa using hp2
  simp [results, h, hp1', hp2', asAddr, run_loadVar_mid w g1 0 ty c1 d h1 hu hd hi1, run_loadVar_mid w g2 0 ty c2 d h2 hu hd hi2]
theorem Blk.there {w : World} {g : Nat} {t : TypeId} {cs : Array Value} (h : Blk w g t cs) : w.there g 0 cs.size := fun j hj => by
  rw [Nat.zero_add, h.cell j]
  exact ⟨by simp [hj], h.free j⟩
theorem there_below {w w' : World} {b o n : Nat} (h : w.there b o n) (hb : Below w.heap.size w w') : w'.there b o n := fun j hj => by
  obtain ⟨h1, h2⟩ := h j hj
  obtain ⟨v, hv⟩ := Option.isSome_iff_exists.1 h1
  have hlt := World.block_lt_of_cell? w _ hv
  exact ⟨by rw [hb.cell (p := ⟨b, o + j, none⟩) hlt]; exact h1, by rw [hb.frozen (p := ⟨b, o + j, none⟩) hlt]; exact h2⟩
theorem below_setCells {B b : Nat} (hb : B ≤ b) : ∀ (vs : List Value) (o : Nat) (w0 w : World), Below B w0 w → Below B w0 (w.setCells b o vs)
  | [], _, _, _, h => h
  | v :: r, o, w0, w, h => by
    rw [World.setCells]
    exact below_setCells hb r (o + 1) w0 _ (h.setCell (by show B ≤ b; exact hb) v)
theorem two_rows (w1 : World) (t : TypeId) (Z X Y : Array Value) : Blk ((((w1.alloc (.cells Z t)).alloc (.cells Z t)).setRow w1.heap.size X).setRow (w1.heap.size + 1) Y) w1.heap.size t X ∧ Blk ((((w1.alloc (.cells Z t)).alloc (.cells Z t)).setRow w1.heap.size X).setRow (w1.heap.size + 1) Y) (w1.heap.size + 1) t Y ∧ Below w1.heap.size w1 ((((w1.alloc (.cells Z t)).alloc (.cells Z t)).setRow w1.heap.size X).setRow (w1.heap.size + 1) Y) := by
  have a1 : Blk (w1.alloc (.cells Z t)) w1.heap.size t Z := Blk.new w1 t Z
  have a2 := Blk.new (w1.alloc (.cells Z t)) t Z
  rw [World.size_alloc] at a2
  exact ⟨((a1.alloc _).row).rowOff (by omega), ((a2.rowOff (by omega)).row), below_setRow' (below_setRow' (((Below.refl _ _).alloc (Nat.le_refl _) _).alloc (by simp) _) (Nat.le_refl _) _) (by omega) _⟩
theorem first_row (w1 : World) (t : TypeId) (Z X : Array Value) : Blk (((w1.alloc (.cells Z t)).alloc (.cells Z t)).setRow w1.heap.size X) (w1.heap.size + 1) t Z := by
  have a2 := Blk.new (w1.alloc (.cells Z t)) t Z
  rw [World.size_alloc] at a2
  exact a2.rowOff (by omega)
theorem dg_fits {L : List Int} (h : valid L = true) : sumFits (dg L) := by rw [dg_yes h]; exact pad_fits h
theorem dg_sum {L : List Int} (h : valid L = true) : sumL (dg L) = sumL L := by rw [dg_yes h, sumL_pad]

set_option maxHeartbeats 4000000 in
theorem twoDiagrams_any (a b : Option Addr) (ca cb Ba Bb : Nat) (P Q : List Int) (w : World) (h : Rd w Ba a (ints P)) (hq : Rd w Bb b (ints Q)) (hBa : Ba ≤ w.heap.size) (hBb : Bb ≤ w.heap.size) (hl : P.length ≤ 4611686018427387904) (hlq : Q.length ≤ 4611686018427387904) :
    Calls Try.prog 50 #[.slice a P.length ca, .slice b Q.length cb] w fun e w' => e = .returned (.tuple #[.agg (arr (dg P)), .agg (arr (dg Q)), .bool (valid P && valid Q)]) ∧ Below w.heap.size w w' := by
  have hiP : (Try.prog.info? 36).map (·.size) = some (arr (dg P)).size := by rw [arr_size, dg_len]; exact T_info35
  have hszP : (arr (dg P)).size = (arr (List.replicate 16 0)).size := by rw [arr_size, arr_size, dg_len]; rfl
  have hiQ : (Try.prog.info? 36).map (·.size) = some (arr (dg Q)).size := by rw [arr_size, dg_len]; exact T_info35
  have hszQ : (arr (dg Q)).size = (arr (List.replicate 16 0)).size := by rw [arr_size, arr_size, dg_len]; rfl
  have hiP' := info_diag (dg P) (dg_len P)
  have hiQ' := info_diag (dg Q) (dg_len Q)
  have hu := Try.underlying36
  have hlP : (ints (dg P)).length = 16 := by rw [List.length_map, dg_len]
  have hlQ : (ints (dg Q)).length = 16 := by rw [List.length_map, dg_len]
  have h1P := ints_one (dg P)
  have h1Q := ints_one (dg Q)
  have hzP : (ints (dg P)).toArray.size = 16 := by rw [List.size_toArray]; exact hlP
  have hzQ : (ints (dg Q)).toArray.size = 16 := by rw [List.size_toArray]; exact hlQ
  obtain ⟨wA, hwA⟩ : ∃ wA, wA = (w.alloc (.cells (#[.int .i64 0, .int .i64 0, .int .i64 0, .int .i64 0, .int .i64 0, .int .i64 0, .int .i64 0, .int .i64 0, .int .i64 0, .int .i64 0, .int .i64 0, .int .i64 0, .int .i64 0, .int .i64 0, .int .i64 0, .int .i64 0]) 36)).alloc (.cells (#[.int .i64 0, .int .i64 0, .int .i64 0, .int .i64 0, .int .i64 0, .int .i64 0, .int .i64 0, .int .i64 0, .int .i64 0, .int .i64 0, .int .i64 0, .int .i64 0, .int .i64 0, .int .i64 0, .int .i64 0, .int .i64 0]) 36) := ⟨_, rfl⟩
  have hA4 : wA.there w.heap.size 0 16 := by rw [hwA]; exact World.there_alloc (Blk.new w 36 (arr (List.replicate 16 0))).there _
  have hA5 : wA.there (w.heap.size + 1) 0 16 := by
    rw [hwA]
    have e := (Blk.new (w.alloc (.cells (arr (List.replicate 16 0)) 36)) 36 (arr (List.replicate 16 0))).there
    rw [World.size_alloc] at e
    exact e
  have hAb : Below w.heap.size w wA := by rw [hwA]; exact ((Below.refl _ _).alloc (Nat.le_refl _) _).alloc (by simp) _
  have hAs : wA.heap.size = w.heap.size + 2 := by rw [hwA]; simp
  go_enter Try.func50, Try.ntmps50
  go_wp2_with fail
  rw [← hwA]
  clear hwA
  refine (diagramOf_any _ _ w.heap.size P _ ((h.more hBa).below hAb) hAb.size hl).mono ?_
  rintro e w1 ⟨rfl, hb1⟩
  have h4 := there_below hA4 hb1
  have h5 := there_below hA5 hb1
  have hb1' := hAb.trans (hb1.mono hAb.size)
  have hs1 : w.heap.size + 2 ≤ w1.heap.size := by have := hb1.size; omega
  have hR := (hq.more hBb).below hb1'
  clear hA4 hA5 hAb hAs hb1 h hq hl
  go_wp2_with (refine wpList_store_row rfl 36 (.tmp 7) (.tmp 14) rfl w1.heap.size rfl (arr (dg P)) rfl 36 (arr (List.replicate 16 0)) (Blk.new w1 _ _) hiP hszP (arr_one _) ?_)
  have hB7 := (Blk.new w1 36 (arr (List.replicate 16 0))).row (vs := arr (dg P))
  have hbel2 : Below w1.heap.size w1 ((w1.alloc (.cells (arr (List.replicate 16 0)) 36)).setRow w1.heap.size (arr (dg P))) := below_setRow' ((Below.refl _ _).alloc (Nat.le_refl _) _) (Nat.le_refl _) _
  obtain ⟨w2, hw2⟩ : ∃ w2, w2 = (w1.alloc (.cells (#[.int .i64 0, .int .i64 0, .int .i64 0, .int .i64 0, .int .i64 0, .int .i64 0, .int .i64 0, .int .i64 0, .int .i64 0, .int .i64 0, .int .i64 0, .int .i64 0, .int .i64 0, .int .i64 0, .int .i64 0, .int .i64 0]) 36)).setRow w1.heap.size (arr (dg P)) := ⟨_, rfl⟩
  rw [← hw2]
  replace hB7 : Blk w2 w1.heap.size 36 (arr (dg P)) := hw2 ▸ hB7
  replace hbel2 : Below w1.heap.size w1 w2 := hw2 ▸ hbel2
  clear hw2
  replace h4 := there_below h4 hbel2
  replace h5 := there_below h5 hbel2
  have hb2' := hb1'.trans (hbel2.mono hb1'.size)
  have hs2 := hB7.lt
  refine (diagramOf_any _ _ w.heap.size Q _ (hR.below (hbel2.mono hb1'.size)) hb2'.size hlq).mono ?_
  rintro e w3 ⟨rfl, hb3⟩
  replace h4 := there_below h4 hb3
  replace h5 := there_below h5 hb3
  have hB7' := hB7.below hb3 hB7.lt
  have hb3' := hb2'.trans (hb3.mono hb2'.size)
  have hs3 := hb3.size
  clear hR hB7 hb3 hb2' hb1' hbel2 hlq
  go_wp2_with (refine wpList_store_row rfl 36 (.tmp 9) (.tmp 19) rfl w3.heap.size rfl (arr (dg Q)) rfl 36 (arr (List.replicate 16 0)) (Blk.new w3 _ _) hiQ hszQ (arr_one _) ?_)
  have hB9 := (Blk.new w3 36 (arr (List.replicate 16 0))).row (vs := arr (dg Q))
  have hbel4 : Below w3.heap.size w3 ((w3.alloc (.cells (arr (List.replicate 16 0)) 36)).setRow w3.heap.size (arr (dg Q))) := below_setRow' ((Below.refl _ _).alloc (Nat.le_refl _) _) (Nat.le_refl _) _
  obtain ⟨w4, hw4⟩ : ∃ w4, w4 = (w3.alloc (.cells (#[.int .i64 0, .int .i64 0, .int .i64 0, .int .i64 0, .int .i64 0, .int .i64 0, .int .i64 0, .int .i64 0, .int .i64 0, .int .i64 0, .int .i64 0, .int .i64 0, .int .i64 0, .int .i64 0, .int .i64 0, .int .i64 0]) 36)).setRow w3.heap.size (arr (dg Q)) := ⟨_, rfl⟩
  rw [← hw4]
  replace hB9 : Blk w4 w3.heap.size 36 (arr (dg Q)) := hw4 ▸ hB9
  replace hbel4 : Below w3.heap.size w3 w4 := hw4 ▸ hbel4
  clear hw4
  replace h4 := there_below h4 hbel4
  replace h5 := there_below h5 hbel4
  have hr7 : w4.rangeAt w1.heap.size 0 (ints (dg P)) := Blk.range (hB7'.below hbel4 hB7'.lt)
  have hr9 : w4.rangeAt w3.heap.size 0 (ints (dg Q)) := Blk.range hB9
  have hb4' := hb3'.trans (hbel4.mono hb3'.size)
  have n1 : w1.heap.size ≠ w.heap.size := by omega
  have n2 : w1.heap.size ≠ w.heap.size + 1 := by omega
  have n3 : w3.heap.size ≠ w.heap.size := by omega
  have n4 : w3.heap.size ≠ w.heap.size + 1 := by omega
  clear hB7' hB9 hb3' hbel4
  cases hvP : valid P with
  | false =>
    have HTW : Hid ((valid P && valid Q) = false) := Lib.hid (by rw [hvP]; rfl)
    clear hvP
    refine wp_region_held_drew (S := (fun w' => w'.rangeAt w1.heap.size 0 (ints (dg P)) ∧ w'.rangeAt w3.heap.size 0 (ints (dg Q)) ∧ w'.there w.heap.size 0 16 ∧ w'.there (w.heap.size + 1) 0 16 ∧ Below w.heap.size w w')) (by kernel_rfl) ⟨hr7, hr9, h4, h5, hb4'.trans ((Dr.n w4 1).below _)⟩ (fun hHeld => ?_)
    refine wpAnyH_take (i := 0) (v := _) (by simp only [List.getElem?_toArray, List.getElem?_cons_succ, List.getElem?_cons_zero]; exact rfl) (by kernel_rfl) (by kernel_rfl) (by kernel_rfl) (by intro _ _ _ h; exact h) (yieldsIf_load_mid (by kernel_rfl) _ _ rfl w1.heap.size 0 rfl (ints (dg P)) _ (fun _ hw => hw.1) hu rfl hiP') (by assumption) ?_
    simp only [Act.put, List.setIfInBounds_toArray, List.set_cons_zero, List.set_cons_succ, List.toList_toArray]
    refine wpAnyH_take (i := 1) (v := _) (by simp only [List.getElem?_toArray, List.getElem?_cons_succ, List.getElem?_cons_zero]; exact rfl) (by kernel_rfl) (by kernel_rfl) (by kernel_rfl) (by intro _ _ _ h; exact h) (yieldsIf_load_mid (by kernel_rfl) _ _ rfl w3.heap.size 0 rfl (ints (dg Q)) _ (fun _ hw => hw.2.1) hu rfl hiQ') (by assumption) ?_
    simp only [Act.put, List.setIfInBounds_toArray, List.set_cons_zero, List.set_cons_succ, List.toList_toArray]
    refine wpAnyH_take (i := 2) (v := (.bool false)) (by simp only [List.getElem?_toArray, List.getElem?_cons_succ, List.getElem?_cons_zero]; exact rfl) (by kernel_rfl) (by kernel_rfl) (by kernel_rfl) (by intro _ _ _ h; exact h) (Or.inl ⟨by kernel_rfl, by intro w hSw; go_simp⟩) (by assumption) ?_
    simp only [Act.put, List.setIfInBounds_toArray, List.set_cons_zero, List.set_cons_succ, List.toList_toArray]
    refine wpAnyH_take (i := 3) (v := (.bool false)) (by simp only [List.getElem?_toArray, List.getElem?_cons_succ, List.getElem?_cons_zero]; exact rfl) (by kernel_rfl) (by kernel_rfl) (by kernel_rfl) (by intro _ _ _ h; exact h) (Or.inl ⟨by kernel_rfl, by intro w hSw; go_simp⟩) (by assumption) ?_
    simp only [Act.put, List.setIfInBounds_toArray, List.set_cons_zero, List.set_cons_succ, List.toList_toArray]
    refine wpAnyH_take (i := 4) (v := undef) (by simp only [List.getElem?_toArray, List.getElem?_cons_succ, List.getElem?_cons_zero]; exact rfl) (by kernel_rfl) (by kernel_rfl) (by kernel_rfl) (by intro _ _ _ h; exact h) (Or.inr ⟨by kernel_rfl, rfl⟩) (by assumption) ?_
    simp only [Act.put, List.setIfInBounds_toArray, List.set_cons_zero, List.set_cons_succ, List.toList_toArray]
    refine wpAnyH_take (i := 5) (v := (.bool false)) (by simp only [List.getElem?_toArray, List.getElem?_cons_succ, List.getElem?_cons_zero]; exact rfl) (by kernel_rfl) (by kernel_rfl) (by kernel_rfl) (by intro _ _ _ h; exact h) (Or.inl ⟨by kernel_rfl, by intro w hSw; go_simp⟩) (by assumption) ?_
    simp only [Act.put, List.setIfInBounds_toArray, List.set_cons_zero, List.set_cons_succ, List.toList_toArray]
    refine wpAnyH_ready (rs := [6]) (by kernel_rfl) (by simp) ?_
    refine AllReadyH.cons (o := _) (by simp only [List.getElem?_toArray, List.getElem?_cons_succ, List.getElem?_cons_zero]; exact rfl) (fun K hK => ?_) AllReadyH.nil
    rw [if_pos (by rfl)]
    refine wp_store_mid _ _ _ rfl w.heap.size 0 (ints (dg P)).toArray rfl rfl (by rw [hzP]; exact hHeld.2.2.1) (by rw [hzP]; exact T_info35) (all_oneCell_toArray h1P) ?_
    simp only [Act.put, List.setIfInBounds_toArray, List.set_cons_zero, List.set_cons_succ, List.toList_toArray]
    refine hK.out _ _ ⟨World.rangeAt_setCells_apart hHeld.1 _ _ _ (.inl n1), World.rangeAt_setCells_apart hHeld.2.1 _ _ _ (.inl n3), World.there_setCells hHeld.2.2.1 _ _ _, World.there_setCells hHeld.2.2.2.1 _ _ _, below_setCells (Nat.le_refl _) _ _ _ _ hHeld.2.2.2.2⟩ (fun hT => ?_)
    clear hK K
    try simp only [Act.put, List.setIfInBounds_toArray, List.set_cons_zero, List.set_cons_succ, List.toList_toArray]
    refine wpAnyH_ready (rs := [7]) (by kernel_rfl) (by simp) ?_
    refine AllReadyH.cons (o := _) (by simp only [List.getElem?_toArray, List.getElem?_cons_succ, List.getElem?_cons_zero]; exact rfl) (fun K hK => ?_) AllReadyH.nil
    rw [if_pos (by rfl)]
    refine wp_store_mid _ _ _ rfl (w.heap.size + 1) 0 (ints (dg Q)).toArray rfl rfl (by rw [hzQ]; exact hT.2.2.2.1) (by rw [hzQ]; exact T_info35) (all_oneCell_toArray h1Q) ?_
    simp only [Act.put, List.setIfInBounds_toArray, List.set_cons_zero, List.set_cons_succ, List.toList_toArray]
    refine hK.out _ _ ⟨World.rangeAt_setCells_apart hT.1 _ _ _ (.inl n2), World.rangeAt_setCells_apart hT.2.1 _ _ _ (.inl n4), World.there_setCells hT.2.2.1 _ _ _, World.there_setCells hT.2.2.2.1 _ _ _, below_setCells (Nat.le_succ _) _ _ _ _ hT.2.2.2.2⟩ (fun hU => ?_)
    clear hK K
    try simp only [Act.put, List.setIfInBounds_toArray, List.set_cons_zero, List.set_cons_succ, List.toList_toArray]
    refine wpAnyH_take (i := 8) (v := (.bool false)) (by simp only [List.getElem?_toArray, List.getElem?_cons_succ, List.getElem?_cons_zero]; exact rfl) (by kernel_rfl) (by kernel_rfl) (by kernel_rfl) (by intro _ _ _ h; exact h) (Or.inl ⟨by kernel_rfl, by intro w hSw; go_simp⟩) (by assumption) ?_
    refine wpAnyH_done (by kernel_rfl) ?_ _
    simp only [Act.put, List.setIfInBounds_toArray, List.set_cons_succ]
    have rP := World.rangeAt_setCells_apart (World.rangeAt_setCells_same _ w.heap.size 0 (ints (dg P)) (by rw [hlP]; exact hHeld.2.2.1)) (w.heap.size + 1) 0 (ints (dg Q)) (.inl (by omega))
    have rQ := World.rangeAt_setCells_same _ (w.heap.size + 1) 0 (ints (dg Q)) (by rw [hlQ]; exact hT.2.2.2.1)
    go_wp2_with fail
    refine bodyPost_ret (results_2cells_tmp rfl _ _ w.heap.size (w.heap.size + 1) (ints (dg P)) (ints (dg Q)) _ rfl rfl rP rQ hu rfl hiP' hiQ') rfl ?_
    exact ⟨by rw [HTW.out]; rfl, hU.2.2.2.2⟩
  | true =>
    have HTW : Hid ((valid P && valid Q) = valid Q) := Lib.hid (by rw [hvP]; rfl)
    clear hvP
    refine wp_region_held_drew (S := (fun w' => w'.rangeAt w1.heap.size 0 (ints (dg P)) ∧ w'.rangeAt w3.heap.size 0 (ints (dg Q)) ∧ w'.there w.heap.size 0 16 ∧ w'.there (w.heap.size + 1) 0 16 ∧ Below w.heap.size w w')) (by kernel_rfl) ⟨hr7, hr9, h4, h5, hb4'.trans ((Dr.n w4 1).below _)⟩ (fun hHeld => ?_)
    refine wpAnyH_take (i := 0) (v := _) (by simp only [List.getElem?_toArray, List.getElem?_cons_succ, List.getElem?_cons_zero]; exact rfl) (by kernel_rfl) (by kernel_rfl) (by kernel_rfl) (by intro _ _ _ h; exact h) (yieldsIf_load_mid (by kernel_rfl) _ _ rfl w1.heap.size 0 rfl (ints (dg P)) _ (fun _ hw => hw.1) hu rfl hiP') (by assumption) ?_
    simp only [Act.put, List.setIfInBounds_toArray, List.set_cons_zero, List.set_cons_succ, List.toList_toArray]
    refine wpAnyH_take (i := 1) (v := _) (by simp only [List.getElem?_toArray, List.getElem?_cons_succ, List.getElem?_cons_zero]; exact rfl) (by kernel_rfl) (by kernel_rfl) (by kernel_rfl) (by intro _ _ _ h; exact h) (yieldsIf_load_mid (by kernel_rfl) _ _ rfl w3.heap.size 0 rfl (ints (dg Q)) _ (fun _ hw => hw.2.1) hu rfl hiQ') (by assumption) ?_
    simp only [Act.put, List.setIfInBounds_toArray, List.set_cons_zero, List.set_cons_succ, List.toList_toArray]
    refine wpAnyH_take (i := 2) (v := (.bool true)) (by simp only [List.getElem?_toArray, List.getElem?_cons_succ, List.getElem?_cons_zero]; exact rfl) (by kernel_rfl) (by kernel_rfl) (by kernel_rfl) (by intro _ _ _ h; exact h) (Or.inl ⟨by kernel_rfl, by intro w hSw; go_simp⟩) (by assumption) ?_
    simp only [Act.put, List.setIfInBounds_toArray, List.set_cons_zero, List.set_cons_succ, List.toList_toArray]
    refine wpAnyH_take (i := 3) (v := (.bool true)) (by simp only [List.getElem?_toArray, List.getElem?_cons_succ, List.getElem?_cons_zero]; exact rfl) (by kernel_rfl) (by kernel_rfl) (by kernel_rfl) (by intro _ _ _ h; exact h) (Or.inl ⟨by kernel_rfl, by intro w hSw; go_simp⟩) (by assumption) ?_
    simp only [Act.put, List.setIfInBounds_toArray, List.set_cons_zero, List.set_cons_succ, List.toList_toArray]
    refine wpAnyH_take (i := 4) (v := (.bool (valid Q))) (by simp only [List.getElem?_toArray, List.getElem?_cons_succ, List.getElem?_cons_zero]; exact rfl) (by kernel_rfl) (by kernel_rfl) (by kernel_rfl) (by intro _ _ _ h; exact h) (Or.inl ⟨by kernel_rfl, by intro w hSw; go_simp⟩) (by assumption) ?_
    simp only [Act.put, List.setIfInBounds_toArray, List.set_cons_zero, List.set_cons_succ, List.toList_toArray]
    refine wpAnyH_take (i := 5) (v := (.bool (valid Q))) (by simp only [List.getElem?_toArray, List.getElem?_cons_succ, List.getElem?_cons_zero]; exact rfl) (by kernel_rfl) (by kernel_rfl) (by kernel_rfl) (by intro _ _ _ h; exact h) (Or.inl ⟨by kernel_rfl, by intro w hSw; go_simp⟩) (by assumption) ?_
    simp only [Act.put, List.setIfInBounds_toArray, List.set_cons_zero, List.set_cons_succ, List.toList_toArray]
    refine wpAnyH_ready (rs := [6]) (by kernel_rfl) (by simp) ?_
    refine AllReadyH.cons (o := _) (by simp only [List.getElem?_toArray, List.getElem?_cons_succ, List.getElem?_cons_zero]; exact rfl) (fun K hK => ?_) AllReadyH.nil
    rw [if_pos (by rfl)]
    refine wp_store_mid _ _ _ rfl w.heap.size 0 (ints (dg P)).toArray rfl rfl (by rw [hzP]; exact hHeld.2.2.1) (by rw [hzP]; exact T_info35) (all_oneCell_toArray h1P) ?_
    simp only [Act.put, List.setIfInBounds_toArray, List.set_cons_zero, List.set_cons_succ, List.toList_toArray]
    refine hK.out _ _ ⟨World.rangeAt_setCells_apart hHeld.1 _ _ _ (.inl n1), World.rangeAt_setCells_apart hHeld.2.1 _ _ _ (.inl n3), World.there_setCells hHeld.2.2.1 _ _ _, World.there_setCells hHeld.2.2.2.1 _ _ _, below_setCells (Nat.le_refl _) _ _ _ _ hHeld.2.2.2.2⟩ (fun hT => ?_)
    clear hK K
    try simp only [Act.put, List.setIfInBounds_toArray, List.set_cons_zero, List.set_cons_succ, List.toList_toArray]
    refine wpAnyH_ready (rs := [7]) (by kernel_rfl) (by simp) ?_
    refine AllReadyH.cons (o := _) (by simp only [List.getElem?_toArray, List.getElem?_cons_succ, List.getElem?_cons_zero]; exact rfl) (fun K hK => ?_) AllReadyH.nil
    rw [if_pos (by rfl)]
    refine wp_store_mid _ _ _ rfl (w.heap.size + 1) 0 (ints (dg Q)).toArray rfl rfl (by rw [hzQ]; exact hT.2.2.2.1) (by rw [hzQ]; exact T_info35) (all_oneCell_toArray h1Q) ?_
    simp only [Act.put, List.setIfInBounds_toArray, List.set_cons_zero, List.set_cons_succ, List.toList_toArray]
    refine hK.out _ _ ⟨World.rangeAt_setCells_apart hT.1 _ _ _ (.inl n2), World.rangeAt_setCells_apart hT.2.1 _ _ _ (.inl n4), World.there_setCells hT.2.2.1 _ _ _, World.there_setCells hT.2.2.2.1 _ _ _, below_setCells (Nat.le_succ _) _ _ _ _ hT.2.2.2.2⟩ (fun hU => ?_)
    clear hK K
    try simp only [Act.put, List.setIfInBounds_toArray, List.set_cons_zero, List.set_cons_succ, List.toList_toArray]
    refine wpAnyH_take (i := 8) (v := (.bool (valid Q))) (by simp only [List.getElem?_toArray, List.getElem?_cons_succ, List.getElem?_cons_zero]; exact rfl) (by kernel_rfl) (by kernel_rfl) (by kernel_rfl) (by intro _ _ _ h; exact h) (Or.inl ⟨by kernel_rfl, by intro w hSw; go_simp⟩) (by assumption) ?_
    refine wpAnyH_done (by kernel_rfl) ?_ _
    simp only [Act.put, List.setIfInBounds_toArray, List.set_cons_succ]
    have rP := World.rangeAt_setCells_apart (World.rangeAt_setCells_same _ w.heap.size 0 (ints (dg P)) (by rw [hlP]; exact hHeld.2.2.1)) (w.heap.size + 1) 0 (ints (dg Q)) (.inl (by omega))
    have rQ := World.rangeAt_setCells_same _ (w.heap.size + 1) 0 (ints (dg Q)) (by rw [hlQ]; exact hT.2.2.2.1)
    go_wp2_with fail
    refine bodyPost_ret (results_2cells_tmp rfl _ _ w.heap.size (w.heap.size + 1) (ints (dg P)) (ints (dg Q)) _ rfl rfl rP rQ hu rfl hiP' hiQ') rfl ?_
    exact ⟨by rw [HTW.out]; rfl, hU.2.2.2.2⟩


def oneS (P Q : List Int) : Bool := valid P && valid Q && (sumL P == sumL Q)
end Go.Proofs.Ytnheolhgdinjgaa
namespace Go.Proofs.Ytnheolhgdinjgaa
open Go.RowKit
theorem run_eqItems_arr {P : Program} {e : TypeId} (he : P.underlying e = some (.int .i64)) (hp : P.plainKey e = true) (d : Nat) (D E : List Int) (w : World) :
    ∀ l : List Nat, (∀ k ∈ l, k < D.length ∧ k < E.length) → (Op.eqItems (d + 1) e 1 (arr D) (arr E) l).run P w = .ok (l.all fun k => D.getD k 0 == E.getD k 0) w
  | [], _ => by simp [Op.eqItems]
  | k :: l, h => by
    obtain ⟨h1, h2⟩ := h k (by simp)
    have ih := run_eqItems_arr he hp d D E w l fun j hj => h j (by simp [hj])
    have p1 : (part e (arr D) (k * 1)).run P w = .ok (.int .i64 D[k]) w := run_part_plain w hp (by rw [Nat.mul_one]; exact arr_get D k h1)
    have p2 : (part e (arr E) (k * 1)).run P w = .ok (.int .i64 E[k]) w := run_part_plain w hp (by rw [Nat.mul_one]; exact arr_get E k h2)
    have p3 := run_equalIn_int (P := P) w d e .i64 .i64 D[k] E[k] he
    have g1 : D.getD k 0 = D[k] := by rw [List.getD_eq_getElem?_getD, List.getElem?_eq_getElem h1]; rfl
    have g2 : E.getD k 0 = E[k] := by rw [List.getD_eq_getElem?_getD, List.getElem?_eq_getElem h2]; rfl
    simp only [Op.eqItems, Sem.run_bind, p1, p2, p3, Result.andThen_ok, List.all_cons, g1, g2]
    cases hq : (D[k] == E[k])
    · simp
    · simpa using ih
theorem all_getD_eq {D E : List Int} (h : D.length = E.length) : ((List.range D.length).all fun k => D.getD k 0 == E.getD k 0) = decide (D = E) := by
  rw [Bool.eq_iff_iff, List.all_eq_true, decide_eq_true_eq]
  constructor
  · intro hh
    apply List.ext_getElem h
    intro i h1 h2
    have := hh i (by simpa using h1)
    rw [List.getD_eq_getElem?_getD, List.getElem?_eq_getElem h1, List.getD_eq_getElem?_getD, List.getElem?_eq_getElem h2] at this
    simpa using this
  · rintro rfl k _
    simp
theorem run_equal_arr {P : Program} {t e : TypeId} {n : Nat} {i : TypeInfo} (ht : P.underlying t = some (.array n e)) (he : P.underlying e = some (.int .i64)) (hp : P.plainKey e = true) (hi : P.info? e = some i) (hc : P.cellsOf e = 1) (D E : List Int) (hD : D.length = n) (hE : E.length = n) (w : World) :
    (Op.equalIn 10000 t (.agg (arr D)) (.agg (arr E))).run P w = .ok (decide (D = E)) w := by
  rw [show (10000 : Nat) = 9998 + 1 + 1 from rfl, run_equalIn_array w (9998 + 1) (arr D) (arr E) ht hi, hc, run_eqItems_arr he hp 9998 D E w _ (fun k hk => by simp at hk; omega), ← hD, all_getD_eq (by omega)]
end Go.Proofs.Ytnheolhgdinjgaa
namespace Go.Proofs.Ytnheolhgdinjgaa
open Go.RowKit
set_option linter.unusedVariables false
set_option linter.unusedSimpArgs false
theorem run_equal_arrD {P : Program} {t e : TypeId} {n : Nat} {i : TypeInfo} (d : Nat) (ht : P.underlying t = some (.array n e)) (he : P.underlying e = some (.int .i64)) (hp : P.plainKey e = true) (hi : P.info? e = some i) (hc : P.cellsOf e = 1) (D E : List Int) (hD : D.length = n) (hE : E.length = n) (w : World) :
    (Op.equalIn (d + 1 + 1) t (.agg (arr D)) (.agg (arr E))).run P w = .ok (decide (D = E)) w := by
  rw [run_equalIn_array w (d + 1) (arr D) (arr E) ht hi, hc, run_eqItems_arr he hp d D E w _ (fun k hk => by simp at hk; omega), ← hD, all_getD_eq (by omega)]
theorem arr_ext0 (B A : List Int) (n : Nat) (hB : B.length = n) : (arr (B ++ A)).extract 0 n = arr B := by
  apply Array.toList_inj.1
  simp [arr, ints, ← hB]
theorem arr_ext1 (B A : List Int) (n m : Nat) (hB : B.length = n) (hA : A.length = m) : (arr (B ++ A)).extract n (n + m) = arr A := by
  apply Array.toList_inj.1
  simp only [arr, ints, ← hB, ← hA, List.map_append]
  simp
  exact List.take_of_length_le (by simp)

theorem T_info_bounds : (Try.prog.info? 64).map (·.size) = some 32 := by kernel_rfl
theorem T_isAgg_d (w : World) : (isAgg 36).run Try.prog w = .ok true w := by
  unfold isAgg
  rw [Sem.run_bind, run_underlying Try.underlying36 w]
  rfl
theorem T_part0 (B A : List Int) (hB : B.length = 16) (w : World) : (part 36 (arr (B ++ A)) 0).run Try.prog w = .ok (.agg (arr B)) w := by
  have hs : (sizeOf 36).run Try.prog w = .ok 16 w := by
    cases hq : Try.prog.info? 36 with
    | none => have := T_info35; rw [hq] at this; cases this
    | some i => have := T_info35; rw [hq] at this; simp [sizeOf, typeInfo, hq]; simpa using this
  simp only [part, Sem.run_bind, T_isAgg_d, Result.andThen_ok, if_true, hs, Sem.run_pure, Nat.zero_add]
  rw [arr_ext0 B A 16 hB]
theorem T_part1 (B A : List Int) (hB : B.length = 16) (hA : A.length = 16) (w : World) : (part 36 (arr (B ++ A)) 16).run Try.prog w = .ok (.agg (arr A)) w := by
  have hs : (sizeOf 36).run Try.prog w = .ok 16 w := by
    cases hq : Try.prog.info? 36 with
    | none => have := T_info35; rw [hq] at this; cases this
    | some i => have := T_info35; rw [hq] at this; simp [sizeOf, typeInfo, hq]; simpa using this
  simp only [part, Sem.run_bind, T_isAgg_d, Result.andThen_ok, if_true, hs, Sem.run_pure]
  rw [arr_ext1 B A 16 16 hB hA]
theorem T_eqD (d : Nat) (D E : List Int) (hD : D.length = 16) (hE : E.length = 16) (w : World) : (Op.equalIn (d + 1 + 1) 36 (.agg (arr D)) (.agg (arr E))).run Try.prog w = .ok (decide (D = E)) w := by
  obtain ⟨i, hi⟩ := info_of_underlying Try.underlying3
  exact run_equal_arrD d Try.underlying36 Try.underlying3 (by kernel_rfl) hi (by kernel_rfl) D E hD hE w
theorem T_fields : (Try.prog.fieldsOf 64).toList.map (fun f => (f.name, f.type, f.offset)) = [("below", 36, 0), ("above", 36, 16)] := by kernel_rfl
theorem T_eqb (B A E D : List Int) (hB : B.length = 16) (hA : A.length = 16) (hE : E.length = 16) (hD : D.length = 16) (w : World) :
    (Op.equalIn 10000 64 (.agg (arr (B ++ A))) (.agg (arr (E ++ D)))).run Try.prog w = .ok (decide (B = E) && decide (A = D)) w := by
  rw [show (10000 : Nat) = 9997 + 1 + 1 + 1 from rfl, run_equalIn_struct w (9997 + 1 + 1) 64 (arr (B ++ A)) (arr (E ++ D)) (by kernel_rfl) (by kernel_rfl)]
  have hf := T_fields
  generalize (Try.prog.fieldsOf 64).toList = fs at hf
  match fs, hf with
  | [], hf => simp at hf
  | [_], hf => simp at hf
  | _ :: _ :: _ :: _, hf => simp at hf
  | [f, g], hf =>
    simp only [List.map_cons, List.map_nil, List.cons.injEq, Prod.mk.injEq, and_true] at hf
    obtain ⟨⟨n1, t1, o1⟩, n2, t2, o2⟩ := hf
    have k1 : f.name ≠ "_" := by rw [n1]; decide
    have k2 : g.name ≠ "_" := by rw [n2]; decide
    simp only [Op.eqFields, if_pos k1, if_pos k2, Sem.run_bind, t1, t2, o1, o2, T_part0 B A hB, T_part0 E D hE, T_part1 B A hB hA, T_part1 E D hE hD, T_eqD 9997 B E hB hE, T_eqD 9997 A D hA hD, Result.andThen_ok]
    by_cases h1 : B = E
    · by_cases h2 : A = D
      · simp [h1, h2, T_eqD 9997 D D hD hD, T_part1 E D hE hD, Sem.run_bind]
      · simp [h1, h2, T_part1 E A hE hA, T_part1 E D hE hD, T_eqD 9997 A D hA hD, Sem.run_bind]
    · simp [h1]
theorem T_build0 (e0 e1 e2 e3 e4 e5 e6 e7 e8 e9 e10 e11 e12 e13 e14 e15 d0 d1 d2 d3 d4 d5 d6 d7 d8 d9 d10 d11 d12 d13 d14 d15 : Int) (w : World) : (Instr.build 64 #[(0, .agg (arr [e0, e1, e2, e3, e4, e5, e6, e7, e8, e9, e10, e11, e12, e13, e14, e15])), (1, .agg (arr [d0, d1, d2, d3, d4, d5, d6, d7, d8, d9, d10, d11, d12, d13, d14, d15]))]).run Try.prog w = .ok (.agg (arr ([e0, e1, e2, e3, e4, e5, e6, e7, e8, e9, e10, e11, e12, e13, e14, e15] ++ [d0, d1, d2, d3, d4, d5, d6, d7, d8, d9, d10, d11, d12, d13, d14, d15]))) w := by kernel_rfl
theorem T_build (E D : List Int) (hE : E.length = 16) (hD : D.length = 16) (w : World) :
    (Instr.build 64 #[(0, .agg (arr E)), (1, .agg (arr D))]).run Try.prog w = .ok (.agg (arr (E ++ D))) w := by
  match E, hE with
  | [e0, e1, e2, e3, e4, e5, e6, e7, e8, e9, e10, e11, e12, e13, e14, e15], _ =>
    match D, hD with
    | [d0, d1, d2, d3, d4, d5, d6, d7, d8, d9, d10, d11, d12, d13, d14, d15], _ => exact (T_build0 e0 e1 e2 e3 e4 e5 e6 e7 e8 e9 e10 e11 e12 e13 e14 e15 d0 d1 d2 d3 d4 d5 d6 d7 d8 d9 d10 d11 d12 d13 d14 d15 w)

theorem exec_build {P : Program} {ρ : Operand → Value} {o : Oper} {w : World} {v u1 u2 : Value} (t : TypeId) (x y : Operand) (ho : o.op = .build t #[(0, x), (1, y)]) (hx : ρ x = u1) (hy : ρ y = u2) (h : (Instr.build t #[(0, u1), (1, u2)]).run P w = .ok v w) :
    (execOp ρ o).run P w = .ok (.value v) w := by
  unfold execOp
  simp only [ho, Sem.run_bind, List.map_toArray, List.map_cons, List.map_nil, hx, hy]
  rw [h]
  rfl
theorem exec_eql {P : Program} {ρ : Operand → Value} {o : Oper} {w : World} {xs ys : Array Value} {r : Bool} (t T : TypeId) (x y : Operand) (ho : o.op = .binOp .eql t x y T) (hx : ρ x = .agg xs) (hy : ρ y = .agg ys) (hg : P.eqGuardType P.depth t = false)
    (h : (Op.equalIn 10000 t (.agg xs) (.agg ys)).run P w = .ok r w) : (execOp ρ o).run P w = .ok (.value (.bool r)) w := by
  have h1 : (eqGuard .eql t x y (.agg xs) (.agg ys)).run P w = .ok () w := by
    simp [eqGuard, Sem.run_bind, run_program, hg]
  have h2 : (binOp .eql t (.agg xs) (.agg ys)).run P w = .ok (.bool r) w := by
    have e : binOp .eql t (.agg xs) (.agg ys) = (do let b ← Op.equalIn 10000 t (.agg xs) (.agg ys); pure (Value.bool b)) := rfl
    rw [e, Sem.run_bind, h]
    rfl
  unfold execOp
  simp only [ho, hx, hy, Sem.run_bind, h1, Result.andThen_ok, h2]
  rfl
theorem T_field0 (B A : List Int) (hB : B.length = 16) (w : World) : (Instr.field 64 (.agg (arr (B ++ A))) 0).run Try.prog w = .ok (.agg (arr B)) w := by
  have hp := T_part0 B A hB
  simp [Instr.field, Sem.run_bind, run_underlying Try.underlying64, asAgg, hp]
theorem T_field1 (B A : List Int) (hB : B.length = 16) (hA : A.length = 16) (w : World) : (Instr.field 64 (.agg (arr (B ++ A))) 1).run Try.prog w = .ok (.agg (arr A)) w := by
  have hp := T_part1 B A hB hA
  simp [Instr.field, Sem.run_bind, run_underlying Try.underlying64, asAgg, hp]
end Go.Proofs.Ytnheolhgdinjgaa
namespace Go.Proofs.Ytnheolhgdinjgaa
open Go.RowKit NP
set_option maxRecDepth 8000
set_option linter.unusedVariables false
set_option linter.unusedSimpArgs false
def bcm (D E : List Int) (i : Nat) : List Int := (List.range 32).map fun q => if q < 16 then (if q < i then lo2 D E q else 0) else (if q - 16 < i then hi2 D E (q - 16) else 0)
theorem bcm_len (D E : List Int) (i : Nat) : (bcm D E i).length = 32 := by simp [bcm]
theorem bcm_get (D E : List Int) (i q : Nat) (h : q < (bcm D E i).length) : (bcm D E i)[q] = if q < 16 then (if q < i then lo2 D E q else 0) else (if q - 16 < i then hi2 D E (q - 16) else 0) := by simp [bcm]
theorem bcm_zero (D E : List Int) : bcm D E 0 = List.replicate 32 0 := by simp [bcm]; rfl
theorem bcm_set (D E : List Int) (i : Nat) (hi : i < 16) : ((bcm D E i).set i (lo2 D E i)).set (16 + i) (hi2 D E i) = bcm D E (i + 1) := by
  apply List.ext_getElem
  · rw [List.length_set, List.length_set, bcm_len, bcm_len]
  · intro q h1 h2
    rw [bcm_get]
    by_cases e1 : 16 + i = q
    · subst e1
      rw [List.getElem_set_self, if_neg (by omega), if_pos (by omega)]
      congr 1
      omega
    · rw [List.getElem_set_ne e1]
      by_cases e2 : i = q
      · subst e2
        rw [List.getElem_set_self, if_pos hi, if_pos (by omega)]
      · rw [List.getElem_set_ne e2, bcm_get]
        (repeat' split) <;> first | rfl | omega
theorem bcm_end (D E : List Int) : bcm D E 16 = (List.range 16).map (lo2 D E) ++ (List.range 16).map (hi2 D E) := by
  apply List.ext_getElem
  · rw [bcm_len]; simp
  · intro q h1 h2
    rw [bcm_get]
    rw [bcm_len] at h1
    by_cases hq : q < 16
    · rw [if_pos hq, if_pos hq, List.getElem_append_left (by simpa using hq)]; simp
    · rw [if_neg hq, if_pos (by omega), List.getElem_append_right (by simp; omega)]; simp

set_option maxHeartbeats 2000000 in
theorem byCells_any (D E : List Int) (hD : D.length = 16) (hE : E.length = 16) (w : World) :
    Calls Try.prog 64 #[.agg (arr D), .agg (arr E)] w fun e w' => e = .returned (.agg (arr ((List.range 16).map (lo2 D E) ++ (List.range 16).map (hi2 D E)))) ∧ Below w.heap.size w w' := by
  have HD := Lib.hid hD
  have HE := Lib.hid hE
  have hd16 : 16 ≤ D.length := by omega
  have he16 : 16 ≤ E.length := by omega
  clear hD hE
  obtain ⟨wA, hwA⟩ : ∃ wA, wA = (((w.alloc (.cells (arr D) 36)).alloc (.cells (arr E) 36)).alloc (.cells (arr (List.replicate 32 0)) 64)).alloc (.cells (arr (List.replicate 32 0)) 64) := ⟨_, rfl⟩
  have hA2 : Blk wA w.heap.size 36 (arr D) := by rw [hwA]; exact (((Blk.new w 36 (arr D)).alloc _).alloc _).alloc _
  have hA3 : Blk wA (w.heap.size + 1) 36 (arr E) := by
    rw [hwA]
    have e := ((Blk.new (w.alloc (.cells (arr D) 36)) 36 (arr E)).alloc (.cells (arr (List.replicate 32 0)) 64)).alloc (.cells (arr (List.replicate 32 0)) 64)
    rw [World.size_alloc] at e
    exact e
  have hA4 : Blk wA (w.heap.size + 2) 64 (arr (List.replicate 32 0)) := by
    rw [hwA]
    have e := (Blk.new ((w.alloc (.cells (arr D) 36)).alloc (.cells (arr E) 36)) 64 (arr (List.replicate 32 0))).alloc (.cells (arr (List.replicate 32 0)) 64)
    rw [World.size_alloc, World.size_alloc] at e
    exact e
  have hA5 : Blk wA (w.heap.size + 3) 64 (arr (List.replicate 32 0)) := by
    rw [hwA]
    have e := Blk.new (((w.alloc (.cells (arr D) 36)).alloc (.cells (arr E) 36)).alloc (.cells (arr (List.replicate 32 0)) 64)) 64 (arr (List.replicate 32 0))
    rw [World.size_alloc, World.size_alloc, World.size_alloc] at e
    exact e
  have hAb : Below w.heap.size w wA := by rw [hwA]; exact ((((Below.refl _ _).alloc (Nat.le_refl _) _).alloc (by simp) _).alloc (by simp; omega) _).alloc (by simp; omega) _
  go_enter Try.func64, Try.ntmps64
  go_wp2_with fail
  go_loopw [7] (fun i wr => ∃ k : Nat, k ≤ 16 ∧ i = .int .i64 k ∧ Below w.heap.size w wr ∧ Blk wr w.heap.size 36 (arr D) ∧ Blk wr (w.heap.size + 1) 36 (arr E) ∧ Blk wr (w.heap.size + 2) 64 (arr (List.replicate 32 0)) ∧ Blk wr (w.heap.size + 3) 64 (arr (bcm D E k))) (fun i _ => 16 - (intOf i).toNat)
  case atStart =>
    refine ⟨0, Nat.zero_le _, rfl, ?_⟩
    rw [bcm_zero]
    rw [hwA] at hAb hA2 hA3 hA4 hA5
    exact ⟨hAb, hA2, hA3, hA4, hA5⟩
  case round =>
    obtain ⟨k, hk, rfl, hbel, h2, h3, h4, h5⟩ := hrel
    clear hA2 hA3 hA4 hA5 hAb
    by_cases hlt : k < 16
    · have hkD : k < D.length := by omega
      have hkE : k < E.length := by omega
      have hc1 : wr.cell? ⟨w.heap.size, k, none⟩ = some (.int .i64 D[k]) := by rw [h2.cell k, arr_get _ k hkD]
      have hc2 : wr.cell? ⟨w.heap.size + 1, k, none⟩ = some (.int .i64 E[k]) := by rw [h3.cell k, arr_get _ k hkE]
      have hlt' : (k : Int) < 16 := by omega
      have HS := Lib.hid (bcm_set D E k hlt)
      have hmn : (if E[k] < D[k] then E[k] else D[k]) = lo2 D E k := by
        unfold lo2; rw [getD_lt hkD, getD_lt hkE]; split <;> omega
      have hmx : (if D[k] < E[k] then E[k] else D[k]) = hi2 D E k := by
        unfold hi2; rw [getD_lt hkD, getD_lt hkE]; split <;> omega
      have hc5 : wr.cell? ⟨w.heap.size + 3, k, none⟩ = some ((arr (bcm D E k))[k]?.getD undef) := by
        rw [h5.cell k]
        have : k < (arr (bcm D E k)).size := by rw [arr_size, bcm_len]; omega
        simp [this]
      have hf5 : wr.frozen? ⟨w.heap.size + 3, k, none⟩ = false := h5.free k
      generalize D[k] = x at *
      generalize E[k] = y at *
      generalize lo2 D E k = m1 at *
      generalize hi2 D E k = m2 at *
      generalize ((arr (bcm D E k))[k]?.getD undef) = old at *
      go_wp2
      go_still_tail 10, (by kernel_rfl)
      change wpList _ _ _ _ _ wr.drew
      replace hbel : Below w.heap.size w wr.drew := hbel.trans ((Dr.n wr 1).below _)
      replace h2 : Blk wr.drew w.heap.size 36 (arr D) := h2
      replace h3 : Blk wr.drew (w.heap.size + 1) 36 (arr E) := h3
      replace h4 : Blk wr.drew (w.heap.size + 2) 64 (arr (List.replicate 32 0)) := h4
      replace h5 : Blk wr.drew (w.heap.size + 3) 64 (arr (bcm D E k)) := h5
      replace hf5 : wr.drew.frozen? ⟨w.heap.size + 3, k, none⟩ = false := hf5
      replace hc1 : wr.drew.cell? ⟨w.heap.size, k, none⟩ = some (.int .i64 x) := hc1
      replace hc2 : wr.drew.cell? ⟨w.heap.size + 1, k, none⟩ = some (.int .i64 y) := hc2
      replace hc5 : wr.drew.cell? ⟨w.heap.size + 3, k, none⟩ = some old := hc5
      generalize wr.drew = w2 at *
      go_wp2_with fail
      have g1 : Below w.heap.size w (w2.setCell ⟨w.heap.size + 3, k, none⟩ (.int .i64 m1)) := hbel.setCell (by show w.heap.size ≤ w.heap.size + 3; omega) _
      have g2 : Blk (w2.setCell ⟨w.heap.size + 3, k, none⟩ (.int .i64 m1)) w.heap.size 36 (arr D) := h2.off (by show w.heap.size ≠ w.heap.size + 3; omega) _
      have g3 : Blk (w2.setCell ⟨w.heap.size + 3, k, none⟩ (.int .i64 m1)) (w.heap.size + 1) 36 (arr E) := h3.off (by show w.heap.size + 1 ≠ w.heap.size + 3; omega) _
      have g4 : Blk (w2.setCell ⟨w.heap.size + 3, k, none⟩ (.int .i64 m1)) (w.heap.size + 2) 64 (arr (List.replicate 32 0)) := h4.off (by show w.heap.size + 2 ≠ w.heap.size + 3; omega) _
      have g5 := h5.set k (.int .i64 m1)
      rw [arr_set] at g5
      have gc1 : (w2.setCell ⟨w.heap.size + 3, k, none⟩ (.int .i64 m1)).cell? ⟨w.heap.size, k, none⟩ = some (.int .i64 x) := by rw [g2.cell k, ← h2.cell k]; exact hc1
      have gc2 : (w2.setCell ⟨w.heap.size + 3, k, none⟩ (.int .i64 m1)).cell? ⟨w.heap.size + 1, k, none⟩ = some (.int .i64 y) := by rw [g3.cell k, ← h3.cell k]; exact hc2
      have gf5 := g5.free (16 + k)
      have gc5 : (w2.setCell ⟨w.heap.size + 3, k, none⟩ (.int .i64 m1)).cell? ⟨w.heap.size + 3, 16 + k, none⟩ = some ((arr ((bcm D E k).set k m1))[16 + k]?.getD undef) := by
        rw [g5.cell (16 + k)]
        have : 16 + k < (arr ((bcm D E k).set k m1)).size := by rw [arr_size, List.length_set, bcm_len]; omega
        simp [this]
      generalize ((arr ((bcm D E k).set k m1))[16 + k]?.getD undef) = old2 at *
      clear hbel h2 h3 h4 h5 hf5 hc1 hc2 hc5
      generalize w2.setCell ⟨w.heap.size + 3, k, none⟩ (.int .i64 m1) = wr at *
      go_still_tail 10, (by kernel_rfl)
      change wpList _ _ _ _ _ wr.drew
      replace g1 : Below w.heap.size w wr.drew := g1.trans ((Dr.n wr 1).below _)
      replace g2 : Blk wr.drew w.heap.size 36 (arr D) := g2
      replace g3 : Blk wr.drew (w.heap.size + 1) 36 (arr E) := g3
      replace g4 : Blk wr.drew (w.heap.size + 2) 64 (arr (List.replicate 32 0)) := g4
      replace g5 : Blk wr.drew (w.heap.size + 3) 64 (arr ((bcm D E k).set k m1)) := g5
      replace gf5 : wr.drew.frozen? ⟨w.heap.size + 3, 16 + k, none⟩ = false := gf5
      replace gc1 : wr.drew.cell? ⟨w.heap.size, k, none⟩ = some (.int .i64 x) := gc1
      replace gc2 : wr.drew.cell? ⟨w.heap.size + 1, k, none⟩ = some (.int .i64 y) := gc2
      replace gc5 : wr.drew.cell? ⟨w.heap.size + 3, 16 + k, none⟩ = some old2 := gc5
      generalize wr.drew = w3 at *
      go_wp2_with fail
      go_roundw
      case rel =>
        refine ⟨k + 1, by omega, by go_num, g1.setCell (by show w.heap.size ≤ w.heap.size + 3; omega) _, g2.off (by show w.heap.size ≠ w.heap.size + 3; omega) _, g3.off (by show w.heap.size + 1 ≠ w.heap.size + 3; omega) _, g4.off (by show w.heap.size + 2 ≠ w.heap.size + 3; omega) _, ?_⟩
        have e := g5.set (16 + k) (.int .i64 m2)
        rw [arr_set, HS.out] at e
        exact e
      case measure => simp [intOf]; omega
    · obtain rfl : k = 16 := by omega
      have HN := Lib.hid (bcm_end D E)
      have hi2 : (Try.prog.info? 64).map (·.size) = some (arr (bcm D E 16)).size := by rw [arr_size, bcm_len]; exact T_info_bounds
      have hsz : (arr (bcm D E 16)).size = (arr (List.replicate 32 0)).size := by rw [arr_size, arr_size, bcm_len]; rfl
      go_wp2_with (first | (refine wpList_load_row rfl 64 (.tmp 5) rfl (w.heap.size + 3) rfl 64 (arr (bcm D E 16)) (0, 0) _ h5 Try.underlying64 rfl hi2 ?_) | (refine wpList_store_row rfl 64 (.tmp 4) (.tmp 31) rfl (w.heap.size + 2) rfl (arr (bcm D E 16)) rfl 64 _ h4 hi2 hsz (arr_one _) ?_))
      refine bodyPost_ret (results_cell_row rfl _ _ (w.heap.size + 2) 64 (arr (bcm D E 16)) (0, 0) _ rfl h4.row Try.underlying64 rfl hi2) rfl ?_
      exact ⟨by rw [HN.out], below_setRow' hbel (by omega) _⟩
end Go.Proofs.Ytnheolhgdinjgaa
namespace Go.Proofs.Ytnheolhgdinjgaa
open Go.RowKit NP
set_option maxRecDepth 8000
set_option linter.unusedVariables false
set_option linter.unusedSimpArgs false
theorem lo_len (D E : List Int) : ((List.range 16).map (lo2 D E)).length = 16 := by simp
theorem hi_len (D E : List Int) : ((List.range 16).map (hi2 D E)).length = 16 := by simp
theorem lo2_pad {P Q : List Int} (hp : P.length ≤ 16) (hq : Q.length ≤ 16) : lo2 (pad P) (pad Q) = lo2 P Q := by funext i; unfold lo2; rw [pad_getD hp, pad_getD hq]
theorem hi2_pad {P Q : List Int} (hp : P.length ≤ 16) (hq : Q.length ≤ 16) : hi2 (pad P) (pad Q) = hi2 P Q := by funext i; unfold hi2; rw [pad_getD hp, pad_getD hq]
theorem T_guardB : Try.prog.eqGuardType Try.prog.depth 64 = false := by kernel_rfl
theorem keep_rr {w0 w w' : World} {g1 g2 : Nat} {c1 c2 : List Value} (h : w.rangeAt g1 0 c1 ∧ w.rangeAt g2 0 c2 ∧ Below w0.heap.size w0 w) (hb : Below w.heap.size w w') :
    w'.rangeAt g1 0 c1 ∧ w'.rangeAt g2 0 c2 ∧ Below w0.heap.size w0 w' :=
  ⟨range_below h.1 hb, range_below h.2.1 hb, h.2.2.trans (hb.mono h.2.2.size)⟩

set_option maxHeartbeats 2000000 in
theorem hasInside_any (P Q : List Int) (hp : valid P = true) (hq : valid Q = true) (w : World) :
    Calls Try.prog 51 #[.agg (arr (pad P)), .agg (arr (pad Q))] w fun e w' => e = .returned (.bool (ins P Q)) ∧ Below w.heap.size w w' := by
  have hpl := (valid_bd hp).2.2.2
  have hql := (valid_bd hq).2.2.2
  have hlP := pad_len hpl
  have hlQ := pad_len hql
  have hiP := info_diag (pad P) hlP
  have hiQ := info_diag (pad Q) hlQ
  have hu := Try.underlying36
  have hb2 : Blk ((w.alloc (.cells (arr (pad P)) 36)).alloc (.cells (arr (pad Q)) 36)) w.heap.size 36 (arr (pad P)) := (Blk.new w 36 (arr (pad P))).alloc _
  have hb3 : Blk ((w.alloc (.cells (arr (pad P)) 36)).alloc (.cells (arr (pad Q)) 36)) (w.heap.size + 1) 36 (arr (pad Q)) := by
    have e := Blk.new (w.alloc (.cells (arr (pad P)) 36)) 36 (arr (pad Q))
    rw [World.size_alloc] at e
    exact e
  have hr2 : ((w.alloc (.cells (arr (pad P)) 36)).alloc (.cells (arr (pad Q)) 36)).rangeAt w.heap.size 0 (ints (pad P)) := Blk.range hb2
  have hr3 : ((w.alloc (.cells (arr (pad P)) 36)).alloc (.cells (arr (pad Q)) 36)).rangeAt (w.heap.size + 1) 0 (ints (pad Q)) := Blk.range hb3
  have hal : Below w.heap.size w ((w.alloc (.cells (arr (pad P)) 36)).alloc (.cells (arr (pad Q)) 36)) := ((Below.refl _ _).alloc (Nat.le_refl _) _).alloc (by simp) _
  have hbld : ∀ w : World, (Instr.build 64 #[(0, .agg (ints (pad Q)).toArray), (1, .agg (ints (pad P)).toArray)]).run Try.prog w = .ok (.agg (arr (pad Q ++ pad P))) w := T_build (pad Q) (pad P) hlQ hlP
  have heql : ∀ w : World, (Op.equalIn 10000 64 (.agg (arr ((List.range 16).map (lo2 (pad P) (pad Q)) ++ (List.range 16).map (hi2 (pad P) (pad Q))))) (.agg (arr (pad Q ++ pad P)))).run Try.prog w = .ok (ins P Q) w := fun w => by
    rw [T_eqb _ _ _ _ (lo_len _ _) (hi_len _ _) hlQ hlP, ins_bounds hp hq, lo2_pad hpl hql, hi2_pad hpl hql]
  have hgt := T_guardB
  have HLP := Lib.hid hlP
  have HLQ := Lib.hid hlQ
  clear hp hq hpl hql hlP hlQ hb2 hb3
  go_enter Try.func51, Try.ntmps51
  go_wp2_with fail
  refine wp_region_held_drew (S := (fun w' => w'.rangeAt w.heap.size 0 (ints (pad P)) ∧ w'.rangeAt (w.heap.size + 1) 0 (ints (pad Q)) ∧ Below w.heap.size w w')) (by kernel_rfl) ⟨hr2, hr3, hal.trans ((Dr.n _ 1).below _)⟩ (fun hHeld => ?_)
  refine wpAnyH_take (i := 0) (v := _) (by simp only [List.getElem?_toArray, List.getElem?_cons_succ, List.getElem?_cons_zero]; exact rfl) (by kernel_rfl) (by kernel_rfl) (by kernel_rfl) (by intro _ _ _ h; exact h) (yieldsIf_load_mid (by kernel_rfl) _ _ rfl w.heap.size 0 rfl (ints (pad P)) _ (fun _ hw => hw.1) hu rfl hiP) (by assumption) ?_
  simp only [Act.put, List.setIfInBounds_toArray, List.set_cons_zero, List.set_cons_succ, List.toList_toArray]
  refine wpAnyH_take (i := 1) (v := _) (by simp only [List.getElem?_toArray, List.getElem?_cons_succ, List.getElem?_cons_zero]; exact rfl) (by kernel_rfl) (by kernel_rfl) (by kernel_rfl) (by intro _ _ _ h; exact h) (yieldsIf_load_mid (by kernel_rfl) _ _ rfl (w.heap.size + 1) 0 rfl (ints (pad Q)) _ (fun _ hw => hw.2.1) hu rfl hiQ) (by assumption) ?_
  simp only [Act.put, List.setIfInBounds_toArray, List.set_cons_zero, List.set_cons_succ, List.toList_toArray]
  refine wpAnyH_take (i := 3) (v := _) (by simp only [List.getElem?_toArray, List.getElem?_cons_succ, List.getElem?_cons_zero]; exact rfl) (by kernel_rfl) (by kernel_rfl) (by kernel_rfl) (by intro _ _ _ h; exact h) (yieldsIf_load_mid (by kernel_rfl) _ _ rfl (w.heap.size + 1) 0 rfl (ints (pad Q)) _ (fun _ hw => hw.2.1) hu rfl hiQ) (by assumption) ?_
  simp only [Act.put, List.setIfInBounds_toArray, List.set_cons_zero, List.set_cons_succ, List.toList_toArray]
  refine wpAnyH_take (i := 4) (v := _) (by simp only [List.getElem?_toArray, List.getElem?_cons_succ, List.getElem?_cons_zero]; exact rfl) (by kernel_rfl) (by kernel_rfl) (by kernel_rfl) (by intro _ _ _ h; exact h) (yieldsIf_load_mid (by kernel_rfl) _ _ rfl w.heap.size 0 rfl (ints (pad P)) _ (fun _ hw => hw.1) hu rfl hiP) (by assumption) ?_
  simp only [Act.put, List.setIfInBounds_toArray, List.set_cons_zero, List.set_cons_succ, List.toList_toArray]
  refine wpAnyH_take (i := 5) (v := (.agg (arr (pad Q ++ pad P)))) (by simp only [List.getElem?_toArray, List.getElem?_cons_succ, List.getElem?_cons_zero]; exact rfl) (by kernel_rfl) (by kernel_rfl) (by kernel_rfl) (by intro _ _ _ h; exact h) (Or.inl ⟨by kernel_rfl, by intro w hSw; exact exec_build _ _ _ rfl rfl rfl (hbld w)⟩) (by assumption) ?_
  simp only [Act.put, List.setIfInBounds_toArray, List.set_cons_zero, List.set_cons_succ, List.toList_toArray]
  refine wpAnyH_ready (rs := [2]) (by kernel_rfl) (by simp) ?_
  refine AllReadyH.cons (o := _) (by simp only [List.getElem?_toArray, List.getElem?_cons_succ, List.getElem?_cons_zero]; exact rfl) (fun K hK => ?_) AllReadyH.nil
  rw [if_pos (by rfl)]
  go_simp
  go_at_call 64
  refine (byCells_any (pad P) (pad Q) HLP.out HLQ.out _).mono ?_
  rintro e w8 ⟨rfl, hbd⟩
  refine hK.out _ _ (keep_rr hHeld hbd) (fun hH => ?_)
  clear hK K
  try simp only [Act.put, List.setIfInBounds_toArray, List.set_cons_zero, List.set_cons_succ, List.toList_toArray]
  refine wpAnyH_take (i := 6) (v := (.bool (ins P Q))) (by simp only [List.getElem?_toArray, List.getElem?_cons_succ, List.getElem?_cons_zero]; exact rfl) (by kernel_rfl) (by kernel_rfl) (by kernel_rfl) (by intro _ _ _ h; exact h) (Or.inl ⟨by kernel_rfl, by intro w hSw; exact exec_eql _ _ _ _ rfl rfl rfl hgt (heql w)⟩) (by assumption) ?_
  simp only [Act.put, List.setIfInBounds_toArray, List.set_cons_zero, List.set_cons_succ, List.toList_toArray]
  refine wpAnyH_take (i := 7) (v := (.bool (ins P Q))) (by simp only [List.getElem?_toArray, List.getElem?_cons_succ, List.getElem?_cons_zero]; exact rfl) (by kernel_rfl) (by kernel_rfl) (by kernel_rfl) (by intro _ _ _ h; exact h) (Or.inl ⟨by kernel_rfl, by intro w hSw; go_simp⟩) (by assumption) ?_
  simp only [Act.put, List.setIfInBounds_toArray, List.set_cons_zero, List.set_cons_succ, List.toList_toArray]
  refine wpAnyH_done (by kernel_rfl) ?_ _
  try simp only [Act.put, List.setIfInBounds_toArray, List.set_cons_zero, List.set_cons_succ]
  go_wp2
  go_ret
  exact ⟨rfl, hH.2.2⟩
set_option maxHeartbeats 2000000 in
theorem iHasInside_any (a b : Option Addr) (ca cb Ba Bb : Nat) (P Q : List Int) (w : World) (h : Rd w Ba a (ints P)) (hq : Rd w Bb b (ints Q)) (hBa : Ba ≤ w.heap.size) (hBb : Bb ≤ w.heap.size) (hl : P.length ≤ 4611686018427387904) (hlq : Q.length ≤ 4611686018427387904) :
    Calls Try.prog 31 #[.slice a P.length ca, .slice b Q.length cb] w fun e w' => e = .returned (.bool (ins P Q)) ∧ Below w.heap.size w w' := by
  have hiP : (Try.prog.info? 36).map (·.size) = some (arr (dg P)).size := by rw [arr_size, dg_len]; exact T_info35
  have hszP : (arr (dg P)).size = (arr (List.replicate 16 0)).size := by rw [arr_size, arr_size, dg_len]; rfl
  have hiQ : (Try.prog.info? 36).map (·.size) = some (arr (dg Q)).size := by rw [arr_size, dg_len]; exact T_info35
  have hszQ : (arr (dg Q)).size = (arr (List.replicate 16 0)).size := by rw [arr_size, arr_size, dg_len]; rfl
  cases hv : (valid P && valid Q) with
  | true =>
    have hp : valid P = true := by simp at hv; exact hv.1
    have hq2 : valid Q = true := by simp at hv; exact hv.2
    have HV := Lib.hid hv
    have HP := Lib.hid hp
    have HQ := Lib.hid hq2
    clear hv hp hq2
    go_enter Try.func31, Try.ntmps31
    go_wp2_with (first
      | (refine wpList_load_row_g rfl 36 (.tmp 5) rfl w1.heap.size rfl 36 (arr (dg P)) (0, 0) _ k5 Try.underlying36 rfl hiP ?_)
      | (refine wpList_load_row_g rfl 36 (.tmp 6) rfl (w1.heap.size + 1) rfl 36 (arr (dg Q)) (0, 0) _ k6 Try.underlying36 rfl hiQ ?_)
      | (refine wpList_store_row rfl 36 (.tmp 5) (.tmp 12) rfl w1.heap.size rfl (arr (dg P)) rfl 36 (arr (List.replicate 16 0)) ((Blk.new w1 _ _).alloc _) hiP hszP (arr_one _) ?_)
      | (refine wpList_store_row rfl 36 (.tmp 6) (.tmp 13) rfl (w1.heap.size + 1) rfl (arr (dg Q)) rfl 36 (arr (List.replicate 16 0)) (first_row w1 _ _ _) hiQ hszQ (arr_one _) ?_)
      | (go_at_call 51; rw [dg_yes HP.out, dg_yes HQ.out]; refine (hasInside_any P Q HP.out HQ.out _).mono ?_; rintro e w2 ⟨rfl, hb2⟩)
      | (go_at_call 50; refine (twoDiagrams_any _ _ _ _ Ba Bb P Q _ h hq hBa hBb hl hlq).mono ?_; rintro e w1 ⟨rfl, hb1⟩; rw [HV.out]; obtain ⟨k5, k6, kb⟩ := two_rows w1 36 (arr (List.replicate 16 0)) (arr (dg P)) (arr (dg Q))))
    go_ret
    rw [← dg_yes HP.out, ← dg_yes HQ.out] at hb2
    have hb3 := hb1.trans (kb.mono hb1.size)
    exact ⟨rfl, hb3.trans (hb2.mono hb3.size)⟩
  | false =>
    have HI : Hid (ins P Q = false) := Lib.hid (by unfold ins; rw [hv]; rfl)
    have HV := Lib.hid hv
    clear hv
    go_enter Try.func31, Try.ntmps31
    go_wp2_with (first
      | (refine wpList_store_row rfl 36 (.tmp 5) (.tmp 12) rfl w1.heap.size rfl (arr (dg P)) rfl 36 (arr (List.replicate 16 0)) ((Blk.new w1 _ _).alloc _) hiP hszP (arr_one _) ?_)
      | (refine wpList_store_row rfl 36 (.tmp 6) (.tmp 13) rfl (w1.heap.size + 1) rfl (arr (dg Q)) rfl 36 (arr (List.replicate 16 0)) (first_row w1 _ _ _) hiQ hszQ (arr_one _) ?_)
      | (go_at_call 50; refine (twoDiagrams_any _ _ _ _ Ba Bb P Q _ h hq hBa hBb hl hlq).mono ?_; rintro e w1 ⟨rfl, hb1⟩; rw [HV.out]; obtain ⟨k5, k6, kb⟩ := two_rows w1 36 (arr (List.replicate 16 0)) (arr (dg P)) (arr (dg Q))))
    go_ret
    exact ⟨ret_bool HI.out.symm, hb1.trans (kb.mono hb1.size)⟩
end Go.Proofs.Ytnheolhgdinjgaa
namespace Go.Proofs.Ytnheolhgdinjgaa
open Go.RowKit NP
set_option maxRecDepth 100000
theorem Blk.rangeP {w : World} {g : Nat} {t : TypeId} {R : List (List Int)} (h : Blk w g t (arr R.flatten)) (hR : ∀ L ∈ R, L.length = 16) {j : Nat} (hj : j < R.length) : w.rangeAt g (16 * j) (ints R[j]) := fun i v hv => by
  have hi : i < R[j].length := by have := (List.getElem?_eq_some_iff.1 hv).1; simpa using this
  have hi16 : i < 16 := by rw [hR _ (List.getElem_mem hj)] at hi; exact hi
  rw [h.cell (16 * j + i)]
  have hg := flat_get hR hj hi16
  simp only [arr, ints, List.getElem?_toArray, List.getElem?_map] at hv ⊢
  rw [hg]
  exact hv
theorem Blk.rangeQ {w : World} {g : Nat} {t : TypeId} {vs : List Value} (h : Blk w g t vs.toArray) : w.rangeAt g 0 vs := fun j v hv => by
  rw [Nat.zero_add, h.cell j]; simpa using hv
theorem zsq_rows : ∀ L ∈ zsq, L.length = 16 := fun L hL => by rw [(List.mem_replicate.1 hL).2]; simp
theorem T_info256 : (Try.prog.info? 38).map (·.size) = some 256 := by kernel_rfl
theorem T_zc : Try.zeroCells38 = arr zsq.flatten := by kernel_rfl
end Go.Proofs.Ytnheolhgdinjgaa
