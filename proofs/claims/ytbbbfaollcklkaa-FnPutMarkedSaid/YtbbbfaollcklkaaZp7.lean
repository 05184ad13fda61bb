/-
  Walks of the program: two diagrams at once: of any parts, of parts that fit, of parts with one sum. Walks of the program: two diagrams of two lists. (The words lie in W44 and W46 since the code has twoThatFit.) Walks of the program: diagrams added to and taken from each other; a square's diagram. Walks: parts united and added, of the program and of the model.
-/
import Derived.Test.YtbbbfaollcklkaaZp1
import Derived.Test.YtbbbfaollcklkaaZp2
import Derived.Test.YtbbbfaollcklkaaZp3
import Derived.Test.YtbbbfaollcklkaaZp4
import Derived.Test.YtbbbfaollcklkaaZp5
import Derived.Test.YtbbbfaollcklkaaZp6
import Derived.Deep.RegionHeld3
import Derived.Deep.MidRow
import Derived.StillTailTactics
namespace Go.Proofs.Ytbbbfaollcklkaa
open Go.RowKit NP
set_option maxRecDepth 8000
set_option linter.unusedVariables false
set_option linter.unusedSimpArgs false

theorem results_2cells_tmp {P : Program} {fn : Func} {p1 p2 q : Tmp} {ty : TypeId} (h : fn.results = #[.cell p1 ty, .cell p2 ty, .tmp q]) (tmps : Array Value) (w : World) (g1 g2 : Nat) (c1 c2 : List Value) (d : TypeDesc)
    (hp1 : tmps.getD p1 undef = .pointer (some ⟨g1, 0, none⟩)) (hp2 : tmps.getD p2 undef = .pointer (some ⟨g2, 0, none⟩)) (h1 : w.rangeAt g1 0 c1) (h2 : w.rangeAt g2 0 c2)
    (hu : P.underlying ty = some d) (hd : d.isRow = true) (hi1 : (P.info? ty).map (·.size) = some c1.length) (hi2 : (P.info? ty).map (·.size) = some c2.length) :
    (results fn tmps).run P w = .ok (.tuple #[.agg c1.toArray, .agg c2.toArray, tmps.getD q undef]) w := by
  have hp1' : tmps[p1]?.getD undef = .pointer (some ⟨g1, 0, none⟩) := by simpa using hp1
  have hp2' : tmps[p2]?.getD undef = .pointer (some ⟨g2, 0, none⟩) := by simpa using hp2
  simp [results, h, hp1', hp2', asAddr, run_loadVar_mid w g1 0 ty c1 d h1 hu hd hi1, run_loadVar_mid w g2 0 ty c2 d h2 hu hd hi2]
theorem Blk.there {w : World} {g : Nat} {t : TypeId} {cs : Array Value} (h : Blk w g t cs) : w.there g 0 cs.size := fun j hj => by
  rw [Nat.zero_add, h.cell j]
  exact ⟨by simp [hj], h.free j⟩
theorem there_below {w w' : World} {b o n : Nat} (h : w.there b o n) (hb : Below w.heap.size w w') : w'.there b o n := fun j hj => by
  obtain ⟨h1, h2⟩ := h j hj
  obtain ⟨v, hv⟩ := Option.isSome_iff_exists.1 h1
  have hlt := World.block_lt_of_cell? w _ hv
  exact ⟨by rw [hb.cell (p := ⟨b, o + j, none⟩) hlt]; exact h1, by rw [hb.frozen (p := ⟨b, o + j, none⟩) hlt]; exact h2⟩
theorem below_setCells {B b : Nat} (hb : B ≤ b) : ∀ (vs : List Value) (o : Nat) (w0 w : World), Below B w0 w → Below B w0 (w.setCells b o vs)
  | [], _, _, _, h => h
  | v :: r, o, w0, w, h => by
    rw [World.setCells]
    exact below_setCells hb r (o + 1) w0 _ (h.setCell (by show B ≤ b; exact hb) v)
theorem two_rows (w1 : World) (t : TypeId) (Z X Y : Array Value) : Blk ((((w1.alloc (.cells Z t)).alloc (.cells Z t)).setRow w1.heap.size X).setRow (w1.heap.size + 1) Y) w1.heap.size t X ∧ Blk ((((w1.alloc (.cells Z t)).alloc (.cells Z t)).setRow w1.heap.size X).setRow (w1.heap.size + 1) Y) (w1.heap.size + 1) t Y ∧ Below w1.heap.size w1 ((((w1.alloc (.cells Z t)).alloc (.cells Z t)).setRow w1.heap.size X).setRow (w1.heap.size + 1) Y) := by
  have a1 : Blk (w1.alloc (.cells Z t)) w1.heap.size t Z := Blk.new w1 t Z
  have a2 := Blk.new (w1.alloc (.cells Z t)) t Z
  rw [World.size_alloc] at a2
  exact ⟨((a1.alloc _).row).rowOff (by omega), ((a2.rowOff (by omega)).row), below_setRow' (below_setRow' (((Below.refl _ _).alloc (Nat.le_refl _) _).alloc (by simp) _) (Nat.le_refl _) _) (by omega) _⟩
theorem first_row (w1 : World) (t : TypeId) (Z X : Array Value) : Blk (((w1.alloc (.cells Z t)).alloc (.cells Z t)).setRow w1.heap.size X) (w1.heap.size + 1) t Z := by
  have a2 := Blk.new (w1.alloc (.cells Z t)) t Z
  rw [World.size_alloc] at a2
  exact a2.rowOff (by omega)
theorem dg_fits {L : List Int} (h : valid L = true) : sumFits (dg L) := by rw [dg_yes h]; exact pad_fits h
theorem dg_sum {L : List Int} (h : valid L = true) : sumL (dg L) = sumL L := by rw [dg_yes h, sumL_pad]

set_option maxHeartbeats 4000000 in
theorem twoDiagrams_any (a b : Option Addr) (ca cb Ba Bb : Nat) (P Q : List Int) (w : World) (h : Rd w Ba a (ints P)) (hq : Rd w Bb b (ints Q)) (hBa : Ba ≤ w.heap.size) (hBb : Bb ≤ w.heap.size) (hl : P.length ≤ 4611686018427387904) (hlq : Q.length ≤ 4611686018427387904) :
    Calls Try.prog 70 #[.slice a P.length ca, .slice b Q.length cb] w fun e w' => e = .returned (.tuple #[.agg (arr (dg P)), .agg (arr (dg Q)), .bool (valid P && valid Q)]) ∧ Below w.heap.size w w' := by
  have hiP : (Try.prog.info? 50).map (·.size) = some (arr (dg P)).size := by rw [arr_size, dg_len]; exact T_info35
  have hszP : (arr (dg P)).size = (arr (List.replicate 16 0)).size := by rw [arr_size, arr_size, dg_len]; rfl
  have hiQ : (Try.prog.info? 50).map (·.size) = some (arr (dg Q)).size := by rw [arr_size, dg_len]; exact T_info35
  have hszQ : (arr (dg Q)).size = (arr (List.replicate 16 0)).size := by rw [arr_size, arr_size, dg_len]; rfl
  have hiP' := info_diag (dg P) (dg_len P)
  have hiQ' := info_diag (dg Q) (dg_len Q)
  have hu := Try.underlying50
  have hlP : (ints (dg P)).length = 16 := by rw [List.length_map, dg_len]
  have hlQ : (ints (dg Q)).length = 16 := by rw [List.length_map, dg_len]
  have h1P := ints_one (dg P)
  have h1Q := ints_one (dg Q)
  have hzP : (ints (dg P)).toArray.size = 16 := by rw [List.size_toArray]; exact hlP
  have hzQ : (ints (dg Q)).toArray.size = 16 := by rw [List.size_toArray]; exact hlQ
  obtain ⟨wA, hwA⟩ : ∃ wA, wA = (w.alloc (.cells (#[.int .i64 0, .int .i64 0, .int .i64 0, .int .i64 0, .int .i64 0, .int .i64 0, .int .i64 0, .int .i64 0, .int .i64 0, .int .i64 0, .int .i64 0, .int .i64 0, .int .i64 0, .int .i64 0, .int .i64 0, .int .i64 0]) 50)).alloc (.cells (#[.int .i64 0, .int .i64 0, .int .i64 0, .int .i64 0, .int .i64 0, .int .i64 0, .int .i64 0, .int .i64 0, .int .i64 0, .int .i64 0, .int .i64 0, .int .i64 0, .int .i64 0, .int .i64 0, .int .i64 0, .int .i64 0]) 50) := ⟨_, rfl⟩
  have hA4 : wA.there w.heap.size 0 16 := by rw [hwA]; exact World.there_alloc (Blk.new w 50 (arr (List.replicate 16 0))).there _
  have hA5 : wA.there (w.heap.size + 1) 0 16 := by
    rw [hwA]
    have e := (Blk.new (w.alloc (.cells (arr (List.replicate 16 0)) 50)) 50 (arr (List.replicate 16 0))).there
    rw [World.size_alloc] at e
    exact e
  have hAb : Below w.heap.size w wA := by rw [hwA]; exact ((Below.refl _ _).alloc (Nat.le_refl _) _).alloc (by simp) _
  have hAs : wA.heap.size = w.heap.size + 2 := by rw [hwA]; simp
  go_enter Try.func70, Try.ntmps70
  go_wp2_with fail
  rw [← hwA]
  clear hwA
  refine (diagramOf_any _ _ w.heap.size P _ ((h.more hBa).below hAb) hAb.size hl).mono ?_
  rintro e w1 ⟨rfl, hb1⟩
  have h4 := there_below hA4 hb1
  have h5 := there_below hA5 hb1
  have hb1' := hAb.trans (hb1.mono hAb.size)
  have hs1 : w.heap.size + 2 ≤ w1.heap.size := by have := hb1.size; omega
  have hR := (hq.more hBb).below hb1'
  clear hA4 hA5 hAb hAs hb1 h hq hl
  go_wp2_with (refine wpList_store_row rfl 50 (.tmp 7) (.tmp 14) rfl w1.heap.size rfl (arr (dg P)) rfl 50 (arr (List.replicate 16 0)) (Blk.new w1 _ _) hiP hszP (arr_one _) ?_)
  have hB7 := (Blk.new w1 50 (arr (List.replicate 16 0))).row (vs := arr (dg P))
  have hbel2 : Below w1.heap.size w1 ((w1.alloc (.cells (arr (List.replicate 16 0)) 50)).setRow w1.heap.size (arr (dg P))) := below_setRow' ((Below.refl _ _).alloc (Nat.le_refl _) _) (Nat.le_refl _) _
  obtain ⟨w2, hw2⟩ : ∃ w2, w2 = (w1.alloc (.cells (#[.int .i64 0, .int .i64 0, .int .i64 0, .int .i64 0, .int .i64 0, .int .i64 0, .int .i64 0, .int .i64 0, .int .i64 0, .int .i64 0, .int .i64 0, .int .i64 0, .int .i64 0, .int .i64 0, .int .i64 0, .int .i64 0]) 50)).setRow w1.heap.size (arr (dg P)) := ⟨_, rfl⟩
  rw [← hw2]
  replace hB7 : Blk w2 w1.heap.size 50 (arr (dg P)) := hw2 ▸ hB7
  replace hbel2 : Below w1.heap.size w1 w2 := hw2 ▸ hbel2
  clear hw2
  replace h4 := there_below h4 hbel2
  replace h5 := there_below h5 hbel2
  have hb2' := hb1'.trans (hbel2.mono hb1'.size)
  have hs2 := hB7.lt
  refine (diagramOf_any _ _ w.heap.size Q _ (hR.below (hbel2.mono hb1'.size)) hb2'.size hlq).mono ?_
  rintro e w3 ⟨rfl, hb3⟩
  replace h4 := there_below h4 hb3
  replace h5 := there_below h5 hb3
  have hB7' := hB7.below hb3 hB7.lt
  have hb3' := hb2'.trans (hb3.mono hb2'.size)
  have hs3 := hb3.size
  clear hR hB7 hb3 hb2' hb1' hbel2 hlq
  go_wp2_with (refine wpList_store_row rfl 50 (.tmp 9) (.tmp 19) rfl w3.heap.size rfl (arr (dg Q)) rfl 50 (arr (List.replicate 16 0)) (Blk.new w3 _ _) hiQ hszQ (arr_one _) ?_)
  have hB9 := (Blk.new w3 50 (arr (List.replicate 16 0))).row (vs := arr (dg Q))
  have hbel4 : Below w3.heap.size w3 ((w3.alloc (.cells (arr (List.replicate 16 0)) 50)).setRow w3.heap.size (arr (dg Q))) := below_setRow' ((Below.refl _ _).alloc (Nat.le_refl _) _) (Nat.le_refl _) _
  obtain ⟨w4, hw4⟩ : ∃ w4, w4 = (w3.alloc (.cells (#[.int .i64 0, .int .i64 0, .int .i64 0, .int .i64 0, .int .i64 0, .int .i64 0, .int .i64 0, .int .i64 0, .int .i64 0, .int .i64 0, .int .i64 0, .int .i64 0, .int .i64 0, .int .i64 0, .int .i64 0, .int .i64 0]) 50)).setRow w3.heap.size (arr (dg Q)) := ⟨_, rfl⟩
  rw [← hw4]
  replace hB9 : Blk w4 w3.heap.size 50 (arr (dg Q)) := hw4 ▸ hB9
  replace hbel4 : Below w3.heap.size w3 w4 := hw4 ▸ hbel4
  clear hw4
  replace h4 := there_below h4 hbel4
  replace h5 := there_below h5 hbel4
  have hr7 : w4.rangeAt w1.heap.size 0 (ints (dg P)) := Blk.range (hB7'.below hbel4 hB7'.lt)
  have hr9 : w4.rangeAt w3.heap.size 0 (ints (dg Q)) := Blk.range hB9
  have hb4' := hb3'.trans (hbel4.mono hb3'.size)
  have n1 : w1.heap.size ≠ w.heap.size := by omega
  have n2 : w1.heap.size ≠ w.heap.size + 1 := by omega
  have n3 : w3.heap.size ≠ w.heap.size := by omega
  have n4 : w3.heap.size ≠ w.heap.size + 1 := by omega
  clear hB7' hB9 hb3' hbel4
  cases hvP : valid P with
  | false =>
    have HTW : Hid ((valid P && valid Q) = false) := Lib.hid (by rw [hvP]; rfl)
    clear hvP
    refine wp_region_held_drew (S := (fun w' => w'.rangeAt w1.heap.size 0 (ints (dg P)) ∧ w'.rangeAt w3.heap.size 0 (ints (dg Q)) ∧ w'.there w.heap.size 0 16 ∧ w'.there (w.heap.size + 1) 0 16 ∧ Below w.heap.size w w')) (by kernel_rfl) ⟨hr7, hr9, h4, h5, hb4'.trans ((Dr.n w4 1).below _)⟩ (fun hHeld => ?_)
    refine wpAnyH_take (i := 0) (v := _) (by simp only [List.getElem?_toArray, List.getElem?_cons_succ, List.getElem?_cons_zero]; exact rfl) (by kernel_rfl) (by kernel_rfl) (by kernel_rfl) (by intro _ _ _ h; exact h) (yieldsIf_load_mid (by kernel_rfl) _ _ rfl w1.heap.size 0 rfl (ints (dg P)) _ (fun _ hw => hw.1) hu rfl hiP') (by assumption) ?_
    simp only [Act.put, List.setIfInBounds_toArray, List.set_cons_zero, List.set_cons_succ, List.toList_toArray]
    refine wpAnyH_take (i := 1) (v := _) (by simp only [List.getElem?_toArray, List.getElem?_cons_succ, List.getElem?_cons_zero]; exact rfl) (by kernel_rfl) (by kernel_rfl) (by kernel_rfl) (by intro _ _ _ h; exact h) (yieldsIf_load_mid (by kernel_rfl) _ _ rfl w3.heap.size 0 rfl (ints (dg Q)) _ (fun _ hw => hw.2.1) hu rfl hiQ') (by assumption) ?_
    simp only [Act.put, List.setIfInBounds_toArray, List.set_cons_zero, List.set_cons_succ, List.toList_toArray]
    refine wpAnyH_take (i := 2) (v := (.bool false)) (by simp only [List.getElem?_toArray, List.getElem?_cons_succ, List.getElem?_cons_zero]; exact rfl) (by kernel_rfl) (by kernel_rfl) (by kernel_rfl) (by intro _ _ _ h; exact h) (Or.inl ⟨by kernel_rfl, by intro w hSw; go_simp⟩) (by assumption) ?_
    simp only [Act.put, List.setIfInBounds_toArray, List.set_cons_zero, List.set_cons_succ, List.toList_toArray]
    refine wpAnyH_take (i := 3) (v := (.bool false)) (by simp only [List.getElem?_toArray, List.getElem?_cons_succ, List.getElem?_cons_zero]; exact rfl) (by kernel_rfl) (by kernel_rfl) (by kernel_rfl) (by intro _ _ _ h; exact h) (Or.inl ⟨by kernel_rfl, by intro w hSw; go_simp⟩) (by assumption) ?_
    simp only [Act.put, List.setIfInBounds_toArray, List.set_cons_zero, List.set_cons_succ, List.toList_toArray]
    refine wpAnyH_take (i := 4) (v := undef) (by simp only [List.getElem?_toArray, List.getElem?_cons_succ, List.getElem?_cons_zero]; exact rfl) (by kernel_rfl) (by kernel_rfl) (by kernel_rfl) (by intro _ _ _ h; exact h) (Or.inr ⟨by kernel_rfl, rfl⟩) (by assumption) ?_
    simp only [Act.put, List.setIfInBounds_toArray, List.set_cons_zero, List.set_cons_succ, List.toList_toArray]
    refine wpAnyH_take (i := 5) (v := (.bool false)) (by simp only [List.getElem?_toArray, List.getElem?_cons_succ, List.getElem?_cons_zero]; exact rfl) (by kernel_rfl) (by kernel_rfl) (by kernel_rfl) (by intro _ _ _ h; exact h) (Or.inl ⟨by kernel_rfl, by intro w hSw; go_simp⟩) (by assumption) ?_
    simp only [Act.put, List.setIfInBounds_toArray, List.set_cons_zero, List.set_cons_succ, List.toList_toArray]
    refine wpAnyH_ready (rs := [6]) (by kernel_rfl) (by simp) ?_
    refine AllReadyH.cons (o := _) (by simp only [List.getElem?_toArray, List.getElem?_cons_succ, List.getElem?_cons_zero]; exact rfl) (fun K hK => ?_) AllReadyH.nil
    rw [if_pos (by rfl)]
    refine wp_store_mid _ _ _ rfl w.heap.size 0 (ints (dg P)).toArray rfl rfl (by rw [hzP]; exact hHeld.2.2.1) (by rw [hzP]; exact T_info35) (all_oneCell_toArray h1P) ?_
    simp only [Act.put, List.setIfInBounds_toArray, List.set_cons_zero, List.set_cons_succ, List.toList_toArray]
    refine hK.out _ _ ⟨World.rangeAt_setCells_apart hHeld.1 _ _ _ (.inl n1), World.rangeAt_setCells_apart hHeld.2.1 _ _ _ (.inl n3), World.there_setCells hHeld.2.2.1 _ _ _, World.there_setCells hHeld.2.2.2.1 _ _ _, below_setCells (Nat.le_refl _) _ _ _ _ hHeld.2.2.2.2⟩ (fun hT => ?_)
    clear hK K
    try simp only [Act.put, List.setIfInBounds_toArray, List.set_cons_zero, List.set_cons_succ, List.toList_toArray]
    refine wpAnyH_ready (rs := [7]) (by kernel_rfl) (by simp) ?_
    refine AllReadyH.cons (o := _) (by simp only [List.getElem?_toArray, List.getElem?_cons_succ, List.getElem?_cons_zero]; exact rfl) (fun K hK => ?_) AllReadyH.nil
    rw [if_pos (by rfl)]
    refine wp_store_mid _ _ _ rfl (w.heap.size + 1) 0 (ints (dg Q)).toArray rfl rfl (by rw [hzQ]; exact hT.2.2.2.1) (by rw [hzQ]; exact T_info35) (all_oneCell_toArray h1Q) ?_
    simp only [Act.put, List.setIfInBounds_toArray, List.set_cons_zero, List.set_cons_succ, List.toList_toArray]
    refine hK.out _ _ ⟨World.rangeAt_setCells_apart hT.1 _ _ _ (.inl n2), World.rangeAt_setCells_apart hT.2.1 _ _ _ (.inl n4), World.there_setCells hT.2.2.1 _ _ _, World.there_setCells hT.2.2.2.1 _ _ _, below_setCells (Nat.le_succ _) _ _ _ _ hT.2.2.2.2⟩ (fun hU => ?_)
    clear hK K
    try simp only [Act.put, List.setIfInBounds_toArray, List.set_cons_zero, List.set_cons_succ, List.toList_toArray]
    refine wpAnyH_take (i := 8) (v := (.bool false)) (by simp only [List.getElem?_toArray, List.getElem?_cons_succ, List.getElem?_cons_zero]; exact rfl) (by kernel_rfl) (by kernel_rfl) (by kernel_rfl) (by intro _ _ _ h; exact h) (Or.inl ⟨by kernel_rfl, by intro w hSw; go_simp⟩) (by assumption) ?_
    refine wpAnyH_done (by kernel_rfl) ?_ _
    simp only [Act.put, List.setIfInBounds_toArray, List.set_cons_succ]
    have rP := World.rangeAt_setCells_apart (World.rangeAt_setCells_same _ w.heap.size 0 (ints (dg P)) (by rw [hlP]; exact hHeld.2.2.1)) (w.heap.size + 1) 0 (ints (dg Q)) (.inl (by omega))
    have rQ := World.rangeAt_setCells_same _ (w.heap.size + 1) 0 (ints (dg Q)) (by rw [hlQ]; exact hT.2.2.2.1)
    go_wp2_with fail
    refine bodyPost_ret (results_2cells_tmp rfl _ _ w.heap.size (w.heap.size + 1) (ints (dg P)) (ints (dg Q)) _ rfl rfl rP rQ hu rfl hiP' hiQ') rfl ?_
    exact ⟨by rw [HTW.out]; rfl, hU.2.2.2.2⟩
  | true =>
    have HTW : Hid ((valid P && valid Q) = valid Q) := Lib.hid (by rw [hvP]; rfl)
    clear hvP
    refine wp_region_held_drew (S := (fun w' => w'.rangeAt w1.heap.size 0 (ints (dg P)) ∧ w'.rangeAt w3.heap.size 0 (ints (dg Q)) ∧ w'.there w.heap.size 0 16 ∧ w'.there (w.heap.size + 1) 0 16 ∧ Below w.heap.size w w')) (by kernel_rfl) ⟨hr7, hr9, h4, h5, hb4'.trans ((Dr.n w4 1).below _)⟩ (fun hHeld => ?_)
    refine wpAnyH_take (i := 0) (v := _) (by simp only [List.getElem?_toArray, List.getElem?_cons_succ, List.getElem?_cons_zero]; exact rfl) (by kernel_rfl) (by kernel_rfl) (by kernel_rfl) (by intro _ _ _ h; exact h) (yieldsIf_load_mid (by kernel_rfl) _ _ rfl w1.heap.size 0 rfl (ints (dg P)) _ (fun _ hw => hw.1) hu rfl hiP') (by assumption) ?_
    simp only [Act.put, List.setIfInBounds_toArray, List.set_cons_zero, List.set_cons_succ, List.toList_toArray]
    refine wpAnyH_take (i := 1) (v := _) (by simp only [List.getElem?_toArray, List.getElem?_cons_succ, List.getElem?_cons_zero]; exact rfl) (by kernel_rfl) (by kernel_rfl) (by kernel_rfl) (by intro _ _ _ h; exact h) (yieldsIf_load_mid (by kernel_rfl) _ _ rfl w3.heap.size 0 rfl (ints (dg Q)) _ (fun _ hw => hw.2.1) hu rfl hiQ') (by assumption) ?_
    simp only [Act.put, List.setIfInBounds_toArray, List.set_cons_zero, List.set_cons_succ, List.toList_toArray]
    refine wpAnyH_take (i := 2) (v := (.bool true)) (by simp only [List.getElem?_toArray, List.getElem?_cons_succ, List.getElem?_cons_zero]; exact rfl) (by kernel_rfl) (by kernel_rfl) (by kernel_rfl) (by intro _ _ _ h; exact h) (Or.inl ⟨by kernel_rfl, by intro w hSw; go_simp⟩) (by assumption) ?_
    simp only [Act.put, List.setIfInBounds_toArray, List.set_cons_zero, List.set_cons_succ, List.toList_toArray]
    refine wpAnyH_take (i := 3) (v := (.bool true)) (by simp only [List.getElem?_toArray, List.getElem?_cons_succ, List.getElem?_cons_zero]; exact rfl) (by kernel_rfl) (by kernel_rfl) (by kernel_rfl) (by intro _ _ _ h; exact h) (Or.inl ⟨by kernel_rfl, by intro w hSw; go_simp⟩) (by assumption) ?_
    simp only [Act.put, List.setIfInBounds_toArray, List.set_cons_zero, List.set_cons_succ, List.toList_toArray]
    refine wpAnyH_take (i := 4) (v := (.bool (valid Q))) (by simp only [List.getElem?_toArray, List.getElem?_cons_succ, List.getElem?_cons_zero]; exact rfl) (by kernel_rfl) (by kernel_rfl) (by kernel_rfl) (by intro _ _ _ h; exact h) (Or.inl ⟨by kernel_rfl, by intro w hSw; go_simp⟩) (by assumption) ?_
    simp only [Act.put, List.setIfInBounds_toArray, List.set_cons_zero, List.set_cons_succ, List.toList_toArray]
    refine wpAnyH_take (i := 5) (v := (.bool (valid Q))) (by simp only [List.getElem?_toArray, List.getElem?_cons_succ, List.getElem?_cons_zero]; exact rfl) (by kernel_rfl) (by kernel_rfl) (by kernel_rfl) (by intro _ _ _ h; exact h) (Or.inl ⟨by kernel_rfl, by intro w hSw; go_simp⟩) (by assumption) ?_
    simp only [Act.put, List.setIfInBounds_toArray, List.set_cons_zero, List.set_cons_succ, List.toList_toArray]
    refine wpAnyH_ready (rs := [6]) (by kernel_rfl) (by simp) ?_
    refine AllReadyH.cons (o := _) (by simp only [List.getElem?_toArray, List.getElem?_cons_succ, List.getElem?_cons_zero]; exact rfl) (fun K hK => ?_) AllReadyH.nil
    rw [if_pos (by rfl)]
    refine wp_store_mid _ _ _ rfl w.heap.size 0 (ints (dg P)).toArray rfl rfl (by rw [hzP]; exact hHeld.2.2.1) (by rw [hzP]; exact T_info35) (all_oneCell_toArray h1P) ?_
    simp only [Act.put, List.setIfInBounds_toArray, List.set_cons_zero, List.set_cons_succ, List.toList_toArray]
    refine hK.out _ _ ⟨World.rangeAt_setCells_apart hHeld.1 _ _ _ (.inl n1), World.rangeAt_setCells_apart hHeld.2.1 _ _ _ (.inl n3), World.there_setCells hHeld.2.2.1 _ _ _, World.there_setCells hHeld.2.2.2.1 _ _ _, below_setCells (Nat.le_refl _) _ _ _ _ hHeld.2.2.2.2⟩ (fun hT => ?_)
    clear hK K
    try simp only [Act.put, List.setIfInBounds_toArray, List.set_cons_zero, List.set_cons_succ, List.toList_toArray]
    refine wpAnyH_ready (rs := [7]) (by kernel_rfl) (by simp) ?_
    refine AllReadyH.cons (o := _) (by simp only [List.getElem?_toArray, List.getElem?_cons_succ, List.getElem?_cons_zero]; exact rfl) (fun K hK => ?_) AllReadyH.nil
    rw [if_pos (by rfl)]
    refine wp_store_mid _ _ _ rfl (w.heap.size + 1) 0 (ints (dg Q)).toArray rfl rfl (by rw [hzQ]; exact hT.2.2.2.1) (by rw [hzQ]; exact T_info35) (all_oneCell_toArray h1Q) ?_
    simp only [Act.put, List.setIfInBounds_toArray, List.set_cons_zero, List.set_cons_succ, List.toList_toArray]
    refine hK.out _ _ ⟨World.rangeAt_setCells_apart hT.1 _ _ _ (.inl n2), World.rangeAt_setCells_apart hT.2.1 _ _ _ (.inl n4), World.there_setCells hT.2.2.1 _ _ _, World.there_setCells hT.2.2.2.1 _ _ _, below_setCells (Nat.le_succ _) _ _ _ _ hT.2.2.2.2⟩ (fun hU => ?_)
    clear hK K
    try simp only [Act.put, List.setIfInBounds_toArray, List.set_cons_zero, List.set_cons_succ, List.toList_toArray]
    refine wpAnyH_take (i := 8) (v := (.bool (valid Q))) (by simp only [List.getElem?_toArray, List.getElem?_cons_succ, List.getElem?_cons_zero]; exact rfl) (by kernel_rfl) (by kernel_rfl) (by kernel_rfl) (by intro _ _ _ h; exact h) (Or.inl ⟨by kernel_rfl, by intro w hSw; go_simp⟩) (by assumption) ?_
    refine wpAnyH_done (by kernel_rfl) ?_ _
    simp only [Act.put, List.setIfInBounds_toArray, List.set_cons_succ]
    have rP := World.rangeAt_setCells_apart (World.rangeAt_setCells_same _ w.heap.size 0 (ints (dg P)) (by rw [hlP]; exact hHeld.2.2.1)) (w.heap.size + 1) 0 (ints (dg Q)) (.inl (by omega))
    have rQ := World.rangeAt_setCells_same _ (w.heap.size + 1) 0 (ints (dg Q)) (by rw [hlQ]; exact hT.2.2.2.1)
    go_wp2_with fail
    refine bodyPost_ret (results_2cells_tmp rfl _ _ w.heap.size (w.heap.size + 1) (ints (dg P)) (ints (dg Q)) _ rfl rfl rP rQ hu rfl hiP' hiQ') rfl ?_
    exact ⟨by rw [HTW.out]; rfl, hU.2.2.2.2⟩

set_option maxHeartbeats 4000000 in
theorem twoThatFit_any (a b : Option Addr) (ca cb Ba Bb : Nat) (P Q : List Int) (w : World) (h : Rd w Ba a (ints P)) (hq : Rd w Bb b (ints Q)) (hBa : Ba ≤ w.heap.size) (hBb : Bb ≤ w.heap.size) (hl : P.length ≤ 4611686018427387904) (hlq : Q.length ≤ 4611686018427387904) :
    Calls Try.prog 45 #[.slice a P.length ca, .slice b Q.length cb] w fun e w' => e = .returned (.tuple #[.agg (arr (dg P)), .agg (arr (dg Q)), .bool (two P Q)]) ∧ Below w.heap.size w w' := by
  have hiP : (Try.prog.info? 50).map (·.size) = some (arr (dg P)).size := by rw [arr_size, dg_len]; exact T_info35
  have hszP : (arr (dg P)).size = (arr (List.replicate 16 0)).size := by rw [arr_size, arr_size, dg_len]; rfl
  have hiQ : (Try.prog.info? 50).map (·.size) = some (arr (dg Q)).size := by rw [arr_size, dg_len]; exact T_info35
  have hszQ : (arr (dg Q)).size = (arr (List.replicate 16 0)).size := by rw [arr_size, arr_size, dg_len]; rfl
  have hiP' := info_diag (dg P) (dg_len P)
  have hiQ' := info_diag (dg Q) (dg_len Q)
  have hu := Try.underlying50
  have hlP : (ints (dg P)).length = 16 := by rw [List.length_map, dg_len]
  have hlQ : (ints (dg Q)).length = 16 := by rw [List.length_map, dg_len]
  have h1P := ints_one (dg P)
  have h1Q := ints_one (dg Q)
  have hzP : (ints (dg P)).toArray.size = 16 := by rw [List.size_toArray]; exact hlP
  have hzQ : (ints (dg Q)).toArray.size = 16 := by rw [List.size_toArray]; exact hlQ
  obtain ⟨wA, hwA⟩ : ∃ wA, wA = (w.alloc (.cells (#[.int .i64 0, .int .i64 0, .int .i64 0, .int .i64 0, .int .i64 0, .int .i64 0, .int .i64 0, .int .i64 0, .int .i64 0, .int .i64 0, .int .i64 0, .int .i64 0, .int .i64 0, .int .i64 0, .int .i64 0, .int .i64 0]) 50)).alloc (.cells (#[.int .i64 0, .int .i64 0, .int .i64 0, .int .i64 0, .int .i64 0, .int .i64 0, .int .i64 0, .int .i64 0, .int .i64 0, .int .i64 0, .int .i64 0, .int .i64 0, .int .i64 0, .int .i64 0, .int .i64 0, .int .i64 0]) 50) := ⟨_, rfl⟩
  have hA4 : wA.there w.heap.size 0 16 := by rw [hwA]; exact World.there_alloc (Blk.new w 50 (arr (List.replicate 16 0))).there _
  have hA5 : wA.there (w.heap.size + 1) 0 16 := by
    rw [hwA]
    have e := (Blk.new (w.alloc (.cells (arr (List.replicate 16 0)) 50)) 50 (arr (List.replicate 16 0))).there
    rw [World.size_alloc] at e
    exact e
  have hAb : Below w.heap.size w wA := by rw [hwA]; exact ((Below.refl _ _).alloc (Nat.le_refl _) _).alloc (by simp) _
  have hAs : wA.heap.size = w.heap.size + 2 := by rw [hwA]; simp
  go_enter Try.func45, Try.ntmps45
  go_wp2_with fail
  rw [← hwA]
  clear hwA
  refine (twoDiagrams_any _ _ _ _ w.heap.size w.heap.size P Q _ ((h.more hBa).below hAb) ((hq.more hBb).below hAb) hAb.size hAb.size hl hlq).mono ?_
  rintro e w1 ⟨rfl, hb1⟩
  have h4 := there_below hA4 hb1
  have h5 := there_below hA5 hb1
  have hb1' := hAb.trans (hb1.mono hAb.size)
  have hs1 : w.heap.size + 2 ≤ w1.heap.size := by have := hb1.size; omega
  clear hA4 hA5 hAb hAs hb1 h hq hl hlq
  go_wp2_with (first
    | (refine wpList_store_row rfl 50 (.tmp 7) (.tmp 14) rfl w1.heap.size rfl (arr (dg P)) rfl 50 (arr (List.replicate 16 0)) ((Blk.new w1 _ _).alloc _) hiP hszP (arr_one _) ?_)
    | (refine wpList_store_row rfl 50 (.tmp 8) (.tmp 15) rfl (w1.heap.size + 1) rfl (arr (dg Q)) rfl 50 (arr (List.replicate 16 0)) (first_row w1 _ _ _) hiQ hszQ (arr_one _) ?_))
  have hR := two_rows w1 50 (arr (List.replicate 16 0)) (arr (dg P)) (arr (dg Q))
  obtain ⟨w4, hw4⟩ : ∃ w2, w2 = (((w1.alloc (.cells (#[.int .i64 0, .int .i64 0, .int .i64 0, .int .i64 0, .int .i64 0, .int .i64 0, .int .i64 0, .int .i64 0, .int .i64 0, .int .i64 0, .int .i64 0, .int .i64 0, .int .i64 0, .int .i64 0, .int .i64 0, .int .i64 0]) 50)).alloc (.cells (#[.int .i64 0, .int .i64 0, .int .i64 0, .int .i64 0, .int .i64 0, .int .i64 0, .int .i64 0, .int .i64 0, .int .i64 0, .int .i64 0, .int .i64 0, .int .i64 0, .int .i64 0, .int .i64 0, .int .i64 0, .int .i64 0]) 50)).setRow w1.heap.size (arr (dg P))).setRow (w1.heap.size + 1) (arr (dg Q)) := ⟨_, rfl⟩
  rw [← hw4]
  replace hR : Blk w4 w1.heap.size 50 (arr (dg P)) ∧ Blk w4 (w1.heap.size + 1) 50 (arr (dg Q)) ∧ Below w1.heap.size w1 w4 := hw4 ▸ hR
  clear hw4
  obtain ⟨hB7, hB9, hbel4⟩ := hR
  replace h4 := there_below h4 hbel4
  replace h5 := there_below h5 hbel4
  have hr7 : w4.rangeAt w1.heap.size 0 (ints (dg P)) := Blk.range hB7
  have hr9 : w4.rangeAt (w1.heap.size + 1) 0 (ints (dg Q)) := Blk.range hB9
  have hb4' := hb1'.trans (hbel4.mono hb1'.size)
  have n1 : w1.heap.size ≠ w.heap.size := by omega
  have n2 : w1.heap.size ≠ w.heap.size + 1 := by omega
  have n3 : w1.heap.size + 1 ≠ w.heap.size := by omega
  have n4 : w1.heap.size + 1 ≠ w.heap.size + 1 := by omega
  clear hB7 hB9 hb1' hbel4
  cases hv2 : (valid P && valid Q) with
  | false =>
    have HTW : Hid ((two P Q) = false) := Lib.hid (by unfold two; rw [hv2]; rfl)
    clear hv2
    refine wp_region_held_drew (S := (fun w' => w'.rangeAt w1.heap.size 0 (ints (dg P)) ∧ w'.rangeAt (w1.heap.size + 1) 0 (ints (dg Q)) ∧ w'.there w.heap.size 0 16 ∧ w'.there (w.heap.size + 1) 0 16 ∧ Below w.heap.size w w')) (by kernel_rfl) ⟨hr7, hr9, h4, h5, hb4'.trans ((Dr.n w4 1).below _)⟩ (fun hHeld => ?_)
    refine wpAnyH_take (i := 0) (v := _) (by simp only [List.getElem?_toArray, List.getElem?_cons_succ, List.getElem?_cons_zero]; exact rfl) (by kernel_rfl) (by kernel_rfl) (by kernel_rfl) (by intro _ _ _ h; exact h) (yieldsIf_load_mid (by kernel_rfl) _ _ rfl w1.heap.size 0 rfl (ints (dg P)) _ (fun _ hw => hw.1) hu rfl hiP') (by assumption) ?_
    simp only [Act.put, List.setIfInBounds_toArray, List.set_cons_zero, List.set_cons_succ, List.toList_toArray]
    refine wpAnyH_take (i := 1) (v := _) (by simp only [List.getElem?_toArray, List.getElem?_cons_succ, List.getElem?_cons_zero]; exact rfl) (by kernel_rfl) (by kernel_rfl) (by kernel_rfl) (by intro _ _ _ h; exact h) (yieldsIf_load_mid (by kernel_rfl) _ _ rfl (w1.heap.size + 1) 0 rfl (ints (dg Q)) _ (fun _ hw => hw.2.1) hu rfl hiQ') (by assumption) ?_
    simp only [Act.put, List.setIfInBounds_toArray, List.set_cons_zero, List.set_cons_succ, List.toList_toArray]
    refine wpAnyH_take (i := 2) (v := (.bool false)) (by simp only [List.getElem?_toArray, List.getElem?_cons_succ, List.getElem?_cons_zero]; exact rfl) (by kernel_rfl) (by kernel_rfl) (by kernel_rfl) (by intro _ _ _ h; exact h) (Or.inl ⟨by kernel_rfl, by intro w hSw; go_simp⟩) (by assumption) ?_
    simp only [Act.put, List.setIfInBounds_toArray, List.set_cons_zero, List.set_cons_succ, List.toList_toArray]
    refine wpAnyH_take (i := 3) (v := (.bool false)) (by simp only [List.getElem?_toArray, List.getElem?_cons_succ, List.getElem?_cons_zero]; exact rfl) (by kernel_rfl) (by kernel_rfl) (by kernel_rfl) (by intro _ _ _ h; exact h) (Or.inl ⟨by kernel_rfl, by intro w hSw; go_simp⟩) (by assumption) ?_
    simp only [Act.put, List.setIfInBounds_toArray, List.set_cons_zero, List.set_cons_succ, List.toList_toArray]
    refine wpAnyH_take (i := 4) (v := undef) (by simp only [List.getElem?_toArray, List.getElem?_cons_succ, List.getElem?_cons_zero]; exact rfl) (by kernel_rfl) (by kernel_rfl) (by kernel_rfl) (by intro _ _ _ h; exact h) (Or.inr ⟨by kernel_rfl, rfl⟩) (by assumption) ?_
    simp only [Act.put, List.setIfInBounds_toArray, List.set_cons_zero, List.set_cons_succ, List.toList_toArray]
    refine wpAnyH_take (i := 5) (v := undef) (by simp only [List.getElem?_toArray, List.getElem?_cons_succ, List.getElem?_cons_zero]; exact rfl) (by kernel_rfl) (by kernel_rfl) (by kernel_rfl) (by intro _ _ _ h; exact h) (Or.inr ⟨by kernel_rfl, rfl⟩) (by assumption) ?_
    simp only [Act.put, List.setIfInBounds_toArray, List.set_cons_zero, List.set_cons_succ, List.toList_toArray]
    refine wpAnyH_take (i := 6) (v := undef) (by simp only [List.getElem?_toArray, List.getElem?_cons_succ, List.getElem?_cons_zero]; exact rfl) (by kernel_rfl) (by kernel_rfl) (by kernel_rfl) (by intro _ _ _ h; exact h) (Or.inr ⟨by kernel_rfl, rfl⟩) (by assumption) ?_
    simp only [Act.put, List.setIfInBounds_toArray, List.set_cons_zero, List.set_cons_succ, List.toList_toArray]
    refine wpAnyH_take (i := 7) (v := undef) (by simp only [List.getElem?_toArray, List.getElem?_cons_succ, List.getElem?_cons_zero]; exact rfl) (by kernel_rfl) (by kernel_rfl) (by kernel_rfl) (by intro _ _ _ h; exact h) (Or.inr ⟨by kernel_rfl, rfl⟩) (by assumption) ?_
    simp only [Act.put, List.setIfInBounds_toArray, List.set_cons_zero, List.set_cons_succ, List.toList_toArray]
    refine wpAnyH_take (i := 8) (v := undef) (by simp only [List.getElem?_toArray, List.getElem?_cons_succ, List.getElem?_cons_zero]; exact rfl) (by kernel_rfl) (by kernel_rfl) (by kernel_rfl) (by intro _ _ _ h; exact h) (Or.inr ⟨by kernel_rfl, rfl⟩) (by assumption) ?_
    simp only [Act.put, List.setIfInBounds_toArray, List.set_cons_zero, List.set_cons_succ, List.toList_toArray]
    refine wpAnyH_take (i := 9) (v := undef) (by simp only [List.getElem?_toArray, List.getElem?_cons_succ, List.getElem?_cons_zero]; exact rfl) (by kernel_rfl) (by kernel_rfl) (by kernel_rfl) (by intro _ _ _ h; exact h) (Or.inr ⟨by kernel_rfl, rfl⟩) (by assumption) ?_
    simp only [Act.put, List.setIfInBounds_toArray, List.set_cons_zero, List.set_cons_succ, List.toList_toArray]
    refine wpAnyH_take (i := 10) (v := (.bool false)) (by simp only [List.getElem?_toArray, List.getElem?_cons_succ, List.getElem?_cons_zero]; exact rfl) (by kernel_rfl) (by kernel_rfl) (by kernel_rfl) (by intro _ _ _ h; exact h) (Or.inl ⟨by kernel_rfl, by intro w hSw; go_simp⟩) (by assumption) ?_
    simp only [Act.put, List.setIfInBounds_toArray, List.set_cons_zero, List.set_cons_succ, List.toList_toArray]
    refine wpAnyH_ready (rs := [11]) (by kernel_rfl) (by simp) ?_
    refine AllReadyH.cons (o := _) (by simp only [List.getElem?_toArray, List.getElem?_cons_succ, List.getElem?_cons_zero]; exact rfl) (fun K hK => ?_) AllReadyH.nil
    rw [if_pos (by rfl)]
    refine wp_store_mid _ _ _ rfl w.heap.size 0 (ints (dg P)).toArray rfl rfl (by rw [hzP]; exact hHeld.2.2.1) (by rw [hzP]; exact T_info35) (all_oneCell_toArray h1P) ?_
    simp only [Act.put, List.setIfInBounds_toArray, List.set_cons_zero, List.set_cons_succ, List.toList_toArray]
    refine hK.out _ _ ⟨World.rangeAt_setCells_apart hHeld.1 _ _ _ (.inl n1), World.rangeAt_setCells_apart hHeld.2.1 _ _ _ (.inl n3), World.there_setCells hHeld.2.2.1 _ _ _, World.there_setCells hHeld.2.2.2.1 _ _ _, below_setCells (Nat.le_refl _) _ _ _ _ hHeld.2.2.2.2⟩ (fun hT => ?_)
    clear hK K
    try simp only [Act.put, List.setIfInBounds_toArray, List.set_cons_zero, List.set_cons_succ, List.toList_toArray]
    refine wpAnyH_ready (rs := [12]) (by kernel_rfl) (by simp) ?_
    refine AllReadyH.cons (o := _) (by simp only [List.getElem?_toArray, List.getElem?_cons_succ, List.getElem?_cons_zero]; exact rfl) (fun K hK => ?_) AllReadyH.nil
    rw [if_pos (by rfl)]
    refine wp_store_mid _ _ _ rfl (w.heap.size + 1) 0 (ints (dg Q)).toArray rfl rfl (by rw [hzQ]; exact hT.2.2.2.1) (by rw [hzQ]; exact T_info35) (all_oneCell_toArray h1Q) ?_
    simp only [Act.put, List.setIfInBounds_toArray, List.set_cons_zero, List.set_cons_succ, List.toList_toArray]
    refine hK.out _ _ ⟨World.rangeAt_setCells_apart hT.1 _ _ _ (.inl n2), World.rangeAt_setCells_apart hT.2.1 _ _ _ (.inl n4), World.there_setCells hT.2.2.1 _ _ _, World.there_setCells hT.2.2.2.1 _ _ _, below_setCells (Nat.le_succ _) _ _ _ _ hT.2.2.2.2⟩ (fun hU => ?_)
    clear hK K
    try simp only [Act.put, List.setIfInBounds_toArray, List.set_cons_zero, List.set_cons_succ, List.toList_toArray]
    refine wpAnyH_take (i := 13) (v := (.bool false)) (by simp only [List.getElem?_toArray, List.getElem?_cons_succ, List.getElem?_cons_zero]; exact rfl) (by kernel_rfl) (by kernel_rfl) (by kernel_rfl) (by intro _ _ _ h; exact h) (Or.inl ⟨by kernel_rfl, by intro w hSw; go_simp⟩) (by assumption) ?_
    refine wpAnyH_done (by kernel_rfl) ?_ _
    simp only [Act.put, List.setIfInBounds_toArray, List.set_cons_succ]
    have rP := World.rangeAt_setCells_apart (World.rangeAt_setCells_same _ w.heap.size 0 (ints (dg P)) (by rw [hlP]; exact hHeld.2.2.1)) (w.heap.size + 1) 0 (ints (dg Q)) (.inl (by omega))
    have rQ := World.rangeAt_setCells_same _ (w.heap.size + 1) 0 (ints (dg Q)) (by rw [hlQ]; exact hT.2.2.2.1)
    go_wp2_with fail
    refine bodyPost_ret (results_2cells_tmp rfl _ _ w.heap.size (w.heap.size + 1) (ints (dg P)) (ints (dg Q)) _ rfl rfl rP rQ hu rfl hiP' hiQ') rfl ?_
    exact ⟨by rw [HTW.out]; rfl, hU.2.2.2.2⟩
  | true =>
    have hvP : valid P = true := by simp at hv2; exact hv2.1
    have hvQ : valid Q = true := by simp at hv2; exact hv2.2
    have hFP := dg_fits hvP
    have hFQ := dg_fits hvQ
    have hbdP := valid_bd hvP
    have hbdQ := valid_bd hvQ
    rw [← dg_sum hvP] at hbdP
    rw [← dg_sum hvQ] at hbdQ
    have hsP : 0 ≤ sumL (dg P) ∧ sumL (dg P) ≤ 16 := by omega
    have hsQ : 0 ≤ sumL (dg Q) ∧ sumL (dg Q) ≤ 16 := by omega
    have HTW : Hid ((two P Q) = (decide (sumL (dg P) + sumL (dg Q) ≤ 16))) := Lib.hid (by rw [dg_sum hvP, dg_sum hvQ]; unfold two; rw [hv2]; rfl)
    have hwr : IntKind.i64.wrap (sumL (dg P) + sumL (dg Q)) = sumL (dg P) + sumL (dg Q) := IntWalk.i64_in _ (by omega)
    clear hv2 hvP hvQ hbdP hbdQ
    refine wp_region_held_drew (S := (fun w' => w'.rangeAt w1.heap.size 0 (ints (dg P)) ∧ w'.rangeAt (w1.heap.size + 1) 0 (ints (dg Q)) ∧ w'.there w.heap.size 0 16 ∧ w'.there (w.heap.size + 1) 0 16 ∧ Below w.heap.size w w')) (by kernel_rfl) ⟨hr7, hr9, h4, h5, hb4'.trans ((Dr.n w4 1).below _)⟩ (fun hHeld => ?_)
    refine wpAnyH_take (i := 0) (v := _) (by simp only [List.getElem?_toArray, List.getElem?_cons_succ, List.getElem?_cons_zero]; exact rfl) (by kernel_rfl) (by kernel_rfl) (by kernel_rfl) (by intro _ _ _ h; exact h) (yieldsIf_load_mid (by kernel_rfl) _ _ rfl w1.heap.size 0 rfl (ints (dg P)) _ (fun _ hw => hw.1) hu rfl hiP') (by assumption) ?_
    simp only [Act.put, List.setIfInBounds_toArray, List.set_cons_zero, List.set_cons_succ, List.toList_toArray]
    refine wpAnyH_take (i := 1) (v := _) (by simp only [List.getElem?_toArray, List.getElem?_cons_succ, List.getElem?_cons_zero]; exact rfl) (by kernel_rfl) (by kernel_rfl) (by kernel_rfl) (by intro _ _ _ h; exact h) (yieldsIf_load_mid (by kernel_rfl) _ _ rfl (w1.heap.size + 1) 0 rfl (ints (dg Q)) _ (fun _ hw => hw.2.1) hu rfl hiQ') (by assumption) ?_
    simp only [Act.put, List.setIfInBounds_toArray, List.set_cons_zero, List.set_cons_succ, List.toList_toArray]
    refine wpAnyH_take (i := 2) (v := (.bool true)) (by simp only [List.getElem?_toArray, List.getElem?_cons_succ, List.getElem?_cons_zero]; exact rfl) (by kernel_rfl) (by kernel_rfl) (by kernel_rfl) (by intro _ _ _ h; exact h) (Or.inl ⟨by kernel_rfl, by intro w hSw; go_simp⟩) (by assumption) ?_
    simp only [Act.put, List.setIfInBounds_toArray, List.set_cons_zero, List.set_cons_succ, List.toList_toArray]
    refine wpAnyH_take (i := 3) (v := (.bool true)) (by simp only [List.getElem?_toArray, List.getElem?_cons_succ, List.getElem?_cons_zero]; exact rfl) (by kernel_rfl) (by kernel_rfl) (by kernel_rfl) (by intro _ _ _ h; exact h) (Or.inl ⟨by kernel_rfl, by intro w hSw; go_simp⟩) (by assumption) ?_
    simp only [Act.put, List.setIfInBounds_toArray, List.set_cons_zero, List.set_cons_succ, List.toList_toArray]
    refine wpAnyH_take (i := 4) (v := _) (by simp only [List.getElem?_toArray, List.getElem?_cons_succ, List.getElem?_cons_zero]; exact rfl) (by kernel_rfl) (by kernel_rfl) (by kernel_rfl) (by intro _ _ _ h; exact h) (yieldsIf_load_mid (by kernel_rfl) _ _ rfl w1.heap.size 0 rfl (ints (dg P)) _ (fun _ hw => hw.1) hu rfl hiP') (by assumption) ?_
    simp only [Act.put, List.setIfInBounds_toArray, List.set_cons_zero, List.set_cons_succ, List.toList_toArray]
    refine wpAnyH_take (i := 6) (v := _) (by simp only [List.getElem?_toArray, List.getElem?_cons_succ, List.getElem?_cons_zero]; exact rfl) (by kernel_rfl) (by kernel_rfl) (by kernel_rfl) (by intro _ _ _ h; exact h) (yieldsIf_load_mid (by kernel_rfl) _ _ rfl (w1.heap.size + 1) 0 rfl (ints (dg Q)) _ (fun _ hw => hw.2.1) hu rfl hiQ') (by assumption) ?_
    simp only [Act.put, List.setIfInBounds_toArray, List.set_cons_zero, List.set_cons_succ, List.toList_toArray]
    refine wpAnyH_ready (rs := [5]) (by kernel_rfl) (by simp) ?_
    refine AllReadyH.cons (o := _) (by simp only [List.getElem?_toArray, List.getElem?_cons_succ, List.getElem?_cons_zero]; exact rfl) (fun K hK => ?_) AllReadyH.nil
    rw [if_pos (by rfl)]
    go_simp
    go_at_call 71
    refine (dsum_any (dg P) (dg_len P) hFP _).mono ?_
    rintro e w8 ⟨rfl, hbd⟩
    refine hK.out _ _ ⟨range_below hHeld.1 hbd, range_below hHeld.2.1 hbd, there_below hHeld.2.2.1 hbd, there_below hHeld.2.2.2.1 hbd, hHeld.2.2.2.2.trans (hbd.mono hHeld.2.2.2.2.size)⟩ (fun hH2 => ?_)
    clear hK K
    try simp only [Act.put, List.setIfInBounds_toArray, List.set_cons_zero, List.set_cons_succ, List.toList_toArray]
    refine wpAnyH_ready (rs := [7]) (by kernel_rfl) (by simp) ?_
    refine AllReadyH.cons (o := _) (by simp only [List.getElem?_toArray, List.getElem?_cons_succ, List.getElem?_cons_zero]; exact rfl) (fun K hK => ?_) AllReadyH.nil
    rw [if_pos (by rfl)]
    go_simp
    go_at_call 71
    refine (dsum_any (dg Q) (dg_len Q) hFQ _).mono ?_
    rintro e w10 ⟨rfl, hbd⟩
    refine hK.out _ _ ⟨range_below hH2.1 hbd, range_below hH2.2.1 hbd, there_below hH2.2.2.1 hbd, there_below hH2.2.2.2.1 hbd, hH2.2.2.2.2.trans (hbd.mono hH2.2.2.2.2.size)⟩ (fun hH3 => ?_)
    clear hK K
    try simp only [Act.put, List.setIfInBounds_toArray, List.set_cons_zero, List.set_cons_succ, List.toList_toArray]
    refine wpAnyH_take (i := 8) (v := (.int .i64 (sumL (dg P) + sumL (dg Q)))) (by simp only [List.getElem?_toArray, List.getElem?_cons_succ, List.getElem?_cons_zero]; exact rfl) (by kernel_rfl) (by kernel_rfl) (by kernel_rfl) (by intro _ _ _ h; exact h) (Or.inl ⟨by kernel_rfl, by intro w hSw; go_simp⟩) (by assumption) ?_
    simp only [Act.put, List.setIfInBounds_toArray, List.set_cons_zero, List.set_cons_succ, List.toList_toArray]
    refine wpAnyH_take (i := 9) (v := (.bool (decide (sumL (dg P) + sumL (dg Q) ≤ 16)))) (by simp only [List.getElem?_toArray, List.getElem?_cons_succ, List.getElem?_cons_zero]; exact rfl) (by kernel_rfl) (by kernel_rfl) (by kernel_rfl) (by intro _ _ _ h; exact h) (Or.inl ⟨by kernel_rfl, by intro w hSw; go_simp⟩) (by assumption) ?_
    simp only [Act.put, List.setIfInBounds_toArray, List.set_cons_zero, List.set_cons_succ, List.toList_toArray]
    refine wpAnyH_take (i := 10) (v := (.bool (decide (sumL (dg P) + sumL (dg Q) ≤ 16)))) (by simp only [List.getElem?_toArray, List.getElem?_cons_succ, List.getElem?_cons_zero]; exact rfl) (by kernel_rfl) (by kernel_rfl) (by kernel_rfl) (by intro _ _ _ h; exact h) (Or.inl ⟨by kernel_rfl, by intro w hSw; go_simp⟩) (by assumption) ?_
    simp only [Act.put, List.setIfInBounds_toArray, List.set_cons_zero, List.set_cons_succ, List.toList_toArray]
    refine wpAnyH_ready (rs := [11]) (by kernel_rfl) (by simp) ?_
    refine AllReadyH.cons (o := _) (by simp only [List.getElem?_toArray, List.getElem?_cons_succ, List.getElem?_cons_zero]; exact rfl) (fun K hK => ?_) AllReadyH.nil
    rw [if_pos (by rfl)]
    refine wp_store_mid _ _ _ rfl w.heap.size 0 (ints (dg P)).toArray rfl rfl (by rw [hzP]; exact hH3.2.2.1) (by rw [hzP]; exact T_info35) (all_oneCell_toArray h1P) ?_
    simp only [Act.put, List.setIfInBounds_toArray, List.set_cons_zero, List.set_cons_succ, List.toList_toArray]
    refine hK.out _ _ ⟨World.rangeAt_setCells_apart hH3.1 _ _ _ (.inl n1), World.rangeAt_setCells_apart hH3.2.1 _ _ _ (.inl n3), World.there_setCells hH3.2.2.1 _ _ _, World.there_setCells hH3.2.2.2.1 _ _ _, below_setCells (Nat.le_refl _) _ _ _ _ hH3.2.2.2.2⟩ (fun hT => ?_)
    clear hK K
    try simp only [Act.put, List.setIfInBounds_toArray, List.set_cons_zero, List.set_cons_succ, List.toList_toArray]
    refine wpAnyH_ready (rs := [12]) (by kernel_rfl) (by simp) ?_
    refine AllReadyH.cons (o := _) (by simp only [List.getElem?_toArray, List.getElem?_cons_succ, List.getElem?_cons_zero]; exact rfl) (fun K hK => ?_) AllReadyH.nil
    rw [if_pos (by rfl)]
    refine wp_store_mid _ _ _ rfl (w.heap.size + 1) 0 (ints (dg Q)).toArray rfl rfl (by rw [hzQ]; exact hT.2.2.2.1) (by rw [hzQ]; exact T_info35) (all_oneCell_toArray h1Q) ?_
    simp only [Act.put, List.setIfInBounds_toArray, List.set_cons_zero, List.set_cons_succ, List.toList_toArray]
    refine hK.out _ _ ⟨World.rangeAt_setCells_apart hT.1 _ _ _ (.inl n2), World.rangeAt_setCells_apart hT.2.1 _ _ _ (.inl n4), World.there_setCells hT.2.2.1 _ _ _, World.there_setCells hT.2.2.2.1 _ _ _, below_setCells (Nat.le_succ _) _ _ _ _ hT.2.2.2.2⟩ (fun hU => ?_)
    clear hK K
    try simp only [Act.put, List.setIfInBounds_toArray, List.set_cons_zero, List.set_cons_succ, List.toList_toArray]
    refine wpAnyH_take (i := 13) (v := (.bool (decide (sumL (dg P) + sumL (dg Q) ≤ 16)))) (by simp only [List.getElem?_toArray, List.getElem?_cons_succ, List.getElem?_cons_zero]; exact rfl) (by kernel_rfl) (by kernel_rfl) (by kernel_rfl) (by intro _ _ _ h; exact h) (Or.inl ⟨by kernel_rfl, by intro w hSw; go_simp⟩) (by assumption) ?_
    refine wpAnyH_done (by kernel_rfl) ?_ _
    simp only [Act.put, List.setIfInBounds_toArray, List.set_cons_succ]
    have rP := World.rangeAt_setCells_apart (World.rangeAt_setCells_same _ w.heap.size 0 (ints (dg P)) (by rw [hlP]; exact hH3.2.2.1)) (w.heap.size + 1) 0 (ints (dg Q)) (.inl (by omega))
    have rQ := World.rangeAt_setCells_same _ (w.heap.size + 1) 0 (ints (dg Q)) (by rw [hlQ]; exact hT.2.2.2.1)
    go_wp2_with fail
    refine bodyPost_ret (results_2cells_tmp rfl _ _ w.heap.size (w.heap.size + 1) (ints (dg P)) (ints (dg Q)) _ rfl rfl rP rQ hu rfl hiP' hiQ') rfl ?_
    exact ⟨by rw [HTW.out]; rfl, hU.2.2.2.2⟩

def oneS (P Q : List Int) : Bool := valid P && valid Q && (sumL P == sumL Q)
end Go.Proofs.Ytbbbfaollcklkaa
namespace Go.Proofs.Ytbbbfaollcklkaa
end Go.Proofs.Ytbbbfaollcklkaa
namespace Go.Proofs.Ytbbbfaollcklkaa
open Go.RowKit NP
set_option maxRecDepth 8000
set_option linter.unusedVariables false
theorem pad_full {D : List Int} (h : D.length = 16) : pad D = D := by simp [pad, h]
def neg (E : List Int) : List Int := E.map fun x => -x
theorem neg_getD (E : List Int) (i : Nat) : (neg E).getD i 0 = -E.getD i 0 := by
  unfold neg
  rw [List.getD_eq_getElem?_getD, List.getD_eq_getElem?_getD, List.getElem?_map]
  cases E[i]? <;> simp



theorem fillN_set {i : Nat} (n : Int) (h : i < 16) : (List.replicate i n ++ List.replicate (16 - i) 0).set i n = List.replicate (i + 1) n ++ List.replicate (16 - (i + 1)) 0 := by
  rw [show 16 - i = (16 - (i + 1)) + 1 by omega, List.replicate_succ, List.set_append_right _ _ (by simp), List.length_replicate, Nat.sub_self, List.set_cons_zero, List.replicate_succ']
  simp
theorem fillN_len (i : Nat) (n : Int) (h : i ≤ 16) : (List.replicate i n ++ List.replicate (16 - i) 0).length = 16 := by simp; omega
theorem fillN_end (n : Nat) : List.replicate n (n : Int) ++ List.replicate (16 - n) 0 = pad (sqs n) := by simp [pad, sqs]

end Go.Proofs.Ytbbbfaollcklkaa
namespace Go.Proofs.Ytbbbfaollcklkaa
open Go.RowKit NP
set_option maxRecDepth 8000
set_option linter.unusedVariables false

theorem um_set {U : List Int} {N : Nat} (hU : U.length = N) (hN : N < 16) (x : Int) : (U ++ List.replicate (16 - N) 0).set N x = (U ++ [x]) ++ List.replicate (16 - (N + 1)) 0 := by
  rw [show 16 - N = (16 - (N + 1)) + 1 by omega, List.replicate_succ, List.set_append_right _ _ (by omega), hU, Nat.sub_self, List.set_cons_zero]
  simp

theorem unite_any (D E : List Int) (hD : D.length = 16) (hE : E.length = 16) (w : World) :
    Calls Try.prog 46 #[.agg (arr D), .agg (arr E)] w fun e w' => e = .returned (.agg (arr (um (fun i => D.getD i 0) (fun i => E.getD i 0) 16).1)) ∧ Below w.heap.size w w' := by
  have hd16 : 16 ≤ D.length := by omega
  have he16 : 16 ≤ E.length := by omega
  have hb0 := ((Blk.new w 50 (arr D)).alloc (.cells (arr E) 50)).alloc (.cells (arr (List.replicate 16 0)) 50) |>.alloc (.cells (arr (List.replicate 16 0)) 50)
  have hb1 := ((Blk.new (w.alloc (.cells (arr D) 50)) 50 (arr E)).alloc (.cells (arr (List.replicate 16 0)) 50)).alloc (.cells (arr (List.replicate 16 0)) 50)
  have hb2 := (Blk.new ((w.alloc (.cells (arr D) 50)).alloc (.cells (arr E) 50)) 50 (arr (List.replicate 16 0))).alloc (.cells (arr (List.replicate 16 0)) 50)
  have hb3 := Blk.new (((w.alloc (.cells (arr D) 50)).alloc (.cells (arr E) 50)).alloc (.cells (arr (List.replicate 16 0)) 50)) 50 (arr (List.replicate 16 0))
  rw [World.size_alloc] at hb1
  rw [World.size_alloc, World.size_alloc] at hb2
  rw [World.size_alloc, World.size_alloc, World.size_alloc] at hb3
  have hbel0 : Below w.heap.size w ((((w.alloc (.cells (arr D) 50)).alloc (.cells (arr E) 50)).alloc (.cells (arr (List.replicate 16 0)) 50)).alloc (.cells (arr (List.replicate 16 0)) 50)) :=
    ((((Below.refl _ _).alloc (Nat.le_refl _) _).alloc (by simp) _).alloc (by simp; omega) _).alloc (by simp; omega) _
  have HDE := Lib.hid (And.intro hD hE)
  clear hD hE
  go_enter Try.func46, Try.ntmps46
  go_wp2
  go_loopw [6, 7, 8, 9] (fun vi vk vp vn wr => ∃ N : Nat, N ≤ 16 ∧ vn = .int .i64 N ∧ vi = .int .i64 ((um (fun i => D.getD i 0) (fun i => E.getD i 0) N).2.1 : Nat) ∧ vk = .int .i64 ((um (fun i => D.getD i 0) (fun i => E.getD i 0) N).2.2 : Nat) ∧ Below w.heap.size w wr ∧ Blk wr w.heap.size 50 (arr D) ∧ Blk wr (w.heap.size + 1) 50 (arr E) ∧ Blk wr (w.heap.size + 2) 50 (arr (List.replicate 16 0)) ∧ Blk wr (w.heap.size + 3) 50 (arr ((um (fun i => D.getD i 0) (fun i => E.getD i 0) N).1 ++ List.replicate (16 - N) 0))) (fun _ _ _ vn _ => 16 - (intOf vn).toNat)
  case atStart => exact ⟨0, Nat.zero_le _, rfl, rfl, rfl, hbel0, hb0, hb1, hb2, hb3⟩
  case round =>
    obtain ⟨N, hN, rfl, rfl, rfl, hbel, hbD, hbE, hbZ, hbU⟩ := hrel
    have hct := um_count (fun i => D.getD i 0) (fun i => E.getD i 0) N
    have HY := Lib.hid (um_step_yes (fun i => D.getD i 0) (fun i => E.getD i 0) N)
    have HNO := Lib.hid (um_step_no (fun i => D.getD i 0) (fun i => E.getD i 0) N)
    clear hb0 hb1 hb2 hb3 hbel0
    by_cases hlt : N < 16
    · generalize (um (fun i => D.getD i 0) (fun i => E.getD i 0) N).1 = U at *
      generalize (um (fun i => D.getD i 0) (fun i => E.getD i 0) N).2.1 = i at *
      generalize (um (fun i => D.getD i 0) (fun i => E.getD i 0) N).2.2 = k at *
      obtain ⟨hik, hUl⟩ := hct
      have hi16 : i < 16 := by omega
      have hk16 : k < 16 := by omega
      have hi16' : (i : Int) < 16 := by omega
      have hk16' : (k : Int) < 16 := by omega
      have hlt' : (N : Int) < 16 := by omega
      have hc1 : wr.cell? ⟨w.heap.size, i, none⟩ = some (.int .i64 (D.getD i 0)) := by rw [hbD.cell i, arr_get D i (by omega), getD_lt]
      have hc2 : wr.cell? ⟨w.heap.size + 1, k, none⟩ = some (.int .i64 (E.getD k 0)) := by rw [hbE.cell k, arr_get E k (by omega), getD_lt]
      have hUs : N < (U ++ List.replicate (16 - N) 0).length := by simp; omega
      have hc3 : wr.cell? ⟨w.heap.size + 3, N, none⟩ = some (.int .i64 ((U ++ List.replicate (16 - N) 0)[N])) := by rw [hbU.cell N, arr_get _ N hUs]
      have hf3 : wr.frozen? ⟨w.heap.size + 3, N, none⟩ = false := hbU.free N
      have HS := Lib.hid (um_set hUl hlt)
      obtain ⟨x, hx⟩ : ∃ x, x = D.getD i 0 := ⟨_, rfl⟩
      obtain ⟨y, hy⟩ : ∃ y, y = E.getD k 0 := ⟨_, rfl⟩
      rw [← hx] at hc1
      rw [← hy] at hc2
      generalize (U ++ List.replicate (16 - N) 0)[N] = z at hc3
      by_cases hle : y ≤ x
      · have HE := Lib.hid (HY.out (by rw [hx, hy] at hle; exact hle))
        have HX := Lib.hid hx
        clear hx hy hUs hik hUl
        go_wp2_with fail
        go_quiet (fail)
        go_wp2
        go_roundw
        case rel =>
          refine ⟨N + 1, by omega, by go_num, by rw [HE.out]; go_num, by rw [HE.out], (hbel.trans ((Dr.n wr _).below _)).setCell (by show w.heap.size ≤ w.heap.size + 3; omega) _, (hbD.drewN _).off (by show w.heap.size ≠ w.heap.size + 3; omega) _, (hbE.drewN _).off (by show w.heap.size + 1 ≠ w.heap.size + 3; omega) _, (hbZ.drewN _).off (by show w.heap.size + 2 ≠ w.heap.size + 3; omega) _, ?_⟩
          have e := (hbU.drewN nq).set N (.int .i64 x)
          rw [arr_set, HS.out] at e
          rw [HE.out]
          show Blk _ _ _ (arr (U ++ [D.getD i 0] ++ List.replicate (16 - (N + 1)) 0))
          rw [← HX.out]
          exact e
        case measure => simp [intOf]; omega
      · have HE := Lib.hid (HNO.out (by rw [hx, hy] at hle; exact hle))
        have hle' : x < y := by omega
        have HX := Lib.hid hy
        clear hx hy hUs hik hUl hle
        go_wp2_with fail
        go_quiet (fail)
        go_wp2
        go_roundw
        case rel =>
          refine ⟨N + 1, by omega, by go_num, by rw [HE.out], by rw [HE.out]; go_num, (hbel.trans ((Dr.n wr _).below _)).setCell (by show w.heap.size ≤ w.heap.size + 3; omega) _, (hbD.drewN _).off (by show w.heap.size ≠ w.heap.size + 3; omega) _, (hbE.drewN _).off (by show w.heap.size + 1 ≠ w.heap.size + 3; omega) _, (hbZ.drewN _).off (by show w.heap.size + 2 ≠ w.heap.size + 3; omega) _, ?_⟩
          have e := (hbU.drewN nq).set N (.int .i64 y)
          rw [arr_set, HS.out] at e
          rw [HE.out]
          show Blk _ _ _ (arr (U ++ [E.getD k 0] ++ List.replicate (16 - (N + 1)) 0))
          rw [← HX.out]
          exact e
        case measure => simp [intOf]; omega
    · obtain rfl : N = 16 := by omega
      obtain ⟨U, hU⟩ : ∃ U, U = (um (fun i => D.getD i 0) (fun i => E.getD i 0) 16).1 := ⟨_, rfl⟩
      rw [← hU] at hct hbU
      have hbU' : Blk wr (w.heap.size + 3) 50 (arr U) := by have e := hbU; simp at e; exact e
      have hiU : (Try.prog.info? 50).map (·.size) = some (arr U).size := by rw [arr_size, hct.2]; exact T_info35
      have hsU : (arr U).size = (arr (List.replicate 16 0)).size := by rw [arr_size, arr_size, hct.2]; rfl
      have HU := Lib.hid hU
      clear hbU HY HNO hU hct
      go_wp2_with (first | (refine wpList_load_row rfl 50 (.tmp 5) rfl (w.heap.size + 3) rfl 50 (arr U) (0, 0) _ hbU' Try.underlying50 rfl hiU ?_) | (refine wpList_store_row rfl 50 (.tmp 4) (.tmp 34) rfl (w.heap.size + 2) rfl (arr U) rfl 50 _ hbZ hiU hsU (arr_one _) ?_))
      refine bodyPost_ret (results_cell_row rfl _ _ (w.heap.size + 2) 50 (arr U) (0, 0) _ rfl hbZ.row Try.underlying50 rfl hiU) rfl ?_
      exact ⟨by rw [HU.out], below_setRow' hbel (by omega) _⟩

end Go.Proofs.Ytbbbfaollcklkaa
