/-
  Walks of the program: two diagrams at once: of any parts, of parts that fit, of parts with one sum. Walks of the program: the bounds of two diagrams by their cells; one inside of another. Walks of the program: one inside of another. Walks of the program: kinds of parts. Walks of the program: parts of a kind led a way.
-/
import Derived.Test.YthafbdpeignccaaZR1
import Derived.Test.YthafbdpeignccaaZR2
import Derived.Test.YthafbdpeignccaaZR3
import Derived.Test.YthafbdpeignccaaZR4
import Derived.Test.YthafbdpeignccaaZR5
import Derived.Test.YthafbdpeignccaaZR6
import Derived.Deep.MidRow
import Derived.Deep.RegionHeld3
import Derived.Deep.RegionLaw
import Derived.Deep.DrawnRows
import Derived.StillTailTactics
import Derived.Shelf.Abstract
namespace Go.Proofs.Ythafbdpeignccaa
open Go.RowKit NP
set_option maxRecDepth 8000
set_option linter.unusedVariables false
set_option linter.unusedSimpArgs false

theorem results_2cells_tmp {P : Program} {fn : Func} {p1 p2 q : Tmp} {ty : TypeId} (h : fn.results = #[.cell p1 ty, .cell p2 ty, .tmp q]) (tmps : Array Value) (w : World) (g1 g2 : Nat) (c1 c2 : List Value) (d : TypeDesc)
    (hp1 : tmps.getD p1 undef = .pointer (some ⟨g1, 0, none⟩)) (hp2 : tmps.getD p2 undef = .pointer (some ⟨g2, 0, none⟩)) (h1 : w.rangeAt g1 0 c1) (h2 : w.rangeAt g2 0 c2)
    (hu : P.underlying ty = some d) (hd : d.isRow = true) (hi1 : (P.info? ty).map (·.size) = some c1.length) (hi2 : (P.info? ty).map (·.size) = some c2.length) :
    (results fn tmps).run P w = .ok (.tuple #[.agg c1.toArray, .agg c2.toArray, tmps.getD q undef]) w := by
  have hp1' : tmps[p1]?.getD undef = .pointer (some ⟨g1, 0, none⟩) := by simpa using hp1
  have hp2' : tmps[p2]?.getD undef = .pointer (some ⟨g2, 0, none⟩) := by simpa using hp2
  simp [results, h, hp1', hp2', asAddr, run_loadVar_mid w g1 0 ty c1 d h1 hu hd hi1, run_loadVar_mid w g2 0 ty c2 d h2 hu hd hi2]
theorem Blk.there {w : World} {g : Nat} {t : TypeId} {cs : Array Value} (h : Blk w g t cs) : w.there g 0 cs.size := fun j hj => by
  rw [Nat.zero_add, h.cell j]
  exact ⟨by simp [hj], h.free j⟩
theorem there_below {w w' : World} {b o n : Nat} (h : w.there b o n) (hb : Below w.heap.size w w') : w'.there b o n := fun j hj => by
  obtain ⟨h1, h2⟩ := h j hj
  obtain ⟨v, hv⟩ := Option.isSome_iff_exists.1 h1
  have hlt := World.block_lt_of_cell? w _ hv
  exact ⟨by rw [hb.cell (p := ⟨b, o + j, none⟩) hlt]; exact h1, by rw [hb.frozen (p := ⟨b, o + j, none⟩) hlt]; exact h2⟩
theorem below_setCells {B b : Nat} (hb : B ≤ b) : ∀ (vs : List Value) (o : Nat) (w0 w : World), Below B w0 w → Below B w0 (w.setCells b o vs)
  | [], _, _, _, h => h
  | v :: r, o, w0, w, h => by
    rw [World.setCells]
    exact below_setCells hb r (o + 1) w0 _ (h.setCell (by show B ≤ b; exact hb) v)
theorem two_rows (w1 : World) (t : TypeId) (Z X Y : Array Value) : Blk ((((w1.alloc (.cells Z t)).alloc (.cells Z t)).setRow w1.heap.size X).setRow (w1.heap.size + 1) Y) w1.heap.size t X ∧ Blk ((((w1.alloc (.cells Z t)).alloc (.cells Z t)).setRow w1.heap.size X).setRow (w1.heap.size + 1) Y) (w1.heap.size + 1) t Y ∧ Below w1.heap.size w1 ((((w1.alloc (.cells Z t)).alloc (.cells Z t)).setRow w1.heap.size X).setRow (w1.heap.size + 1) Y) := by
  have a1 : Blk (w1.alloc (.cells Z t)) w1.heap.size t Z := Blk.new w1 t Z
  have a2 := Blk.new (w1.alloc (.cells Z t)) t Z
  rw [World.size_alloc] at a2
  exact ⟨((a1.alloc _).row).rowOff (by omega), ((a2.rowOff (by omega)).row), below_setRow' (below_setRow' (((Below.refl _ _).alloc (Nat.le_refl _) _).alloc (by simp) _) (Nat.le_refl _) _) (by omega) _⟩
theorem first_row (w1 : World) (t : TypeId) (Z X : Array Value) : Blk (((w1.alloc (.cells Z t)).alloc (.cells Z t)).setRow w1.heap.size X) (w1.heap.size + 1) t Z := by
  have a2 := Blk.new (w1.alloc (.cells Z t)) t Z
  rw [World.size_alloc] at a2
  exact a2.rowOff (by omega)
theorem dg_fits {L : List Int} (h : valid L = true) : sumFits (dg L) := by rw [dg_yes h]; exact pad_fits h
theorem dg_sum {L : List Int} (h : valid L = true) : sumL (dg L) = sumL L := by rw [dg_yes h, sumL_pad]

set_option maxHeartbeats 4000000 in
theorem twoDiagrams_any (a b : Option Addr) (ca cb Ba Bb : Nat) (P Q : List Int) (w : World) (h : Rd w Ba a (ints P)) (hq : Rd w Bb b (ints Q)) (hBa : Ba ≤ w.heap.size) (hBb : Bb ≤ w.heap.size) (hl : P.length ≤ 4611686018427387904) (hlq : Q.length ≤ 4611686018427387904) :
    Calls Try.prog 81 #[.slice a P.length ca, .slice b Q.length cb] w fun e w' => e = .returned (.tuple #[.agg (arr (dg P)), .agg (arr (dg Q)), .bool (valid P && valid Q)]) ∧ Below w.heap.size w w' := by
  have hiP : (Try.prog.info? 59).map (·.size) = some (arr (dg P)).size := by rw [arr_size, dg_len]; exact T_info35
  have hszP : (arr (dg P)).size = (arr (List.replicate 16 0)).size := by rw [arr_size, arr_size, dg_len]; rfl
  have hiQ : (Try.prog.info? 59).map (·.size) = some (arr (dg Q)).size := by rw [arr_size, dg_len]; exact T_info35
  have hszQ : (arr (dg Q)).size = (arr (List.replicate 16 0)).size := by rw [arr_size, arr_size, dg_len]; rfl
  have hiP' := info_diag (dg P) (dg_len P)
  have hiQ' := info_diag (dg Q) (dg_len Q)
  have hu := Try.underlying59
  have hlP : (ints (dg P)).length = 16 := by rw [List.length_map, dg_len]
  have hlQ : (ints (dg Q)).length = 16 := by rw [List.length_map, dg_len]
  have h1P := ints_one (dg P)
  have h1Q := ints_one (dg Q)
  have hzP : (ints (dg P)).toArray.size = 16 := by rw [List.size_toArray]; exact hlP
  have hzQ : (ints (dg Q)).toArray.size = 16 := by rw [List.size_toArray]; exact hlQ
  obtain ⟨wA, hwA⟩ : ∃ wA, wA = (w.alloc (.cells (#[.int .i64 0, .int .i64 0, .int .i64 0, .int .i64 0, .int .i64 0, .int .i64 0, .int .i64 0, .int .i64 0, .int .i64 0, .int .i64 0, .int .i64 0, .int .i64 0, .int .i64 0, .int .i64 0, .int .i64 0, .int .i64 0]) 59)).alloc (.cells (#[.int .i64 0, .int .i64 0, .int .i64 0, .int .i64 0, .int .i64 0, .int .i64 0, .int .i64 0, .int .i64 0, .int .i64 0, .int .i64 0, .int .i64 0, .int .i64 0, .int .i64 0, .int .i64 0, .int .i64 0, .int .i64 0]) 59) := ⟨_, rfl⟩
  have hA4 : wA.there w.heap.size 0 16 := by rw [hwA]; exact World.there_alloc (Blk.new w 59 (arr (List.replicate 16 0))).there _
  have hA5 : wA.there (w.heap.size + 1) 0 16 := by
    rw [hwA]
    have e := (Blk.new (w.alloc (.cells (arr (List.replicate 16 0)) 59)) 59 (arr (List.replicate 16 0))).there
    rw [World.size_alloc] at e
    exact e
  have hAb : Below w.heap.size w wA := by rw [hwA]; exact ((Below.refl _ _).alloc (Nat.le_refl _) _).alloc (by simp) _
  have hAs : wA.heap.size = w.heap.size + 2 := by rw [hwA]; simp
  go_enter Try.func81, Try.ntmps81
  go_wp2_with fail
  rw [← hwA]
  clear hwA
  refine (diagramOf_any _ _ w.heap.size P _ ((h.more hBa).below hAb) hAb.size hl).mono ?_
  rintro e w1 ⟨rfl, hb1⟩
  have h4 := there_below hA4 hb1
  have h5 := there_below hA5 hb1
  have hb1' := hAb.trans (hb1.mono hAb.size)
  have hs1 : w.heap.size + 2 ≤ w1.heap.size := by have := hb1.size; omega
  have hR := (hq.more hBb).below hb1'
  clear hA4 hA5 hAb hAs hb1 h hq hl
  go_wp2_with (refine wpList_store_row rfl 59 (.tmp 7) (.tmp 14) rfl w1.heap.size rfl (arr (dg P)) rfl 59 (arr (List.replicate 16 0)) (Blk.new w1 _ _) hiP hszP (arr_one _) ?_)
  have hB7 := (Blk.new w1 59 (arr (List.replicate 16 0))).row (vs := arr (dg P))
  have hbel2 : Below w1.heap.size w1 ((w1.alloc (.cells (arr (List.replicate 16 0)) 59)).setRow w1.heap.size (arr (dg P))) := below_setRow' ((Below.refl _ _).alloc (Nat.le_refl _) _) (Nat.le_refl _) _
  obtain ⟨w2, hw2⟩ : ∃ w2, w2 = (w1.alloc (.cells (#[.int .i64 0, .int .i64 0, .int .i64 0, .int .i64 0, .int .i64 0, .int .i64 0, .int .i64 0, .int .i64 0, .int .i64 0, .int .i64 0, .int .i64 0, .int .i64 0, .int .i64 0, .int .i64 0, .int .i64 0, .int .i64 0]) 59)).setRow w1.heap.size (arr (dg P)) := ⟨_, rfl⟩
  rw [← hw2]
  replace hB7 : Blk w2 w1.heap.size 59 (arr (dg P)) := hw2 ▸ hB7
  replace hbel2 : Below w1.heap.size w1 w2 := hw2 ▸ hbel2
  clear hw2
  replace h4 := there_below h4 hbel2
  replace h5 := there_below h5 hbel2
  have hb2' := hb1'.trans (hbel2.mono hb1'.size)
  have hs2 := hB7.lt
  refine (diagramOf_any _ _ w.heap.size Q _ (hR.below (hbel2.mono hb1'.size)) hb2'.size hlq).mono ?_
  rintro e w3 ⟨rfl, hb3⟩
  replace h4 := there_below h4 hb3
  replace h5 := there_below h5 hb3
  have hB7' := hB7.below hb3 hB7.lt
  have hb3' := hb2'.trans (hb3.mono hb2'.size)
  have hs3 := hb3.size
  clear hR hB7 hb3 hb2' hb1' hbel2 hlq
  go_wp2_with (refine wpList_store_row rfl 59 (.tmp 9) (.tmp 19) rfl w3.heap.size rfl (arr (dg Q)) rfl 59 (arr (List.replicate 16 0)) (Blk.new w3 _ _) hiQ hszQ (arr_one _) ?_)
  have hB9 := (Blk.new w3 59 (arr (List.replicate 16 0))).row (vs := arr (dg Q))
  have hbel4 : Below w3.heap.size w3 ((w3.alloc (.cells (arr (List.replicate 16 0)) 59)).setRow w3.heap.size (arr (dg Q))) := below_setRow' ((Below.refl _ _).alloc (Nat.le_refl _) _) (Nat.le_refl _) _
  obtain ⟨w4, hw4⟩ : ∃ w4, w4 = (w3.alloc (.cells (#[.int .i64 0, .int .i64 0, .int .i64 0, .int .i64 0, .int .i64 0, .int .i64 0, .int .i64 0, .int .i64 0, .int .i64 0, .int .i64 0, .int .i64 0, .int .i64 0, .int .i64 0, .int .i64 0, .int .i64 0, .int .i64 0]) 59)).setRow w3.heap.size (arr (dg Q)) := ⟨_, rfl⟩
  rw [← hw4]
  replace hB9 : Blk w4 w3.heap.size 59 (arr (dg Q)) := hw4 ▸ hB9
  replace hbel4 : Below w3.heap.size w3 w4 := hw4 ▸ hbel4
  clear hw4
  replace h4 := there_below h4 hbel4
  replace h5 := there_below h5 hbel4
  have hr7 : w4.rangeAt w1.heap.size 0 (ints (dg P)) := Blk.range (hB7'.below hbel4 hB7'.lt)
  have hr9 : w4.rangeAt w3.heap.size 0 (ints (dg Q)) := Blk.range hB9
  have hb4' := hb3'.trans (hbel4.mono hb3'.size)
  have n1 : w1.heap.size ≠ w.heap.size := by omega
  have n2 : w1.heap.size ≠ w.heap.size + 1 := by omega
  have n3 : w3.heap.size ≠ w.heap.size := by omega
  have n4 : w3.heap.size ≠ w.heap.size + 1 := by omega
  clear hB7' hB9 hb3' hbel4
  cases hvP : valid P with
  | false =>
    have HTW : Hid ((valid P && valid Q) = false) := Lib.hid (by rw [hvP]; rfl)
    clear hvP
    refine wp_region_held_drew (S := (fun w' => w'.rangeAt w1.heap.size 0 (ints (dg P)) ∧ w'.rangeAt w3.heap.size 0 (ints (dg Q)) ∧ w'.there w.heap.size 0 16 ∧ w'.there (w.heap.size + 1) 0 16 ∧ Below w.heap.size w w')) (by kernel_rfl) ⟨hr7, hr9, h4, h5, hb4'.trans ((Dr.n w4 1).below _)⟩ (fun hHeld => ?_)
    refine wpAnyH_take (i := 0) (v := _) (by simp only [List.getElem?_toArray, List.getElem?_cons_succ, List.getElem?_cons_zero]; exact rfl) (by kernel_rfl) (by kernel_rfl) (by kernel_rfl) (by intro _ _ _ h; exact h) (yieldsIf_load_mid (by kernel_rfl) _ _ rfl w1.heap.size 0 rfl (ints (dg P)) _ (fun _ hw => hw.1) hu rfl hiP') (by assumption) ?_
    simp only [Act.put, List.setIfInBounds_toArray, List.set_cons_zero, List.set_cons_succ, List.toList_toArray]
    refine wpAnyH_take (i := 1) (v := _) (by simp only [List.getElem?_toArray, List.getElem?_cons_succ, List.getElem?_cons_zero]; exact rfl) (by kernel_rfl) (by kernel_rfl) (by kernel_rfl) (by intro _ _ _ h; exact h) (yieldsIf_load_mid (by kernel_rfl) _ _ rfl w3.heap.size 0 rfl (ints (dg Q)) _ (fun _ hw => hw.2.1) hu rfl hiQ') (by assumption) ?_
    simp only [Act.put, List.setIfInBounds_toArray, List.set_cons_zero, List.set_cons_succ, List.toList_toArray]
    refine wpAnyH_take (i := 2) (v := (.bool false)) (by simp only [List.getElem?_toArray, List.getElem?_cons_succ, List.getElem?_cons_zero]; exact rfl) (by kernel_rfl) (by kernel_rfl) (by kernel_rfl) (by intro _ _ _ h; exact h) (Or.inl ⟨by kernel_rfl, by intro w hSw; go_simp⟩) (by assumption) ?_
    simp only [Act.put, List.setIfInBounds_toArray, List.set_cons_zero, List.set_cons_succ, List.toList_toArray]
    refine wpAnyH_take (i := 3) (v := (.bool false)) (by simp only [List.getElem?_toArray, List.getElem?_cons_succ, List.getElem?_cons_zero]; exact rfl) (by kernel_rfl) (by kernel_rfl) (by kernel_rfl) (by intro _ _ _ h; exact h) (Or.inl ⟨by kernel_rfl, by intro w hSw; go_simp⟩) (by assumption) ?_
    simp only [Act.put, List.setIfInBounds_toArray, List.set_cons_zero, List.set_cons_succ, List.toList_toArray]
    refine wpAnyH_take (i := 4) (v := undef) (by simp only [List.getElem?_toArray, List.getElem?_cons_succ, List.getElem?_cons_zero]; exact rfl) (by kernel_rfl) (by kernel_rfl) (by kernel_rfl) (by intro _ _ _ h; exact h) (Or.inr ⟨by kernel_rfl, rfl⟩) (by assumption) ?_
    simp only [Act.put, List.setIfInBounds_toArray, List.set_cons_zero, List.set_cons_succ, List.toList_toArray]
    refine wpAnyH_take (i := 5) (v := (.bool false)) (by simp only [List.getElem?_toArray, List.getElem?_cons_succ, List.getElem?_cons_zero]; exact rfl) (by kernel_rfl) (by kernel_rfl) (by kernel_rfl) (by intro _ _ _ h; exact h) (Or.inl ⟨by kernel_rfl, by intro w hSw; go_simp⟩) (by assumption) ?_
    simp only [Act.put, List.setIfInBounds_toArray, List.set_cons_zero, List.set_cons_succ, List.toList_toArray]
    refine wpAnyH_ready (rs := [6]) (by kernel_rfl) (by simp) ?_
    refine AllReadyH.cons (o := _) (by simp only [List.getElem?_toArray, List.getElem?_cons_succ, List.getElem?_cons_zero]; exact rfl) (fun K hK => ?_) AllReadyH.nil
    rw [if_pos (by rfl)]
    refine wp_store_mid _ _ _ rfl w.heap.size 0 (ints (dg P)).toArray rfl rfl (by rw [hzP]; exact hHeld.2.2.1) (by rw [hzP]; exact T_info35) (all_oneCell_toArray h1P) ?_
    simp only [Act.put, List.setIfInBounds_toArray, List.set_cons_zero, List.set_cons_succ, List.toList_toArray]
    refine hK.out _ _ ⟨World.rangeAt_setCells_apart hHeld.1 _ _ _ (.inl n1), World.rangeAt_setCells_apart hHeld.2.1 _ _ _ (.inl n3), World.there_setCells hHeld.2.2.1 _ _ _, World.there_setCells hHeld.2.2.2.1 _ _ _, below_setCells (Nat.le_refl _) _ _ _ _ hHeld.2.2.2.2⟩ (fun hT => ?_)
    clear hK K
    try simp only [Act.put, List.setIfInBounds_toArray, List.set_cons_zero, List.set_cons_succ, List.toList_toArray]
    refine wpAnyH_ready (rs := [7]) (by kernel_rfl) (by simp) ?_
    refine AllReadyH.cons (o := _) (by simp only [List.getElem?_toArray, List.getElem?_cons_succ, List.getElem?_cons_zero]; exact rfl) (fun K hK => ?_) AllReadyH.nil
    rw [if_pos (by rfl)]
    refine wp_store_mid _ _ _ rfl (w.heap.size + 1) 0 (ints (dg Q)).toArray rfl rfl (by rw [hzQ]; exact hT.2.2.2.1) (by rw [hzQ]; exact T_info35) (all_oneCell_toArray h1Q) ?_
    simp only [Act.put, List.setIfInBounds_toArray, List.set_cons_zero, List.set_cons_succ, List.toList_toArray]
    refine hK.out _ _ ⟨World.rangeAt_setCells_apart hT.1 _ _ _ (.inl n2), World.rangeAt_setCells_apart hT.2.1 _ _ _ (.inl n4), World.there_setCells hT.2.2.1 _ _ _, World.there_setCells hT.2.2.2.1 _ _ _, below_setCells (Nat.le_succ _) _ _ _ _ hT.2.2.2.2⟩ (fun hU => ?_)
    clear hK K
    try simp only [Act.put, List.setIfInBounds_toArray, List.set_cons_zero, List.set_cons_succ, List.toList_toArray]
    refine wpAnyH_take (i := 8) (v := (.bool false)) (by simp only [List.getElem?_toArray, List.getElem?_cons_succ, List.getElem?_cons_zero]; exact rfl) (by kernel_rfl) (by kernel_rfl) (by kernel_rfl) (by intro _ _ _ h; exact h) (Or.inl ⟨by kernel_rfl, by intro w hSw; go_simp⟩) (by assumption) ?_
    refine wpAnyH_done (by kernel_rfl) ?_ _
    simp only [Act.put, List.setIfInBounds_toArray, List.set_cons_succ]
    have rP := World.rangeAt_setCells_apart (World.rangeAt_setCells_same _ w.heap.size 0 (ints (dg P)) (by rw [hlP]; exact hHeld.2.2.1)) (w.heap.size + 1) 0 (ints (dg Q)) (.inl (by omega))
    have rQ := World.rangeAt_setCells_same _ (w.heap.size + 1) 0 (ints (dg Q)) (by rw [hlQ]; exact hT.2.2.2.1)
    go_wp2_with fail
    refine bodyPost_ret (results_2cells_tmp rfl _ _ w.heap.size (w.heap.size + 1) (ints (dg P)) (ints (dg Q)) _ rfl rfl rP rQ hu rfl hiP' hiQ') rfl ?_
    exact ⟨by rw [HTW.out]; rfl, hU.2.2.2.2⟩
  | true =>
    have HTW : Hid ((valid P && valid Q) = valid Q) := Lib.hid (by rw [hvP]; rfl)
    clear hvP
    refine wp_region_held_drew (S := (fun w' => w'.rangeAt w1.heap.size 0 (ints (dg P)) ∧ w'.rangeAt w3.heap.size 0 (ints (dg Q)) ∧ w'.there w.heap.size 0 16 ∧ w'.there (w.heap.size + 1) 0 16 ∧ Below w.heap.size w w')) (by kernel_rfl) ⟨hr7, hr9, h4, h5, hb4'.trans ((Dr.n w4 1).below _)⟩ (fun hHeld => ?_)
    refine wpAnyH_take (i := 0) (v := _) (by simp only [List.getElem?_toArray, List.getElem?_cons_succ, List.getElem?_cons_zero]; exact rfl) (by kernel_rfl) (by kernel_rfl) (by kernel_rfl) (by intro _ _ _ h; exact h) (yieldsIf_load_mid (by kernel_rfl) _ _ rfl w1.heap.size 0 rfl (ints (dg P)) _ (fun _ hw => hw.1) hu rfl hiP') (by assumption) ?_
    simp only [Act.put, List.setIfInBounds_toArray, List.set_cons_zero, List.set_cons_succ, List.toList_toArray]
    refine wpAnyH_take (i := 1) (v := _) (by simp only [List.getElem?_toArray, List.getElem?_cons_succ, List.getElem?_cons_zero]; exact rfl) (by kernel_rfl) (by kernel_rfl) (by kernel_rfl) (by intro _ _ _ h; exact h) (yieldsIf_load_mid (by kernel_rfl) _ _ rfl w3.heap.size 0 rfl (ints (dg Q)) _ (fun _ hw => hw.2.1) hu rfl hiQ') (by assumption) ?_
    simp only [Act.put, List.setIfInBounds_toArray, List.set_cons_zero, List.set_cons_succ, List.toList_toArray]
    refine wpAnyH_take (i := 2) (v := (.bool true)) (by simp only [List.getElem?_toArray, List.getElem?_cons_succ, List.getElem?_cons_zero]; exact rfl) (by kernel_rfl) (by kernel_rfl) (by kernel_rfl) (by intro _ _ _ h; exact h) (Or.inl ⟨by kernel_rfl, by intro w hSw; go_simp⟩) (by assumption) ?_
    simp only [Act.put, List.setIfInBounds_toArray, List.set_cons_zero, List.set_cons_succ, List.toList_toArray]
    refine wpAnyH_take (i := 3) (v := (.bool true)) (by simp only [List.getElem?_toArray, List.getElem?_cons_succ, List.getElem?_cons_zero]; exact rfl) (by kernel_rfl) (by kernel_rfl) (by kernel_rfl) (by intro _ _ _ h; exact h) (Or.inl ⟨by kernel_rfl, by intro w hSw; go_simp⟩) (by assumption) ?_
    simp only [Act.put, List.setIfInBounds_toArray, List.set_cons_zero, List.set_cons_succ, List.toList_toArray]
    refine wpAnyH_take (i := 4) (v := (.bool (valid Q))) (by simp only [List.getElem?_toArray, List.getElem?_cons_succ, List.getElem?_cons_zero]; exact rfl) (by kernel_rfl) (by kernel_rfl) (by kernel_rfl) (by intro _ _ _ h; exact h) (Or.inl ⟨by kernel_rfl, by intro w hSw; go_simp⟩) (by assumption) ?_
    simp only [Act.put, List.setIfInBounds_toArray, List.set_cons_zero, List.set_cons_succ, List.toList_toArray]
    refine wpAnyH_take (i := 5) (v := (.bool (valid Q))) (by simp only [List.getElem?_toArray, List.getElem?_cons_succ, List.getElem?_cons_zero]; exact rfl) (by kernel_rfl) (by kernel_rfl) (by kernel_rfl) (by intro _ _ _ h; exact h) (Or.inl ⟨by kernel_rfl, by intro w hSw; go_simp⟩) (by assumption) ?_
    simp only [Act.put, List.setIfInBounds_toArray, List.set_cons_zero, List.set_cons_succ, List.toList_toArray]
    refine wpAnyH_ready (rs := [6]) (by kernel_rfl) (by simp) ?_
    refine AllReadyH.cons (o := _) (by simp only [List.getElem?_toArray, List.getElem?_cons_succ, List.getElem?_cons_zero]; exact rfl) (fun K hK => ?_) AllReadyH.nil
    rw [if_pos (by rfl)]
    refine wp_store_mid _ _ _ rfl w.heap.size 0 (ints (dg P)).toArray rfl rfl (by rw [hzP]; exact hHeld.2.2.1) (by rw [hzP]; exact T_info35) (all_oneCell_toArray h1P) ?_
    simp only [Act.put, List.setIfInBounds_toArray, List.set_cons_zero, List.set_cons_succ, List.toList_toArray]
    refine hK.out _ _ ⟨World.rangeAt_setCells_apart hHeld.1 _ _ _ (.inl n1), World.rangeAt_setCells_apart hHeld.2.1 _ _ _ (.inl n3), World.there_setCells hHeld.2.2.1 _ _ _, World.there_setCells hHeld.2.2.2.1 _ _ _, below_setCells (Nat.le_refl _) _ _ _ _ hHeld.2.2.2.2⟩ (fun hT => ?_)
    clear hK K
    try simp only [Act.put, List.setIfInBounds_toArray, List.set_cons_zero, List.set_cons_succ, List.toList_toArray]
    refine wpAnyH_ready (rs := [7]) (by kernel_rfl) (by simp) ?_
    refine AllReadyH.cons (o := _) (by simp only [List.getElem?_toArray, List.getElem?_cons_succ, List.getElem?_cons_zero]; exact rfl) (fun K hK => ?_) AllReadyH.nil
    rw [if_pos (by rfl)]
    refine wp_store_mid _ _ _ rfl (w.heap.size + 1) 0 (ints (dg Q)).toArray rfl rfl (by rw [hzQ]; exact hT.2.2.2.1) (by rw [hzQ]; exact T_info35) (all_oneCell_toArray h1Q) ?_
    simp only [Act.put, List.setIfInBounds_toArray, List.set_cons_zero, List.set_cons_succ, List.toList_toArray]
    refine hK.out _ _ ⟨World.rangeAt_setCells_apart hT.1 _ _ _ (.inl n2), World.rangeAt_setCells_apart hT.2.1 _ _ _ (.inl n4), World.there_setCells hT.2.2.1 _ _ _, World.there_setCells hT.2.2.2.1 _ _ _, below_setCells (Nat.le_succ _) _ _ _ _ hT.2.2.2.2⟩ (fun hU => ?_)
    clear hK K
    try simp only [Act.put, List.setIfInBounds_toArray, List.set_cons_zero, List.set_cons_succ, List.toList_toArray]
    refine wpAnyH_take (i := 8) (v := (.bool (valid Q))) (by simp only [List.getElem?_toArray, List.getElem?_cons_succ, List.getElem?_cons_zero]; exact rfl) (by kernel_rfl) (by kernel_rfl) (by kernel_rfl) (by intro _ _ _ h; exact h) (Or.inl ⟨by kernel_rfl, by intro w hSw; go_simp⟩) (by assumption) ?_
    refine wpAnyH_done (by kernel_rfl) ?_ _
    simp only [Act.put, List.setIfInBounds_toArray, List.set_cons_succ]
    have rP := World.rangeAt_setCells_apart (World.rangeAt_setCells_same _ w.heap.size 0 (ints (dg P)) (by rw [hlP]; exact hHeld.2.2.1)) (w.heap.size + 1) 0 (ints (dg Q)) (.inl (by omega))
    have rQ := World.rangeAt_setCells_same _ (w.heap.size + 1) 0 (ints (dg Q)) (by rw [hlQ]; exact hT.2.2.2.1)
    go_wp2_with fail
    refine bodyPost_ret (results_2cells_tmp rfl _ _ w.heap.size (w.heap.size + 1) (ints (dg P)) (ints (dg Q)) _ rfl rfl rP rQ hu rfl hiP' hiQ') rfl ?_
    exact ⟨by rw [HTW.out]; rfl, hU.2.2.2.2⟩


def oneS (P Q : List Int) : Bool := valid P && valid Q && (sumL P == sumL Q)
end Go.Proofs.Ythafbdpeignccaa
namespace Go.Proofs.Ythafbdpeignccaa
open Go.RowKit NP
set_option maxRecDepth 8000
set_option linter.unusedVariables false
set_option linter.unusedSimpArgs false
def bcm (D E : List Int) (i : Nat) : List Int := (List.range 32).map fun q => if q < 16 then (if q < i then lo2 D E q else 0) else (if q - 16 < i then hi2 D E (q - 16) else 0)
theorem bcm_len (D E : List Int) (i : Nat) : (bcm D E i).length = 32 := by simp [bcm]
theorem bcm_get (D E : List Int) (i q : Nat) (h : q < (bcm D E i).length) : (bcm D E i)[q] = if q < 16 then (if q < i then lo2 D E q else 0) else (if q - 16 < i then hi2 D E (q - 16) else 0) := by simp [bcm]
theorem bcm_zero (D E : List Int) : bcm D E 0 = List.replicate 32 0 := by simp [bcm]; rfl
theorem bcm_set (D E : List Int) (i : Nat) (hi : i < 16) : ((bcm D E i).set i (lo2 D E i)).set (16 + i) (hi2 D E i) = bcm D E (i + 1) := by
  apply List.ext_getElem
  · rw [List.length_set, List.length_set, bcm_len, bcm_len]
  · intro q h1 h2
    rw [bcm_get]
    by_cases e1 : 16 + i = q
    · subst e1
      rw [List.getElem_set_self, if_neg (by omega), if_pos (by omega)]
      congr 1
      omega
    · rw [List.getElem_set_ne e1]
      by_cases e2 : i = q
      · subst e2
        rw [List.getElem_set_self, if_pos hi, if_pos (by omega)]
      · rw [List.getElem_set_ne e2, bcm_get]
        (repeat' split) <;> first | rfl | omega
theorem bcm_end (D E : List Int) : bcm D E 16 = (List.range 16).map (lo2 D E) ++ (List.range 16).map (hi2 D E) := by
  apply List.ext_getElem
  · rw [bcm_len]; simp
  · intro q h1 h2
    rw [bcm_get]
    rw [bcm_len] at h1
    by_cases hq : q < 16
    · rw [if_pos hq, if_pos hq, List.getElem_append_left (by simpa using hq)]; simp
    · rw [if_neg hq, if_pos (by omega), List.getElem_append_right (by simp; omega)]; simp

end Go.Proofs.Ythafbdpeignccaa
namespace Go.Proofs.Ythafbdpeignccaa
open Go.RowKit NP
set_option maxRecDepth 8000
set_option linter.unusedVariables false
set_option linter.unusedSimpArgs false
theorem lo_len (D E : List Int) : ((List.range 16).map (lo2 D E)).length = 16 := by simp
theorem hi_len (D E : List Int) : ((List.range 16).map (hi2 D E)).length = 16 := by simp
theorem lo2_pad {P Q : List Int} (hp : P.length ≤ 16) (hq : Q.length ≤ 16) : lo2 (pad P) (pad Q) = lo2 P Q := by funext i; unfold lo2; rw [pad_getD hp, pad_getD hq]
theorem hi2_pad {P Q : List Int} (hp : P.length ≤ 16) (hq : Q.length ≤ 16) : hi2 (pad P) (pad Q) = hi2 P Q := by funext i; unfold hi2; rw [pad_getD hp, pad_getD hq]
theorem T_guardB : Try.prog.eqGuardType Try.prog.depth 99 = false := by kernel_rfl
theorem keep_rr {w0 w w' : World} {g1 g2 : Nat} {c1 c2 : List Value} (h : w.rangeAt g1 0 c1 ∧ w.rangeAt g2 0 c2 ∧ Below w0.heap.size w0 w) (hb : Below w.heap.size w w') :
    w'.rangeAt g1 0 c1 ∧ w'.rangeAt g2 0 c2 ∧ Below w0.heap.size w0 w' :=
  ⟨range_below h.1 hb, range_below h.2.1 hb, h.2.2.trans (hb.mono h.2.2.size)⟩

end Go.Proofs.Ythafbdpeignccaa
namespace Go.Proofs.Ythafbdpeignccaa
open Go.RowKit NP
set_option maxRecDepth 8000
set_option linter.unusedVariables false
set_option linter.unusedSimpArgs false
theorem cnt_pad {M : List Int} (hM : valid M = true) : cntD (pad M) = M.length := by
  have hlen : M.length ≤ 16 := (valid_bd hM).2.2.2
  unfold cntD
  refine ff_eq (fun j hj => ?_) hlen ?_
  · have h1 := preS_of_valid hM j hj hj
    rw [List.getD_eq_getElem?_getD, List.getElem?_eq_getElem (by rw [pad_len hlen]; omega), Option.getD_some, pad_get hlen hj]
    simp; omega
  · rcases Nat.lt_or_ge M.length 16 with h | h
    · right
      rw [List.getD_eq_getElem?_getD, List.getElem?_eq_getElem (by rw [pad_len hlen]; omega), Option.getD_some, pad_get0 hlen (Nat.le_refl _) h]
      simp
    · left; omega
theorem Blk.one {w : World} {g : Nat} {t : TypeId} {v : Value} (h : Blk w g t #[v]) : w.cell? ⟨g, 0, none⟩ = some v := by rw [h.cell 0]; rfl
theorem upto {k : Nat} {p : Nat → Bool} (H : ∀ j, j < k → p j = true) (h : p k = true) : ∀ j, j < k + 1 → p j = true := fun j hj => by
  rcases Nat.lt_or_ge j k with h1 | h1
  · exact H j h1
  · obtain rfl : j = k := by omega
    exact h

set_option maxHeartbeats 1000000 in
theorem remK_any (m r : Int) (hr : 1 ≤ r ∧ r < m) (hm : m ≤ 100) (g1 g2 : Nat) (L : List Int) (hv : valid L = true) (w : World) (h1 : Blk w g1 3 #[.int .i64 m]) (h2 : Blk w g2 3 #[.int .i64 r]) :
    Calls Try.prog 118 #[.agg (arr (pad L)), .pointer (some ⟨g1, 0, none⟩), .pointer (some ⟨g2, 0, none⟩)] w fun e w' => e = .returned (.bool (kRem m r L)) ∧ Below w.heap.size w w' := by
  have hl16 := (valid_bd hv).2.2.2
  have HV := Lib.hid hv
  have HNN := Lib.hid (getD_nn hv)
  clear hv
  have hB0 := Blk.new w 59 (arr (pad L))
  have hiL : (Try.prog.info? 59).map (·.size) = some (arr (pad L)).size := by rw [arr_size, pad_len hl16]; exact T_info35
  go_enter Try.func118, Try.ntmps118
  go_wp2_with (first | (go_at_call 76; refine (list_any L HV.out _).mono ?_; rintro e w1 ⟨a', rfl, ho1, hb1⟩) | (refine wpList_load_row rfl 59 (.tmp 3) rfl w.heap.size rfl 59 (arr (pad L)) (0, 0) _ hB0 Try.underlying59 rfl hiL ?_))
  have k1 := ((h1.alloc (.cells (arr (pad L)) 59)).below hb1 (by simp; have := h1.lt; omega)).one
  have k2 := ((h2.alloc (.cells (arr (pad L)) 59)).below hb1 (by simp; have := h2.lt; omega)).one
  have hbel : Below w.heap.size w w1 := ((Below.refl _ _).alloc (Nat.le_refl _) _).trans (hb1.mono (by simp))
  have hrd := ho1.rd
  clear hb1 ho1 h1 h2
  go_loop [6, 7, 11] (fun _ _ vi => ∃ k : Nat, k ≤ L.length ∧ vi = .int .i64 k ∧ Hid (∀ j, j < k → (fun j => L.getD j 0 % m == r || L.getD j 0 % m == m - r) j = true)) (fun _ _ vi => L.length - (intOf vi).toNat)
  case atStart => exact ⟨0, Nat.zero_le _, rfl, Lib.hid fun j hj => by omega⟩
  case round =>
    obtain ⟨k, hk, rfl, HP⟩ := hrel
    by_cases hlt : k < L.length
    · have hlt' : (k : Int) < (L.length : Int) := by omega
      obtain ⟨b, o, rfl, _, hc⟩ := hrd.at_ hlt
      have hx := HNN.out k
      have hg : L.getD k 0 = L[k] := getD_lt hlt
      rw [hg] at hx
      have HG := Lib.hid hg
      clear hg
      generalize L[k] = x at hc hx HG
      obtain ⟨q, hq⟩ : ∃ q, x % m = q := ⟨_, rfl⟩
      have hq0 : x.tmod m = q := by rw [Int.tmod_eq_emod_of_nonneg hx.1]; exact hq
      have hqb : 0 ≤ q ∧ q < m := ⟨hq ▸ Int.emod_nonneg _ (by omega), hq ▸ Int.emod_lt_of_pos _ (by omega)⟩
      have HQ := Lib.hid hq
      by_cases e1 : q = r
      · have b1 : (q != r) = false := by simp [e1]
        clear e1
        go_wp2_with fail
        go_round
        case rel => exact ⟨k + 1, by omega, by go_num, Lib.hid (upto HP.out (by show (L.getD k 0 % m == r || L.getD k 0 % m == m - r) = true; rw [HG.out, HQ.out]; have := bne_eq_false_iff_eq.1 b1; simp [this]))⟩
        case measure => simp [intOf]; omega
      · have b1 : (q != r) = true := by simpa using e1
        by_cases e2 : q = m - r
        · have b2 : (q != m - r) = false := by simp [e2]
          clear e1
          have HE := Lib.hid e2
          clear e2
          go_wp2_with fail
          go_round
          case rel => exact ⟨k + 1, by omega, by go_num, Lib.hid (upto HP.out (by show (L.getD k 0 % m == r || L.getD k 0 % m == m - r) = true; rw [HG.out, HQ.out]; simp [HE.out]))⟩
          case measure => simp [intOf]; omega
        · have b2 : (q != m - r) = true := by simpa using e2
          have HF : Hid (kRem m r L = false) := Lib.hid (allTo_no hlt (by show (L.getD k 0 % m == r || L.getD k 0 % m == m - r) = false; rw [HG.out, HQ.out]; simp [e1, e2]))
          clear e1 e2
          go_wp2_with fail
          go_ret
          exact ⟨ret_bool HF.out.symm, hbel⟩
    · obtain rfl : k = L.length := by omega
      have HF : Hid (kRem m r L = true) := Lib.hid (allTo_yes HP.out)
      go_wp2
      go_ret
      exact ⟨ret_bool HF.out.symm, hbel⟩

set_option maxHeartbeats 1000000 in
theorem fallK_any (s t : Int) (hs : 0 ≤ s ∧ s ≤ 100) (ht : 0 ≤ t ∧ t ≤ 100) (g1 g2 : Nat) (L : List Int) (hv : valid L = true) (w : World) (h1 : Blk w g1 3 #[.int .i64 s]) (h2 : Blk w g2 3 #[.int .i64 t]) :
    Calls Try.prog 119 #[.agg (arr (pad L)), .pointer (some ⟨g1, 0, none⟩), .pointer (some ⟨g2, 0, none⟩)] w fun e w' => e = .returned (.bool (kFall s t L)) ∧ Below w.heap.size w w' := by
  have hl16 := (valid_bd hv).2.2.2
  have HNN := Lib.hid (getD_nn hv)
  have HC := Lib.hid (cnt_pad hv)
  have HPL := Lib.hid (pad_len hl16)
  clear hv
  have hB0 := Blk.new w 59 (arr (pad L))
  have hiL : (Try.prog.info? 59).map (·.size) = some (arr (pad L)).size := by rw [arr_size, pad_len hl16]; exact T_info35
  go_enter Try.func119, Try.ntmps119
  go_wp2_with (first | (go_at_call 109; refine (count_any (pad L) HPL.out _).mono ?_; rintro e w1 ⟨rfl, hb1⟩; rw [HC.out]) | (refine wpList_load_row rfl 59 (.tmp 3) rfl w.heap.size rfl 59 (arr (pad L)) (0, 0) _ hB0 Try.underlying59 rfl hiL ?_))
  have k1 := (h1.alloc (.cells (arr (pad L)) 59)).below hb1 (by simp; have := h1.lt; omega)
  have k2 := (h2.alloc (.cells (arr (pad L)) 59)).below hb1 (by simp; have := h2.lt; omega)
  have k0 := (Blk.new w 59 (arr (pad L))).below hb1 (by simp)
  have hbel : Below w.heap.size w w1 := ((Below.refl _ _).alloc (Nat.le_refl _) _).trans (hb1.mono (by simp))
  clear hb1 h1 h2
  go_loopw [5, 6, 10] (fun _ _ vi wr => ∃ k : Nat, k ≤ L.length - 1 ∧ vi = .int .i64 k ∧ Dr w1 wr ∧ Hid (∀ j, j < k → (fun j => decide ((if L.getD j 0 % 3 = 0 then t else s) ≤ L.getD j 0 - L.getD (j + 1) 0)) j = true)) (fun _ _ vi _ => L.length - (intOf vi).toNat)
  case atStart => exact ⟨0, Nat.zero_le _, rfl, Dr.refl _, Lib.hid fun j hj => by omega⟩
  case round =>
    obtain ⟨k, hk, rfl, hdr, HP⟩ := hrel
    have hbd := hdr.below w1.heap.size
    have c1 := (k1.below hbd k1.lt).one
    have c2 := (k2.below hbd k2.lt).one
    have c0 := k0.below hbd k0.lt
    by_cases hlt : k < L.length - 1
    · have hlt' : (k : Int) < (L.length : Int) - 1 := by omega
      have hp16 : k < 16 := by omega
      have hp17 : k + 1 < 16 := by omega
      have hk16 : (k : Int) < 16 := by omega
      have hk17 : (k : Int) + 1 < 16 := by omega
      have hc := c0.cell k
      have hc' := c0.cell (k + 1)
      rw [arr_get _ k (by rw [HPL.out]; omega)] at hc
      rw [arr_get _ (k + 1) (by rw [HPL.out]; omega)] at hc'
      rw [pad_get hl16 (by omega)] at hc hc'
      have hx := HNN.out k
      have hy := HNN.out (k + 1)
      have hg : L.getD k 0 = L[k] := getD_lt (by omega)
      have hg' : L.getD (k + 1) 0 = L[k + 1] := getD_lt (by omega)
      rw [hg] at hx
      rw [hg'] at hy
      have HG := Lib.hid hg
      have HG' := Lib.hid hg'
      clear hg hg' c0
      generalize L[k] = x at hc hx HG
      generalize L[k + 1] = y at hc' hy HG'
      obtain ⟨q, hq⟩ : ∃ q, x % 3 = q := ⟨_, rfl⟩
      have hq0 : x.tmod 3 = q := by rw [Int.tmod_eq_emod_of_nonneg hx.1]; exact hq
      have HQ := Lib.hid hq
      by_cases e1 : q = 0
      · have b1 : (q == 0) = true := by simp [e1]
        have HT : Hid ((if x % 3 = 0 then t else s) = t) := Lib.hid (by rw [hq, if_pos e1])
        clear e1
        by_cases e2 : x - y < t
        · have HF : Hid (kFall s t L = false) := Lib.hid (allTo_no hlt (by rw [HG.out, HG'.out, HT.out]; simpa using e2))
          go_wp2_with fail
          go_quiet (fail)
          go_wp2
          go_ret
          exact ⟨ret_bool HF.out.symm, hbel.trans ((hdr.trans (Dr.n _ _)).below _)⟩
        · have e3 : t ≤ x - y := by omega
          clear e2
          go_wp2_with fail
          go_quiet (fail)
          go_wp2
          go_roundw
          case rel => exact ⟨k + 1, by omega, by go_num, hdr.drewN _, Lib.hid (upto HP.out (by show decide (_ ≤ _) = true; rw [HG.out, HG'.out, HT.out]; simpa using e3))⟩
          case measure => simp [intOf]; omega
      · have b1 : (q == 0) = false := by simpa using e1
        have HT : Hid ((if x % 3 = 0 then t else s) = s) := Lib.hid (by rw [hq, if_neg e1])
        clear e1
        by_cases e2 : x - y < s
        · have HF : Hid (kFall s t L = false) := Lib.hid (allTo_no hlt (by rw [HG.out, HG'.out, HT.out]; simpa using e2))
          go_wp2_with fail
          go_quiet (fail)
          go_wp2
          go_ret
          exact ⟨ret_bool HF.out.symm, hbel.trans ((hdr.trans (Dr.n _ _)).below _)⟩
        · have e3 : s ≤ x - y := by omega
          clear e2
          go_wp2_with fail
          go_quiet (fail)
          go_wp2
          go_roundw
          case rel => exact ⟨k + 1, by omega, by go_num, hdr.drewN _, Lib.hid (upto HP.out (by show decide (_ ≤ _) = true; rw [HG.out, HG'.out, HT.out]; simpa using e3))⟩
          case measure => simp [intOf]; omega
    · have hge : ¬ (k : Int) < (L.length : Int) - 1 := by omega
      obtain rfl : k = L.length - 1 := by omega
      have HF : Hid (kFall s t L = true) := Lib.hid (allTo_yes HP.out)
      clear hlt
      go_wp2
      go_ret
      exact ⟨ret_bool HF.out.symm, hbel.trans (hdr.below _)⟩

set_option maxHeartbeats 1000000 in
theorem noOneK_any (L : List Int) (hv : valid L = true) (w : World) :
    Calls Try.prog 104 #[.agg (arr (pad L))] w fun e w' => e = .returned (.bool (kNoOne L)) ∧ Below w.heap.size w w' := by
  have hl16 := (valid_bd hv).2.2.2
  have HPL := Lib.hid (pad_len hl16)
  have HNN := Lib.hid (getD_nn hv)
  clear hv
  have hB0 := Blk.new w 59 (arr (pad L))
  have hiL : (Try.prog.info? 59).map (·.size) = some (arr (pad L)).size := by rw [arr_size, pad_len hl16]; exact T_info35
  go_enter Try.func104, Try.ntmps104
  go_wp2_with (refine wpList_load_row rfl 59 (.tmp 1) rfl w.heap.size rfl 59 (arr (pad L)) (0, 0) _ hB0 Try.underlying59 rfl hiL ?_)
  go_loop [4, 6] (fun _ vi => ∃ k : Nat, k ≤ 16 ∧ vi = .int .i64 k ∧ Hid (∀ j, j < k → (fun j => decide (L.getD j 0 ≠ 1)) j = true)) (fun _ vi => 16 - (intOf vi).toNat)
  case atStart => exact ⟨0, Nat.zero_le _, rfl, Lib.hid fun j hj => by omega⟩
  case round =>
    obtain ⟨k, hk, rfl, HP⟩ := hrel
    by_cases hlt : k < 16
    · have hlt' : (k : Int) < 16 := by omega
      have hkp : k < (pad L).length := by rw [HPL.out]; exact hlt
      have hidx := T_index (pad L) k hkp hlt
      have hg : (pad L)[k] = L.getD k 0 := by rw [← getD_lt hkp, pad_getD hl16]
      rw [hg] at hidx
      have hx := HNN.out k
      obtain ⟨x, hxx⟩ : ∃ x, x = L.getD k 0 := ⟨_, rfl⟩
      rw [← hxx] at hidx hx
      have HX := Lib.hid hxx
      clear hxx hg
      by_cases e1 : x = 1
      · have b1 : (x == 1) = true := by simp [e1]
        have hkl : k < L.length := by
          rcases Nat.lt_or_ge k L.length with h | h
          · exact h
          · rw [HX.out, getD_ge h] at e1; omega
        have HF : Hid (kNoOne L = false) := Lib.hid (allTo_no hkl (by rw [← HX.out, e1]; rfl))
        clear e1
        go_wp2
        go_ret
        exact ⟨ret_bool HF.out.symm, (Below.refl _ _).alloc (Nat.le_refl _) _⟩
      · have b1 : (x == 1) = false := by simpa using e1
        go_wp2
        go_round
        case rel => exact ⟨k + 1, by omega, by go_num, Lib.hid (upto HP.out (by show decide (_ ≠ _) = true; rw [← HX.out]; simpa using e1))⟩
        case measure => simp [intOf]; omega
    · obtain rfl : k = 16 := by omega
      have HF : Hid (kNoOne L = true) := Lib.hid (allTo_yes fun j hj => HP.out j (by omega))
      go_wp2
      go_ret
      exact ⟨ret_bool HF.out.symm, (Below.refl _ _).alloc (Nat.le_refl _) _⟩

theorem T_eqd (D E : List Int) (hD : D.length = 16) (hE : E.length = 16) (w : World) : (Op.equalIn 10000 59 (.agg (arr D)) (.agg (arr E))).run Try.prog w = .ok (decide (D = E)) w := by
  obtain ⟨i, hi⟩ := info_of_underlying Try.underlying3
  exact run_equal_arr Try.underlying59 Try.underlying3 (by kernel_rfl) hi (by kernel_rfl) D E hD hE w
theorem pad_inj {L M : List Int} (hL : valid L = true) (hM : valid M = true) (h : pad L = pad M) : L = M := by
  have h1 := cnt_pad hL
  have h2 := cnt_pad hM
  rw [h] at h1
  have e1 := pad_take (L := L)
  have e2 := pad_take (L := M)
  rw [h, ← h1, h2, e2] at e1
  exact e1.symm
set_option maxHeartbeats 2000000 in
theorem selfK_any (L : List Int) (hv : valid L = true) (w : World) :
    Calls Try.prog 102 #[.agg (arr (pad L))] w fun e w' => e = .returned (.bool (kSelf L)) ∧ Below w.heap.size w w' := by
  have hl16 := (valid_bd hv).2.2.2
  have HPL := Lib.hid (pad_len hl16)
  have HNP := Lib.hid (pad_nonneg hv)
  have hcv := valid_conj hv
  have hcl := (valid_bd hcv).2.2.2
  have hq : decide (pad L = pad (conj L)) = kSelf L := by
    unfold kSelf
    rw [decide_eq_decide]
    constructor
    · intro h; exact (pad_inj hv hcv h)
    · intro h; rw [← h]
  have HQ := Lib.hid hq
  have hca := (acc_end (pad L) (pad_len hl16)).trans (conj_pad hv)
  have HCA := Lib.hid hca
  have heq : ∀ w : World, (Op.equalIn 10000 59 (.agg (ints (pad L)).toArray) (.agg (arr (pad (conj L))))).run Try.prog w = .ok (decide (pad L = pad (conj L))) w := T_eqd (pad L) (pad (conj L)) (pad_len hl16) (pad_len hcl)
  have hgt : Try.prog.eqGuardType Try.prog.depth 59 = false := by kernel_rfl
  have hB0 := Blk.new w 59 (arr (pad L))
  have hiL : (Try.prog.info? 59).map (·.size) = some (arr (pad L)).size := by rw [arr_size, pad_len hl16]; exact T_info35
  have hbel0 : Below w.heap.size w (w.alloc (.cells (arr (pad L)) 59)) := (Below.refl _ _).alloc (Nat.le_refl _) _
  have hr0 : (w.alloc (.cells (arr (pad L)) 59)).rangeAt w.heap.size 0 (ints (pad L)) := Blk.range (vs := ints (pad L)) hB0
  have hu := Try.underlying59
  have hiL' : (Try.prog.info? 59).map (·.size) = some (ints (pad L)).length := by rw [List.length_map, pad_len hl16]; exact T_info35
  clear hv hq hca
  go_enter Try.func102, Try.ntmps102
  go_wp2_with fail
  refine wp_region_held_drew (S := fun w' => w'.rangeAt w.heap.size 0 (ints (pad L)) ∧ Below w.heap.size w w') (by kernel_rfl) ⟨hr0, hbel0.trans ((Dr.n _ 1).below _)⟩ (fun hHeld => ?_)
  refine wpAnyH_take (i := 0) (v := _) (by simp only [List.getElem?_toArray, List.getElem?_cons_succ, List.getElem?_cons_zero]; exact rfl) (by kernel_rfl) (by kernel_rfl) (by kernel_rfl) (by intro _ _ _ h; exact h) (yieldsIf_load_mid (by kernel_rfl) _ _ rfl w.heap.size 0 rfl (ints (pad L)) _ (fun _ hw => hw.1) hu rfl hiL') (by assumption) ?_
  simp only [Act.put, List.setIfInBounds_toArray, List.set_cons_zero, List.set_cons_succ, List.toList_toArray]
  refine wpAnyH_take (i := 1) (v := _) (by simp only [List.getElem?_toArray, List.getElem?_cons_succ, List.getElem?_cons_zero]; exact rfl) (by kernel_rfl) (by kernel_rfl) (by kernel_rfl) (by intro _ _ _ h; exact h) (yieldsIf_load_mid (by kernel_rfl) _ _ rfl w.heap.size 0 rfl (ints (pad L)) _ (fun _ hw => hw.1) hu rfl hiL') (by assumption) ?_
  simp only [Act.put, List.setIfInBounds_toArray, List.set_cons_zero, List.set_cons_succ, List.toList_toArray]
  refine wpAnyH_ready (rs := [2]) (by kernel_rfl) (by simp) ?_
  refine AllReadyH.cons (o := _) (by simp only [List.getElem?_toArray, List.getElem?_cons_succ, List.getElem?_cons_zero]; exact rfl) (fun K hK => ?_) AllReadyH.nil
  rw [if_pos (by rfl)]
  go_simp
  go_at_call 77
  refine (conjugate_any (pad L) HPL.out HNP.out _).mono ?_
  rintro e w1 ⟨rfl, hb1⟩
  rw [HCA.out]
  refine hK.out _ _ ⟨range_below hHeld.1 hb1, hHeld.2.trans (hb1.mono hHeld.2.size)⟩ (fun hH2 => ?_)
  clear hK K
  try simp only [Act.put, List.setIfInBounds_toArray, List.set_cons_zero, List.set_cons_succ, List.toList_toArray]
  refine wpAnyH_take (i := 3) (v := .bool (decide (pad L = pad (conj L)))) (by simp only [List.getElem?_toArray, List.getElem?_cons_succ, List.getElem?_cons_zero]; exact rfl) (by kernel_rfl) (by kernel_rfl) (by kernel_rfl) (by intro _ _ _ h; exact h) (Or.inl ⟨by kernel_rfl, by intro w hSw; go_simp⟩) (by assumption) ?_
  simp only [Act.put, List.setIfInBounds_toArray, List.set_cons_zero, List.set_cons_succ, List.toList_toArray]
  refine wpAnyH_take (i := 4) (v := .bool (decide (pad L = pad (conj L)))) (by simp only [List.getElem?_toArray, List.getElem?_cons_succ, List.getElem?_cons_zero]; exact rfl) (by kernel_rfl) (by kernel_rfl) (by kernel_rfl) (by intro _ _ _ h; exact h) (Or.inl ⟨by kernel_rfl, by intro w hSw; go_simp⟩) (by assumption) ?_
  simp only [Act.put, List.setIfInBounds_toArray, List.set_cons_zero, List.set_cons_succ, List.toList_toArray]
  refine wpAnyH_done (by kernel_rfl) ?_ _
  try simp only [Act.put, List.setIfInBounds_toArray, List.set_cons_zero, List.set_cons_succ]
  go_wp2_with fail
  go_ret
  exact ⟨ret_bool HQ.out, hH2.2⟩
end Go.Proofs.Ythafbdpeignccaa
namespace Go.Proofs.Ythafbdpeignccaa
open Go.RowKit NP
set_option maxRecDepth 8000
set_option linter.unusedVariables false
set_option linter.unusedSimpArgs false

/-- a function value that leads each diagram of parts of which K holds to that of the parts F, in every later world -/
def IsWay (w : World) (v : Value) (K : List Int → Bool) (F : List Int → List Int) : Prop := ∃ (f : Nat) (p c : Array Value), v = .func (.func f) p c ∧ (∀ (args : Array Value) (w : World), (callFunc f args).run Try.prog w = .ok (.enter f args) w) ∧ ∀ w1, Below w.heap.size w w1 → ∀ L, valid L = true → K L = true →
  Calls Try.prog f (p.push (.agg (arr (pad L))) ++ c) w1 fun e w2 => e = .returned (.agg (arr (pad (F L)))) ∧ Below w1.heap.size w1 w2
theorem IsK.below {w w' : World} {v : Value} {K : List Int → Bool} (h : IsK w v K) (hb : Below w.heap.size w w') : IsK w' v K := by
  obtain ⟨f, p, c, rfl, he, hh⟩ := h
  exact ⟨f, p, c, rfl, he, fun w1 h1 => hh w1 (hb.trans (h1.mono hb.size))⟩
theorem IsWay.below {w w' : World} {v : Value} {K : List Int → Bool} {F : List Int → List Int} (h : IsWay w v K F) (hb : Below w.heap.size w w') : IsWay w' v K F := by
  obtain ⟨f, p, c, rfl, he, hh⟩ := h
  exact ⟨f, p, c, rfl, he, fun w1 h1 => hh w1 (hb.trans (h1.mono hb.size))⟩
theorem IsWay.at_ {w : World} {v : Value} {K : List Int → Bool} {F : List Int → List Int} (h : IsWay w v K F) (L : List Int) : IsWay w v (fun M => decide (M = L) && K M) F := by
  obtain ⟨f, p, c, rfl, he, hh⟩ := h
  exact ⟨f, p, c, rfl, he, fun w1 h1 M hv hk => hh w1 h1 M hv (by simp at hk; exact hk.2)⟩
def mpOk (K : List Int → Bool) (L : List Int) : Bool := valid L && K L
def mpF (K : List Int → Bool) (F : List Int → List Int) (L : List Int) : List Int := if mpOk K L then F L else []

set_option maxRecDepth 4000 in
set_option maxHeartbeats 2000000 in
theorem mapped_any (a : Option Addr) (c B : Nat) (L : List Int) (v1 v2 : Value) (K : List Int → Bool) (F : List Int → List Int) (hF : valid L = true → K L = true → valid (F L) = true) (w : World) (hK : IsK w v1 K) (hW : IsWay w v2 (fun M => decide (M = L) && K M) F) (h : Rd w B a (ints L)) (hB : B ≤ w.heap.size) (hl : L.length ≤ 4611686018427387904) :
    Calls Try.prog 52 #[.slice a L.length c, v1, v2] w fun e w' => ∃ a' c', e = .returned (.tuple #[.slice a' (mpF K F L).length c', .bool (mpOk K L)]) ∧ Own w' w.heap.size w'.heap.size 3 (.slice a' (mpF K F L).length c') (ints (mpF K F L)) ∧ Below w.heap.size w w' := by
  obtain ⟨f1, p1, c1, rfl, he1, hK1⟩ := hK
  obtain ⟨f2, p2, c2, rfl, he2, hW1⟩ := hW
  have hiD : (Try.prog.info? 59).map (·.size) = some (arr (dg L)).size := by rw [arr_size, dg_len]; exact T_info35
  have hsD : (arr (dg L)).size = (arr (List.replicate 16 0)).size := by rw [arr_size, arr_size, dg_len]; rfl
  cases hv : valid L with
  | false =>
    have HV := Lib.hid hv
    have ho : mpOk K L = false := by simp [mpOk, hv]
    have hf : mpF K F L = [] := by simp [mpF, ho]
    rw [ho, hf]
    clear ho hf hv
    go_enter Try.func52, Try.ntmps52
    go_wp2_with (first
      | (go_at_call 64; refine (diagramOf_any _ _ B L _ h hB hl).mono ?_; rintro e w1 ⟨rfl, hb1⟩; rw [HV.out]; have hB1 := Blk.new w1 59 (arr (List.replicate 16 0)))
      | (refine wpList_store_row rfl 59 (.tmp 8) (.tmp 13) rfl w1.heap.size rfl (arr (dg L)) rfl 59 (arr (List.replicate 16 0)) hB1 hiD hsD (arr_one _) ?_))
    go_ret2
    exact ⟨none, 0, rfl, (show Own _ _ _ _ (.slice none ([] : List Int).length 0) (ints []) from Own.nil _ _ _), below_setRow' (hb1.alloc hb1.size _) hb1.size _⟩
  | true =>
    have HV := Lib.hid hv
    have hdg : dg L = pad L := dg_yes hv
    have hl16 := (valid_bd hv).2.2.2
    have hiL : (Try.prog.info? 59).map (·.size) = some (arr (pad L)).size := by rw [arr_size, pad_len hl16]; exact T_info35
    rw [hdg] at hsD hiD
    have HDG := Lib.hid hdg
    clear hdg
    cases hk : K L with
    | false =>
      have ho : mpOk K L = false := by simp [mpOk, hk]
      have hf : mpF K F L = [] := by simp [mpF, ho]
      have HK := Lib.hid hk
      rw [ho, hf]
      clear ho hf hv hk
      go_enter Try.func52, Try.ntmps52
      go_wp2_with (first
        | (go_at_call 64; refine (diagramOf_any _ _ B L _ h hB hl).mono ?_; rintro e w1 ⟨rfl, hb1⟩; rw [HV.out, HDG.out]; have hB1 := Blk.new w1 59 (arr (List.replicate 16 0)))
        | (refine wpList_load_row_g rfl 59 (.tmp 8) rfl w1.heap.size rfl 59 (arr (pad L)) (0, 0) _ hB2 Try.underlying59 rfl hiL ?_)
        | (refine wpList_store_row rfl 59 (.tmp 8) (.tmp 13) rfl w1.heap.size rfl (arr (pad L)) rfl 59 (arr (List.replicate 16 0)) (Blk.new w1 _ _) hiD hsD (arr_one _) ?_; have hB2 := (Blk.new w1 59 (arr (List.replicate 16 0))).row (vs := arr (pad L)); have hbel2 : Below w.heap.size w ((w1.alloc (.cells (arr (List.replicate 16 0)) 59)).setRow w1.heap.size (arr (pad L))) := below_setRow' (hb1.alloc hb1.size _) (by exact hb1.size) _; obtain ⟨w2, hw2⟩ : ∃ w2, w2 = (w1.alloc (.cells (#[.int .i64 0, .int .i64 0, .int .i64 0, .int .i64 0, .int .i64 0, .int .i64 0, .int .i64 0, .int .i64 0, .int .i64 0, .int .i64 0, .int .i64 0, .int .i64 0, .int .i64 0, .int .i64 0, .int .i64 0, .int .i64 0]) 59)).setRow w1.heap.size (arr (pad L)) := ⟨_, rfl⟩; rw [← hw2]; replace hB2 : Blk w2 w1.heap.size 59 (arr (pad L)) := hw2 ▸ hB2; replace hbel2 : Below w.heap.size w w2 := hw2 ▸ hbel2; clear hw2)
        | (refine (hK1 _ hbel2 L HV.out).mono ?_; rintro e w3 ⟨rfl, hb3⟩; rw [HK.out]))
      go_ret2
      exact ⟨none, 0, rfl, (show Own _ _ _ _ (.slice none ([] : List Int).length 0) (ints []) from Own.nil _ _ _), hbel2.trans (hb3.mono hbel2.size)⟩
    | true =>
      have ho : mpOk K L = true := by simp [mpOk, hk, hv]
      have hf : mpF K F L = F L := by simp [mpF, ho]
      have HK := Lib.hid hk
      have HVF := Lib.hid (hF hv hk)
      rw [ho, hf]
      clear ho hf hv hk
      go_enter Try.func52, Try.ntmps52
      go_wp2_with (first
        | (go_at_call 64; refine (diagramOf_any _ _ B L _ h hB hl).mono ?_; rintro e w1 ⟨rfl, hb1⟩; rw [HV.out, HDG.out]; have hB1 := Blk.new w1 59 (arr (List.replicate 16 0)))
        | (refine wpList_load_row_g rfl 59 (.tmp 8) rfl w1.heap.size rfl 59 (arr (pad L)) (0, 0) _ hB2 Try.underlying59 rfl hiL ?_)
        | (refine wpList_store_row rfl 59 (.tmp 8) (.tmp 13) rfl w1.heap.size rfl (arr (pad L)) rfl 59 (arr (List.replicate 16 0)) (Blk.new w1 _ _) hiD hsD (arr_one _) ?_; have hB2 := (Blk.new w1 59 (arr (List.replicate 16 0))).row (vs := arr (pad L)); have hbel2 : Below w.heap.size w ((w1.alloc (.cells (arr (List.replicate 16 0)) 59)).setRow w1.heap.size (arr (pad L))) := below_setRow' (hb1.alloc hb1.size _) (by exact hb1.size) _; obtain ⟨w2, hw2⟩ : ∃ w2, w2 = (w1.alloc (.cells (#[.int .i64 0, .int .i64 0, .int .i64 0, .int .i64 0, .int .i64 0, .int .i64 0, .int .i64 0, .int .i64 0, .int .i64 0, .int .i64 0, .int .i64 0, .int .i64 0, .int .i64 0, .int .i64 0, .int .i64 0, .int .i64 0]) 59)).setRow w1.heap.size (arr (pad L)) := ⟨_, rfl⟩; rw [← hw2]; replace hB2 : Blk w2 w1.heap.size 59 (arr (pad L)) := hw2 ▸ hB2; replace hbel2 : Below w.heap.size w w2 := hw2 ▸ hbel2; clear hw2)
        | (refine (hK1 _ hbel2 L HV.out).mono ?_; rintro e w3 ⟨rfl, hb3⟩; rw [HK.out]; have hbel3 := hbel2.trans (hb3.mono hbel2.size); have hB3 := hB2.below hb3 hB2.lt)
        | (refine wpList_load_row rfl 59 (.tmp 8) rfl w1.heap.size rfl 59 (arr (pad L)) (0, 0) _ hB3 Try.underlying59 rfl hiL ?_)
        | (refine (hW1 _ hbel3 L HV.out (show (decide (L = L) && K L) = true from by rw [HK.out]; simp)).mono ?_; rintro e w4 ⟨rfl, hb4⟩; have hbel4 := hbel3.trans (hb4.mono hbel3.size))
        | (go_at_call 76; refine (list_any (F L) HVF.out _).mono ?_; rintro e w5 ⟨a', rfl, ho5, hb5⟩))
      go_ret2
      exact ⟨a', _, rfl, ho5.lower hbel4.size, hbel4.trans (hb5.mono hbel4.size)⟩
end Go.Proofs.Ythafbdpeignccaa
