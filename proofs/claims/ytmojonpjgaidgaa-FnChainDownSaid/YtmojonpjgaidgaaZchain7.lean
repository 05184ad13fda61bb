/-
  Walks of the program: two diagrams at once: of any parts, of parts that fit, of parts with one sum. Walks of the program: first sums, the meet of two diagrams. Walks of the model: inside, dominance, meets, joins. Walks of the program: dominance, meets and joins.
-/
import Derived.Test.YtmojonpjgaidgaaZchain1
import Derived.Test.YtmojonpjgaidgaaZchain2
import Derived.Test.YtmojonpjgaidgaaZchain3
import Derived.Test.YtmojonpjgaidgaaZchain4
import Derived.Test.YtmojonpjgaidgaaZchain5
import Derived.Test.YtmojonpjgaidgaaZchain6
import Derived.StillTactics
namespace Go.Proofs.Ytmojonpjgaidgaa
open Go.RowKit NP
set_option maxRecDepth 8000
set_option linter.unusedVariables false
set_option linter.unusedSimpArgs false

theorem results_2cells_tmp {P : Program} {fn : Func} {p1 p2 q : Tmp} {ty : TypeId} (h : fn.results = #[.cell p1 ty, .cell p2 ty, .tmp q]) (tmps : Array Value) (w : World) (g1 g2 : Nat) (c1 c2 : List Value) (d : TypeDesc)
    (hp1 : tmps.getD p1 undef = .pointer (some ⟨g1, 0, none⟩)) (hp2 : tmps.getD p2 undef = .pointer (some ⟨g2, 0, none⟩)) (h1 : w.rangeAt g1 0 c1) (h2 : w.rangeAt g2 0 c2)
    (hu : P.underlying ty = some d) (hd : d.isRow = true) (hi1 : (P.info? ty).map (·.size) = some c1.length) (hi2 : (P.info? ty).map (·.size) = some c2.length) :
    (results fn tmps).run P w = .ok (.tuple #[.agg c1.toArray, .agg c2.toArray, tmps.getD q undef]) w := by
  have hp1' : tmps[p1]?.getD undef = .pointer (some ⟨g1, 0, none⟩) := by simpa using hp1
  have hp2' : tmps[p2]?.getD undef = .pointer (some ⟨g2, 0, none⟩) := by simpa using hp2
  simp [results, h, hp1', hp2', asAddr, run_loadVar_mid w g1 0 ty c1 d h1 hu hd hi1, run_loadVar_mid w g2 0 ty c2 d h2 hu hd hi2]
theorem Blk.there {w : World} {g : Nat} {t : TypeId} {cs : Array Value} (h : Blk w g t cs) : w.there g 0 cs.size := fun j hj => by
  rw [Nat.zero_add, h.cell j]
  exact ⟨by simp [hj], h.free j⟩
theorem there_below {w w' : World} {b o n : Nat} (h : w.there b o n) (hb : Below w.heap.size w w') : w'.there b o n := fun j hj => by
  obtain ⟨h1, h2⟩ := h j hj
  obtain ⟨v, hv⟩ := Option.isSome_iff_exists.1 h1
  have hlt := World.block_lt_of_cell? w _ hv
  exact ⟨by rw [hb.cell (p := ⟨b, o + j, none⟩) hlt]; exact h1, by rw [hb.frozen (p := ⟨b, o + j, none⟩) hlt]; exact h2⟩
theorem below_setCells {B b : Nat} (hb : B ≤ b) : ∀ (vs : List Value) (o : Nat) (w0 w : World), Below B w0 w → Below B w0 (w.setCells b o vs)
  | [], _, _, _, h => h
  | v :: r, o, w0, w, h => by
    rw [World.setCells]
    exact below_setCells hb r (o + 1) w0 _ (h.setCell (by show B ≤ b; exact hb) v)
theorem two_rows (w1 : World) (t : TypeId) (Z X Y : Array Value) : Blk ((((w1.alloc (.cells Z t)).alloc (.cells Z t)).setRow w1.heap.size X).setRow (w1.heap.size + 1) Y) w1.heap.size t X ∧ Blk ((((w1.alloc (.cells Z t)).alloc (.cells Z t)).setRow w1.heap.size X).setRow (w1.heap.size + 1) Y) (w1.heap.size + 1) t Y ∧ Below w1.heap.size w1 ((((w1.alloc (.cells Z t)).alloc (.cells Z t)).setRow w1.heap.size X).setRow (w1.heap.size + 1) Y) := by
  have a1 : Blk (w1.alloc (.cells Z t)) w1.heap.size t Z := Blk.new w1 t Z
  have a2 := Blk.new (w1.alloc (.cells Z t)) t Z
  rw [World.size_alloc] at a2
  exact ⟨((a1.alloc _).row).rowOff (by omega), ((a2.rowOff (by omega)).row), below_setRow' (below_setRow' (((Below.refl _ _).alloc (Nat.le_refl _) _).alloc (by simp) _) (Nat.le_refl _) _) (by omega) _⟩
theorem first_row (w1 : World) (t : TypeId) (Z X : Array Value) : Blk (((w1.alloc (.cells Z t)).alloc (.cells Z t)).setRow w1.heap.size X) (w1.heap.size + 1) t Z := by
  have a2 := Blk.new (w1.alloc (.cells Z t)) t Z
  rw [World.size_alloc] at a2
  exact a2.rowOff (by omega)
theorem dg_fits {L : List Int} (h : valid L = true) : sumFits (dg L) := by rw [dg_yes h]; exact pad_fits h
theorem dg_sum {L : List Int} (h : valid L = true) : sumL (dg L) = sumL L := by rw [dg_yes h, sumL_pad]

set_option maxHeartbeats 4000000 in
theorem twoDiagrams_any (a b : Option Addr) (ca cb Ba Bb : Nat) (P Q : List Int) (w : World) (h : Rd w Ba a (ints P)) (hq : Rd w Bb b (ints Q)) (hBa : Ba ≤ w.heap.size) (hBb : Bb ≤ w.heap.size) (hl : P.length ≤ 4611686018427387904) (hlq : Q.length ≤ 4611686018427387904) :
    Calls Try.prog 37 #[.slice a P.length ca, .slice b Q.length cb] w fun e w' => e = .returned (.tuple #[.agg (arr (dg P)), .agg (arr (dg Q)), .bool (valid P && valid Q)]) ∧ Below w.heap.size w w' := by
  have hiP : (Try.prog.info? 46).map (·.size) = some (arr (dg P)).size := by rw [arr_size, dg_len]; exact T_info35
  have hszP : (arr (dg P)).size = (arr (List.replicate 16 0)).size := by rw [arr_size, arr_size, dg_len]; rfl
  have hiQ : (Try.prog.info? 46).map (·.size) = some (arr (dg Q)).size := by rw [arr_size, dg_len]; exact T_info35
  have hszQ : (arr (dg Q)).size = (arr (List.replicate 16 0)).size := by rw [arr_size, arr_size, dg_len]; rfl
  have hiP' := info_diag (dg P) (dg_len P)
  have hiQ' := info_diag (dg Q) (dg_len Q)
  have hu := Try.underlying46
  have hlP : (ints (dg P)).length = 16 := by rw [List.length_map, dg_len]
  have hlQ : (ints (dg Q)).length = 16 := by rw [List.length_map, dg_len]
  have h1P := ints_one (dg P)
  have h1Q := ints_one (dg Q)
  have hzP : (ints (dg P)).toArray.size = 16 := by rw [List.size_toArray]; exact hlP
  have hzQ : (ints (dg Q)).toArray.size = 16 := by rw [List.size_toArray]; exact hlQ
  obtain ⟨wA, hwA⟩ : ∃ wA, wA = (w.alloc (.cells (#[.int .i64 0, .int .i64 0, .int .i64 0, .int .i64 0, .int .i64 0, .int .i64 0, .int .i64 0, .int .i64 0, .int .i64 0, .int .i64 0, .int .i64 0, .int .i64 0, .int .i64 0, .int .i64 0, .int .i64 0, .int .i64 0]) 46)).alloc (.cells (#[.int .i64 0, .int .i64 0, .int .i64 0, .int .i64 0, .int .i64 0, .int .i64 0, .int .i64 0, .int .i64 0, .int .i64 0, .int .i64 0, .int .i64 0, .int .i64 0, .int .i64 0, .int .i64 0, .int .i64 0, .int .i64 0]) 46) := ⟨_, rfl⟩
  have hA4 : wA.there w.heap.size 0 16 := by rw [hwA]; exact World.there_alloc (Blk.new w 46 (arr (List.replicate 16 0))).there _
  have hA5 : wA.there (w.heap.size + 1) 0 16 := by
    rw [hwA]
    have e := (Blk.new (w.alloc (.cells (arr (List.replicate 16 0)) 46)) 46 (arr (List.replicate 16 0))).there
    rw [World.size_alloc] at e
    exact e
  have hAb : Below w.heap.size w wA := by rw [hwA]; exact ((Below.refl _ _).alloc (Nat.le_refl _) _).alloc (by simp) _
  have hAs : wA.heap.size = w.heap.size + 2 := by rw [hwA]; simp
  go_enter Try.func37, Try.ntmps37
  go_wp2_with fail
  rw [← hwA]
  clear hwA
  refine (diagramOf_any _ _ w.heap.size P _ ((h.more hBa).below hAb) hAb.size hl).mono ?_
  rintro e w1 ⟨rfl, hb1⟩
  have h4 := there_below hA4 hb1
  have h5 := there_below hA5 hb1
  have hb1' := hAb.trans (hb1.mono hAb.size)
  have hs1 : w.heap.size + 2 ≤ w1.heap.size := by have := hb1.size; omega
  have hR := (hq.more hBb).below hb1'
  clear hA4 hA5 hAb hAs hb1 h hq hl
  go_wp2_with (refine wpList_store_row rfl 46 (.tmp 7) (.tmp 14) rfl w1.heap.size rfl (arr (dg P)) rfl 46 (arr (List.replicate 16 0)) (Blk.new w1 _ _) hiP hszP (arr_one _) ?_)
  have hB7 := (Blk.new w1 46 (arr (List.replicate 16 0))).row (vs := arr (dg P))
  have hbel2 : Below w1.heap.size w1 ((w1.alloc (.cells (arr (List.replicate 16 0)) 46)).setRow w1.heap.size (arr (dg P))) := below_setRow' ((Below.refl _ _).alloc (Nat.le_refl _) _) (Nat.le_refl _) _
  obtain ⟨w2, hw2⟩ : ∃ w2, w2 = (w1.alloc (.cells (#[.int .i64 0, .int .i64 0, .int .i64 0, .int .i64 0, .int .i64 0, .int .i64 0, .int .i64 0, .int .i64 0, .int .i64 0, .int .i64 0, .int .i64 0, .int .i64 0, .int .i64 0, .int .i64 0, .int .i64 0, .int .i64 0]) 46)).setRow w1.heap.size (arr (dg P)) := ⟨_, rfl⟩
  rw [← hw2]
  replace hB7 : Blk w2 w1.heap.size 46 (arr (dg P)) := hw2 ▸ hB7
  replace hbel2 : Below w1.heap.size w1 w2 := hw2 ▸ hbel2
  clear hw2
  replace h4 := there_below h4 hbel2
  replace h5 := there_below h5 hbel2
  have hb2' := hb1'.trans (hbel2.mono hb1'.size)
  have hs2 := hB7.lt
  refine (diagramOf_any _ _ w.heap.size Q _ (hR.below (hbel2.mono hb1'.size)) hb2'.size hlq).mono ?_
  rintro e w3 ⟨rfl, hb3⟩
  replace h4 := there_below h4 hb3
  replace h5 := there_below h5 hb3
  have hB7' := hB7.below hb3 hB7.lt
  have hb3' := hb2'.trans (hb3.mono hb2'.size)
  have hs3 := hb3.size
  clear hR hB7 hb3 hb2' hb1' hbel2 hlq
  go_wp2_with (refine wpList_store_row rfl 46 (.tmp 9) (.tmp 19) rfl w3.heap.size rfl (arr (dg Q)) rfl 46 (arr (List.replicate 16 0)) (Blk.new w3 _ _) hiQ hszQ (arr_one _) ?_)
  have hB9 := (Blk.new w3 46 (arr (List.replicate 16 0))).row (vs := arr (dg Q))
  have hbel4 : Below w3.heap.size w3 ((w3.alloc (.cells (arr (List.replicate 16 0)) 46)).setRow w3.heap.size (arr (dg Q))) := below_setRow' ((Below.refl _ _).alloc (Nat.le_refl _) _) (Nat.le_refl _) _
  obtain ⟨w4, hw4⟩ : ∃ w4, w4 = (w3.alloc (.cells (#[.int .i64 0, .int .i64 0, .int .i64 0, .int .i64 0, .int .i64 0, .int .i64 0, .int .i64 0, .int .i64 0, .int .i64 0, .int .i64 0, .int .i64 0, .int .i64 0, .int .i64 0, .int .i64 0, .int .i64 0, .int .i64 0]) 46)).setRow w3.heap.size (arr (dg Q)) := ⟨_, rfl⟩
  rw [← hw4]
  replace hB9 : Blk w4 w3.heap.size 46 (arr (dg Q)) := hw4 ▸ hB9
  replace hbel4 : Below w3.heap.size w3 w4 := hw4 ▸ hbel4
  clear hw4
  replace h4 := there_below h4 hbel4
  replace h5 := there_below h5 hbel4
  have hr7 : w4.rangeAt w1.heap.size 0 (ints (dg P)) := Blk.range (hB7'.below hbel4 hB7'.lt)
  have hr9 : w4.rangeAt w3.heap.size 0 (ints (dg Q)) := Blk.range hB9
  have hb4' := hb3'.trans (hbel4.mono hb3'.size)
  have n1 : w1.heap.size ≠ w.heap.size := by omega
  have n2 : w1.heap.size ≠ w.heap.size + 1 := by omega
  have n3 : w3.heap.size ≠ w.heap.size := by omega
  have n4 : w3.heap.size ≠ w.heap.size + 1 := by omega
  clear hB7' hB9 hb3' hbel4
  cases hvP : valid P with
  | false =>
    have HTW : Hid ((valid P && valid Q) = false) := Lib.hid (by rw [hvP]; rfl)
    clear hvP
    refine wp_region_held_drew (S := (fun w' => w'.rangeAt w1.heap.size 0 (ints (dg P)) ∧ w'.rangeAt w3.heap.size 0 (ints (dg Q)) ∧ w'.there w.heap.size 0 16 ∧ w'.there (w.heap.size + 1) 0 16 ∧ Below w.heap.size w w')) (by kernel_rfl) ⟨hr7, hr9, h4, h5, hb4'.trans ((Dr.n w4 1).below _)⟩ (fun hHeld => ?_)
    refine wpAnyH_take (i := 0) (v := _) (by simp only [List.getElem?_toArray, List.getElem?_cons_succ, List.getElem?_cons_zero]; exact rfl) (by kernel_rfl) (by kernel_rfl) (by kernel_rfl) (by intro _ _ _ h; exact h) (yieldsIf_load_mid (by kernel_rfl) _ _ rfl w1.heap.size 0 rfl (ints (dg P)) _ (fun _ hw => hw.1) hu rfl hiP') (by assumption) ?_
    simp only [Act.put, List.setIfInBounds_toArray, List.set_cons_zero, List.set_cons_succ, List.toList_toArray]
    refine wpAnyH_take (i := 1) (v := _) (by simp only [List.getElem?_toArray, List.getElem?_cons_succ, List.getElem?_cons_zero]; exact rfl) (by kernel_rfl) (by kernel_rfl) (by kernel_rfl) (by intro _ _ _ h; exact h) (yieldsIf_load_mid (by kernel_rfl) _ _ rfl w3.heap.size 0 rfl (ints (dg Q)) _ (fun _ hw => hw.2.1) hu rfl hiQ') (by assumption) ?_
    simp only [Act.put, List.setIfInBounds_toArray, List.set_cons_zero, List.set_cons_succ, List.toList_toArray]
    refine wpAnyH_take (i := 2) (v := (.bool false)) (by simp only [List.getElem?_toArray, List.getElem?_cons_succ, List.getElem?_cons_zero]; exact rfl) (by kernel_rfl) (by kernel_rfl) (by kernel_rfl) (by intro _ _ _ h; exact h) (Or.inl ⟨by kernel_rfl, by intro w hSw; go_simp⟩) (by assumption) ?_
    simp only [Act.put, List.setIfInBounds_toArray, List.set_cons_zero, List.set_cons_succ, List.toList_toArray]
    refine wpAnyH_take (i := 3) (v := (.bool false)) (by simp only [List.getElem?_toArray, List.getElem?_cons_succ, List.getElem?_cons_zero]; exact rfl) (by kernel_rfl) (by kernel_rfl) (by kernel_rfl) (by intro _ _ _ h; exact h) (Or.inl ⟨by kernel_rfl, by intro w hSw; go_simp⟩) (by assumption) ?_
    simp only [Act.put, List.setIfInBounds_toArray, List.set_cons_zero, List.set_cons_succ, List.toList_toArray]
    refine wpAnyH_take (i := 4) (v := undef) (by simp only [List.getElem?_toArray, List.getElem?_cons_succ, List.getElem?_cons_zero]; exact rfl) (by kernel_rfl) (by kernel_rfl) (by kernel_rfl) (by intro _ _ _ h; exact h) (Or.inr ⟨by kernel_rfl, rfl⟩) (by assumption) ?_
    simp only [Act.put, List.setIfInBounds_toArray, List.set_cons_zero, List.set_cons_succ, List.toList_toArray]
    refine wpAnyH_take (i := 5) (v := (.bool false)) (by simp only [List.getElem?_toArray, List.getElem?_cons_succ, List.getElem?_cons_zero]; exact rfl) (by kernel_rfl) (by kernel_rfl) (by kernel_rfl) (by intro _ _ _ h; exact h) (Or.inl ⟨by kernel_rfl, by intro w hSw; go_simp⟩) (by assumption) ?_
    simp only [Act.put, List.setIfInBounds_toArray, List.set_cons_zero, List.set_cons_succ, List.toList_toArray]
    refine wpAnyH_ready (rs := [6]) (by kernel_rfl) (by simp) ?_
    refine AllReadyH.cons (o := _) (by simp only [List.getElem?_toArray, List.getElem?_cons_succ, List.getElem?_cons_zero]; exact rfl) (fun K hK => ?_) AllReadyH.nil
    rw [if_pos (by rfl)]
    refine wp_store_mid _ _ _ rfl w.heap.size 0 (ints (dg P)).toArray rfl rfl (by rw [hzP]; exact hHeld.2.2.1) (by rw [hzP]; exact T_info35) (all_oneCell_toArray h1P) ?_
    simp only [Act.put, List.setIfInBounds_toArray, List.set_cons_zero, List.set_cons_succ, List.toList_toArray]
    refine hK.out _ _ ⟨World.rangeAt_setCells_apart hHeld.1 _ _ _ (.inl n1), World.rangeAt_setCells_apart hHeld.2.1 _ _ _ (.inl n3), World.there_setCells hHeld.2.2.1 _ _ _, World.there_setCells hHeld.2.2.2.1 _ _ _, below_setCells (Nat.le_refl _) _ _ _ _ hHeld.2.2.2.2⟩ (fun hT => ?_)
    clear hK K
    try simp only [Act.put, List.setIfInBounds_toArray, List.set_cons_zero, List.set_cons_succ, List.toList_toArray]
    refine wpAnyH_ready (rs := [7]) (by kernel_rfl) (by simp) ?_
    refine AllReadyH.cons (o := _) (by simp only [List.getElem?_toArray, List.getElem?_cons_succ, List.getElem?_cons_zero]; exact rfl) (fun K hK => ?_) AllReadyH.nil
    rw [if_pos (by rfl)]
    refine wp_store_mid _ _ _ rfl (w.heap.size + 1) 0 (ints (dg Q)).toArray rfl rfl (by rw [hzQ]; exact hT.2.2.2.1) (by rw [hzQ]; exact T_info35) (all_oneCell_toArray h1Q) ?_
    simp only [Act.put, List.setIfInBounds_toArray, List.set_cons_zero, List.set_cons_succ, List.toList_toArray]
    refine hK.out _ _ ⟨World.rangeAt_setCells_apart hT.1 _ _ _ (.inl n2), World.rangeAt_setCells_apart hT.2.1 _ _ _ (.inl n4), World.there_setCells hT.2.2.1 _ _ _, World.there_setCells hT.2.2.2.1 _ _ _, below_setCells (Nat.le_succ _) _ _ _ _ hT.2.2.2.2⟩ (fun hU => ?_)
    clear hK K
    try simp only [Act.put, List.setIfInBounds_toArray, List.set_cons_zero, List.set_cons_succ, List.toList_toArray]
    refine wpAnyH_take (i := 8) (v := (.bool false)) (by simp only [List.getElem?_toArray, List.getElem?_cons_succ, List.getElem?_cons_zero]; exact rfl) (by kernel_rfl) (by kernel_rfl) (by kernel_rfl) (by intro _ _ _ h; exact h) (Or.inl ⟨by kernel_rfl, by intro w hSw; go_simp⟩) (by assumption) ?_
    refine wpAnyH_done (by kernel_rfl) ?_ _
    simp only [Act.put, List.setIfInBounds_toArray, List.set_cons_succ]
    have rP := World.rangeAt_setCells_apart (World.rangeAt_setCells_same _ w.heap.size 0 (ints (dg P)) (by rw [hlP]; exact hHeld.2.2.1)) (w.heap.size + 1) 0 (ints (dg Q)) (.inl (by omega))
    have rQ := World.rangeAt_setCells_same _ (w.heap.size + 1) 0 (ints (dg Q)) (by rw [hlQ]; exact hT.2.2.2.1)
    go_wp2_with fail
    refine bodyPost_ret (results_2cells_tmp rfl _ _ w.heap.size (w.heap.size + 1) (ints (dg P)) (ints (dg Q)) _ rfl rfl rP rQ hu rfl hiP' hiQ') rfl ?_
    exact ⟨by rw [HTW.out]; rfl, hU.2.2.2.2⟩
  | true =>
    have HTW : Hid ((valid P && valid Q) = valid Q) := Lib.hid (by rw [hvP]; rfl)
    clear hvP
    refine wp_region_held_drew (S := (fun w' => w'.rangeAt w1.heap.size 0 (ints (dg P)) ∧ w'.rangeAt w3.heap.size 0 (ints (dg Q)) ∧ w'.there w.heap.size 0 16 ∧ w'.there (w.heap.size + 1) 0 16 ∧ Below w.heap.size w w')) (by kernel_rfl) ⟨hr7, hr9, h4, h5, hb4'.trans ((Dr.n w4 1).below _)⟩ (fun hHeld => ?_)
    refine wpAnyH_take (i := 0) (v := _) (by simp only [List.getElem?_toArray, List.getElem?_cons_succ, List.getElem?_cons_zero]; exact rfl) (by kernel_rfl) (by kernel_rfl) (by kernel_rfl) (by intro _ _ _ h; exact h) (yieldsIf_load_mid (by kernel_rfl) _ _ rfl w1.heap.size 0 rfl (ints (dg P)) _ (fun _ hw => hw.1) hu rfl hiP') (by assumption) ?_
    simp only [Act.put, List.setIfInBounds_toArray, List.set_cons_zero, List.set_cons_succ, List.toList_toArray]
    refine wpAnyH_take (i := 1) (v := _) (by simp only [List.getElem?_toArray, List.getElem?_cons_succ, List.getElem?_cons_zero]; exact rfl) (by kernel_rfl) (by kernel_rfl) (by kernel_rfl) (by intro _ _ _ h; exact h) (yieldsIf_load_mid (by kernel_rfl) _ _ rfl w3.heap.size 0 rfl (ints (dg Q)) _ (fun _ hw => hw.2.1) hu rfl hiQ') (by assumption) ?_
    simp only [Act.put, List.setIfInBounds_toArray, List.set_cons_zero, List.set_cons_succ, List.toList_toArray]
    refine wpAnyH_take (i := 2) (v := (.bool true)) (by simp only [List.getElem?_toArray, List.getElem?_cons_succ, List.getElem?_cons_zero]; exact rfl) (by kernel_rfl) (by kernel_rfl) (by kernel_rfl) (by intro _ _ _ h; exact h) (Or.inl ⟨by kernel_rfl, by intro w hSw; go_simp⟩) (by assumption) ?_
    simp only [Act.put, List.setIfInBounds_toArray, List.set_cons_zero, List.set_cons_succ, List.toList_toArray]
    refine wpAnyH_take (i := 3) (v := (.bool true)) (by simp only [List.getElem?_toArray, List.getElem?_cons_succ, List.getElem?_cons_zero]; exact rfl) (by kernel_rfl) (by kernel_rfl) (by kernel_rfl) (by intro _ _ _ h; exact h) (Or.inl ⟨by kernel_rfl, by intro w hSw; go_simp⟩) (by assumption) ?_
    simp only [Act.put, List.setIfInBounds_toArray, List.set_cons_zero, List.set_cons_succ, List.toList_toArray]
    refine wpAnyH_take (i := 4) (v := (.bool (valid Q))) (by simp only [List.getElem?_toArray, List.getElem?_cons_succ, List.getElem?_cons_zero]; exact rfl) (by kernel_rfl) (by kernel_rfl) (by kernel_rfl) (by intro _ _ _ h; exact h) (Or.inl ⟨by kernel_rfl, by intro w hSw; go_simp⟩) (by assumption) ?_
    simp only [Act.put, List.setIfInBounds_toArray, List.set_cons_zero, List.set_cons_succ, List.toList_toArray]
    refine wpAnyH_take (i := 5) (v := (.bool (valid Q))) (by simp only [List.getElem?_toArray, List.getElem?_cons_succ, List.getElem?_cons_zero]; exact rfl) (by kernel_rfl) (by kernel_rfl) (by kernel_rfl) (by intro _ _ _ h; exact h) (Or.inl ⟨by kernel_rfl, by intro w hSw; go_simp⟩) (by assumption) ?_
    simp only [Act.put, List.setIfInBounds_toArray, List.set_cons_zero, List.set_cons_succ, List.toList_toArray]
    refine wpAnyH_ready (rs := [6]) (by kernel_rfl) (by simp) ?_
    refine AllReadyH.cons (o := _) (by simp only [List.getElem?_toArray, List.getElem?_cons_succ, List.getElem?_cons_zero]; exact rfl) (fun K hK => ?_) AllReadyH.nil
    rw [if_pos (by rfl)]
    refine wp_store_mid _ _ _ rfl w.heap.size 0 (ints (dg P)).toArray rfl rfl (by rw [hzP]; exact hHeld.2.2.1) (by rw [hzP]; exact T_info35) (all_oneCell_toArray h1P) ?_
    simp only [Act.put, List.setIfInBounds_toArray, List.set_cons_zero, List.set_cons_succ, List.toList_toArray]
    refine hK.out _ _ ⟨World.rangeAt_setCells_apart hHeld.1 _ _ _ (.inl n1), World.rangeAt_setCells_apart hHeld.2.1 _ _ _ (.inl n3), World.there_setCells hHeld.2.2.1 _ _ _, World.there_setCells hHeld.2.2.2.1 _ _ _, below_setCells (Nat.le_refl _) _ _ _ _ hHeld.2.2.2.2⟩ (fun hT => ?_)
    clear hK K
    try simp only [Act.put, List.setIfInBounds_toArray, List.set_cons_zero, List.set_cons_succ, List.toList_toArray]
    refine wpAnyH_ready (rs := [7]) (by kernel_rfl) (by simp) ?_
    refine AllReadyH.cons (o := _) (by simp only [List.getElem?_toArray, List.getElem?_cons_succ, List.getElem?_cons_zero]; exact rfl) (fun K hK => ?_) AllReadyH.nil
    rw [if_pos (by rfl)]
    refine wp_store_mid _ _ _ rfl (w.heap.size + 1) 0 (ints (dg Q)).toArray rfl rfl (by rw [hzQ]; exact hT.2.2.2.1) (by rw [hzQ]; exact T_info35) (all_oneCell_toArray h1Q) ?_
    simp only [Act.put, List.setIfInBounds_toArray, List.set_cons_zero, List.set_cons_succ, List.toList_toArray]
    refine hK.out _ _ ⟨World.rangeAt_setCells_apart hT.1 _ _ _ (.inl n2), World.rangeAt_setCells_apart hT.2.1 _ _ _ (.inl n4), World.there_setCells hT.2.2.1 _ _ _, World.there_setCells hT.2.2.2.1 _ _ _, below_setCells (Nat.le_succ _) _ _ _ _ hT.2.2.2.2⟩ (fun hU => ?_)
    clear hK K
    try simp only [Act.put, List.setIfInBounds_toArray, List.set_cons_zero, List.set_cons_succ, List.toList_toArray]
    refine wpAnyH_take (i := 8) (v := (.bool (valid Q))) (by simp only [List.getElem?_toArray, List.getElem?_cons_succ, List.getElem?_cons_zero]; exact rfl) (by kernel_rfl) (by kernel_rfl) (by kernel_rfl) (by intro _ _ _ h; exact h) (Or.inl ⟨by kernel_rfl, by intro w hSw; go_simp⟩) (by assumption) ?_
    refine wpAnyH_done (by kernel_rfl) ?_ _
    simp only [Act.put, List.setIfInBounds_toArray, List.set_cons_succ]
    have rP := World.rangeAt_setCells_apart (World.rangeAt_setCells_same _ w.heap.size 0 (ints (dg P)) (by rw [hlP]; exact hHeld.2.2.1)) (w.heap.size + 1) 0 (ints (dg Q)) (.inl (by omega))
    have rQ := World.rangeAt_setCells_same _ (w.heap.size + 1) 0 (ints (dg Q)) (by rw [hlQ]; exact hT.2.2.2.1)
    go_wp2_with fail
    refine bodyPost_ret (results_2cells_tmp rfl _ _ w.heap.size (w.heap.size + 1) (ints (dg P)) (ints (dg Q)) _ rfl rfl rP rQ hu rfl hiP' hiQ') rfl ?_
    exact ⟨by rw [HTW.out]; rfl, hU.2.2.2.2⟩


def oneS (P Q : List Int) : Bool := valid P && valid Q && (sumL P == sumL Q)
end Go.Proofs.Ytmojonpjgaidgaa
namespace Go.Proofs.Ytmojonpjgaidgaa
open Go.RowKit NP
set_option maxRecDepth 8000
set_option linter.unusedVariables false
set_option linter.unusedSimpArgs false
def fsT (D : List Int) (k : Nat) : List Int := (List.range 16).map fun j => if j < k then sumTo D (j + 1) else 0
theorem fsT_len (D : List Int) (k : Nat) : (fsT D k).length = 16 := by simp [fsT]
theorem fsT_get (D : List Int) (k j : Nat) (h : j < (fsT D k).length) : (fsT D k)[j] = if j < k then sumTo D (j + 1) else 0 := by simp [fsT]
theorem fsT_zero (D : List Int) : fsT D 0 = List.replicate 16 0 := by simp [fsT]; rfl
theorem fsT_set (D : List Int) (k : Nat) : (fsT D k).set k (sumTo D (k + 1)) = fsT D (k + 1) := by
  apply List.ext_getElem
  · rw [List.length_set, fsT_len, fsT_len]
  · intro q h1 h2
    by_cases e : k = q
    · subst e
      rw [List.getElem_set_self, fsT_get, if_pos (by omega)]
    · rw [List.getElem_set_ne e, fsT_get, fsT_get]
      (repeat' split) <;> first | rfl | omega
/-- all sums of the first are small -/
def tame (D : List Int) : Prop := D.length = 16 ∧ (∀ k, 0 ≤ sumTo D k ∧ sumTo D k ≤ 1000) ∧ ∀ k, 0 ≤ D.getD k 0 ∧ D.getD k 0 ≤ 1000

set_option maxHeartbeats 1000000 in
theorem firstSums_any (a : Option Addr) (c B : Nat) (D : List Int) (w : World) (h : Rd w B a (ints D)) (hB : B ≤ w.heap.size) (hD : tame D) :
    Calls Try.prog 95 #[.slice a 16 c] w fun e w' => ∃ a', e = .returned (.slice a' 16 16) ∧ Own w' w.heap.size w'.heap.size 3 (.slice a' 16 16) (ints (fsT D 16)) ∧ Below w.heap.size w w' := by
  obtain ⟨i0, hi, hz0, hz1, hz2⟩ := T_int'
  have hmk := run_make_ints (P := Try.prog) 22 3 i0 Try.underlying22 hi hz0 hz1 hz2 16 (by omega)
  have hmk2 : ∀ w : World, (Instr.makeSlice 22 (.int .i64 16) (.int .i64 16)).run Try.prog w = .ok (.slice (some ⟨w.heap.size, 0, none⟩) 16 16) (w.alloc (.cells (arr (List.replicate 16 0)) 3)) := hmk
  have hl16 : 16 ≤ D.length := by rw [hD.1]; omega
  have HD := Lib.hid hD
  clear hD
  go_enter Try.func95, Try.ntmps95
  go_wp2_with fail
  go_loopw [4, 12] (fun vs vi wr => ∃ k : Nat, k ≤ 16 ∧ vi = .int .i64 k ∧ vs = .int .i64 (sumTo D k) ∧ Below w.heap.size w wr ∧ Blk wr w.heap.size 3 (arr (fsT D k))) (fun _ vi _ => 20 - (intOf vi).toNat)
  case atStart =>
    refine ⟨0, Nat.zero_le _, rfl, rfl, (Below.refl _ _).alloc (Nat.le_refl _) _, ?_⟩
    rw [fsT_zero]
    exact Blk.new w _ _
  case round =>
    obtain ⟨k, hk, rfl, rfl, hbel, hblk⟩ := hrel
    by_cases hlt : k < 16
    · have hkD : k < D.length := by omega
      have hlt' : (k : Int) < 16 := by omega
      obtain ⟨b1, o1, rfl, _, hc1⟩ := ((h.more hB).below hbel).at_ hkD
      have h1 := (HD.out.2.1 k)
      have h2 := (HD.out.2.1 (k + 1))
      rw [sumTo, getD_lt hkD] at h2
      have HS : Hid ((fsT D k).set k (sumTo D k + D[k]) = fsT D (k + 1)) := Lib.hid (by rw [← fsT_set, sumTo, getD_lt hkD])
      have HX : Hid (D.getD k 0 = D[k]) := Lib.hid (getD_lt hkD)
      have hcz : wr.cell? ⟨w.heap.size, k, none⟩ = some ((arr (fsT D k))[k]?.getD undef) := by
        rw [hblk.cell k]
        have : k < (arr (fsT D k)).size := by rw [arr_size, fsT_len]; omega
        simp [this]
      have hfz : wr.frozen? ⟨w.heap.size, k, none⟩ = false := hblk.free k
      generalize ((arr (fsT D k))[k]?.getD undef) = old at *
      generalize D[k] = x at *
      obtain ⟨A, hA⟩ : ∃ A, A = sumTo D k := ⟨_, rfl⟩
      rw [← hA] at h1 h2 HS ⊢
      have HA := Lib.hid hA
      clear hA
      have hw1 : IntKind.i64.wrap (A + x) = A + x := IntWalk.i64_in _ (by omega)
      go_wp2_with fail
      go_roundw
      case rel =>
        refine ⟨k + 1, by omega, by go_num, by rw [sumTo, HX.out, HA.out], hbel.setCell (by show w.heap.size ≤ w.heap.size; omega) _, ?_⟩
        have e := hblk.set k (.int .i64 (A + x))
        rw [arr_set, HS.out] at e
        exact e
      case measure => simp [intOf]; omega
    · obtain rfl : k = 16 := by omega
      have hown : Own wr w.heap.size wr.heap.size 3 (.slice (some ⟨w.heap.size, 0, none⟩) (ints (fsT D 16)).length (ints (fsT D 16)).length) (ints (fsT D 16)) := Blk.own (vs := ints (fsT D 16)) hblk (Nat.le_refl _) (by rw [List.length_map, fsT_len]; unfold maxLen; omega)
      rw [List.length_map, fsT_len] at hown
      have HO := Lib.hid hown
      clear hown
      go_wp2_with fail
      go_ret
      exact ⟨_, rfl, HO.out, hbel⟩
def mmT (D E : List Int) (k : Nat) : List Int := (List.range 16).map fun j => if j < k then mi D E j else 0
theorem mmT_len (D E : List Int) (k : Nat) : (mmT D E k).length = 16 := by simp [mmT]
theorem mmT_get (D E : List Int) (k j : Nat) (h : j < (mmT D E k).length) : (mmT D E k)[j] = if j < k then mi D E j else 0 := by simp [mmT]
theorem mmT_zero (D E : List Int) : mmT D E 0 = List.replicate 16 0 := by simp [mmT]; rfl
theorem mmT_set (D E : List Int) (k : Nat) : (mmT D E k).set k (mi D E k) = mmT D E (k + 1) := by
  apply List.ext_getElem
  · rw [List.length_set, mmT_len, mmT_len]
  · intro q h1 h2
    by_cases e : k = q
    · subst e
      rw [List.getElem_set_self, mmT_get, if_pos (by omega)]
    · rw [List.getElem_set_ne e, mmT_get, mmT_get]
      (repeat' split) <;> first | rfl | omega
theorem mmT_end (D E : List Int) : mmT D E 16 = (List.range 16).map (mi D E) := by
  unfold mmT
  exact List.map_congr_left fun j hj => if_pos (by simpa using hj)

set_option maxHeartbeats 2000000 in
theorem dmeet_any (D E : List Int) (hD : tame D) (hE : tame E) (w : World) :
    Calls Try.prog 85 #[.agg (arr D), .agg (arr E)] w fun e w' => e = .returned (.agg (arr ((List.range 16).map (mi D E)))) ∧ Below w.heap.size w w' := by
  obtain ⟨wA, hwA⟩ : ∃ wA, wA = ((w.alloc (.cells (arr D) 46)).alloc (.cells (arr E) 46)).alloc (.cells (#[.int .i64 0, .int .i64 0, .int .i64 0, .int .i64 0, .int .i64 0, .int .i64 0, .int .i64 0, .int .i64 0, .int .i64 0, .int .i64 0, .int .i64 0, .int .i64 0, .int .i64 0, .int .i64 0, .int .i64 0, .int .i64 0]) 46) := ⟨_, rfl⟩
  have hA2 : Blk wA w.heap.size 46 (arr D) := by rw [hwA]; exact ((Blk.new w 46 (arr D)).alloc _).alloc _
  have hA3 : Blk wA (w.heap.size + 1) 46 (arr E) := by
    rw [hwA]
    have e := (Blk.new (w.alloc (.cells (arr D) 46)) 46 (arr E)).alloc (.cells (arr (List.replicate 16 0)) 46)
    rw [World.size_alloc] at e
    exact e
  have hA4 : Blk wA (w.heap.size + 2) 46 (arr (List.replicate 16 0)) := by
    rw [hwA]
    have e := Blk.new ((w.alloc (.cells (arr D) 46)).alloc (.cells (arr E) 46)) 46 (arr (List.replicate 16 0))
    rw [World.size_alloc, World.size_alloc] at e
    exact e
  have hAb : Below w.heap.size w wA := by rw [hwA]; exact (((Below.refl _ _).alloc (Nat.le_refl _) _).alloc (by simp) _).alloc (by simp; omega) _
  have hAs : wA.heap.size = w.heap.size + 3 := by rw [hwA]; simp
  have hR2 : Rd wA wA.heap.size (some ⟨w.heap.size, 0, none⟩) (ints D) := fun _ => ⟨w.heap.size, 0, rfl, by omega, fun k v hv => by rw [Nat.zero_add, hA2.cell k]; simpa [arr] using hv⟩
  have hR3 : Rd wA wA.heap.size (some ⟨w.heap.size + 1, 0, none⟩) (ints E) := fun _ => ⟨w.heap.size + 1, 0, rfl, by omega, fun k v hv => by rw [Nat.zero_add, hA3.cell k]; simpa [arr] using hv⟩
  have HD := Lib.hid hD
  have HE := Lib.hid hE
  clear hD hE
  go_enter Try.func85, Try.ntmps85
  go_wp2_with fail
  rw [← hwA]
  clear hwA
  refine wp_region_held_drew (S := (fun w' => Below wA.heap.size wA w')) (by kernel_rfl) ((Dr.n wA 1).below _) (fun hHeld => ?_)
  refine wpAnyH_take (i := 0) (v := (.slice (some ⟨w.heap.size, 0, none⟩) 16 16)) (by simp only [List.getElem?_toArray, List.getElem?_cons_succ, List.getElem?_cons_zero]; exact rfl) (by kernel_rfl) (by kernel_rfl) (by kernel_rfl) (by intro _ _ _ h; exact h) (Or.inl ⟨by kernel_rfl, by intro w hSw; go_simp⟩) (by assumption) ?_
  simp only [Act.put, List.setIfInBounds_toArray, List.set_cons_zero, List.set_cons_succ, List.toList_toArray]
  refine wpAnyH_take (i := 2) (v := (.slice (some ⟨w.heap.size + 1, 0, none⟩) 16 16)) (by simp only [List.getElem?_toArray, List.getElem?_cons_succ, List.getElem?_cons_zero]; exact rfl) (by kernel_rfl) (by kernel_rfl) (by kernel_rfl) (by intro _ _ _ h; exact h) (Or.inl ⟨by kernel_rfl, by intro w hSw; go_simp⟩) (by assumption) ?_
  simp only [Act.put, List.setIfInBounds_toArray, List.set_cons_zero, List.set_cons_succ, List.toList_toArray]
  refine wpAnyH_ready (rs := [1]) (by kernel_rfl) (by simp) ?_
  refine AllReadyH.cons (o := _) (by simp only [List.getElem?_toArray, List.getElem?_cons_succ, List.getElem?_cons_zero]; exact rfl) (fun K hK => ?_) AllReadyH.nil
  rw [if_pos (by rfl)]
  go_simp
  go_at_call 95
  refine (firstSums_any _ _ wA.heap.size D _ (hR2.below hHeld) hHeld.size HD.out).mono ?_
  rintro e w1 ⟨a1, rfl, ho1, hbx⟩
  refine hK.out _ _ (hHeld.trans (hbx.mono hHeld.size)) (fun hb1 => ?_)
  clear hK K
  try simp only [Act.put, List.setIfInBounds_toArray, List.set_cons_zero, List.set_cons_succ, List.toList_toArray]
  refine wpAnyH_ready (rs := [3]) (by kernel_rfl) (by simp) ?_
  refine AllReadyH.cons (o := _) (by simp only [List.getElem?_toArray, List.getElem?_cons_succ, List.getElem?_cons_zero]; exact rfl) (fun K hK => ?_) AllReadyH.nil
  rw [if_pos (by rfl)]
  go_simp
  go_at_call 95
  refine (firstSums_any _ _ wA.heap.size E _ (hR3.below hb1) hb1.size HE.out).mono ?_
  rintro e w2 ⟨a2, rfl, ho2, hb2⟩
  refine hK.out _ _ (hb1.trans (hb2.mono hb1.size)) (fun hb3 => ?_)
  clear hK K
  try simp only [Act.put, List.setIfInBounds_toArray, List.set_cons_zero, List.set_cons_succ, List.toList_toArray]
  refine wpAnyH_take (i := 4) (v := (.slice a1 16 16)) (by simp only [List.getElem?_toArray, List.getElem?_cons_succ, List.getElem?_cons_zero]; exact rfl) (by kernel_rfl) (by kernel_rfl) (by kernel_rfl) (by intro _ _ _ h; exact h) (Or.inl ⟨by kernel_rfl, by intro w hSw; go_simp⟩) (by assumption) ?_
  simp only [Act.put, List.setIfInBounds_toArray, List.set_cons_zero, List.set_cons_succ, List.toList_toArray]
  refine wpAnyH_take (i := 5) (v := (.slice a2 16 16)) (by simp only [List.getElem?_toArray, List.getElem?_cons_succ, List.getElem?_cons_zero]; exact rfl) (by kernel_rfl) (by kernel_rfl) (by kernel_rfl) (by intro _ _ _ h; exact h) (Or.inl ⟨by kernel_rfl, by intro w hSw; go_simp⟩) (by assumption) ?_
  simp only [Act.put, List.setIfInBounds_toArray, List.set_cons_zero, List.set_cons_succ, List.toList_toArray]
  refine wpAnyH_done (by kernel_rfl) ?_ _
  try simp only [Act.put, List.setIfInBounds_toArray, List.set_cons_zero, List.set_cons_succ]
  have ho1' := ho1.below (hb2.mono ho1.le)
  have g1 : Own w2 w.heap.size w2.heap.size 3 (.slice a1 16 16) (ints (fsT D 16)) := (ho1'.more).lower (by have := hHeld.size; omega)
  have g2 : Own w2 w.heap.size w2.heap.size 3 (.slice a2 16 16) (ints (fsT E 16)) := ho2.lower (by have := hb1.size; omega)
  have g4 : Blk w2 (w.heap.size + 2) 46 (arr (List.replicate 16 0)) := hA4.below hb3 (by omega)
  have hBw : Below w.heap.size w w2 := hAb.trans (hb3.mono hAb.size)
  have hsz : w.heap.size + 3 ≤ w2.heap.size := by have := hb3.size; omega
  clear ho1 ho1' ho2 hb1 hb2 hb3 hbx hHeld hA2 hA3 hA4 hR2 hR3 hAb hAs
  go_wp2_with fail
  go_loopw [8, 15] (fun vb vi wr => ∃ k : Nat, k ≤ 16 ∧ vi = .int .i64 k ∧ vb = .int .i64 (mf D E k) ∧ Below w.heap.size w wr ∧ Blk wr (w.heap.size + 2) 46 (arr (List.replicate 16 0)) ∧ Blk wr w2.heap.size 46 (arr (mmT D E k)) ∧ Own wr w.heap.size w2.heap.size 3 (.slice a1 16 16) (ints (fsT D 16)) ∧ Own wr w.heap.size w2.heap.size 3 (.slice a2 16 16) (ints (fsT E 16))) (fun _ vi _ => 20 - (intOf vi).toNat)
  case atStart =>
    refine ⟨0, Nat.zero_le _, rfl, rfl, hBw.alloc hBw.size _, g4.alloc _, ?_, g1.alloc _, g2.alloc _⟩
    rw [mmT_zero]
    exact Blk.new w2 _ _
  case round =>
    obtain ⟨k, hk, rfl, rfl, hbel, h4, h7, ho1, ho2⟩ := hrel
    clear g1 g2 g4 hBw
    by_cases hlt : k < 16
    · have hlt' : (k : Int) < 16 := by omega
      obtain ⟨q1, rfl, hc1⟩ := ho1.read (k := k) (by rw [List.length_map, fsT_len]; exact hlt)
      obtain ⟨q2, rfl, hc2⟩ := ho2.read (k := k) (by rw [List.length_map, fsT_len]; exact hlt)
      rw [List.getElem_map, fsT_get, if_pos hlt] at hc1 hc2
      have hx := HD.out.2.1 (k + 1)
      have hy := HE.out.2.1 (k + 1)
      have hA := HD.out.2.1 k
      have hB := HE.out.2.1 k
      obtain ⟨M, hMM⟩ : ∃ M, M = mf D E k := ⟨_, rfl⟩
      obtain ⟨N, hNN⟩ : ∃ N, N = mf D E (k + 1) := ⟨_, rfl⟩
      have hM : M = min (sumTo D k) (sumTo E k) := hMM
      have hN : N = min (sumTo D (k + 1)) (sumTo E (k + 1)) := hNN
      have HS : Hid ((mmT D E k).set k (N - M) = mmT D E (k + 1)) := Lib.hid (by rw [← mmT_set, hNN, hMM]; rfl)
      rw [← hMM]
      have HN := Lib.hid hNN
      have hmn : (if sumTo E (k + 1) < sumTo D (k + 1) then sumTo E (k + 1) else sumTo D (k + 1)) = N := by rw [hN]; split <;> omega
      have hnb : 0 ≤ N ∧ N ≤ 1000 := by omega
      have hmb : 0 ≤ M ∧ M ≤ 1000 := by omega
      clear hMM hNN hM hN hA hB
      have hw3 : IntKind.i64.wrap (N - M) = N - M := IntWalk.i64_in _ (by omega)
      generalize sumTo D (k + 1) = X at *
      generalize sumTo E (k + 1) = Y at *
      have hcz : wr.cell? ⟨w2.heap.size, k, none⟩ = some ((arr (mmT D E k))[k]?.getD undef) := by
        rw [h7.cell k]
        have : k < (arr (mmT D E k)).size := by rw [arr_size, mmT_len]; omega
        simp [this]
      have hfz : wr.frozen? ⟨w2.heap.size, k, none⟩ = false := h7.free k
      generalize ((arr (mmT D E k))[k]?.getD undef) = old at *
      go_wp2_with fail
      go_still (by kernel_rfl)
      replace hbel : Below w.heap.size w wr.drew := hbel.trans ((Dr.n wr 1).below _)
      replace h4 : Blk wr.drew (w.heap.size + 2) 46 (arr (List.replicate 16 0)) := h4
      replace h7 : Blk wr.drew w2.heap.size 46 (arr (mmT D E k)) := h7
      replace hcz : wr.drew.cell? ⟨w2.heap.size, k, none⟩ = some old := hcz
      replace hfz : wr.drew.frozen? ⟨w2.heap.size, k, none⟩ = false := hfz
      replace ho1 := ho1.drew
      replace ho2 := ho2.drew
      clear hc1 hc2
      go_wp2_with fail
      go_roundw
      case rel =>
        refine ⟨k + 1, by omega, by go_num, by rw [HN.out], ?_⟩
        have e := h7.set k (.int .i64 (N - M))
        rw [arr_set, HS.out] at e
        exact ⟨hbel.setCell (by show w.heap.size ≤ w2.heap.size; omega) _, h4.off (by show w.heap.size + 2 ≠ w2.heap.size; omega) _, e, ho1.off (fun g hg => by have := ho1.lt g hg; show g ≠ w2.heap.size; omega) _, ho2.off (fun g hg => by have := ho2.lt g hg; show g ≠ w2.heap.size; omega) _⟩
      case measure => simp [intOf]; omega
    · obtain rfl : k = 16 := by omega
      have HN := Lib.hid (mmT_end D E)
      have hi2 : (Try.prog.info? 46).map (·.size) = some (arr (mmT D E 16)).size := by rw [arr_size, mmT_len]; exact T_info35
      have hszz : (arr (mmT D E 16)).size = (arr (List.replicate 16 0)).size := by rw [arr_size, arr_size, mmT_len]; rfl
      go_wp2_with (first | (refine wpList_load_row rfl 46 (.tmp 7) rfl w2.heap.size rfl 46 (arr (mmT D E 16)) (0, 0) _ h7 Try.underlying46 rfl hi2 ?_) | (refine wpList_store_row rfl 46 (.tmp 4) (.tmp 34) rfl (w.heap.size + 2) rfl (arr (mmT D E 16)) rfl 46 _ h4 hi2 hszz (arr_one _) ?_))
      refine bodyPost_ret (results_cell_row rfl _ _ (w.heap.size + 2) 46 (arr (mmT D E 16)) (0, 0) _ rfl h4.row Try.underlying46 rfl hi2) rfl ?_
      exact ⟨by rw [HN.out], below_setRow' hbel (by omega) _⟩
end Go.Proofs.Ytmojonpjgaidgaa
namespace Go.Proofs.Ytmojonpjgaidgaa
open Go.RowKit NP
set_option maxRecDepth 8000
set_option linter.unusedVariables false
set_option linter.unusedSimpArgs false
theorem ins_no {P Q : List Int} {k : Nat} (h : P.getD k 0 < Q.getD k 0) : ins P Q = false := by
  cases hh : ins P Q with
  | false => rfl
  | true => have := (ins_iff.1 hh).2.2 k; omega
theorem sumTo_bd {L : List Int} (hv : valid L = true) (k : Nat) : 0 ≤ sumTo L k ∧ sumTo L k ≤ 16 := by
  rw [sumTo_take]
  have := valid_bd (valid_take hv k)
  omega
theorem dom_no {P Q : List Int} {k : Nat} (hk : k ≤ 16) (h : sumTo P k < sumTo Q k) : dom P Q = false := by
  cases hh : dom P Q with
  | false => rfl
  | true => have := (dom_iff.1 hh).2.2.2 k hk; omega
theorem dom_yes {P Q : List Int} (hp : valid P = true) (hq : valid Q = true) {n : Nat} (h1 : P.length ≤ n) (h2 : Q.length ≤ n) (h : ∀ j, j ≤ n → sumTo Q j ≤ sumTo P j) : dom P Q = (sumL P == sumL Q) := by
  rw [Bool.eq_iff_iff, dom_iff, beq_iff_eq]
  constructor
  · rintro ⟨_, _, hs, _⟩; exact hs
  · intro hs
    refine ⟨hp, hq, hs, fun k _ => ?_⟩
    rcases Nat.lt_or_ge k n with hk | hk
    · exact h k (by omega)
    · rw [sumTo_all P k (by omega), sumTo_all Q k (by omega), hs]; exact Int.le_refl _
theorem mt_at {P Q : List Int} {n : Nat} (h1 : P.length ≤ n) (h2 : Q.length ≤ n) (hn : n ≤ 16) : tr (mi P Q) n = mt P Q := by
  unfold NP.mt
  refine (tr_more hn fun i hi => ?_).symm
  unfold mi mf
  simp only [sumTo]
  rw [getD_ge (by omega), getD_ge (by omega)]
  omega
def oneS' (P Q : List Int) : Bool := valid P && valid Q && (sumL P == sumL Q)
def mtF (P Q : List Int) : List Int := if oneS' P Q then mt P Q else []
def jnF (P Q : List Int) : List Int := if oneS' P Q then jn P Q else []
theorem oneS_out {P Q : List Int} (h : oneS' P Q = true) : valid P = true ∧ valid Q = true ∧ sumL P = sumL Q := by
  unfold oneS' at h
  simp only [Bool.and_eq_true, beq_iff_eq] at h
  exact ⟨h.1.1, h.1.2, h.2⟩
theorem mtF_yes {P Q : List Int} (h : oneS' P Q = true) : mtF P Q = mt P Q := by simp [mtF, h]
theorem mtF_no {P Q : List Int} (h : oneS' P Q = false) : mtF P Q = [] := by simp [mtF, h]
theorem jnF_yes {P Q : List Int} (h : oneS' P Q = true) : jnF P Q = jn P Q := by simp [jnF, h]
theorem jnF_no {P Q : List Int} (h : oneS' P Q = false) : jnF P Q = [] := by simp [jnF, h]
theorem mtF_len (P Q : List Int) : (mtF P Q).length ≤ 16 := by
  cases h : oneS' P Q with
  | true => rw [mtF_yes h]; obtain ⟨h1, h2, _⟩ := oneS_out h; exact (valid_bd (valid_mt h1 h2)).2.2.2
  | false => rw [mtF_no h]; simp
theorem jnF_len (P Q : List Int) : (jnF P Q).length ≤ 16 := by
  cases h : oneS' P Q with
  | true => rw [jnF_yes h]; obtain ⟨h1, h2, _⟩ := oneS_out h; exact (valid_bd (valid_jn h1 h2)).2.2.2
  | false => rw [jnF_no h]; simp


set_option maxHeartbeats 2000000 in
theorem sdominates_any (a b : Option Addr) (ca cb Ba Bb : Nat) (P Q : List Int) (w : World) (h : Rd w Ba a (ints P)) (hq : Rd w Bb b (ints Q)) (hBa : Ba ≤ w.heap.size) (hBb : Bb ≤ w.heap.size) (hvp : valid P = true) (hvq : valid Q = true) :
    Calls Try.prog 34 #[.slice a P.length ca, .slice b Q.length cb] w fun e w' => e = .returned (.bool (dom P Q)) ∧ w = w' := by
  have hpl := (valid_bd hvp).2.2.2
  have hql := (valid_bd hvq).2.2.2
  have HGP := Lib.hid (getD_nn hvp)
  have HGQ := Lib.hid (getD_nn hvq)
  have HBP := Lib.hid (sumTo_bd hvp)
  have HBQ := Lib.hid (sumTo_bd hvq)
  have HP := Lib.hid hvp
  have HQ := Lib.hid hvq
  clear hvp hvq
  go_enter Try.func34, Try.ntmps34
  go_wp2_with fail
  go_loop [5, 6, 7] (fun va vb vi => ∃ k : Nat, k ≤ 16 ∧ vi = .int .i64 k ∧ va = .int .i64 (sumTo P k) ∧ vb = .int .i64 (sumTo Q k) ∧ Hid (∀ j, j ≤ k → sumTo Q j ≤ sumTo P j)) (fun _ _ vi => 20 - (intOf vi).toNat)
  case atStart => exact ⟨0, Nat.zero_le _, rfl, rfl, rfl, Lib.hid fun j hj => by (obtain rfl : j = 0 := by omega); exact Int.le_refl _⟩
  case round =>
    obtain ⟨k, hk, rfl, rfl, rfl, HJ⟩ := hrel
    have hA := HBP.out k
    have hB := HBQ.out k
    by_cases h1 : k < P.length
    · by_cases h2 : k < Q.length
      · have hgo : True := trivial
        obtain ⟨b1, o1, rfl, _, hc1⟩ := h.at_ h1
        have hx := HGP.out k
        have hx2 := HBP.out (k + 1)
        rw [sumTo] at hx2
        rw [getD_lt h1] at hx hx2
        have HX : Hid (P.getD k 0 = P[k]) := Lib.hid (getD_lt h1)
        have d1 : decide ((k : Int) < (P.length : Int)) = true := decide_eq_true (by omega)
        have l1 : (k : Int) < (P.length : Int) := by omega
        obtain ⟨b2, o2, rfl, _, hc2⟩ := hq.at_ h2
        have hy := HGQ.out k
        have hy2 := HBQ.out (k + 1)
        rw [sumTo] at hy2
        rw [getD_lt h2] at hy hy2
        have HY : Hid (Q.getD k 0 = Q[k]) := Lib.hid (getD_lt h2)
        have d2 : decide ((k : Int) < (Q.length : Int)) = true := decide_eq_true (by omega)
        have l2 : (k : Int) < (Q.length : Int) := by omega
        obtain ⟨A, hAA⟩ : ∃ A, A = sumTo P k := ⟨_, rfl⟩
        rw [← hAA] at hA hx2 ⊢
        have HA : Hid (sumTo P k = A) := Lib.hid hAA.symm
        clear hAA
        obtain ⟨B, hBB⟩ : ∃ B, B = sumTo Q k := ⟨_, rfl⟩
        rw [← hBB] at hB hy2 ⊢
        have HB : Hid (sumTo Q k = B) := Lib.hid hBB.symm
        clear hBB
        generalize P[k] = x at *
        have hw1 : IntKind.i64.wrap (A + x) = A + x := IntWalk.i64_in _ (by omega)
        generalize Q[k] = y at *
        have hw2 : IntKind.i64.wrap (B + y) = B + y := IntWalk.i64_in _ (by omega)
        by_cases h3 : (A + x) < (B + y)
        · have d3 : decide ((A + x) < (B + y)) = true := decide_eq_true h3
          have HI : Hid (dom P Q = false) := Lib.hid (dom_no (k := k + 1) (by omega) (by rw [sumTo, sumTo, HX.out, HY.out, HA.out, HB.out]; omega))
          clear h3
          go_wp2_with fail
          go_ret
          exact ⟨ret_bool HI.out.symm, rfl⟩
        · have d3 : decide ((A + x) < (B + y)) = false := decide_eq_false h3
          have h4 : (B + y) ≤ (A + x) := by omega
          clear h3
          go_wp2_with fail
          go_round
          case rel => exact ⟨k + 1, by omega, by go_num, by rw [sumTo, HX.out, HA.out], by rw [sumTo, HY.out, HB.out], Lib.hid fun j hj => by
            rcases Nat.lt_or_ge j (k + 1) with h | h
            · exact HJ.out j (by omega)
            · obtain rfl : j = k + 1 := by omega
              rw [sumTo, sumTo, HX.out, HY.out, HA.out, HB.out]; omega⟩
          case measure => simp [intOf]; omega
      · have hgo : True := trivial
        obtain ⟨b1, o1, rfl, _, hc1⟩ := h.at_ h1
        have hx := HGP.out k
        have hx2 := HBP.out (k + 1)
        rw [sumTo] at hx2
        rw [getD_lt h1] at hx hx2
        have HX : Hid (P.getD k 0 = P[k]) := Lib.hid (getD_lt h1)
        have d1 : decide ((k : Int) < (P.length : Int)) = true := decide_eq_true (by omega)
        have l1 : (k : Int) < (P.length : Int) := by omega
        have HY : Hid (Q.getD k 0 = 0) := Lib.hid (getD_ge (by omega))
        have d2 : decide ((k : Int) < (Q.length : Int)) = false := decide_eq_false (by omega)
        have l2 : ¬ (k : Int) < (Q.length : Int) := by omega
        obtain ⟨A, hAA⟩ : ∃ A, A = sumTo P k := ⟨_, rfl⟩
        rw [← hAA] at hA hx2 ⊢
        have HA : Hid (sumTo P k = A) := Lib.hid hAA.symm
        clear hAA
        obtain ⟨B, hBB⟩ : ∃ B, B = sumTo Q k := ⟨_, rfl⟩
        rw [← hBB] at hB ⊢
        have HB : Hid (sumTo Q k = B) := Lib.hid hBB.symm
        clear hBB
        generalize P[k] = x at *
        have hw1 : IntKind.i64.wrap (A + x) = A + x := IntWalk.i64_in _ (by omega)
        by_cases h3 : (A + x) < B
        · have d3 : decide ((A + x) < B) = true := decide_eq_true h3
          have HI : Hid (dom P Q = false) := Lib.hid (dom_no (k := k + 1) (by omega) (by rw [sumTo, sumTo, HX.out, HY.out, HA.out, HB.out]; omega))
          clear h3
          go_wp2_with fail
          go_ret
          exact ⟨ret_bool HI.out.symm, rfl⟩
        · have d3 : decide ((A + x) < B) = false := decide_eq_false h3
          have h4 : B ≤ (A + x) := by omega
          clear h3
          go_wp2_with fail
          go_round
          case rel => exact ⟨k + 1, by omega, by go_num, by rw [sumTo, HX.out, HA.out], by rw [sumTo, HY.out, HB.out]; go_num, Lib.hid fun j hj => by
            rcases Nat.lt_or_ge j (k + 1) with h | h
            · exact HJ.out j (by omega)
            · obtain rfl : j = k + 1 := by omega
              rw [sumTo, sumTo, HX.out, HY.out, HA.out, HB.out]; omega⟩
          case measure => simp [intOf]; omega
    · by_cases h2 : k < Q.length
      · have hgo : True := trivial
        have HX : Hid (P.getD k 0 = 0) := Lib.hid (getD_ge (by omega))
        have d1 : decide ((k : Int) < (P.length : Int)) = false := decide_eq_false (by omega)
        have l1 : ¬ (k : Int) < (P.length : Int) := by omega
        obtain ⟨b2, o2, rfl, _, hc2⟩ := hq.at_ h2
        have hy := HGQ.out k
        have hy2 := HBQ.out (k + 1)
        rw [sumTo] at hy2
        rw [getD_lt h2] at hy hy2
        have HY : Hid (Q.getD k 0 = Q[k]) := Lib.hid (getD_lt h2)
        have d2 : decide ((k : Int) < (Q.length : Int)) = true := decide_eq_true (by omega)
        have l2 : (k : Int) < (Q.length : Int) := by omega
        obtain ⟨A, hAA⟩ : ∃ A, A = sumTo P k := ⟨_, rfl⟩
        rw [← hAA] at hA ⊢
        have HA : Hid (sumTo P k = A) := Lib.hid hAA.symm
        clear hAA
        obtain ⟨B, hBB⟩ : ∃ B, B = sumTo Q k := ⟨_, rfl⟩
        rw [← hBB] at hB hy2 ⊢
        have HB : Hid (sumTo Q k = B) := Lib.hid hBB.symm
        clear hBB
        generalize Q[k] = y at *
        have hw2 : IntKind.i64.wrap (B + y) = B + y := IntWalk.i64_in _ (by omega)
        by_cases h3 : A < (B + y)
        · have d3 : decide (A < (B + y)) = true := decide_eq_true h3
          have HI : Hid (dom P Q = false) := Lib.hid (dom_no (k := k + 1) (by omega) (by rw [sumTo, sumTo, HX.out, HY.out, HA.out, HB.out]; omega))
          clear h3
          go_wp2_with fail
          go_ret
          exact ⟨ret_bool HI.out.symm, rfl⟩
        · have d3 : decide (A < (B + y)) = false := decide_eq_false h3
          have h4 : (B + y) ≤ A := by omega
          clear h3
          go_wp2_with fail
          go_round
          case rel => exact ⟨k + 1, by omega, by go_num, by rw [sumTo, HX.out, HA.out]; go_num, by rw [sumTo, HY.out, HB.out], Lib.hid fun j hj => by
            rcases Nat.lt_or_ge j (k + 1) with h | h
            · exact HJ.out j (by omega)
            · obtain rfl : j = k + 1 := by omega
              rw [sumTo, sumTo, HX.out, HY.out, HA.out, HB.out]; omega⟩
          case measure => simp [intOf]; omega
      · have hgo : True := trivial
        have HX : Hid (P.getD k 0 = 0) := Lib.hid (getD_ge (by omega))
        have d1 : decide ((k : Int) < (P.length : Int)) = false := decide_eq_false (by omega)
        have l1 : ¬ (k : Int) < (P.length : Int) := by omega
        have HY : Hid (Q.getD k 0 = 0) := Lib.hid (getD_ge (by omega))
        have d2 : decide ((k : Int) < (Q.length : Int)) = false := decide_eq_false (by omega)
        have l2 : ¬ (k : Int) < (Q.length : Int) := by omega
        have HI : Hid (dom P Q = (sumL P == sumL Q)) := Lib.hid (dom_yes HP.out HQ.out (n := k) (by omega) (by omega) HJ.out)
        have e1 := sumTo_all P k (by omega)
        have e2 := sumTo_all Q k (by omega)
        rw [e1, e2]
        clear e1 e2
        go_wp2_with fail
        go_ret
        exact ⟨ret_bool HI.out.symm, rfl⟩

end Go.Proofs.Ytmojonpjgaidgaa
namespace Go.Proofs.Ytmojonpjgaidgaa
open Go.RowKit NP
set_option maxRecDepth 8000
set_option linter.unusedVariables false
set_option linter.unusedSimpArgs false
theorem sumTo_pad {P : List Int} (h : P.length ≤ 16) (k : Nat) : sumTo (pad P) k = sumTo P k := by
  induction k with
  | zero => rfl
  | succ k ih => rw [sumTo, sumTo, ih, pad_getD h]
theorem mi_pad {P Q : List Int} (hp : P.length ≤ 16) (hq : Q.length ≤ 16) : mi (pad P) (pad Q) = mi P Q := by
  funext i; unfold mi mf; rw [sumTo_pad hp, sumTo_pad hq, sumTo_pad hp, sumTo_pad hq]
theorem map_mi {P Q : List Int} (hp : valid P = true) (hq : valid Q = true) : (List.range 16).map (mi (pad P) (pad Q)) = pad (NP.mt P Q) := by
  rw [mi_pad (valid_bd hp).2.2.2 (valid_bd hq).2.2.2, pad_mt hp hq]
theorem tame_pad {P : List Int} (hp : valid P = true) : tame (pad P) := by
  have hl := (valid_bd hp).2.2.2
  refine ⟨pad_len hl, fun k => ?_, fun k => ?_⟩
  · rw [sumTo_pad hl]; have := sumTo_bd hp k; omega
  · rw [pad_getD hl]; have := getD_nn hp k; omega
theorem conj_cells {P : List Int} (hp : valid P = true) : acc (pad P) 16 0 = pad (conj P) := (acc_end (pad P) (pad_len (valid_bd hp).2.2.2)).trans (conj_pad hp)
theorem results_cell_mid {P : Program} {fn : Func} {p1 : Tmp} {ty : TypeId} (h : fn.results = #[.cell p1 ty]) (tmps : Array Value) (w : World) (g1 : Nat) (c1 : List Value) (d : TypeDesc)
    (hp1 : tmps.getD p1 undef = .pointer (some ⟨g1, 0, none⟩)) (h1 : w.rangeAt g1 0 c1)
    (hu : P.underlying ty = some d) (hd : d.isRow = true) (hi1 : (P.info? ty).map (·.size) = some c1.length) :
    (results fn tmps).run P w = .ok (.agg c1.toArray) w := by
  have hp1' : tmps[p1]?.getD undef = .pointer (some ⟨g1, 0, none⟩) := by simpa using hp1
  simp [results, h, hp1', asAddr, run_loadVar_mid w g1 0 ty c1 d h1 hu hd hi1]
theorem keep_rrt {w0 w w' : World} {g1 g2 g3 n : Nat} {c1 c2 : List Value} (h : w.rangeAt g1 0 c1 ∧ w.rangeAt g2 0 c2 ∧ w.there g3 0 n ∧ Below w0.heap.size w0 w) (hb : Below w.heap.size w w') :
    w'.rangeAt g1 0 c1 ∧ w'.rangeAt g2 0 c2 ∧ w'.there g3 0 n ∧ Below w0.heap.size w0 w' :=
  ⟨range_below h.1 hb, range_below h.2.1 hb, there_below h.2.2.1 hb, h.2.2.2.trans (hb.mono h.2.2.2.size)⟩
theorem keep_rr2 {w0 w w' : World} {g1 g2 : Nat} {c1 c2 : List Value} (h : w.rangeAt g1 0 c1 ∧ w.rangeAt g2 0 c2 ∧ Below w0.heap.size w0 w) (hb : Below w.heap.size w w') :
    w'.rangeAt g1 0 c1 ∧ w'.rangeAt g2 0 c2 ∧ Below w0.heap.size w0 w' :=
  ⟨range_below h.1 hb, range_below h.2.1 hb, h.2.2.trans (hb.mono h.2.2.size)⟩
theorem T_guardB2 : Try.prog.eqGuardType Try.prog.depth 75 = false := by kernel_rfl
theorem rows_two (w : World) (P Q : List Int) : Blk ((w.alloc (.cells (arr P) 46)).alloc (.cells (arr Q) 46)) w.heap.size 46 (arr P) ∧ Blk ((w.alloc (.cells (arr P) 46)).alloc (.cells (arr Q) 46)) (w.heap.size + 1) 46 (arr Q) ∧ Below w.heap.size w ((w.alloc (.cells (arr P) 46)).alloc (.cells (arr Q) 46)) := by
  refine ⟨(Blk.new w 46 (arr P)).alloc _, ?_, ((Below.refl _ _).alloc (Nat.le_refl _) _).alloc (by simp) _⟩
  have e := Blk.new (w.alloc (.cells (arr P) 46)) 46 (arr Q)
  rw [World.size_alloc] at e
  exact e

set_option maxHeartbeats 4000000 in
theorem byDominance_any (P Q : List Int) (hp : valid P = true) (hq : valid Q = true) (w : World) :
    Calls Try.prog 67 #[.agg (arr (pad P)), .agg (arr (pad Q))] w fun e w' => e = .returned (.agg (arr (pad (NP.mt P Q) ++ pad (jn P Q)))) ∧ Below w.heap.size w w' := by
  have hpl := (valid_bd hp).2.2.2
  have hql := (valid_bd hq).2.2.2
  have hlP := pad_len hpl
  have hlQ := pad_len hql
  have hiP := info_diag (pad P) hlP
  have hiQ := info_diag (pad Q) hlQ
  have hu := Try.underlying46
  have hm1 := valid_mt hp hq
  have hm2 := valid_mt (valid_conj hp) (valid_conj hq)
  have hj := valid_jn hp hq
  have hlM := pad_len (valid_bd hm1).2.2.2
  have hlJ := pad_len (valid_bd hj).2.2.2
  have HTP := Lib.hid (tame_pad hp)
  have HTQ := Lib.hid (tame_pad hq)
  have HTP2 := Lib.hid (tame_pad (valid_conj hp))
  have HTQ2 := Lib.hid (tame_pad (valid_conj hq))
  have HM1 := Lib.hid (map_mi hp hq)
  have HM2 := Lib.hid (map_mi (valid_conj hp) (valid_conj hq))
  have HC1 := Lib.hid (conj_cells hp)
  have HC2 := Lib.hid (conj_cells hq)
  have HC3 : Hid (acc (pad (NP.mt (conj P) (conj Q))) 16 0 = pad (jn P Q)) := Lib.hid (conj_cells hm2)
  have HN1 := Lib.hid (pad_nonneg hp)
  have HN2 := Lib.hid (pad_nonneg hq)
  have HN3 := Lib.hid (pad_nonneg hm2)
  have HL1 := Lib.hid hlP
  have HL2 := Lib.hid hlQ
  have HL3 := Lib.hid (pad_len (valid_bd hm2).2.2.2)
  have hbld : ∀ w : World, (Instr.build 75 #[(0, .agg (arr (pad (NP.mt P Q)))), (1, .agg (arr (pad (jn P Q))))]).run Try.prog w = .ok (.agg (arr (pad (NP.mt P Q) ++ pad (jn P Q)))) w := T_build _ _ hlM hlJ
  have hlX : (ints (pad (NP.mt P Q) ++ pad (jn P Q))).length = 32 := by rw [List.length_map, List.length_append, hlM, hlJ]
  have hzX : (ints (pad (NP.mt P Q) ++ pad (jn P Q))).toArray.size = 32 := by rw [List.size_toArray]; exact hlX
  have h1X := ints_one (pad (NP.mt P Q) ++ pad (jn P Q))
  have hiX : (Try.prog.info? 75).map (·.size) = some (ints (pad (NP.mt P Q) ++ pad (jn P Q))).length := by rw [hlX]; exact T_info_bounds
  obtain ⟨hb2, hb3, hal⟩ := rows_two w (pad P) (pad Q)
  obtain ⟨wB, hwB⟩ : ∃ wB, wB = ((w.alloc (.cells (arr (pad P)) 46)).alloc (.cells (arr (pad Q)) 46)) := ⟨_, rfl⟩
  rw [← hwB] at hb2 hb3 hal
  have hwBs : wB.heap.size = w.heap.size + 2 := by rw [hwB]; simp
  have ht4 : (wB.alloc (.cells (arr (List.replicate 32 0)) 75)).there (w.heap.size + 2) 0 32 := by
    have e := (Blk.new wB 75 (arr (List.replicate 32 0))).there
    rw [hwBs] at e
    exact e
  have hr2 : (wB.alloc (.cells (arr (List.replicate 32 0)) 75)).rangeAt w.heap.size 0 (ints (pad P)) := Blk.range (hb2.alloc _)
  have hr3 : (wB.alloc (.cells (arr (List.replicate 32 0)) 75)).rangeAt (w.heap.size + 1) 0 (ints (pad Q)) := Blk.range (hb3.alloc _)
  have hal2 := hal.alloc hal.size (.cells (arr (List.replicate 32 0)) 75)
  rw [hwB] at ht4 hr2 hr3 hal2
  have na : w.heap.size ≠ w.heap.size + 2 := by omega
  have nb : w.heap.size + 1 ≠ w.heap.size + 2 := by omega
  clear hp hq hpl hql hlP hlQ hm1 hm2 hj hlM hlJ hb2 hb3 hal hwB hwBs
  go_enter Try.func67, Try.ntmps67
  go_wp2_with fail
  refine wp_region_held_drew (S := (fun w' => w'.rangeAt w.heap.size 0 (ints (pad P)) ∧ w'.rangeAt (w.heap.size + 1) 0 (ints (pad Q)) ∧ w'.there (w.heap.size + 2) 0 32 ∧ Below w.heap.size w w')) (by kernel_rfl) ⟨hr2, hr3, ht4, hal2.trans ((Dr.n _ 1).below _)⟩ (fun hHeld => ?_)
  refine wpAnyH_take (i := 0) (v := _) (by simp only [List.getElem?_toArray, List.getElem?_cons_succ, List.getElem?_cons_zero]; exact rfl) (by kernel_rfl) (by kernel_rfl) (by kernel_rfl) (by intro _ _ _ h; exact h) (yieldsIf_load_mid (by kernel_rfl) _ _ rfl w.heap.size 0 rfl (ints (pad P)) _ (fun _ hw => hw.1) hu rfl hiP) (by assumption) ?_
  simp only [Act.put, List.setIfInBounds_toArray, List.set_cons_zero, List.set_cons_succ, List.toList_toArray]
  refine wpAnyH_take (i := 1) (v := _) (by simp only [List.getElem?_toArray, List.getElem?_cons_succ, List.getElem?_cons_zero]; exact rfl) (by kernel_rfl) (by kernel_rfl) (by kernel_rfl) (by intro _ _ _ h; exact h) (yieldsIf_load_mid (by kernel_rfl) _ _ rfl (w.heap.size + 1) 0 rfl (ints (pad Q)) _ (fun _ hw => hw.2.1) hu rfl hiQ) (by assumption) ?_
  simp only [Act.put, List.setIfInBounds_toArray, List.set_cons_zero, List.set_cons_succ, List.toList_toArray]
  refine wpAnyH_take (i := 3) (v := _) (by simp only [List.getElem?_toArray, List.getElem?_cons_succ, List.getElem?_cons_zero]; exact rfl) (by kernel_rfl) (by kernel_rfl) (by kernel_rfl) (by intro _ _ _ h; exact h) (yieldsIf_load_mid (by kernel_rfl) _ _ rfl w.heap.size 0 rfl (ints (pad P)) _ (fun _ hw => hw.1) hu rfl hiP) (by assumption) ?_
  simp only [Act.put, List.setIfInBounds_toArray, List.set_cons_zero, List.set_cons_succ, List.toList_toArray]
  refine wpAnyH_take (i := 5) (v := _) (by simp only [List.getElem?_toArray, List.getElem?_cons_succ, List.getElem?_cons_zero]; exact rfl) (by kernel_rfl) (by kernel_rfl) (by kernel_rfl) (by intro _ _ _ h; exact h) (yieldsIf_load_mid (by kernel_rfl) _ _ rfl (w.heap.size + 1) 0 rfl (ints (pad Q)) _ (fun _ hw => hw.2.1) hu rfl hiQ) (by assumption) ?_
  simp only [Act.put, List.setIfInBounds_toArray, List.set_cons_zero, List.set_cons_succ, List.toList_toArray]
  refine wpAnyH_ready (rs := [2]) (by kernel_rfl) (by simp) ?_
  refine AllReadyH.cons (o := _) (by simp only [List.getElem?_toArray, List.getElem?_cons_succ, List.getElem?_cons_zero]; exact rfl) (fun K hK => ?_) AllReadyH.nil
  rw [if_pos (by rfl)]
  go_simp
  go_at_call 85
  refine (dmeet_any (pad P) (pad Q) HTP.out HTQ.out _).mono ?_
  rintro e w5 ⟨rfl, hbd⟩
  rw [HM1.out]
  refine hK.out _ _ (keep_rrt hHeld hbd) (fun h2 => ?_)
  clear hK K
  try simp only [Act.put, List.setIfInBounds_toArray, List.set_cons_zero, List.set_cons_succ, List.toList_toArray]
  refine wpAnyH_ready (rs := [4]) (by kernel_rfl) (by simp) ?_
  refine AllReadyH.cons (o := _) (by simp only [List.getElem?_toArray, List.getElem?_cons_succ, List.getElem?_cons_zero]; exact rfl) (fun K hK => ?_) AllReadyH.nil
  rw [if_pos (by rfl)]
  go_simp
  go_at_call 72
  refine (conjugate_any (pad P) HL1.out HN1.out _).mono ?_
  rintro e w6 ⟨rfl, hbd⟩
  rw [HC1.out]
  refine hK.out _ _ (keep_rrt h2 hbd) (fun h3 => ?_)
  clear hK K
  try simp only [Act.put, List.setIfInBounds_toArray, List.set_cons_zero, List.set_cons_succ, List.toList_toArray]
  refine wpAnyH_ready (rs := [6]) (by kernel_rfl) (by simp) ?_
  refine AllReadyH.cons (o := _) (by simp only [List.getElem?_toArray, List.getElem?_cons_succ, List.getElem?_cons_zero]; exact rfl) (fun K hK => ?_) AllReadyH.nil
  rw [if_pos (by rfl)]
  go_simp
  go_at_call 72
  refine (conjugate_any (pad Q) HL2.out HN2.out _).mono ?_
  rintro e w7 ⟨rfl, hbd⟩
  rw [HC2.out]
  refine hK.out _ _ (keep_rrt h3 hbd) (fun h4 => ?_)
  clear hK K
  try simp only [Act.put, List.setIfInBounds_toArray, List.set_cons_zero, List.set_cons_succ, List.toList_toArray]
  refine wpAnyH_ready (rs := [7]) (by kernel_rfl) (by simp) ?_
  refine AllReadyH.cons (o := _) (by simp only [List.getElem?_toArray, List.getElem?_cons_succ, List.getElem?_cons_zero]; exact rfl) (fun K hK => ?_) AllReadyH.nil
  rw [if_pos (by rfl)]
  go_simp
  go_at_call 85
  refine (dmeet_any (pad (conj P)) (pad (conj Q)) HTP2.out HTQ2.out _).mono ?_
  rintro e w8 ⟨rfl, hbd⟩
  rw [HM2.out]
  refine hK.out _ _ (keep_rrt h4 hbd) (fun h5 => ?_)
  clear hK K
  try simp only [Act.put, List.setIfInBounds_toArray, List.set_cons_zero, List.set_cons_succ, List.toList_toArray]
  refine wpAnyH_ready (rs := [8]) (by kernel_rfl) (by simp) ?_
  refine AllReadyH.cons (o := _) (by simp only [List.getElem?_toArray, List.getElem?_cons_succ, List.getElem?_cons_zero]; exact rfl) (fun K hK => ?_) AllReadyH.nil
  rw [if_pos (by rfl)]
  go_simp
  go_at_call 72
  refine (conjugate_any (pad (NP.mt (conj P) (conj Q))) HL3.out HN3.out _).mono ?_
  rintro e w9 ⟨rfl, hbd⟩
  rw [HC3.out]
  refine hK.out _ _ (keep_rrt h5 hbd) (fun h6 => ?_)
  clear hK K
  try simp only [Act.put, List.setIfInBounds_toArray, List.set_cons_zero, List.set_cons_succ, List.toList_toArray]
  refine wpAnyH_take (i := 9) (v := (.agg (arr (pad (NP.mt P Q) ++ pad (jn P Q))))) (by simp only [List.getElem?_toArray, List.getElem?_cons_succ, List.getElem?_cons_zero]; exact rfl) (by kernel_rfl) (by kernel_rfl) (by kernel_rfl) (by intro _ _ _ h; exact h) (Or.inl ⟨by kernel_rfl, by intro w hSw; exact exec_build _ _ _ rfl rfl rfl (hbld w)⟩) (by assumption) ?_
  simp only [Act.put, List.setIfInBounds_toArray, List.set_cons_zero, List.set_cons_succ, List.toList_toArray]
  refine wpAnyH_ready (rs := [10]) (by kernel_rfl) (by simp) ?_
  refine AllReadyH.cons (o := _) (by simp only [List.getElem?_toArray, List.getElem?_cons_succ, List.getElem?_cons_zero]; exact rfl) (fun K hK => ?_) AllReadyH.nil
  rw [if_pos (by rfl)]
  refine wp_store_mid _ _ _ rfl (w.heap.size + 2) 0 (ints (pad (NP.mt P Q) ++ pad (jn P Q))).toArray rfl rfl (by rw [hzX]; exact h6.2.2.1) (by rw [hzX]; exact T_info_bounds) (all_oneCell_toArray h1X) ?_
  simp only [Act.put, List.setIfInBounds_toArray, List.set_cons_zero, List.set_cons_succ, List.toList_toArray]
  refine hK.out _ _ ⟨World.rangeAt_setCells_apart h6.1 _ _ _ (.inl na), World.rangeAt_setCells_apart h6.2.1 _ _ _ (.inl nb), World.there_setCells h6.2.2.1 _ _ _, below_setCells (by omega) _ _ _ _ h6.2.2.2⟩ (fun hU => ?_)
  clear hK K
  try simp only [Act.put, List.setIfInBounds_toArray, List.set_cons_zero, List.set_cons_succ, List.toList_toArray]
  refine wpAnyH_done (by kernel_rfl) ?_ _
  try simp only [Act.put, List.setIfInBounds_toArray, List.set_cons_zero, List.set_cons_succ]
  have rX := World.rangeAt_setCells_same _ (w.heap.size + 2) 0 (ints (pad (NP.mt P Q) ++ pad (jn P Q))) (by rw [hlX]; exact h6.2.2.1)
  go_wp2_with fail
  refine bodyPost_ret (results_cell_mid rfl _ _ (w.heap.size + 2) (ints (pad (NP.mt P Q) ++ pad (jn P Q))) _ rfl rX Try.underlying75 rfl hiX) rfl ?_
  exact ⟨rfl, hU.2.2.2⟩
end Go.Proofs.Ytmojonpjgaidgaa
