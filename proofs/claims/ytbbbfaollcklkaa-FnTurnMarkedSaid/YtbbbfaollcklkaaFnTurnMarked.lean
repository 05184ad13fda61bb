/-
  'laws.FnTurnMarked' returns true for every code, and the code reads as it did. No condition.
-/
import Derived.Test.YtbbbfaollcklkaaRows
import Derived.Test.YtbbbfaollcklkaaM49
import Derived.Test.YtbbbfaollcklkaaW95
import Derived.Test.YtbbbfaollcklkaaW98
import Derived.Test.YtbbbfaollcklkaaW99
import Derived.RegionTactic
import Derived.Deep.RegionHeld3
import Derived.Deep.MidRow
import Derived.Lib.SmallJoins
import Derived.WalkKit
import Derived.ProofKit
import Derived.OpenShut
import Derived.ShutString
import Derived.ChangeOld
import Derived.Below
namespace Go.Proofs.Ytbbbfaollcklkaa.fnTurnMarked
open Go.ChangeShapes Go.WideShapes Go.ChangeAt Go.RowKit NP
open Go.ChangeMaps (open_string shut_string)
set_option linter.unusedVariables false

theorem vmk_turned {L : List Int} {T : List Bool} (h : vmk L T = true) : vmk (tnL L T) (tnB L T) = true := by rw [(tn_yes h).1, (tn_yes h).2]; exact vmk_tn h
theorem cntT_turned {L : List Int} {T : List Bool} (h : vmk L T = true) : cntT (tnB L T) = cntT T := by rw [(tn_yes h).2]; exact cntT_tn h
theorem turn_twice {L : List Int} {T : List Bool} (h : vmk L T = true) : tnL (tnL L T) (tnB L T) = L ∧ tnB (tnL L T) (tnB L T) = T := by
  have h2 := tn_yes (vmk_turned h)
  rw [h2.1, h2.2, (tn_yes h).1, (tn_yes h).2]
  exact ⟨conj_conj (vmk_iff.1 h).1, tnM_inv h⟩
theorem turn_back {L : List Int} {T : List Bool} (h : vmk L T = true) (a1 a2 : Option Addr) (c1 c2 B1 B2 : Nat) (w : World) (h1 : Rd w B1 a1 (ints (tnL L T))) (h2 : Rd w B2 a2 (bls (tnB L T))) (hB1 : B1 ≤ w.heap.size) (hB2 : B2 ≤ w.heap.size) :
    Calls Try.prog 34 #[.agg #[.slice a1 (tnL L T).length c1, .slice a2 (tnB L T).length c2]] w fun e w' => ∃ b1 b2 d1 d2, e = .returned (.agg #[.slice b1 L.length d1, .slice b2 T.length d2]) ∧ (∃ m, w.heap.size ≤ m ∧ m ≤ w'.heap.size ∧ Own w' w.heap.size m 4 (.slice b2 T.length d2) (bls T) ∧ Own w' m w'.heap.size 3 (.slice b1 L.length d1) (ints L)) ∧ Below w.heap.size w w' := by
  have hl := tn_len L T
  have hh := iTurnMarked_any a1 a2 c1 c2 B1 B2 (tnL L T) (tnB L T) w h1 h2 hB1 hB2 (by omega) (by omega)
  rw [(turn_twice h).1, (turn_twice h).2] at hh
  exact hh

set_option linter.unusedSimpArgs false
set_option maxRecDepth 100000 in
set_option maxHeartbeats 1600000 in
theorem walk (a : Option Addr) (c : Nat) (bs : List Int) (w0 : World) (h : Rd w0 w0.heap.size a (bs.map (Value.int .u8))) (hb : ∀ n ∈ bs, (Lit.int .u8 n).wf = true) (m : bs.length ≤ maxLen) (hc : bs.length ≤ c) :
    Calls Try.prog 10 #[.slice a bs.length c] w0 fun e w' => e = .returned (.bool true) ∧ Below w0.heap.size w0 w' := by
  unfold maxLen at m
  have hmu := Try.underlying28
  have hi2 : (Try.prog.info? 28).map (·.size) = some 2 := T_mkL
  by_cases hl : bs.length ≤ 1048576
  · go_enter Try.func10, Try.ntmps10
    go_wp2_with fail
    refine (DrawTurnMarked_any a c _ bs _ h (Nat.le_refl _) hb hl hc).mono ?_
    rintro e w1 ⟨L, T, a1, a2, c1, c2, rfl, ⟨p1, p2⟩, hL, hT, hA⟩
    clear h hb hl hc m
    have htn1 := (tn_len L T).1
    have htn2 : (tnB L T).length ≤ 16 := by have := tn_len L T; omega
    go_wp2_with fail
    obtain ⟨w2, hw2⟩ : ∃ w2, w2 = w1.alloc (.cells #[.slice a1 L.length c1, .slice a2 T.length c2] 28) := ⟨_, rfl⟩
    rw [← hw2]
    have hb : Below w1.heap.size w1 w2 := hw2 ▸ (Below.refl _ _).alloc (Nat.le_refl _) _
    have bx : Blk w2 w1.heap.size 28 #[.slice a1 L.length c1, .slice a2 T.length c2] := hw2 ▸ Blk.new w1 _ _
    have hz2 : w2.heap.size = w1.heap.size + 1 := by rw [hw2]; simp
    clear hw2
    replace p1 := p1.below hb
    replace p2 := p2.below hb
    replace hA := hA.trans (hb.mono hA.size)
    clear hb
    refine (iTurnMarked_any a1 a2 c1 c2 w1.heap.size w1.heap.size L T w2 p1 p2 (by omega) (by omega) (by omega) (by omega)).mono ?_
    rintro e w3 ⟨g1, g2, dg1, dg2, rfl, ⟨mg, mg1, mg2, gm, gp⟩, hb⟩
    have hz3 := hb.size
    replace p1 := p1.below (hb.mono (by omega))
    replace p2 := p2.below (hb.mono (by omega))
    replace bx := bx.below hb bx.lt
    replace hA := hA.trans (hb.mono hA.size)
    clear hb
    have bx0c : (w3.alloc (.cells #[.slice g1 (tnL L T).length dg1, .slice g2 (tnB L T).length dg2] 28)).cell? ⟨w1.heap.size, 0, none⟩ = some (.slice a1 L.length c1) := cell_alloc (bx.cell 0)
    have bx1c : (w3.alloc (.cells #[.slice g1 (tnL L T).length dg1, .slice g2 (tnB L T).length dg2] 28)).cell? ⟨w1.heap.size, 1, none⟩ = some (.slice a2 T.length c2) := cell_alloc (bx.cell 1)
    go_wp2_with fail
    clear bx0c bx1c
    obtain ⟨w4, hw4⟩ : ∃ w4, w4 = w3.alloc (.cells #[.slice g1 (tnL L T).length dg1, .slice g2 (tnB L T).length dg2] 28) := ⟨_, rfl⟩
    rw [← hw4]
    have hb : Below w3.heap.size w3 w4 := hw4 ▸ (Below.refl _ _).alloc (Nat.le_refl _) _
    have bo : Blk w4 w3.heap.size 28 #[.slice g1 (tnL L T).length dg1, .slice g2 (tnB L T).length dg2] := hw4 ▸ Blk.new w3 _ _
    have hz4 : w4.heap.size = w3.heap.size + 1 := by rw [hw4]; simp
    clear hw4
    replace p1 := p1.below (hb.mono (by omega))
    replace p2 := p2.below (hb.mono (by omega))
    replace gp := gp.below (hb.mono gp.le)
    replace gm := gm.below (hb.mono gm.le)
    replace bx := bx.below hb bx.lt
    replace hA := hA.trans (hb.mono hA.size)
    clear hb
    cases hv : vmk L T with
    | false =>
      have HV := Lib.hid hv
      clear hv
      go_wp2_with fail
      refine wp_region_held_drew (S := fun w' => Below w4.heap.size w4 w') (by kernel_rfl) ((Dr.n w4 1).below _) (fun hS0 => ?_)
      refine wpAnyH_take (i := 0) (v := .agg #[(.slice g1 (tnL L T).length dg1), (.slice g2 (tnB L T).length dg2)]) (by simp only [List.getElem?_toArray, List.getElem?_cons_succ, List.getElem?_cons_zero]; exact rfl) (by kernel_rfl) (by kernel_rfl) (by kernel_rfl) (by intro _ _ _ h; exact h) (yieldsIf_load_mid (by kernel_rfl) _ _ rfl w3.heap.size 0 rfl [(.slice g1 (tnL L T).length dg1), (.slice g2 (tnB L T).length dg2)] _ (fun _ hw => Blk.rangeQQ (vs := [(.slice g1 (tnL L T).length dg1), (.slice g2 (tnB L T).length dg2)]) (bo.below hw bo.lt)) hmu rfl hi2) (by assumption) ?_
      simp only [Act.put, List.setIfInBounds_toArray, List.set_cons_zero, List.set_cons_succ, List.toList_toArray]
      refine wpAnyH_take (i := 1) (v := .agg #[(.slice a1 L.length c1), (.slice a2 T.length c2)]) (by simp only [List.getElem?_toArray, List.getElem?_cons_succ, List.getElem?_cons_zero]; exact rfl) (by kernel_rfl) (by kernel_rfl) (by kernel_rfl) (by intro _ _ _ h; exact h) (yieldsIf_load_mid (by kernel_rfl) _ _ rfl w1.heap.size 0 rfl [(.slice a1 L.length c1), (.slice a2 T.length c2)] _ (fun _ hw => Blk.rangeQQ (vs := [(.slice a1 L.length c1), (.slice a2 T.length c2)]) (bx.below hw bx.lt)) hmu rfl hi2) (by assumption) ?_
      simp only [Act.put, List.setIfInBounds_toArray, List.set_cons_zero, List.set_cons_succ, List.toList_toArray]
      refine wpAnyH_ready (rs := [2]) (by kernel_rfl) (by simp) ?_
      refine AllReadyH.cons (o := _) (by simp only [List.getElem?_toArray, List.getElem?_cons_succ, List.getElem?_cons_zero]; exact rfl) (fun K hK => ?_) AllReadyH.nil
      rw [if_pos (by rfl)]
      go_simp
      go_at_call 33
      refine (sTurnMarked_all a1 a2 c1 c2 w1.heap.size w1.heap.size L T _ (p1.below (hS0.mono (by omega))) (p2.below (hS0.mono (by omega))) (by have := hS0.size; omega) (by have := hS0.size; omega) (by omega) (by omega)).mono ?_
      rintro e wq0 ⟨r1, dr1, r2, dr2, rfl, rp, rm, hb0⟩
      have hS1 := hS0.trans (hb0.mono hS0.size)
      refine hK.out _ _ hS1 (fun _ => ?_)
      clear hK K
      try simp only [Act.put, List.setIfInBounds_toArray, List.set_cons_zero, List.set_cons_succ, List.toList_toArray]
      refine wpAnyH_ready (rs := [3]) (by kernel_rfl) (by simp) ?_
      refine AllReadyH.cons (o := _) (by simp only [List.getElem?_toArray, List.getElem?_cons_succ, List.getElem?_cons_zero]; exact rfl) (fun K hK => ?_) AllReadyH.nil
      rw [if_pos (by rfl)]
      go_simp
      go_at_call 19
      refine (equalMarked_same _ _ _ _ _ _ _ _ _ _ _ _ (tnL L T) (tnB L T) _ (gp.rd.below (hS1.mono gp.le)) (gm.rd.below (hS1.mono gm.le)) rp.rd rm.rd (by have := hS1.size; have := gp.le; omega) (by have := hS1.size; have := gm.le; omega) rp.le rm.le (by omega) (by omega)).mono ?_
      rintro e wq1 ⟨rfl, hb1⟩
      have hS2 := hS1.trans (hb1.mono hS1.size)
      refine hK.out _ _ hS2 (fun _ => ?_)
      clear hK K
      try simp only [Act.put, List.setIfInBounds_toArray, List.set_cons_zero, List.set_cons_succ, List.toList_toArray]
      refine wpAnyH_take (i := 4) (v := .bool false) (by simp only [List.getElem?_toArray, List.getElem?_cons_succ, List.getElem?_cons_zero]; exact rfl) (by kernel_rfl) (by kernel_rfl) (by kernel_rfl) (by intro _ _ _ h; exact h) (Or.inl ⟨by kernel_rfl, by intro w hSw; go_simp⟩) (by assumption) ?_
      simp only [Act.put, List.setIfInBounds_toArray, List.set_cons_zero, List.set_cons_succ, List.toList_toArray]
      refine wpAnyH_take (i := 5) (v := .bool false) (by simp only [List.getElem?_toArray, List.getElem?_cons_succ, List.getElem?_cons_zero]; exact rfl) (by kernel_rfl) (by kernel_rfl) (by kernel_rfl) (by intro _ _ _ h; exact h) (Or.inl ⟨by kernel_rfl, by intro w hSw; go_simp⟩) (by assumption) ?_
      simp only [Act.put, List.setIfInBounds_toArray, List.set_cons_zero, List.set_cons_succ, List.toList_toArray]
      refine wpAnyH_take (i := 6) (v := .agg #[(.slice a1 L.length c1), (.slice a2 T.length c2)]) (by simp only [List.getElem?_toArray, List.getElem?_cons_succ, List.getElem?_cons_zero]; exact rfl) (by kernel_rfl) (by kernel_rfl) (by kernel_rfl) (by intro _ _ _ h; exact h) (yieldsIf_load_mid (by kernel_rfl) _ _ rfl w1.heap.size 0 rfl [(.slice a1 L.length c1), (.slice a2 T.length c2)] _ (fun _ hw => Blk.rangeQQ (vs := [(.slice a1 L.length c1), (.slice a2 T.length c2)]) (bx.below hw bx.lt)) hmu rfl hi2) (by assumption) ?_
      simp only [Act.put, List.setIfInBounds_toArray, List.set_cons_zero, List.set_cons_succ, List.toList_toArray]
      refine wpAnyH_ready (rs := [7]) (by kernel_rfl) (by simp) ?_
      refine AllReadyH.cons (o := _) (by simp only [List.getElem?_toArray, List.getElem?_cons_succ, List.getElem?_cons_zero]; exact rfl) (fun K hK => ?_) AllReadyH.nil
      rw [if_pos (by rfl)]
      go_simp
      go_at_call 14
      refine (iValidMarked_any a1 a2 c1 c2 w1.heap.size w1.heap.size L T _ (p1.below (hS2.mono (by omega))) (p2.below (hS2.mono (by omega))) (by have := hS2.size; omega) (by have := hS2.size; omega) (by omega) (by omega)).mono ?_
      rintro e wq2 ⟨rfl, hb2⟩
      rw [HV.out]
      have hS3 := hS2.trans (hb2.mono hS2.size)
      refine hK.out _ _ hS3 (fun _ => ?_)
      clear hK K
      try simp only [Act.put, List.setIfInBounds_toArray, List.set_cons_zero, List.set_cons_succ, List.toList_toArray]
      refine wpAnyH_take (i := 8) (v := .bool true) (by simp only [List.getElem?_toArray, List.getElem?_cons_succ, List.getElem?_cons_zero]; exact rfl) (by kernel_rfl) (by kernel_rfl) (by kernel_rfl) (by intro _ _ _ h; exact h) (Or.inl ⟨by kernel_rfl, by intro w hSw; go_simp⟩) (by assumption) ?_
      simp only [Act.put, List.setIfInBounds_toArray, List.set_cons_zero, List.set_cons_succ, List.toList_toArray]
      refine wpAnyH_take (i := 9) (v := .bool true) (by simp only [List.getElem?_toArray, List.getElem?_cons_succ, List.getElem?_cons_zero]; exact rfl) (by kernel_rfl) (by kernel_rfl) (by kernel_rfl) (by intro _ _ _ h; exact h) (Or.inl ⟨by kernel_rfl, by intro w hSw; go_simp⟩) (by assumption) ?_
      simp only [Act.put, List.setIfInBounds_toArray, List.set_cons_zero, List.set_cons_succ, List.toList_toArray]
      refine wpAnyH_done (by kernel_rfl) ?_ _
      try simp only [Act.put, List.setIfInBounds_toArray, List.set_cons_zero, List.set_cons_succ]
      clear rp rm
      obtain ⟨w5, hw5⟩ : ∃ w5, w5 = wq2 := ⟨_, rfl⟩
      rw [← hw5]
      rw [← hw5] at hS3
      clear hw5
      have hb := hS3
      replace p1 := p1.below (hb.mono (by omega))
      replace p2 := p2.below (hb.mono (by omega))
      replace gp := gp.below (hb.mono gp.le)
      replace gm := gm.below (hb.mono gm.le)
      replace bx := bx.below hb bx.lt
      replace bo := bo.below hb bo.lt
      replace hA := hA.trans (hb.mono hA.size)
      have hzzw5 := hb.size
      have bx0_w5 := bx.cell 0
      have bx1_w5 := bx.cell 1
      have bo0_w5 := bo.cell 0
      have bo1_w5 := bo.cell 1
      clear hb hS0 hS1 hb0 hS2 hb1 hS3 hb2
      go_wp2_with fail
      refine wp_region_held_drew (S := fun w' => Below w5.heap.size w5 w') (by kernel_rfl) ((Dr.n w5 1).below _) (fun hS0 => ?_)
      refine wpAnyH_take (i := 0) (v := .agg #[(.slice g1 (tnL L T).length dg1), (.slice g2 (tnB L T).length dg2)]) (by simp only [List.getElem?_toArray, List.getElem?_cons_succ, List.getElem?_cons_zero]; exact rfl) (by kernel_rfl) (by kernel_rfl) (by kernel_rfl) (by intro _ _ _ h; exact h) (yieldsIf_load_mid (by kernel_rfl) _ _ rfl w3.heap.size 0 rfl [(.slice g1 (tnL L T).length dg1), (.slice g2 (tnB L T).length dg2)] _ (fun _ hw => Blk.rangeQQ (vs := [(.slice g1 (tnL L T).length dg1), (.slice g2 (tnB L T).length dg2)]) (bo.below hw bo.lt)) hmu rfl hi2) (by assumption) ?_
      simp only [Act.put, List.setIfInBounds_toArray, List.set_cons_zero, List.set_cons_succ, List.toList_toArray]
      refine wpAnyH_take (i := 1) (v := .agg #[(.slice a1 L.length c1), (.slice a2 T.length c2)]) (by simp only [List.getElem?_toArray, List.getElem?_cons_succ, List.getElem?_cons_zero]; exact rfl) (by kernel_rfl) (by kernel_rfl) (by kernel_rfl) (by intro _ _ _ h; exact h) (yieldsIf_load_mid (by kernel_rfl) _ _ rfl w1.heap.size 0 rfl [(.slice a1 L.length c1), (.slice a2 T.length c2)] _ (fun _ hw => Blk.rangeQQ (vs := [(.slice a1 L.length c1), (.slice a2 T.length c2)]) (bx.below hw bx.lt)) hmu rfl hi2) (by assumption) ?_
      simp only [Act.put, List.setIfInBounds_toArray, List.set_cons_zero, List.set_cons_succ, List.toList_toArray]
      refine wpAnyH_ready (rs := [2]) (by kernel_rfl) (by simp) ?_
      refine AllReadyH.cons (o := _) (by simp only [List.getElem?_toArray, List.getElem?_cons_succ, List.getElem?_cons_zero]; exact rfl) (fun K hK => ?_) AllReadyH.nil
      rw [if_pos (by rfl)]
      go_simp
      go_at_call 33
      refine (sTurnMarked_all a1 a2 c1 c2 w1.heap.size w1.heap.size L T _ (p1.below (hS0.mono (by omega))) (p2.below (hS0.mono (by omega))) (by have := hS0.size; omega) (by have := hS0.size; omega) (by omega) (by omega)).mono ?_
      rintro e wq0 ⟨r1, dr1, r2, dr2, rfl, rp, rm, hb0⟩
      have hS1 := hS0.trans (hb0.mono hS0.size)
      refine hK.out _ _ hS1 (fun _ => ?_)
      clear hK K
      try simp only [Act.put, List.setIfInBounds_toArray, List.set_cons_zero, List.set_cons_succ, List.toList_toArray]
      refine wpAnyH_ready (rs := [3]) (by kernel_rfl) (by simp) ?_
      refine AllReadyH.cons (o := _) (by simp only [List.getElem?_toArray, List.getElem?_cons_succ, List.getElem?_cons_zero]; exact rfl) (fun K hK => ?_) AllReadyH.nil
      rw [if_pos (by rfl)]
      go_simp
      go_at_call 19
      refine (equalMarked_same _ _ _ _ _ _ _ _ _ _ _ _ (tnL L T) (tnB L T) _ (gp.rd.below (hS1.mono gp.le)) (gm.rd.below (hS1.mono gm.le)) rp.rd rm.rd (by have := hS1.size; have := gp.le; omega) (by have := hS1.size; have := gm.le; omega) rp.le rm.le (by omega) (by omega)).mono ?_
      rintro e wq1 ⟨rfl, hb1⟩
      have hS2 := hS1.trans (hb1.mono hS1.size)
      refine hK.out _ _ hS2 (fun _ => ?_)
      clear hK K
      try simp only [Act.put, List.setIfInBounds_toArray, List.set_cons_zero, List.set_cons_succ, List.toList_toArray]
      refine wpAnyH_take (i := 4) (v := .bool true) (by simp only [List.getElem?_toArray, List.getElem?_cons_succ, List.getElem?_cons_zero]; exact rfl) (by kernel_rfl) (by kernel_rfl) (by kernel_rfl) (by intro _ _ _ h; exact h) (Or.inl ⟨by kernel_rfl, by intro w hSw; go_simp⟩) (by assumption) ?_
      simp only [Act.put, List.setIfInBounds_toArray, List.set_cons_zero, List.set_cons_succ, List.toList_toArray]
      refine wpAnyH_done (by kernel_rfl) ?_ _
      try simp only [Act.put, List.setIfInBounds_toArray, List.set_cons_zero, List.set_cons_succ]
      go_wp2_with fail
      go_ret
      exact ⟨rfl, hA.trans (hS2.mono hA.size)⟩
    | true =>
      have HV := Lib.hid hv
      clear hv
      go_wp2_with fail
      refine wp_region_held_drew (S := fun w' => Below w4.heap.size w4 w') (by kernel_rfl) ((Dr.n w4 1).below _) (fun hS0 => ?_)
      refine wpAnyH_take (i := 0) (v := .agg #[(.slice g1 (tnL L T).length dg1), (.slice g2 (tnB L T).length dg2)]) (by simp only [List.getElem?_toArray, List.getElem?_cons_succ, List.getElem?_cons_zero]; exact rfl) (by kernel_rfl) (by kernel_rfl) (by kernel_rfl) (by intro _ _ _ h; exact h) (yieldsIf_load_mid (by kernel_rfl) _ _ rfl w3.heap.size 0 rfl [(.slice g1 (tnL L T).length dg1), (.slice g2 (tnB L T).length dg2)] _ (fun _ hw => Blk.rangeQQ (vs := [(.slice g1 (tnL L T).length dg1), (.slice g2 (tnB L T).length dg2)]) (bo.below hw bo.lt)) hmu rfl hi2) (by assumption) ?_
      simp only [Act.put, List.setIfInBounds_toArray, List.set_cons_zero, List.set_cons_succ, List.toList_toArray]
      refine wpAnyH_take (i := 1) (v := .agg #[(.slice a1 L.length c1), (.slice a2 T.length c2)]) (by simp only [List.getElem?_toArray, List.getElem?_cons_succ, List.getElem?_cons_zero]; exact rfl) (by kernel_rfl) (by kernel_rfl) (by kernel_rfl) (by intro _ _ _ h; exact h) (yieldsIf_load_mid (by kernel_rfl) _ _ rfl w1.heap.size 0 rfl [(.slice a1 L.length c1), (.slice a2 T.length c2)] _ (fun _ hw => Blk.rangeQQ (vs := [(.slice a1 L.length c1), (.slice a2 T.length c2)]) (bx.below hw bx.lt)) hmu rfl hi2) (by assumption) ?_
      simp only [Act.put, List.setIfInBounds_toArray, List.set_cons_zero, List.set_cons_succ, List.toList_toArray]
      refine wpAnyH_ready (rs := [2]) (by kernel_rfl) (by simp) ?_
      refine AllReadyH.cons (o := _) (by simp only [List.getElem?_toArray, List.getElem?_cons_succ, List.getElem?_cons_zero]; exact rfl) (fun K hK => ?_) AllReadyH.nil
      rw [if_pos (by rfl)]
      go_simp
      go_at_call 33
      refine (sTurnMarked_all a1 a2 c1 c2 w1.heap.size w1.heap.size L T _ (p1.below (hS0.mono (by omega))) (p2.below (hS0.mono (by omega))) (by have := hS0.size; omega) (by have := hS0.size; omega) (by omega) (by omega)).mono ?_
      rintro e wq0 ⟨r1, dr1, r2, dr2, rfl, rp, rm, hb0⟩
      have hS1 := hS0.trans (hb0.mono hS0.size)
      refine hK.out _ _ hS1 (fun _ => ?_)
      clear hK K
      try simp only [Act.put, List.setIfInBounds_toArray, List.set_cons_zero, List.set_cons_succ, List.toList_toArray]
      refine wpAnyH_ready (rs := [3]) (by kernel_rfl) (by simp) ?_
      refine AllReadyH.cons (o := _) (by simp only [List.getElem?_toArray, List.getElem?_cons_succ, List.getElem?_cons_zero]; exact rfl) (fun K hK => ?_) AllReadyH.nil
      rw [if_pos (by rfl)]
      go_simp
      go_at_call 19
      refine (equalMarked_same _ _ _ _ _ _ _ _ _ _ _ _ (tnL L T) (tnB L T) _ (gp.rd.below (hS1.mono gp.le)) (gm.rd.below (hS1.mono gm.le)) rp.rd rm.rd (by have := hS1.size; have := gp.le; omega) (by have := hS1.size; have := gm.le; omega) rp.le rm.le (by omega) (by omega)).mono ?_
      rintro e wq1 ⟨rfl, hb1⟩
      have hS2 := hS1.trans (hb1.mono hS1.size)
      refine hK.out _ _ hS2 (fun _ => ?_)
      clear hK K
      try simp only [Act.put, List.setIfInBounds_toArray, List.set_cons_zero, List.set_cons_succ, List.toList_toArray]
      refine wpAnyH_take (i := 4) (v := .bool false) (by simp only [List.getElem?_toArray, List.getElem?_cons_succ, List.getElem?_cons_zero]; exact rfl) (by kernel_rfl) (by kernel_rfl) (by kernel_rfl) (by intro _ _ _ h; exact h) (Or.inl ⟨by kernel_rfl, by intro w hSw; go_simp⟩) (by assumption) ?_
      simp only [Act.put, List.setIfInBounds_toArray, List.set_cons_zero, List.set_cons_succ, List.toList_toArray]
      refine wpAnyH_take (i := 5) (v := .bool false) (by simp only [List.getElem?_toArray, List.getElem?_cons_succ, List.getElem?_cons_zero]; exact rfl) (by kernel_rfl) (by kernel_rfl) (by kernel_rfl) (by intro _ _ _ h; exact h) (Or.inl ⟨by kernel_rfl, by intro w hSw; go_simp⟩) (by assumption) ?_
      simp only [Act.put, List.setIfInBounds_toArray, List.set_cons_zero, List.set_cons_succ, List.toList_toArray]
      refine wpAnyH_take (i := 6) (v := .agg #[(.slice a1 L.length c1), (.slice a2 T.length c2)]) (by simp only [List.getElem?_toArray, List.getElem?_cons_succ, List.getElem?_cons_zero]; exact rfl) (by kernel_rfl) (by kernel_rfl) (by kernel_rfl) (by intro _ _ _ h; exact h) (yieldsIf_load_mid (by kernel_rfl) _ _ rfl w1.heap.size 0 rfl [(.slice a1 L.length c1), (.slice a2 T.length c2)] _ (fun _ hw => Blk.rangeQQ (vs := [(.slice a1 L.length c1), (.slice a2 T.length c2)]) (bx.below hw bx.lt)) hmu rfl hi2) (by assumption) ?_
      simp only [Act.put, List.setIfInBounds_toArray, List.set_cons_zero, List.set_cons_succ, List.toList_toArray]
      refine wpAnyH_ready (rs := [7]) (by kernel_rfl) (by simp) ?_
      refine AllReadyH.cons (o := _) (by simp only [List.getElem?_toArray, List.getElem?_cons_succ, List.getElem?_cons_zero]; exact rfl) (fun K hK => ?_) AllReadyH.nil
      rw [if_pos (by rfl)]
      go_simp
      go_at_call 14
      refine (iValidMarked_any a1 a2 c1 c2 w1.heap.size w1.heap.size L T _ (p1.below (hS2.mono (by omega))) (p2.below (hS2.mono (by omega))) (by have := hS2.size; omega) (by have := hS2.size; omega) (by omega) (by omega)).mono ?_
      rintro e wq2 ⟨rfl, hb2⟩
      rw [HV.out]
      have hS3 := hS2.trans (hb2.mono hS2.size)
      refine hK.out _ _ hS3 (fun _ => ?_)
      clear hK K
      try simp only [Act.put, List.setIfInBounds_toArray, List.set_cons_zero, List.set_cons_succ, List.toList_toArray]
      refine wpAnyH_take (i := 8) (v := .bool false) (by simp only [List.getElem?_toArray, List.getElem?_cons_succ, List.getElem?_cons_zero]; exact rfl) (by kernel_rfl) (by kernel_rfl) (by kernel_rfl) (by intro _ _ _ h; exact h) (Or.inl ⟨by kernel_rfl, by intro w hSw; go_simp⟩) (by assumption) ?_
      simp only [Act.put, List.setIfInBounds_toArray, List.set_cons_zero, List.set_cons_succ, List.toList_toArray]
      refine wpAnyH_take (i := 9) (v := .bool false) (by simp only [List.getElem?_toArray, List.getElem?_cons_succ, List.getElem?_cons_zero]; exact rfl) (by kernel_rfl) (by kernel_rfl) (by kernel_rfl) (by intro _ _ _ h; exact h) (Or.inl ⟨by kernel_rfl, by intro w hSw; go_simp⟩) (by assumption) ?_
      simp only [Act.put, List.setIfInBounds_toArray, List.set_cons_zero, List.set_cons_succ, List.toList_toArray]
      refine wpAnyH_done (by kernel_rfl) ?_ _
      try simp only [Act.put, List.setIfInBounds_toArray, List.set_cons_zero, List.set_cons_succ]
      clear rp rm
      obtain ⟨w5, hw5⟩ : ∃ w5, w5 = wq2 := ⟨_, rfl⟩
      rw [← hw5]
      rw [← hw5] at hS3
      clear hw5
      have hb := hS3
      replace p1 := p1.below (hb.mono (by omega))
      replace p2 := p2.below (hb.mono (by omega))
      replace gp := gp.below (hb.mono gp.le)
      replace gm := gm.below (hb.mono gm.le)
      replace bx := bx.below hb bx.lt
      replace bo := bo.below hb bo.lt
      replace hA := hA.trans (hb.mono hA.size)
      have hzzw5 := hb.size
      have bx0_w5 := bx.cell 0
      have bx1_w5 := bx.cell 1
      have bo0_w5 := bo.cell 0
      have bo1_w5 := bo.cell 1
      clear hb hS0 hS1 hb0 hS2 hb1 hS3 hb2
      have HVT := Lib.hid (vmk_turned HV.out)
      have HCN := Lib.hid (cntT_turned HV.out)
      have hlB : (tnB L T).length ≤ 16 := htn2
      go_wp2_with fail
      go_loopw [5, 6] (fun n i wr => ∃ k m : Nat, k ≤ T.length ∧ m ≤ k ∧ n = .int .i64 (m : Int) ∧ i = .int .i64 (k : Int) ∧ Hid (m = cntT (T.take k)) ∧ Dr w5 wr) (fun _ i _ => 50 - (intOf i).toNat)
      case atStart => exact ⟨0, 0, Nat.zero_le _, Nat.le_refl _, rfl, rfl, Lib.hid (by simp [cntT]), Dr.refl _⟩
      case round =>
        obtain ⟨k, m, hk, hmk, rfl, rfl, HM, hdr⟩ := hrel
        have q2 : wr.cell? ⟨w1.heap.size, 1, none⟩ = some (.slice a2 T.length c2) := (bx.below (hdr.below _) bx.lt).cell 1
        by_cases hlt : k < T.length
        · have hlt' : (k : Int) < (T.length : Int) := by omega
          have hw1 : IntKind.i64.wrap ((k : Int) + 1) = (k : Int) + 1 := IntWalk.i64_in _ (by omega)
          have hw2 : IntKind.i64.wrap ((m : Int) + 1) = (m : Int) + 1 := IntWalk.i64_in _ (by omega)
          obtain ⟨b2, o2, rfl, -, hc2⟩ := boolRd (p2.below (hdr.below _)) hlt
          have HC := Lib.hid (cntT_take hlt)
          generalize T[k] = x at hc2 HC
          cases x with
          | true =>
            go_wp2_with fail
            go_roundw
            case rel => exact ⟨k + 1, m + 1, by omega, by omega, by go_num, by go_num, Lib.hid (by rw [HC.out, ← HM.out]; simp), hdr⟩
            case measure => simp [intOf]; omega
          | false =>
            go_wp2_with fail
            go_roundw
            case rel => exact ⟨k + 1, m, by omega, by omega, rfl, by go_num, Lib.hid (by rw [HC.out, ← HM.out]; simp), hdr⟩
            case measure => simp [intOf]; omega
        · obtain rfl : k = T.length := by omega
          have hge : ¬ (T.length : Int) < (T.length : Int) := by omega
          have HMT : Hid (m = cntT T) := Lib.hid (by have := HM.out; rwa [List.take_length] at this)
          clear HM hlt
          go_wp2_with fail
          clear hge q2
          go_loopw [5, 7] (fun n i wr2 => ∃ k j : Nat, k ≤ (tnB L T).length ∧ j ≤ k ∧ n = .int .i64 ((m : Int) - (j : Int)) ∧ i = .int .i64 (k : Int) ∧ Hid (j = cntT ((tnB L T).take k)) ∧ Dr w5 wr2) (fun _ i _ => 50 - (intOf i).toNat)
          case atStart => exact ⟨0, 0, Nat.zero_le _, Nat.le_refl _, by simp, rfl, Lib.hid (by simp [cntT]), hdr⟩
          case round =>
            obtain ⟨k, j, hk2, hjk, rfl, rfl, HJ, hdr2⟩ := hrel
            have q2 : wr.cell? ⟨w3.heap.size, 1, none⟩ = some (.slice g2 (tnB L T).length dg2) := (bo.below (hdr2.below _) bo.lt).cell 1
            by_cases hlt : k < (tnB L T).length
            · have hlt' : (k : Int) < ((tnB L T).length : Int) := by omega
              have hw1 : IntKind.i64.wrap ((k : Int) + 1) = (k : Int) + 1 := IntWalk.i64_in _ (by omega)
              have hw2 : IntKind.i64.wrap ((m : Int) - (j : Int) - 1) = (m : Int) - (j : Int) - 1 := IntWalk.i64_in _ (by omega)
              obtain ⟨b2, o2, rfl, -, hc2⟩ := boolRd (gm.rd.below (hdr2.below _)) hlt
              have HC := Lib.hid (cntT_take hlt)
              generalize (tnB L T)[k] = x at hc2 HC
              cases x with
              | true =>
                go_wp2_with fail
                go_roundw
                case rel => exact ⟨k + 1, j + 1, by omega, by omega, by go_num, by go_num, Lib.hid (by rw [HC.out, ← HJ.out]; simp), hdr2⟩
                case measure => simp [intOf]; omega
              | false =>
                go_wp2_with fail
                go_roundw
                case rel => exact ⟨k + 1, j, by omega, by omega, rfl, by go_num, Lib.hid (by rw [HC.out, ← HJ.out]; simp), hdr2⟩
                case measure => simp [intOf]; omega
            · obtain rfl : k = (tnB L T).length := by omega
              have hge : ¬ ((tnB L T).length : Int) < ((tnB L T).length : Int) := by omega
              have hmj : m = j := by have h1 := HMT.out; have h2 := HJ.out; rw [List.take_length, HCN.out] at h2; omega
              subst hmj
              clear HJ HMT hlt
              have hbb := hdr2.below w5.heap.size
              replace p1 := p1.below (hbb.mono (by omega))
              replace p2 := p2.below (hbb.mono (by omega))
              replace gp := gp.below (hbb.mono gp.le)
              replace gm := gm.below (hbb.mono gm.le)
              replace bx := bx.below hbb bx.lt
              replace bo := bo.below hbb bo.lt
              replace hA := hA.trans (hbb.mono hA.size)
              have hzr := hbb.size
              clear hbb
              go_wp2_with fail
              refine wp_region_held_drew (S := fun w' => Below wr.heap.size wr w') (by kernel_rfl) ((Dr.n wr 1).below _) (fun hS0 => ?_)
              refine wpAnyH_take (i := 0) (v := .int .i64 ((m : Int) - (m : Int))) (by simp only [List.getElem?_toArray, List.getElem?_cons_succ, List.getElem?_cons_zero]; exact rfl) (by kernel_rfl) (by kernel_rfl) (by kernel_rfl) (by intro _ _ _ h; exact h) (Or.inl ⟨by kernel_rfl, by intro w hSw; go_simp⟩) (by assumption) ?_
              simp only [Act.put, List.setIfInBounds_toArray, List.set_cons_zero, List.set_cons_succ, List.toList_toArray]
              refine wpAnyH_take (i := 1) (v := .bool true) (by simp only [List.getElem?_toArray, List.getElem?_cons_succ, List.getElem?_cons_zero]; exact rfl) (by kernel_rfl) (by kernel_rfl) (by kernel_rfl) (by intro _ _ _ h; exact h) (Or.inl ⟨by kernel_rfl, by intro w hSw; go_simp⟩) (by assumption) ?_
              simp only [Act.put, List.setIfInBounds_toArray, List.set_cons_zero, List.set_cons_succ, List.toList_toArray]
              refine wpAnyH_take (i := 2) (v := .bool true) (by simp only [List.getElem?_toArray, List.getElem?_cons_succ, List.getElem?_cons_zero]; exact rfl) (by kernel_rfl) (by kernel_rfl) (by kernel_rfl) (by intro _ _ _ h; exact h) (Or.inl ⟨by kernel_rfl, by intro w hSw; go_simp⟩) (by assumption) ?_
              simp only [Act.put, List.setIfInBounds_toArray, List.set_cons_zero, List.set_cons_succ, List.toList_toArray]
              refine wpAnyH_take (i := 3) (v := .agg #[(.slice g1 (tnL L T).length dg1), (.slice g2 (tnB L T).length dg2)]) (by simp only [List.getElem?_toArray, List.getElem?_cons_succ, List.getElem?_cons_zero]; exact rfl) (by kernel_rfl) (by kernel_rfl) (by kernel_rfl) (by intro _ _ _ h; exact h) (yieldsIf_load_mid (by kernel_rfl) _ _ rfl w3.heap.size 0 rfl [(.slice g1 (tnL L T).length dg1), (.slice g2 (tnB L T).length dg2)] _ (fun _ hw => Blk.rangeQQ (vs := [(.slice g1 (tnL L T).length dg1), (.slice g2 (tnB L T).length dg2)]) (bo.below hw bo.lt)) hmu rfl hi2) (by assumption) ?_
              simp only [Act.put, List.setIfInBounds_toArray, List.set_cons_zero, List.set_cons_succ, List.toList_toArray]
              refine wpAnyH_ready (rs := [4]) (by kernel_rfl) (by simp) ?_
              refine AllReadyH.cons (o := _) (by simp only [List.getElem?_toArray, List.getElem?_cons_succ, List.getElem?_cons_zero]; exact rfl) (fun K hK => ?_) AllReadyH.nil
              rw [if_pos (by rfl)]
              go_simp
              go_at_call 14
              refine (iValidMarked_any g1 g2 dg1 dg2 w3.heap.size w3.heap.size (tnL L T) (tnB L T) _ (gp.rd.below (hS0.mono gp.le) |>.more (by have := gp.le; omega)) (gm.rd.below (hS0.mono gm.le) |>.more (by omega)) (by have := hS0.size; omega) (by have := hS0.size; omega) (by omega) (by omega)).mono ?_
              rintro e wq0 ⟨rfl, hb0⟩
              rw [HVT.out]
              have hS1 := hS0.trans (hb0.mono hS0.size)
              refine hK.out _ _ hS1 (fun _ => ?_)
              clear hK K
              try simp only [Act.put, List.setIfInBounds_toArray, List.set_cons_zero, List.set_cons_succ, List.toList_toArray]
              refine wpAnyH_take (i := 5) (v := .bool true) (by simp only [List.getElem?_toArray, List.getElem?_cons_succ, List.getElem?_cons_zero]; exact rfl) (by kernel_rfl) (by kernel_rfl) (by kernel_rfl) (by intro _ _ _ h; exact h) (Or.inl ⟨by kernel_rfl, by intro w hSw; go_simp⟩) (by assumption) ?_
              simp only [Act.put, List.setIfInBounds_toArray, List.set_cons_zero, List.set_cons_succ, List.toList_toArray]
              refine wpAnyH_take (i := 6) (v := .bool true) (by simp only [List.getElem?_toArray, List.getElem?_cons_succ, List.getElem?_cons_zero]; exact rfl) (by kernel_rfl) (by kernel_rfl) (by kernel_rfl) (by intro _ _ _ h; exact h) (Or.inl ⟨by kernel_rfl, by intro w hSw; go_simp⟩) (by assumption) ?_
              simp only [Act.put, List.setIfInBounds_toArray, List.set_cons_zero, List.set_cons_succ, List.toList_toArray]
              refine wpAnyH_take (i := 7) (v := .agg #[(.slice g1 (tnL L T).length dg1), (.slice g2 (tnB L T).length dg2)]) (by simp only [List.getElem?_toArray, List.getElem?_cons_succ, List.getElem?_cons_zero]; exact rfl) (by kernel_rfl) (by kernel_rfl) (by kernel_rfl) (by intro _ _ _ h; exact h) (yieldsIf_load_mid (by kernel_rfl) _ _ rfl w3.heap.size 0 rfl [(.slice g1 (tnL L T).length dg1), (.slice g2 (tnB L T).length dg2)] _ (fun _ hw => Blk.rangeQQ (vs := [(.slice g1 (tnL L T).length dg1), (.slice g2 (tnB L T).length dg2)]) (bo.below hw bo.lt)) hmu rfl hi2) (by assumption) ?_
              simp only [Act.put, List.setIfInBounds_toArray, List.set_cons_zero, List.set_cons_succ, List.toList_toArray]
              refine wpAnyH_take (i := 9) (v := .agg #[(.slice a1 L.length c1), (.slice a2 T.length c2)]) (by simp only [List.getElem?_toArray, List.getElem?_cons_succ, List.getElem?_cons_zero]; exact rfl) (by kernel_rfl) (by kernel_rfl) (by kernel_rfl) (by intro _ _ _ h; exact h) (yieldsIf_load_mid (by kernel_rfl) _ _ rfl w1.heap.size 0 rfl [(.slice a1 L.length c1), (.slice a2 T.length c2)] _ (fun _ hw => Blk.rangeQQ (vs := [(.slice a1 L.length c1), (.slice a2 T.length c2)]) (bx.below hw bx.lt)) hmu rfl hi2) (by assumption) ?_
              simp only [Act.put, List.setIfInBounds_toArray, List.set_cons_zero, List.set_cons_succ, List.toList_toArray]
              refine wpAnyH_ready (rs := [8]) (by kernel_rfl) (by simp) ?_
              refine AllReadyH.cons (o := _) (by simp only [List.getElem?_toArray, List.getElem?_cons_succ, List.getElem?_cons_zero]; exact rfl) (fun K hK => ?_) AllReadyH.nil
              rw [if_pos (by rfl)]
              go_simp
              go_at_call 34
              refine (turn_back HV.out g1 g2 dg1 dg2 w3.heap.size w3.heap.size _ (gp.rd.below (hS1.mono gp.le) |>.more (by have := gp.le; omega)) (gm.rd.below (hS1.mono gm.le) |>.more (by omega)) (by have := hS1.size; omega) (by have := hS1.size; omega)).mono ?_
              rintro e wq1 ⟨t1, t2, dt1, dt2, rfl, ⟨mt, hmt1, hmt2, rm, rp⟩, hb1⟩
              have hS2 := hS1.trans (hb1.mono hS1.size)
              refine hK.out _ _ hS2 (fun _ => ?_)
              clear hK K
              try simp only [Act.put, List.setIfInBounds_toArray, List.set_cons_zero, List.set_cons_succ, List.toList_toArray]
              refine wpAnyH_ready (rs := [10]) (by kernel_rfl) (by simp) ?_
              refine AllReadyH.cons (o := _) (by simp only [List.getElem?_toArray, List.getElem?_cons_succ, List.getElem?_cons_zero]; exact rfl) (fun K hK => ?_) AllReadyH.nil
              rw [if_pos (by rfl)]
              go_simp
              go_at_call 19
              refine (equalMarked_same _ _ _ _ _ _ _ _ _ _ _ _ L T _ rp.rd rm.rd (p1.below (hS2.mono (by omega))) (p2.below (hS2.mono (by omega))) rp.le rm.le (by have := hS2.size; omega) (by have := hS2.size; omega) (by omega) (by omega)).mono ?_
              rintro e wq2 ⟨rfl, hb2⟩
              have hS3 := hS2.trans (hb2.mono hS2.size)
              refine hK.out _ _ hS3 (fun _ => ?_)
              clear hK K
              try simp only [Act.put, List.setIfInBounds_toArray, List.set_cons_zero, List.set_cons_succ, List.toList_toArray]
              refine wpAnyH_take (i := 11) (v := .bool true) (by simp only [List.getElem?_toArray, List.getElem?_cons_succ, List.getElem?_cons_zero]; exact rfl) (by kernel_rfl) (by kernel_rfl) (by kernel_rfl) (by intro _ _ _ h; exact h) (Or.inl ⟨by kernel_rfl, by intro w hSw; go_simp⟩) (by assumption) ?_
              simp only [Act.put, List.setIfInBounds_toArray, List.set_cons_zero, List.set_cons_succ, List.toList_toArray]
              refine wpAnyH_take (i := 12) (v := .bool true) (by simp only [List.getElem?_toArray, List.getElem?_cons_succ, List.getElem?_cons_zero]; exact rfl) (by kernel_rfl) (by kernel_rfl) (by kernel_rfl) (by intro _ _ _ h; exact h) (Or.inl ⟨by kernel_rfl, by intro w hSw; go_simp⟩) (by assumption) ?_
              simp only [Act.put, List.setIfInBounds_toArray, List.set_cons_zero, List.set_cons_succ, List.toList_toArray]
              refine wpAnyH_done (by kernel_rfl) ?_ _
              try simp only [Act.put, List.setIfInBounds_toArray, List.set_cons_zero, List.set_cons_succ]
              go_wp2_with fail
              go_ret
              exact ⟨rfl, hA.trans (hS3.mono hA.size)⟩
  · have hl' : 1048576 < bs.length := by omega
    go_enter Try.func10, Try.ntmps10
    go_wp2_with fail
    go_ret
    exact ⟨rfl, Below.refl _ _⟩

theorem own : ownKnob Try.prog.godebug = none := by kernel_rfl
theorem laidOut : laidOutB Try.prog = true := by kernel_rfl

set_option maxRecDepth 100000 in
theorem lifted (os : Os) (started : os.Started) (H : Type) (enc : TypeId × Value → H) :
    ReturnsInHanded {} Try.checked os 10 .any (Rows.fnTurnMarkedSpec.pre6 enc Try.prog Try.f10 Rows.fnTurnMarkedRow.domain false) (Rows.fnTurnMarkedSpec.post enc Try.prog Try.f10 false true false false) := by
  refine returnsInHanded_of_change (C := Try.checked) own started (by kernel_rfl) Try.func10
    (ChangeSpec.witness6 (enc := enc) (C := Try.checked) false ⟨#[], #[.slice none 0 0], []⟩ 8 (by kernel_rfl) (by kernel_rfl) (by kernel_rfl) (by kernel_rfl)) ?_
  intro W base args ds gs before hval0 hW hcnd _
  have hval : ∀ (j : Nat) t v, Try.f10.params[j]? = some t → args[j]? = some v → Value.okWide Try.prog W .any base t v := hval0
  have hW' := hW
  obtain ⟨p, q, hA0, hV, rfl, hfz, hnd⟩ := hW
  have hA : DataW.TrodAll enc Try.prog W 0 (fun _ => true) true Try.f10.params.toList args.toList ds p := hA0
  rw [Try.params10] at hA hval
  obtain ⟨v0, vs0, d0, ds0, p0, q0, hargs, rfl, rfl, h0, r0⟩ := trodAll_cons hA
  obtain ⟨rfl, rfl, rfl⟩ := trodAll_nil r0
  obtain rfl : args = #[v0] := by cases args; simp_all
  obtain ⟨rfl, rfl⟩ := trodVars_none hV
  obtain ⟨a0, len0, cap0, rfl⟩ := okWide_slice Try.underlying32 (hval 0 32 v0 rfl rfl)
  have k0 := h0
  have lt0 : ∀ x ∈ p0, x.block < W.heap.size := by obtain ⟨m, hm⟩ := k0; exact DataW.trod_lt m _ _ _ hm
  obtain ⟨z0, w0⟩ : ∃ zs, IsRow .u8 W a0 len0 cap0 zs := by
    obtain ⟨fuel, hf⟩ := h0
    rcases open_ints Try.underlying32 Try.underlying5 (by kernel_rfl) hf with ⟨hcs, _⟩ | ⟨x, l, c, zs, hcs, _, hl, hm, hz, _, hcell, hwz⟩
    · simp [Value.cells] at hcs
      obtain ⟨rfl, rfl, rfl⟩ := hcs
      exact ⟨[], .inl ⟨rfl, rfl, rfl, rfl⟩⟩
    · simp [Value.cells] at hcs
      obtain ⟨rfl, rfl, rfl⟩ := hcs
      exact ⟨zs, .inr ⟨_, rfl, hl, hm, by simpa using hz, hcell, hwz⟩⟩
  have lc0 := w0.lc
  obtain ⟨L0, rfl, R0, wf0, m0⟩ := w0.rd
  clear hA0 hval0
  refine (walk a0 cap0 L0 W R0 wf0 m0 (by simpa using lc0)).mono fun e W' ⟨he, bel⟩ => ?_
  subst he
  exact ⟨_, rfl, _, _, _, [], _, [], hW', trodAll_mk1 (shut_bool Try.underlying4 _), (trodAll_cons_mk (Below.trod laidOut (by kernel_rfl) (of_decide_eq_true (by kernel_rfl)) k0 bel lt0) trodAll_mk0), rfl, bel.frame _, fun h => by cases h⟩

theorem over : Rows.fnTurnMarkedRow.holds Try.pinned (OpenSpec.ofChange Rows.fnTurnMarkedSpec) :=
  OpenClaim.holds_of_wide 10 Try.f10 rfl rfl rfl rfl rfl rfl rfl ⟨rfl, rfl, rfl, rfl, rfl⟩ rfl rfl rfl rfl rfl (by kernel_rfl) Try.func10 (by kernel_rfl)
    (of_decide_eq_true (by kernel_rfl)) (by unfold Func.isWrapper; first | (rw [if_pos (by decide +kernel)]; kernel_rfl) | (rw [if_neg (by decide +kernel)]; exact ⟨rfl, rfl⟩))
    (fun os started H enc _ => lifted os started H enc)

/-- the given statement -/
theorem proved : Rows.FnTurnMarkedSaid := over
end Go.Proofs.Ytbbbfaollcklkaa.fnTurnMarked
