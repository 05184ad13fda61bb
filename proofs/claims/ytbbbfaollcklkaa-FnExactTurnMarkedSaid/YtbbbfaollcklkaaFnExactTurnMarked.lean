/-
  'laws.FnExactTurnMarked' returns true for all marked parts, and they read as they did. No condition.
-/
import Derived.Test.YtbbbfaollcklkaaRows
import Derived.Test.YtbbbfaollcklkaaW95
import Derived.Test.YtbbbfaollcklkaaW96
import Derived.Test.YtbbbfaollcklkaaLB
import Derived.Lib.SmallJoins
import Derived.Deep.Grids
import Derived.RegionTactic
import Derived.Deep.RegionHeld3
import Derived.Deep.MidRow
import Derived.Test.YtbbbfaollcklkaaW98
import Derived.WalkKit
import Derived.ProofKit
import Derived.OpenShut
import Derived.ShutString
import Derived.ChangeOld
import Derived.Below
namespace Go.Proofs.Ytbbbfaollcklkaa.fnExactTurnMarked
open Go.ChangeShapes Go.WideShapes Go.ChangeAt Go.RowKit NP
open Go.ChangeMaps (open_string shut_string)
set_option linter.unusedVariables false

set_option linter.unusedSimpArgs false
set_option maxRecDepth 8000 in
set_option maxHeartbeats 2000000 in
theorem walk (a1 a2 : Option Addr) (c1 c2 : Nat) (L : List Int) (bs : List Bool) (w0 : World) (h1 : Rd w0 w0.heap.size a1 (ints L)) (h2 : Rd w0 w0.heap.size a2 (bls bs)) (m1 : L.length ≤ maxLen) (m2 : bs.length ≤ maxLen) :
    Calls Try.prog 9 #[.agg #[.slice a1 L.length c1, .slice a2 bs.length c2]] w0 fun e w' => e = .returned (.bool true) ∧ Below w0.heap.size w0 w' := by
  unfold maxLen at m1 m2
  have HS := Lib.hid (fun w => szMarked_any a1 a2 c1 c2 L.length bs.length w (by omega) (by omega))
  have hx := Blk.new w0 25 #[.slice a1 L.length c1, .slice a2 bs.length c2]
  have hA : Below w0.heap.size w0 (w0.alloc (.cells #[.slice a1 L.length c1, .slice a2 bs.length c2] 25)) := (Below.refl _ _).alloc (Nat.le_refl _) _
  have hmu := Try.underlying28
  have hmul := Try.underlying25
  have hi2 : (Try.prog.info? 28).map (·.size) = some 2 := T_mkL
  have hi2l : (Try.prog.info? 25).map (·.size) = some 2 := by kernel_rfl
  have hsz : w0.heap.size + 1 = (w0.alloc (.cells #[.slice a1 L.length c1, .slice a2 bs.length c2] 25)).heap.size := by simp
  by_cases hs : 0 ≤ szM L.length bs.length
  · have hcn := szM_ok hs
    have hs' : decide (szM L.length bs.length < 0) = false := decide_eq_false (by omega)
    have htn1 := (tn_len L bs).1
    have htn2 : (tnB L bs).length ≤ 16 := by have := tn_len L bs; omega
    go_enter Try.func9, Try.ntmps9
    go_wp2_with fail
    refine (HS.out _).mono ?_
    rintro e w1 ⟨rfl, hb⟩
    generalize szM L.length bs.length = z at *
    replace hA := hA.trans (hb.mono hA.size)
    have hz1 := hb.size
    replace hx := hx.below hb hx.lt
    have hx0c : w1.cell? ⟨w0.heap.size, 0, none⟩ = some (.slice a1 L.length c1) := hx.cell 0
    have hx1c : w1.cell? ⟨w0.heap.size, 1, none⟩ = some (.slice a2 bs.length c2) := hx.cell 1
    clear hb
    rw [← hsz] at hz1
    clear hsz
    go_wp2_with fail
    refine (toMarked_any a1 a2 c1 c2 w0.heap.size w0.heap.size L bs _ (h1.below hA) (h2.below hA) hA.size hA.size (by omega) (by omega)).mono ?_
    rintro e w2 ⟨b1_t1, b2_t1, m_t1, rfl, hm1_t1, hm2_t1, t1p, t1m, hb⟩
    replace hA := hA.trans (hb.mono hA.size)
    have hz2 := hb.size
    replace hx := hx.below hb hx.lt
    replace hx0c : w2.cell? ⟨w0.heap.size, 0, none⟩ = some (.slice a1 L.length c1) := hx.cell 0
    replace hx1c : w2.cell? ⟨w0.heap.size, 1, none⟩ = some (.slice a2 bs.length c2) := hx.cell 1
    clear hb
    go_wp2_with fail
    refine ((sTurnMarked_all _ _ _ _ _ _ L bs _ (t1p.rd) (t1m.rd) t1p.le t1m.le (by omega) (by omega))).mono ?_
    rintro e w3 ⟨r1, dr1, r2, dr2, rfl, rp, rm, hb⟩
    replace t1p := t1p.below (hb.mono t1p.le)
    replace t1m := t1m.below (hb.mono t1m.le)
    replace hA := hA.trans (hb.mono hA.size)
    have hz3 := hb.size
    replace hx := hx.below hb hx.lt
    replace hx0c : w3.cell? ⟨w0.heap.size, 0, none⟩ = some (.slice a1 L.length c1) := hx.cell 0
    replace hx1c : w3.cell? ⟨w0.heap.size, 1, none⟩ = some (.slice a2 bs.length c2) := hx.cell 1
    clear hb
    clear t1p
    clear t1m
    have hx0q : (w3.alloc (.cells #[.slice r1 (tnL L bs).length dr1, .slice r2 (tnB L bs).length dr2] 28)).cell? ⟨w0.heap.size, 0, none⟩ = some (.slice a1 L.length c1) := cell_alloc hx0c
    have hx1q : (w3.alloc (.cells #[.slice r1 (tnL L bs).length dr1, .slice r2 (tnB L bs).length dr2] 28)).cell? ⟨w0.heap.size, 1, none⟩ = some (.slice a2 bs.length c2) := cell_alloc hx1c
    go_wp2_with fail
    clear hx0q hx1q
    obtain ⟨w4, hw⟩ : ∃ wq, wq = w3.alloc (.cells #[.slice r1 (tnL L bs).length dr1, .slice r2 (tnB L bs).length dr2] 28) := ⟨_, rfl⟩
    rw [← hw]
    have hb : Below w3.heap.size w3 w4 := hw ▸ (Below.refl _ _).alloc (Nat.le_refl _) _
    have bw : Blk w4 w3.heap.size 28 #[.slice r1 (tnL L bs).length dr1, .slice r2 (tnB L bs).length dr2] := hw ▸ Blk.new w3 _ _
    have hw4z : w3.heap.size + 1 = w4.heap.size := by rw [hw]; simp
    clear hw
    replace rp := rp.below (hb.mono rp.le)
    replace rm := rm.below (hb.mono rm.le)
    replace hA := hA.trans (hb.mono hA.size)
    have hz4 := hb.size
    replace hx := hx.below hb hx.lt
    replace hx0c : w4.cell? ⟨w0.heap.size, 0, none⟩ = some (.slice a1 L.length c1) := hx.cell 0
    replace hx1c : w4.cell? ⟨w0.heap.size, 1, none⟩ = some (.slice a2 bs.length c2) := hx.cell 1
    clear hb
    have bw0c : w4.cell? ⟨w3.heap.size, 0, none⟩ = some (.slice r1 (tnL L bs).length dr1) := bw.cell 0
    have bw1c : w4.cell? ⟨w3.heap.size, 1, none⟩ = some (.slice r2 (tnB L bs).length dr2) := bw.cell 1
    refine (toMarked_any a1 a2 c1 c2 w0.heap.size w0.heap.size L bs _ (h1.below hA) (h2.below hA) hA.size hA.size (by omega) (by omega)).mono ?_
    rintro e w5 ⟨b1_x0, b2_x0, m_x0, rfl, hm1_x0, hm2_x0, x0p, x0m, hb⟩
    replace rp := rp.below (hb.mono rp.le)
    replace rm := rm.below (hb.mono rm.le)
    replace hA := hA.trans (hb.mono hA.size)
    have hz5 := hb.size
    replace hx := hx.below hb hx.lt
    replace hx0c : w5.cell? ⟨w0.heap.size, 0, none⟩ = some (.slice a1 L.length c1) := hx.cell 0
    replace hx1c : w5.cell? ⟨w0.heap.size, 1, none⟩ = some (.slice a2 bs.length c2) := hx.cell 1
    replace bw := bw.below hb bw.lt
    replace bw0c : w5.cell? ⟨w3.heap.size, 0, none⟩ = some (.slice r1 (tnL L bs).length dr1) := bw.cell 0
    replace bw1c : w5.cell? ⟨w3.heap.size, 1, none⟩ = some (.slice r2 (tnB L bs).length dr2) := bw.cell 1
    clear hb
    go_wp2_with fail
    obtain ⟨w6, hw⟩ : ∃ wq, wq = w5.alloc (.cells #[.slice b1_x0 L.length L.length, .slice b2_x0 bs.length bs.length] 28) := ⟨_, rfl⟩
    rw [← hw]
    have hb : Below w5.heap.size w5 w6 := hw ▸ (Below.refl _ _).alloc (Nat.le_refl _) _
    have bx : Blk w6 w5.heap.size 28 #[.slice b1_x0 L.length L.length, .slice b2_x0 bs.length bs.length] := hw ▸ Blk.new w5 _ _
    have hw6z : w5.heap.size + 1 = w6.heap.size := by rw [hw]; simp
    clear hw
    replace rp := rp.below (hb.mono rp.le)
    replace rm := rm.below (hb.mono rm.le)
    replace x0p := x0p.below (hb.mono x0p.le)
    replace x0m := x0m.below (hb.mono x0m.le)
    replace hA := hA.trans (hb.mono hA.size)
    have hz6 := hb.size
    replace hx := hx.below hb hx.lt
    replace hx0c : w6.cell? ⟨w0.heap.size, 0, none⟩ = some (.slice a1 L.length c1) := hx.cell 0
    replace hx1c : w6.cell? ⟨w0.heap.size, 1, none⟩ = some (.slice a2 bs.length c2) := hx.cell 1
    replace bw := bw.below hb bw.lt
    replace bw0c : w6.cell? ⟨w3.heap.size, 0, none⟩ = some (.slice r1 (tnL L bs).length dr1) := bw.cell 0
    replace bw1c : w6.cell? ⟨w3.heap.size, 1, none⟩ = some (.slice r2 (tnB L bs).length dr2) := bw.cell 1
    clear hb
    have bx0c : w6.cell? ⟨w5.heap.size, 0, none⟩ = some (.slice b1_x0 L.length L.length) := bx.cell 0
    have bx1c : w6.cell? ⟨w5.heap.size, 1, none⟩ = some (.slice b2_x0 bs.length bs.length) := bx.cell 1
    refine ((iTurnMarked_any _ _ _ _ _ _ L bs _ (x0p.rd) (x0m.rd) x0p.le x0m.le (by omega) (by omega))).mono ?_
    rintro e w7 ⟨g1, g2, dg1, dg2, rfl, ⟨mg, mg1, mg2, gm, gp⟩, hb⟩
    replace rp := rp.below (hb.mono rp.le)
    replace rm := rm.below (hb.mono rm.le)
    replace x0p := x0p.below (hb.mono x0p.le)
    replace x0m := x0m.below (hb.mono x0m.le)
    replace hA := hA.trans (hb.mono hA.size)
    have hz7 := hb.size
    replace hx := hx.below hb hx.lt
    replace hx0c : w7.cell? ⟨w0.heap.size, 0, none⟩ = some (.slice a1 L.length c1) := hx.cell 0
    replace hx1c : w7.cell? ⟨w0.heap.size, 1, none⟩ = some (.slice a2 bs.length c2) := hx.cell 1
    replace bw := bw.below hb bw.lt
    replace bw0c : w7.cell? ⟨w3.heap.size, 0, none⟩ = some (.slice r1 (tnL L bs).length dr1) := bw.cell 0
    replace bw1c : w7.cell? ⟨w3.heap.size, 1, none⟩ = some (.slice r2 (tnB L bs).length dr2) := bw.cell 1
    replace bx := bx.below hb bx.lt
    replace bx0c : w7.cell? ⟨w5.heap.size, 0, none⟩ = some (.slice b1_x0 L.length L.length) := bx.cell 0
    replace bx1c : w7.cell? ⟨w5.heap.size, 1, none⟩ = some (.slice b2_x0 bs.length bs.length) := bx.cell 1
    clear hb
    have hx0q : (w7.alloc (.cells #[.slice g1 (tnL L bs).length dg1, .slice g2 (tnB L bs).length dg2] 28)).cell? ⟨w0.heap.size, 0, none⟩ = some (.slice a1 L.length c1) := cell_alloc hx0c
    have hx1q : (w7.alloc (.cells #[.slice g1 (tnL L bs).length dg1, .slice g2 (tnB L bs).length dg2] 28)).cell? ⟨w0.heap.size, 1, none⟩ = some (.slice a2 bs.length c2) := cell_alloc hx1c
    have bw0q : (w7.alloc (.cells #[.slice g1 (tnL L bs).length dg1, .slice g2 (tnB L bs).length dg2] 28)).cell? ⟨w3.heap.size, 0, none⟩ = some (.slice r1 (tnL L bs).length dr1) := cell_alloc bw0c
    have bw1q : (w7.alloc (.cells #[.slice g1 (tnL L bs).length dg1, .slice g2 (tnB L bs).length dg2] 28)).cell? ⟨w3.heap.size, 1, none⟩ = some (.slice r2 (tnB L bs).length dr2) := cell_alloc bw1c
    have bx0q : (w7.alloc (.cells #[.slice g1 (tnL L bs).length dg1, .slice g2 (tnB L bs).length dg2] 28)).cell? ⟨w5.heap.size, 0, none⟩ = some (.slice b1_x0 L.length L.length) := cell_alloc bx0c
    have bx1q : (w7.alloc (.cells #[.slice g1 (tnL L bs).length dg1, .slice g2 (tnB L bs).length dg2] 28)).cell? ⟨w5.heap.size, 1, none⟩ = some (.slice b2_x0 bs.length bs.length) := cell_alloc bx1c
    go_wp2_with fail
    clear hx0q hx1q bw0q bw1q bx0q bx1q
    obtain ⟨w8, hw⟩ : ∃ wq, wq = w7.alloc (.cells #[.slice g1 (tnL L bs).length dg1, .slice g2 (tnB L bs).length dg2] 28) := ⟨_, rfl⟩
    rw [← hw]
    have hb : Below w7.heap.size w7 w8 := hw ▸ (Below.refl _ _).alloc (Nat.le_refl _) _
    have bg : Blk w8 w7.heap.size 28 #[.slice g1 (tnL L bs).length dg1, .slice g2 (tnB L bs).length dg2] := hw ▸ Blk.new w7 _ _
    have hw8z : w7.heap.size + 1 = w8.heap.size := by rw [hw]; simp
    clear hw
    replace rp := rp.below (hb.mono rp.le)
    replace rm := rm.below (hb.mono rm.le)
    replace x0p := x0p.below (hb.mono x0p.le)
    replace x0m := x0m.below (hb.mono x0m.le)
    replace gp := gp.below (hb.mono gp.le)
    replace gm := gm.below (hb.mono gm.le)
    replace hA := hA.trans (hb.mono hA.size)
    have hz8 := hb.size
    replace hx := hx.below hb hx.lt
    replace hx0c : w8.cell? ⟨w0.heap.size, 0, none⟩ = some (.slice a1 L.length c1) := hx.cell 0
    replace hx1c : w8.cell? ⟨w0.heap.size, 1, none⟩ = some (.slice a2 bs.length c2) := hx.cell 1
    replace bw := bw.below hb bw.lt
    replace bw0c : w8.cell? ⟨w3.heap.size, 0, none⟩ = some (.slice r1 (tnL L bs).length dr1) := bw.cell 0
    replace bw1c : w8.cell? ⟨w3.heap.size, 1, none⟩ = some (.slice r2 (tnB L bs).length dr2) := bw.cell 1
    replace bx := bx.below hb bx.lt
    replace bx0c : w8.cell? ⟨w5.heap.size, 0, none⟩ = some (.slice b1_x0 L.length L.length) := bx.cell 0
    replace bx1c : w8.cell? ⟨w5.heap.size, 1, none⟩ = some (.slice b2_x0 bs.length bs.length) := bx.cell 1
    clear hb
    have bg0c : w8.cell? ⟨w7.heap.size, 0, none⟩ = some (.slice g1 (tnL L bs).length dg1) := bg.cell 0
    have bg1c : w8.cell? ⟨w7.heap.size, 1, none⟩ = some (.slice g2 (tnB L bs).length dg2) := bg.cell 1
    refine (eqMarked_same _ _ _ _ _ _ _ _ _ _ _ _ (tnL L bs) (tnB L bs) _ gp.rd gm.rd rp.rd rm.rd gp.le gm.le rp.le rm.le (by omega) (by omega)).mono ?_
    rintro e w9 ⟨rfl, hb⟩
    replace rp := rp.below (hb.mono rp.le)
    replace rm := rm.below (hb.mono rm.le)
    replace x0p := x0p.below (hb.mono x0p.le)
    replace x0m := x0m.below (hb.mono x0m.le)
    replace gp := gp.below (hb.mono gp.le)
    replace gm := gm.below (hb.mono gm.le)
    replace hA := hA.trans (hb.mono hA.size)
    have hz9 := hb.size
    replace hx := hx.below hb hx.lt
    replace hx0c : w9.cell? ⟨w0.heap.size, 0, none⟩ = some (.slice a1 L.length c1) := hx.cell 0
    replace hx1c : w9.cell? ⟨w0.heap.size, 1, none⟩ = some (.slice a2 bs.length c2) := hx.cell 1
    replace bw := bw.below hb bw.lt
    replace bw0c : w9.cell? ⟨w3.heap.size, 0, none⟩ = some (.slice r1 (tnL L bs).length dr1) := bw.cell 0
    replace bw1c : w9.cell? ⟨w3.heap.size, 1, none⟩ = some (.slice r2 (tnB L bs).length dr2) := bw.cell 1
    replace bx := bx.below hb bx.lt
    replace bx0c : w9.cell? ⟨w5.heap.size, 0, none⟩ = some (.slice b1_x0 L.length L.length) := bx.cell 0
    replace bx1c : w9.cell? ⟨w5.heap.size, 1, none⟩ = some (.slice b2_x0 bs.length bs.length) := bx.cell 1
    replace bg := bg.below hb bg.lt
    replace bg0c : w9.cell? ⟨w7.heap.size, 0, none⟩ = some (.slice g1 (tnL L bs).length dg1) := bg.cell 0
    replace bg1c : w9.cell? ⟨w7.heap.size, 1, none⟩ = some (.slice g2 (tnB L bs).length dg2) := bg.cell 1
    clear hb
    go_wp2_with fail
    refine wp_region_held_drew (S := fun w' => Below w9.heap.size w9 w') (by kernel_rfl) ((Dr.n w9 1).below _) (fun hS0 => ?_)
    refine wpAnyH_take (i := 0) (v := .agg #[(.slice b1_x0 L.length L.length), (.slice b2_x0 bs.length bs.length)]) (by simp only [List.getElem?_toArray, List.getElem?_cons_succ, List.getElem?_cons_zero]; exact rfl) (by kernel_rfl) (by kernel_rfl) (by kernel_rfl) (by intro _ _ _ h; exact h) (yieldsIf_load_mid (by kernel_rfl) _ _ rfl w5.heap.size 0 rfl [(.slice b1_x0 L.length L.length), (.slice b2_x0 bs.length bs.length)] _ (fun _ hw => Blk.rangeQQ (vs := [(.slice b1_x0 L.length L.length), (.slice b2_x0 bs.length bs.length)]) (bx.below hw bx.lt)) hmu rfl hi2) (by assumption) ?_
    simp only [Act.put, List.setIfInBounds_toArray, List.set_cons_zero, List.set_cons_succ, List.toList_toArray]
    refine wpAnyH_take (i := 1) (v := .agg #[.slice a1 L.length c1, .slice a2 bs.length c2]) (by simp only [List.getElem?_toArray, List.getElem?_cons_succ, List.getElem?_cons_zero]; exact rfl) (by kernel_rfl) (by kernel_rfl) (by kernel_rfl) (by intro _ _ _ h; exact h) (yieldsIf_load_mid (by kernel_rfl) _ _ rfl w0.heap.size 0 rfl [.slice a1 L.length c1, .slice a2 bs.length c2] _ (fun _ hw => Blk.rangeQQ (vs := [.slice a1 L.length c1, .slice a2 bs.length c2]) (hx.below hw hx.lt)) hmul rfl hi2l) (by assumption) ?_
    simp only [Act.put, List.setIfInBounds_toArray, List.set_cons_zero, List.set_cons_succ, List.toList_toArray]
    refine wpAnyH_ready (rs := [2]) (by kernel_rfl) (by simp) ?_
    refine AllReadyH.cons (o := _) (by simp only [List.getElem?_toArray, List.getElem?_cons_succ, List.getElem?_cons_zero]; exact rfl) (fun K hK => ?_) AllReadyH.nil
    rw [if_pos (by rfl)]
    go_simp
    go_at_call 13
    refine (toMarked_any a1 a2 c1 c2 w0.heap.size w0.heap.size L bs _ (h1.below (hA.trans (hS0.mono hA.size))) (h2.below (hA.trans (hS0.mono hA.size))) (hA.trans (hS0.mono hA.size)).size (hA.trans (hS0.mono hA.size)).size (by omega) (by omega)).mono ?_
    rintro e wa ⟨b1_t2, b2_t2, m_t2, rfl, hm1_t2, hm2_t2, t2p, t2m, hb⟩
    refine hK.out _ _ (hS0.trans (hb.mono hS0.size)) (fun hS1 => ?_)
    clear hK K
    try simp only [Act.put, List.setIfInBounds_toArray, List.set_cons_zero, List.set_cons_succ, List.toList_toArray]
    refine wpAnyH_ready (rs := [3]) (by kernel_rfl) (by simp) ?_
    refine AllReadyH.cons (o := _) (by simp only [List.getElem?_toArray, List.getElem?_cons_succ, List.getElem?_cons_zero]; exact rfl) (fun K hK => ?_) AllReadyH.nil
    rw [if_pos (by rfl)]
    go_simp
    go_at_call 15
    have y1 := x0p.below (hS1.mono x0p.le)
    have y2 := x0m.below (hS1.mono x0m.le)
    refine (eqMarked_same _ _ _ _ _ _ _ _ _ _ _ _ L bs _ y1.rd y2.rd t2p.rd t2m.rd y1.le y2.le t2p.le t2m.le (by omega) (by omega)).mono ?_
    rintro e w10 ⟨rfl, hb2⟩
    refine hK.out _ _ (hS1.trans (hb2.mono hS1.size)) (fun hS2 => ?_)
    clear hK K
    try simp only [Act.put, List.setIfInBounds_toArray, List.set_cons_zero, List.set_cons_succ, List.toList_toArray]
    refine wpAnyH_take (i := 4) (v := .bool false) (by simp only [List.getElem?_toArray, List.getElem?_cons_succ, List.getElem?_cons_zero]; exact rfl) (by kernel_rfl) (by kernel_rfl) (by kernel_rfl) (by intro _ _ _ h; exact h) (Or.inl ⟨by kernel_rfl, by intro w hSw; go_simp⟩) (by assumption) ?_
    simp only [Act.put, List.setIfInBounds_toArray, List.set_cons_zero, List.set_cons_succ, List.toList_toArray]
    refine wpAnyH_done (by kernel_rfl) ?_ _
    try simp only [Act.put, List.setIfInBounds_toArray, List.set_cons_zero, List.set_cons_succ]
    clear y1 y2 t2p t2m hb hb2 hS0 hS1
    have hb := hS2
    clear hS2
    replace rp := rp.below (hb.mono rp.le)
    replace rm := rm.below (hb.mono rm.le)
    replace x0p := x0p.below (hb.mono x0p.le)
    replace x0m := x0m.below (hb.mono x0m.le)
    replace gp := gp.below (hb.mono gp.le)
    replace gm := gm.below (hb.mono gm.le)
    replace hA := hA.trans (hb.mono hA.size)
    have hz10 := hb.size
    replace hx := hx.below hb hx.lt
    replace hx0c : w10.cell? ⟨w0.heap.size, 0, none⟩ = some (.slice a1 L.length c1) := hx.cell 0
    replace hx1c : w10.cell? ⟨w0.heap.size, 1, none⟩ = some (.slice a2 bs.length c2) := hx.cell 1
    replace bw := bw.below hb bw.lt
    replace bw0c : w10.cell? ⟨w3.heap.size, 0, none⟩ = some (.slice r1 (tnL L bs).length dr1) := bw.cell 0
    replace bw1c : w10.cell? ⟨w3.heap.size, 1, none⟩ = some (.slice r2 (tnB L bs).length dr2) := bw.cell 1
    replace bx := bx.below hb bx.lt
    replace bx0c : w10.cell? ⟨w5.heap.size, 0, none⟩ = some (.slice b1_x0 L.length L.length) := bx.cell 0
    replace bx1c : w10.cell? ⟨w5.heap.size, 1, none⟩ = some (.slice b2_x0 bs.length bs.length) := bx.cell 1
    replace bg := bg.below hb bg.lt
    replace bg0c : w10.cell? ⟨w7.heap.size, 0, none⟩ = some (.slice g1 (tnL L bs).length dg1) := bg.cell 0
    replace bg1c : w10.cell? ⟨w7.heap.size, 1, none⟩ = some (.slice g2 (tnB L bs).length dg2) := bg.cell 1
    clear hb
    have hk0 : decide ((1 : Int) + (L.length : Int) + (bs.length : Int) < 0) = false := decide_eq_false (by omega)
    go_wp2_with fail
    refine (markMarked_any _ _ _ _ w4.heap.size w5.heap.size _ _ _ _ 1 L bs _ x0p x0m (by omega) (by omega) (by omega) (by omega) (by omega) (by omega) (by omega) (by omega) (by omega) (by omega) (by omega)).mono ?_
    rintro e w11 ⟨rfl, x0p2, x0m2, hb, has⟩
    clear x0p x0m x0p2 x0m2
    replace rp := rp.aside has (by omega)
    replace rm := rm.aside has (by omega)
    replace gp := gp.aside has (by omega)
    replace gm := gm.aside has (by omega)
    replace hx := hx.aside has (by omega)
    replace hx0c : w11.cell? ⟨w0.heap.size, 0, none⟩ = some (.slice a1 L.length c1) := hx.cell 0
    replace hx1c : w11.cell? ⟨w0.heap.size, 1, none⟩ = some (.slice a2 bs.length c2) := hx.cell 1
    replace bw := bw.aside has (by omega)
    replace bw0c : w11.cell? ⟨w3.heap.size, 0, none⟩ = some (.slice r1 (tnL L bs).length dr1) := bw.cell 0
    replace bw1c : w11.cell? ⟨w3.heap.size, 1, none⟩ = some (.slice r2 (tnB L bs).length dr2) := bw.cell 1
    replace bx := bx.aside has (by omega)
    replace bx0c : w11.cell? ⟨w5.heap.size, 0, none⟩ = some (.slice b1_x0 L.length L.length) := bx.cell 0
    replace bx1c : w11.cell? ⟨w5.heap.size, 1, none⟩ = some (.slice b2_x0 bs.length bs.length) := bx.cell 1
    replace bg := bg.aside has (by omega)
    replace bg0c : w11.cell? ⟨w7.heap.size, 0, none⟩ = some (.slice g1 (tnL L bs).length dg1) := bg.cell 0
    replace bg1c : w11.cell? ⟨w7.heap.size, 1, none⟩ = some (.slice g2 (tnB L bs).length dg2) := bg.cell 1
    replace hA := hA.trans (hb.mono (by omega))
    have hz11 := has.1
    clear hb has
    go_wp2_with fail
    refine (eqMarked_same _ _ _ _ _ _ _ _ _ _ _ _ (tnL L bs) (tnB L bs) _ gp.rd gm.rd rp.rd rm.rd gp.le gm.le rp.le rm.le (by omega) (by omega)).mono ?_
    rintro e w12 ⟨rfl, hb⟩
    replace rp := rp.below (hb.mono rp.le)
    replace rm := rm.below (hb.mono rm.le)
    replace gp := gp.below (hb.mono gp.le)
    replace gm := gm.below (hb.mono gm.le)
    replace hA := hA.trans (hb.mono hA.size)
    have hz12 := hb.size
    replace hx := hx.below hb hx.lt
    replace hx0c : w12.cell? ⟨w0.heap.size, 0, none⟩ = some (.slice a1 L.length c1) := hx.cell 0
    replace hx1c : w12.cell? ⟨w0.heap.size, 1, none⟩ = some (.slice a2 bs.length c2) := hx.cell 1
    replace bw := bw.below hb bw.lt
    replace bw0c : w12.cell? ⟨w3.heap.size, 0, none⟩ = some (.slice r1 (tnL L bs).length dr1) := bw.cell 0
    replace bw1c : w12.cell? ⟨w3.heap.size, 1, none⟩ = some (.slice r2 (tnB L bs).length dr2) := bw.cell 1
    replace bx := bx.below hb bx.lt
    replace bx0c : w12.cell? ⟨w5.heap.size, 0, none⟩ = some (.slice b1_x0 L.length L.length) := bx.cell 0
    replace bx1c : w12.cell? ⟨w5.heap.size, 1, none⟩ = some (.slice b2_x0 bs.length bs.length) := bx.cell 1
    replace bg := bg.below hb bg.lt
    replace bg0c : w12.cell? ⟨w7.heap.size, 0, none⟩ = some (.slice g1 (tnL L bs).length dg1) := bg.cell 0
    replace bg1c : w12.cell? ⟨w7.heap.size, 1, none⟩ = some (.slice g2 (tnB L bs).length dg2) := bg.cell 1
    clear hb
    have hq1 : decide ((1 : Int) + ((tnL L bs).length : Int) + ((tnB L bs).length : Int) < 0) = false := decide_eq_false (by omega)
    have hq3 : ((1 : Int) + ((tnL L bs).length : Int) + ((tnB L bs).length : Int) != (1 : Int) + ((tnL L bs).length : Int) + ((tnB L bs).length : Int)) = false := by simp
    go_wp2_with fail
    refine (markMarked_any _ _ _ _ w6.heap.size w7.heap.size _ _ _ _ 1 (tnL L bs) (tnB L bs) _ gp gm (by omega) (by omega) (by omega) (by omega) (by omega) (by omega) (by omega) (by omega) (by omega) (by omega) (by omega)).mono ?_
    rintro e w13 ⟨rfl, gp2, gm2, hb, has⟩
    clear gp gm
    replace rp := rp.aside has (by omega)
    replace rm := rm.aside has (by omega)
    replace hx := hx.aside has (by omega)
    replace hx0c : w13.cell? ⟨w0.heap.size, 0, none⟩ = some (.slice a1 L.length c1) := hx.cell 0
    replace hx1c : w13.cell? ⟨w0.heap.size, 1, none⟩ = some (.slice a2 bs.length c2) := hx.cell 1
    replace bw := bw.aside has (by omega)
    replace bw0c : w13.cell? ⟨w3.heap.size, 0, none⟩ = some (.slice r1 (tnL L bs).length dr1) := bw.cell 0
    replace bw1c : w13.cell? ⟨w3.heap.size, 1, none⟩ = some (.slice r2 (tnB L bs).length dr2) := bw.cell 1
    replace bx := bx.aside has (by omega)
    replace bx0c : w13.cell? ⟨w5.heap.size, 0, none⟩ = some (.slice b1_x0 L.length L.length) := bx.cell 0
    replace bx1c : w13.cell? ⟨w5.heap.size, 1, none⟩ = some (.slice b2_x0 bs.length bs.length) := bx.cell 1
    replace bg := bg.aside has (by omega)
    replace bg0c : w13.cell? ⟨w7.heap.size, 0, none⟩ = some (.slice g1 (tnL L bs).length dg1) := bg.cell 0
    replace bg1c : w13.cell? ⟨w7.heap.size, 1, none⟩ = some (.slice g2 (tnB L bs).length dg2) := bg.cell 1
    replace hA := hA.trans (hb.mono (by omega))
    have hz13 := has.1
    clear hb has
    go_wp2_with fail
    refine (heldMarked_any _ _ _ _ _ _ ((tnL L bs).length) ((tnB L bs).length) 1 _ gp2.rd gm2.rd gp2.le gm2.le (by omega) (by omega) (by omega) (by omega)).mono ?_
    rintro e w14 ⟨rfl, hb⟩
    replace rp := rp.below (hb.mono rp.le)
    replace rm := rm.below (hb.mono rm.le)
    replace gp2 := gp2.below (hb.mono gp2.le)
    replace gm2 := gm2.below (hb.mono gm2.le)
    replace hA := hA.trans (hb.mono hA.size)
    have hz14 := hb.size
    replace hx := hx.below hb hx.lt
    replace hx0c : w14.cell? ⟨w0.heap.size, 0, none⟩ = some (.slice a1 L.length c1) := hx.cell 0
    replace hx1c : w14.cell? ⟨w0.heap.size, 1, none⟩ = some (.slice a2 bs.length c2) := hx.cell 1
    replace bw := bw.below hb bw.lt
    replace bw0c : w14.cell? ⟨w3.heap.size, 0, none⟩ = some (.slice r1 (tnL L bs).length dr1) := bw.cell 0
    replace bw1c : w14.cell? ⟨w3.heap.size, 1, none⟩ = some (.slice r2 (tnB L bs).length dr2) := bw.cell 1
    replace bx := bx.below hb bx.lt
    replace bx0c : w14.cell? ⟨w5.heap.size, 0, none⟩ = some (.slice b1_x0 L.length L.length) := bx.cell 0
    replace bx1c : w14.cell? ⟨w5.heap.size, 1, none⟩ = some (.slice b2_x0 bs.length bs.length) := bx.cell 1
    replace bg := bg.below hb bg.lt
    replace bg0c : w14.cell? ⟨w7.heap.size, 0, none⟩ = some (.slice g1 (tnL L bs).length dg1) := bg.cell 0
    replace bg1c : w14.cell? ⟨w7.heap.size, 1, none⟩ = some (.slice g2 (tnB L bs).length dg2) := bg.cell 1
    clear hb
    go_wp2_with fail
    refine (toMarked_any a1 a2 c1 c2 w0.heap.size w0.heap.size L bs _ (h1.below hA) (h2.below hA) hA.size hA.size (by omega) (by omega)).mono ?_
    rintro e w15 ⟨b1_t3, b2_t3, m_t3, rfl, hm1_t3, hm2_t3, t3p, t3m, hb⟩
    replace rp := rp.below (hb.mono rp.le)
    replace rm := rm.below (hb.mono rm.le)
    replace gp2 := gp2.below (hb.mono gp2.le)
    replace gm2 := gm2.below (hb.mono gm2.le)
    replace hA := hA.trans (hb.mono hA.size)
    have hz15 := hb.size
    replace hx := hx.below hb hx.lt
    replace hx0c : w15.cell? ⟨w0.heap.size, 0, none⟩ = some (.slice a1 L.length c1) := hx.cell 0
    replace hx1c : w15.cell? ⟨w0.heap.size, 1, none⟩ = some (.slice a2 bs.length c2) := hx.cell 1
    replace bw := bw.below hb bw.lt
    replace bw0c : w15.cell? ⟨w3.heap.size, 0, none⟩ = some (.slice r1 (tnL L bs).length dr1) := bw.cell 0
    replace bw1c : w15.cell? ⟨w3.heap.size, 1, none⟩ = some (.slice r2 (tnB L bs).length dr2) := bw.cell 1
    replace bx := bx.below hb bx.lt
    replace bx0c : w15.cell? ⟨w5.heap.size, 0, none⟩ = some (.slice b1_x0 L.length L.length) := bx.cell 0
    replace bx1c : w15.cell? ⟨w5.heap.size, 1, none⟩ = some (.slice b2_x0 bs.length bs.length) := bx.cell 1
    replace bg := bg.below hb bg.lt
    replace bg0c : w15.cell? ⟨w7.heap.size, 0, none⟩ = some (.slice g1 (tnL L bs).length dg1) := bg.cell 0
    replace bg1c : w15.cell? ⟨w7.heap.size, 1, none⟩ = some (.slice g2 (tnB L bs).length dg2) := bg.cell 1
    clear hb
    go_wp2_with fail
    refine ((iTurnMarked_any _ _ _ _ _ _ L bs _ (t3p.rd) (t3m.rd) t3p.le t3m.le (by omega) (by omega))).mono ?_
    rintro e w16 ⟨ah1, ah2, dh1, dh2, rfl, ⟨mh, mh1, mh2, ehm, ehp⟩, hb⟩
    replace rp := rp.below (hb.mono rp.le)
    replace rm := rm.below (hb.mono rm.le)
    replace gp2 := gp2.below (hb.mono gp2.le)
    replace gm2 := gm2.below (hb.mono gm2.le)
    replace t3p := t3p.below (hb.mono t3p.le)
    replace t3m := t3m.below (hb.mono t3m.le)
    replace hA := hA.trans (hb.mono hA.size)
    have hz16 := hb.size
    replace hx := hx.below hb hx.lt
    replace hx0c : w16.cell? ⟨w0.heap.size, 0, none⟩ = some (.slice a1 L.length c1) := hx.cell 0
    replace hx1c : w16.cell? ⟨w0.heap.size, 1, none⟩ = some (.slice a2 bs.length c2) := hx.cell 1
    replace bw := bw.below hb bw.lt
    replace bw0c : w16.cell? ⟨w3.heap.size, 0, none⟩ = some (.slice r1 (tnL L bs).length dr1) := bw.cell 0
    replace bw1c : w16.cell? ⟨w3.heap.size, 1, none⟩ = some (.slice r2 (tnB L bs).length dr2) := bw.cell 1
    replace bx := bx.below hb bx.lt
    replace bx0c : w16.cell? ⟨w5.heap.size, 0, none⟩ = some (.slice b1_x0 L.length L.length) := bx.cell 0
    replace bx1c : w16.cell? ⟨w5.heap.size, 1, none⟩ = some (.slice b2_x0 bs.length bs.length) := bx.cell 1
    replace bg := bg.below hb bg.lt
    replace bg0c : w16.cell? ⟨w7.heap.size, 0, none⟩ = some (.slice g1 (tnL L bs).length dg1) := bg.cell 0
    replace bg1c : w16.cell? ⟨w7.heap.size, 1, none⟩ = some (.slice g2 (tnB L bs).length dg2) := bg.cell 1
    clear hb
    have hx0q : (w16.alloc (.cells #[.slice ah1 (tnL L bs).length dh1, .slice ah2 (tnB L bs).length dh2] 28)).cell? ⟨w0.heap.size, 0, none⟩ = some (.slice a1 L.length c1) := cell_alloc hx0c
    have hx1q : (w16.alloc (.cells #[.slice ah1 (tnL L bs).length dh1, .slice ah2 (tnB L bs).length dh2] 28)).cell? ⟨w0.heap.size, 1, none⟩ = some (.slice a2 bs.length c2) := cell_alloc hx1c
    have bw0q : (w16.alloc (.cells #[.slice ah1 (tnL L bs).length dh1, .slice ah2 (tnB L bs).length dh2] 28)).cell? ⟨w3.heap.size, 0, none⟩ = some (.slice r1 (tnL L bs).length dr1) := cell_alloc bw0c
    have bw1q : (w16.alloc (.cells #[.slice ah1 (tnL L bs).length dh1, .slice ah2 (tnB L bs).length dh2] 28)).cell? ⟨w3.heap.size, 1, none⟩ = some (.slice r2 (tnB L bs).length dr2) := cell_alloc bw1c
    have bx0q : (w16.alloc (.cells #[.slice ah1 (tnL L bs).length dh1, .slice ah2 (tnB L bs).length dh2] 28)).cell? ⟨w5.heap.size, 0, none⟩ = some (.slice b1_x0 L.length L.length) := cell_alloc bx0c
    have bx1q : (w16.alloc (.cells #[.slice ah1 (tnL L bs).length dh1, .slice ah2 (tnB L bs).length dh2] 28)).cell? ⟨w5.heap.size, 1, none⟩ = some (.slice b2_x0 bs.length bs.length) := cell_alloc bx1c
    have bg0q : (w16.alloc (.cells #[.slice ah1 (tnL L bs).length dh1, .slice ah2 (tnB L bs).length dh2] 28)).cell? ⟨w7.heap.size, 0, none⟩ = some (.slice g1 (tnL L bs).length dg1) := cell_alloc bg0c
    have bg1q : (w16.alloc (.cells #[.slice ah1 (tnL L bs).length dh1, .slice ah2 (tnB L bs).length dh2] 28)).cell? ⟨w7.heap.size, 1, none⟩ = some (.slice g2 (tnB L bs).length dg2) := cell_alloc bg1c
    go_wp2_with fail
    clear hx0q hx1q bw0q bw1q bx0q bx1q bg0q bg1q
    obtain ⟨w17, hw⟩ : ∃ wq, wq = w16.alloc (.cells #[.slice ah1 (tnL L bs).length dh1, .slice ah2 (tnB L bs).length dh2] 28) := ⟨_, rfl⟩
    rw [← hw]
    have hb : Below w16.heap.size w16 w17 := hw ▸ (Below.refl _ _).alloc (Nat.le_refl _) _
    have bh : Blk w17 w16.heap.size 28 #[.slice ah1 (tnL L bs).length dh1, .slice ah2 (tnB L bs).length dh2] := hw ▸ Blk.new w16 _ _
    have hw17z : w16.heap.size + 1 = w17.heap.size := by rw [hw]; simp
    clear hw
    replace rp := rp.below (hb.mono rp.le)
    replace rm := rm.below (hb.mono rm.le)
    replace gp2 := gp2.below (hb.mono gp2.le)
    replace gm2 := gm2.below (hb.mono gm2.le)
    replace t3p := t3p.below (hb.mono t3p.le)
    replace t3m := t3m.below (hb.mono t3m.le)
    replace ehp := ehp.below (hb.mono ehp.le)
    replace ehm := ehm.below (hb.mono ehm.le)
    replace hA := hA.trans (hb.mono hA.size)
    have hz17 := hb.size
    replace hx := hx.below hb hx.lt
    replace hx0c : w17.cell? ⟨w0.heap.size, 0, none⟩ = some (.slice a1 L.length c1) := hx.cell 0
    replace hx1c : w17.cell? ⟨w0.heap.size, 1, none⟩ = some (.slice a2 bs.length c2) := hx.cell 1
    replace bw := bw.below hb bw.lt
    replace bw0c : w17.cell? ⟨w3.heap.size, 0, none⟩ = some (.slice r1 (tnL L bs).length dr1) := bw.cell 0
    replace bw1c : w17.cell? ⟨w3.heap.size, 1, none⟩ = some (.slice r2 (tnB L bs).length dr2) := bw.cell 1
    replace bx := bx.below hb bx.lt
    replace bx0c : w17.cell? ⟨w5.heap.size, 0, none⟩ = some (.slice b1_x0 L.length L.length) := bx.cell 0
    replace bx1c : w17.cell? ⟨w5.heap.size, 1, none⟩ = some (.slice b2_x0 bs.length bs.length) := bx.cell 1
    replace bg := bg.below hb bg.lt
    replace bg0c : w17.cell? ⟨w7.heap.size, 0, none⟩ = some (.slice g1 (tnL L bs).length dg1) := bg.cell 0
    replace bg1c : w17.cell? ⟨w7.heap.size, 1, none⟩ = some (.slice g2 (tnB L bs).length dg2) := bg.cell 1
    clear hb
    have bh0c : w17.cell? ⟨w16.heap.size, 0, none⟩ = some (.slice ah1 (tnL L bs).length dh1) := bh.cell 0
    have bh1c : w17.cell? ⟨w16.heap.size, 1, none⟩ = some (.slice ah2 (tnB L bs).length dh2) := bh.cell 1
    refine (eqMarked_same _ _ _ _ _ _ _ _ _ _ _ _ (tnL L bs) (tnB L bs) _ ehp.rd ehm.rd rp.rd rm.rd ehp.le ehm.le rp.le rm.le (by omega) (by omega)).mono ?_
    rintro e w18 ⟨rfl, hb⟩
    replace rp := rp.below (hb.mono rp.le)
    replace rm := rm.below (hb.mono rm.le)
    replace gp2 := gp2.below (hb.mono gp2.le)
    replace gm2 := gm2.below (hb.mono gm2.le)
    replace t3p := t3p.below (hb.mono t3p.le)
    replace t3m := t3m.below (hb.mono t3m.le)
    replace ehp := ehp.below (hb.mono ehp.le)
    replace ehm := ehm.below (hb.mono ehm.le)
    replace hA := hA.trans (hb.mono hA.size)
    have hz18 := hb.size
    replace hx := hx.below hb hx.lt
    replace hx0c : w18.cell? ⟨w0.heap.size, 0, none⟩ = some (.slice a1 L.length c1) := hx.cell 0
    replace hx1c : w18.cell? ⟨w0.heap.size, 1, none⟩ = some (.slice a2 bs.length c2) := hx.cell 1
    replace bw := bw.below hb bw.lt
    replace bw0c : w18.cell? ⟨w3.heap.size, 0, none⟩ = some (.slice r1 (tnL L bs).length dr1) := bw.cell 0
    replace bw1c : w18.cell? ⟨w3.heap.size, 1, none⟩ = some (.slice r2 (tnB L bs).length dr2) := bw.cell 1
    replace bx := bx.below hb bx.lt
    replace bx0c : w18.cell? ⟨w5.heap.size, 0, none⟩ = some (.slice b1_x0 L.length L.length) := bx.cell 0
    replace bx1c : w18.cell? ⟨w5.heap.size, 1, none⟩ = some (.slice b2_x0 bs.length bs.length) := bx.cell 1
    replace bg := bg.below hb bg.lt
    replace bg0c : w18.cell? ⟨w7.heap.size, 0, none⟩ = some (.slice g1 (tnL L bs).length dg1) := bg.cell 0
    replace bg1c : w18.cell? ⟨w7.heap.size, 1, none⟩ = some (.slice g2 (tnB L bs).length dg2) := bg.cell 1
    replace bh := bh.below hb bh.lt
    replace bh0c : w18.cell? ⟨w16.heap.size, 0, none⟩ = some (.slice ah1 (tnL L bs).length dh1) := bh.cell 0
    replace bh1c : w18.cell? ⟨w16.heap.size, 1, none⟩ = some (.slice ah2 (tnB L bs).length dh2) := bh.cell 1
    clear hb
    go_wp2_with fail
    refine (heldMarked_any _ _ _ _ _ _ ((tnL L bs).length) ((tnB L bs).length) 1 _ gp2.rd gm2.rd gp2.le gm2.le (by omega) (by omega) (by omega) (by omega)).mono ?_
    rintro e w19 ⟨rfl, hb⟩
    replace rp := rp.below (hb.mono rp.le)
    replace rm := rm.below (hb.mono rm.le)
    replace gp2 := gp2.below (hb.mono gp2.le)
    replace gm2 := gm2.below (hb.mono gm2.le)
    replace t3p := t3p.below (hb.mono t3p.le)
    replace t3m := t3m.below (hb.mono t3m.le)
    replace ehp := ehp.below (hb.mono ehp.le)
    replace ehm := ehm.below (hb.mono ehm.le)
    replace hA := hA.trans (hb.mono hA.size)
    have hz19 := hb.size
    replace hx := hx.below hb hx.lt
    replace hx0c : w19.cell? ⟨w0.heap.size, 0, none⟩ = some (.slice a1 L.length c1) := hx.cell 0
    replace hx1c : w19.cell? ⟨w0.heap.size, 1, none⟩ = some (.slice a2 bs.length c2) := hx.cell 1
    replace bw := bw.below hb bw.lt
    replace bw0c : w19.cell? ⟨w3.heap.size, 0, none⟩ = some (.slice r1 (tnL L bs).length dr1) := bw.cell 0
    replace bw1c : w19.cell? ⟨w3.heap.size, 1, none⟩ = some (.slice r2 (tnB L bs).length dr2) := bw.cell 1
    replace bx := bx.below hb bx.lt
    replace bx0c : w19.cell? ⟨w5.heap.size, 0, none⟩ = some (.slice b1_x0 L.length L.length) := bx.cell 0
    replace bx1c : w19.cell? ⟨w5.heap.size, 1, none⟩ = some (.slice b2_x0 bs.length bs.length) := bx.cell 1
    replace bg := bg.below hb bg.lt
    replace bg0c : w19.cell? ⟨w7.heap.size, 0, none⟩ = some (.slice g1 (tnL L bs).length dg1) := bg.cell 0
    replace bg1c : w19.cell? ⟨w7.heap.size, 1, none⟩ = some (.slice g2 (tnB L bs).length dg2) := bg.cell 1
    replace bh := bh.below hb bh.lt
    replace bh0c : w19.cell? ⟨w16.heap.size, 0, none⟩ = some (.slice ah1 (tnL L bs).length dh1) := bh.cell 0
    replace bh1c : w19.cell? ⟨w16.heap.size, 1, none⟩ = some (.slice ah2 (tnB L bs).length dh2) := bh.cell 1
    clear hb
    go_wp2_with fail
    go_ret
    exact ⟨rfl, hA⟩
  · have hs' : decide (szM L.length bs.length < 0) = true := decide_eq_true (by omega)
    go_enter Try.func9, Try.ntmps9
    go_wp2_with fail
    refine (HS.out _).mono ?_
    rintro e w1 ⟨rfl, hb⟩
    generalize szM L.length bs.length = z at *
    go_wp2_with fail
    go_ret
    exact ⟨rfl, hA.trans (hb.mono hA.size)⟩

theorem own : ownKnob Try.prog.godebug = none := by kernel_rfl
theorem laidOut : laidOutB Try.prog = true := by kernel_rfl

set_option maxRecDepth 100000 in
theorem lifted (os : Os) (started : os.Started) (H : Type) (enc : TypeId × Value → H) :
    ReturnsInHanded {} Try.checked os 9 .any (Rows.fnExactTurnMarkedSpec.pre6 enc Try.prog Try.f9 Rows.fnExactTurnMarkedRow.domain false) (Rows.fnExactTurnMarkedSpec.post enc Try.prog Try.f9 false true false false) := by
  refine returnsInHanded_of_change (C := Try.checked) own started (by kernel_rfl) Try.func9
    (ChangeSpec.witness6 (enc := enc) (C := Try.checked) false ⟨#[], #[.agg #[.slice none 0 0, .slice none 0 0]], []⟩ 8 (by kernel_rfl) (by kernel_rfl) (by kernel_rfl) (by kernel_rfl)) ?_
  intro W base args ds gs before hval0 hW hcnd _
  have hval : ∀ (j : Nat) t v, Try.f9.params[j]? = some t → args[j]? = some v → Value.okWide Try.prog W .any base t v := hval0
  have hW' := hW
  obtain ⟨p, q, hA0, hV, rfl, hfz, hnd⟩ := hW
  have hA : DataW.TrodAll enc Try.prog W 0 (fun _ => true) true Try.f9.params.toList args.toList ds p := hA0
  rw [Try.params9] at hA hval
  obtain ⟨v0, vs0, d0, ds0, p0, q0, hargs, rfl, rfl, h0, r0⟩ := trodAll_cons hA
  obtain ⟨rfl, rfl, rfl⟩ := trodAll_nil r0
  obtain rfl : args = #[v0] := by cases args; simp_all
  obtain ⟨rfl, rfl⟩ := trodVars_none hV
  have k0 := h0
  have lt0 : ∀ x ∈ p0, x.block < W.heap.size := by obtain ⟨m, hm⟩ := k0; exact DataW.trod_lt m _ _ _ hm
  obtain ⟨va0, vb0, ya0, yb0, nn0, rfl, rfl, rfl, hya0, hyb0⟩ := Go.Joins.open_agg2 Try.underlying25 (by kernel_rfl) (by kernel_rfl) (hval 0 25 v0 rfl rfl) h0
  obtain ⟨a0, len0, cap0, z0, rfl, w0⟩ : ∃ a len cap zs, va0 = .slice a len cap ∧ IsRow .i64 W a len cap zs := by
    rcases open_ints Try.underlying22 Try.underlying3 (by kernel_rfl) hya0 with ⟨hcs, _⟩ | ⟨x, l, c, zs, hcs, _, hl, hm, hz, _, hcell, hwz⟩
    · exact ⟨none, 0, 0, [], (List.cons.inj hcs).1, .inl ⟨rfl, rfl, rfl, rfl⟩⟩
    · exact ⟨some x, l, c, zs, (List.cons.inj hcs).1, .inr ⟨_, rfl, hl, hm, by simpa using hz, hcell, hwz⟩⟩
  obtain ⟨b0, bc0, bs0, rfl, Q0, mb0⟩ : ∃ a cap, ∃ bs : List Bool, vb0 = .slice a bs.length cap ∧ Rd W W.heap.size a (bls bs) ∧ bs.length ≤ maxLen := by
    rcases Go.Deep.open_bools Try.underlying23 Try.underlying4 (by kernel_rfl) hyb0 with ⟨hcs, _⟩ | ⟨x, l, c, fB, hcs, _, hl, hm, _, hcell⟩
    · exact ⟨none, 0, [], (List.cons.inj hcs).1, fun h => absurd rfl h, Nat.zero_le _⟩
    · exact ⟨some x, c, (List.range l).map fB, by simpa using (List.cons.inj hcs).1, rd_bools hl hcell, by simp; omega⟩
  obtain ⟨L0, rfl, R0, wf0, m0⟩ := w0.rd
  clear hA0 hval0
  refine (walk a0 b0 cap0 bc0 L0 bs0 W R0 Q0 m0 mb0).mono fun e W' ⟨he, bel⟩ => ?_
  subst he
  exact ⟨_, rfl, _, _, _, [], _, [], hW', trodAll_mk1 (shut_bool Try.underlying4 _), (trodAll_cons_mk (Below.trod laidOut (by kernel_rfl) (of_decide_eq_true (by kernel_rfl)) k0 bel lt0) trodAll_mk0), rfl, bel.frame _, fun h => by cases h⟩

theorem over : Rows.fnExactTurnMarkedRow.holds Try.pinned (OpenSpec.ofChange Rows.fnExactTurnMarkedSpec) :=
  OpenClaim.holds_of_wide 9 Try.f9 rfl rfl rfl rfl rfl rfl rfl ⟨rfl, rfl, rfl, rfl, rfl⟩ rfl rfl rfl rfl rfl (by kernel_rfl) Try.func9 (by kernel_rfl)
    (of_decide_eq_true (by kernel_rfl)) (by unfold Func.isWrapper; first | (rw [if_pos (by decide +kernel)]; kernel_rfl) | (rw [if_neg (by decide +kernel)]; exact ⟨rfl, rfl⟩))
    (fun os started H enc _ => lifted os started H enc)

/-- the given statement -/
theorem proved : Rows.FnExactTurnMarkedSaid := over
end Go.Proofs.Ytbbbfaollcklkaa.fnExactTurnMarked
