/-
  'laws.FnExactPutMarked' returns true for all two lists, and they read as they did. No condition.
-/
import Derived.Test.YtbbbfaollcklkaaRows
import Derived.Test.YtbbbfaollcklkaaZp1
import Derived.Test.YtbbbfaollcklkaaZp2
import Derived.Test.YtbbbfaollcklkaaZp3
import Derived.Test.YtbbbfaollcklkaaZp4
import Derived.Test.YtbbbfaollcklkaaZp5
import Derived.Test.YtbbbfaollcklkaaZp6
import Derived.Test.YtbbbfaollcklkaaZp7
import Derived.Test.YtbbbfaollcklkaaZp8
import Derived.Test.YtbbbfaollcklkaaZp9
import Derived.Test.YtbbbfaollcklkaaZp10
import Derived.Test.YtbbbfaollcklkaaZp11
import Derived.Test.YtbbbfaollcklkaaZp12
import Derived.RegionTactic
import Derived.Lib.SmallJoins
import Derived.WalkKit
import Derived.ProofKit
import Derived.OpenShut
import Derived.ShutString
import Derived.ChangeOld
import Derived.Below
namespace Go.Proofs.Ytbbbfaollcklkaa.fnExactPutMarked
open Go.ChangeShapes Go.WideShapes Go.ChangeAt Go.RowKit NP
open Go.ChangeMaps (open_string shut_string)
set_option linter.unusedVariables false

set_option linter.unusedSimpArgs false
set_option maxRecDepth 100000 in
set_option maxHeartbeats 4000000 in
theorem walk (a b : Option Addr) (ca cb : Nat) (P Q : List Int) (w0 : World) (h : Rd w0 w0.heap.size a (ints P)) (hq : Rd w0 w0.heap.size b (ints Q)) (m1 : P.length ≤ maxLen) (m2 : Q.length ≤ maxLen) :
    Calls Try.prog 7 #[.slice a P.length ca, .slice b Q.length cb] w0 fun e w' => e = .returned (.bool true) ∧ Below w0.heap.size w0 w' := by
  unfold maxLen at m1 m2
  have hmu := Try.underlying28
  have hi2 : (Try.prog.info? 28).map (·.size) = some 2 := T_mkL
  have hpl := pm_len P Q
  have hp16 := hpl.1
  have hb16 : (pmB P Q).length ≤ 16 := by omega
  clear hpl
  by_cases hlc : P.length ≤ 1048576 ∧ Q.length ≤ 1048576
  · obtain ⟨hl1, hl2⟩ := hlc
    have hA : Below w0.heap.size w0 w0 := Below.refl _ _
    go_enter Try.func7, Try.ntmps7
    go_wp2_with fail
    refine (toIntS_any a ca _ P _ (h.below hA) hA.size (by omega)).mono ?_
    rintro e w1 ⟨b_t1, rfl, t1, hb⟩
    replace hA := hA.trans (hb.mono hA.size)
    have hz1 := hb.size
    clear hb
    go_wp2_with fail
    refine (toIntS_any b cb _ Q _ (hq.below hA) hA.size (by omega)).mono ?_
    rintro e w2 ⟨b_s1, rfl, s1, hb⟩
    replace t1 := t1.below (hb.mono t1.le)
    replace hA := hA.trans (hb.mono hA.size)
    have hz2 := hb.size
    clear hb
    go_wp2_with fail
    refine (sPutMarked_any _ _ _ _ _ _ P Q _ t1.rd s1.rd t1.le s1.le (by omega) (by omega)).mono ?_
    rintro e w3 ⟨r1, dr1, r2, dr2, rfl, rp, rm, hb⟩
    replace t1 := t1.below (hb.mono t1.le)
    replace s1 := s1.below (hb.mono s1.le)
    replace hA := hA.trans (hb.mono hA.size)
    have hz3 := hb.size
    clear hb
    clear t1
    clear s1
    go_wp2_with fail
    obtain ⟨w4, hw⟩ : ∃ wq, wq = w3.alloc (.cells #[.slice r1 (pmL P Q).length dr1, .slice r2 (pmB P Q).length dr2] 28) := ⟨_, rfl⟩
    rw [← hw]
    have hb : Below w3.heap.size w3 w4 := hw ▸ (Below.refl _ _).alloc (Nat.le_refl _) _
    have bw : Blk w4 w3.heap.size 28 #[.slice r1 (pmL P Q).length dr1, .slice r2 (pmB P Q).length dr2] := hw ▸ Blk.new w3 _ _
    have hw4z : w3.heap.size + 1 = w4.heap.size := by rw [hw]; simp
    clear hw
    replace rp := rp.below (hb.mono rp.le)
    replace rm := rm.below (hb.mono rm.le)
    replace hA := hA.trans (hb.mono hA.size)
    have hz4 := hb.size
    clear hb
    have bw0c : w4.cell? ⟨w3.heap.size, 0, none⟩ = some (.slice r1 (pmL P Q).length dr1) := bw.cell 0
    have bw1c : w4.cell? ⟨w3.heap.size, 1, none⟩ = some (.slice r2 (pmB P Q).length dr2) := bw.cell 1
    refine (toIntS_any a ca _ P _ (h.below hA) hA.size (by omega)).mono ?_
    rintro e w5 ⟨b_x0, rfl, x0, hb⟩
    replace rp := rp.below (hb.mono rp.le)
    replace rm := rm.below (hb.mono rm.le)
    replace hA := hA.trans (hb.mono hA.size)
    have hz5 := hb.size
    replace bw := bw.below hb bw.lt
    replace bw0c : w5.cell? ⟨w3.heap.size, 0, none⟩ = some (.slice r1 (pmL P Q).length dr1) := bw.cell 0
    replace bw1c : w5.cell? ⟨w3.heap.size, 1, none⟩ = some (.slice r2 (pmB P Q).length dr2) := bw.cell 1
    clear hb
    go_wp2_with fail
    refine (toIntS_any b cb _ Q _ (hq.below hA) hA.size (by omega)).mono ?_
    rintro e w6 ⟨b_x1, rfl, x1, hb⟩
    replace rp := rp.below (hb.mono rp.le)
    replace rm := rm.below (hb.mono rm.le)
    replace x0 := x0.below (hb.mono x0.le)
    replace hA := hA.trans (hb.mono hA.size)
    have hz6 := hb.size
    replace bw := bw.below hb bw.lt
    replace bw0c : w6.cell? ⟨w3.heap.size, 0, none⟩ = some (.slice r1 (pmL P Q).length dr1) := bw.cell 0
    replace bw1c : w6.cell? ⟨w3.heap.size, 1, none⟩ = some (.slice r2 (pmB P Q).length dr2) := bw.cell 1
    clear hb
    go_wp2_with fail
    refine (iPutMarked_any _ _ _ _ _ _ P Q _ x0.rd x1.rd x0.le x1.le (by omega) (by omega)).mono ?_
    rintro e w7 ⟨g1, g2, dg1, dg2, rfl, ⟨mg, mg1, mg2, gm, gp⟩, hb⟩
    replace rp := rp.below (hb.mono rp.le)
    replace rm := rm.below (hb.mono rm.le)
    replace x0 := x0.below (hb.mono x0.le)
    replace x1 := x1.below (hb.mono x1.le)
    replace hA := hA.trans (hb.mono hA.size)
    have hz7 := hb.size
    replace bw := bw.below hb bw.lt
    replace bw0c : w7.cell? ⟨w3.heap.size, 0, none⟩ = some (.slice r1 (pmL P Q).length dr1) := bw.cell 0
    replace bw1c : w7.cell? ⟨w3.heap.size, 1, none⟩ = some (.slice r2 (pmB P Q).length dr2) := bw.cell 1
    clear hb
    have bw0q : (w7.alloc (.cells #[.slice g1 (pmL P Q).length dg1, .slice g2 (pmB P Q).length dg2] 28)).cell? ⟨w3.heap.size, 0, none⟩ = some (.slice r1 (pmL P Q).length dr1) := cell_alloc bw0c
    have bw1q : (w7.alloc (.cells #[.slice g1 (pmL P Q).length dg1, .slice g2 (pmB P Q).length dg2] 28)).cell? ⟨w3.heap.size, 1, none⟩ = some (.slice r2 (pmB P Q).length dr2) := cell_alloc bw1c
    go_wp2_with fail
    clear bw0q bw1q
    obtain ⟨w8, hw⟩ : ∃ wq, wq = w7.alloc (.cells #[.slice g1 (pmL P Q).length dg1, .slice g2 (pmB P Q).length dg2] 28) := ⟨_, rfl⟩
    rw [← hw]
    have hb : Below w7.heap.size w7 w8 := hw ▸ (Below.refl _ _).alloc (Nat.le_refl _) _
    have bg : Blk w8 w7.heap.size 28 #[.slice g1 (pmL P Q).length dg1, .slice g2 (pmB P Q).length dg2] := hw ▸ Blk.new w7 _ _
    have hw8z : w7.heap.size + 1 = w8.heap.size := by rw [hw]; simp
    clear hw
    replace rp := rp.below (hb.mono rp.le)
    replace rm := rm.below (hb.mono rm.le)
    replace x0 := x0.below (hb.mono x0.le)
    replace x1 := x1.below (hb.mono x1.le)
    replace gp := gp.below (hb.mono gp.le)
    replace gm := gm.below (hb.mono gm.le)
    replace hA := hA.trans (hb.mono hA.size)
    have hz8 := hb.size
    replace bw := bw.below hb bw.lt
    replace bw0c : w8.cell? ⟨w3.heap.size, 0, none⟩ = some (.slice r1 (pmL P Q).length dr1) := bw.cell 0
    replace bw1c : w8.cell? ⟨w3.heap.size, 1, none⟩ = some (.slice r2 (pmB P Q).length dr2) := bw.cell 1
    clear hb
    have bg0c : w8.cell? ⟨w7.heap.size, 0, none⟩ = some (.slice g1 (pmL P Q).length dg1) := bg.cell 0
    have bg1c : w8.cell? ⟨w7.heap.size, 1, none⟩ = some (.slice g2 (pmB P Q).length dg2) := bg.cell 1
    refine (eqMarked_same _ _ _ _ _ _ _ _ _ _ _ _ (pmL P Q) (pmB P Q) _ gp.rd gm.rd rp.rd rm.rd gp.le gm.le rp.le rm.le (by omega) (by omega)).mono ?_
    rintro e w9 ⟨rfl, hb⟩
    replace rp := rp.below (hb.mono rp.le)
    replace rm := rm.below (hb.mono rm.le)
    replace x0 := x0.below (hb.mono x0.le)
    replace x1 := x1.below (hb.mono x1.le)
    replace gp := gp.below (hb.mono gp.le)
    replace gm := gm.below (hb.mono gm.le)
    replace hA := hA.trans (hb.mono hA.size)
    have hz9 := hb.size
    replace bw := bw.below hb bw.lt
    replace bw0c : w9.cell? ⟨w3.heap.size, 0, none⟩ = some (.slice r1 (pmL P Q).length dr1) := bw.cell 0
    replace bw1c : w9.cell? ⟨w3.heap.size, 1, none⟩ = some (.slice r2 (pmB P Q).length dr2) := bw.cell 1
    replace bg := bg.below hb bg.lt
    replace bg0c : w9.cell? ⟨w7.heap.size, 0, none⟩ = some (.slice g1 (pmL P Q).length dg1) := bg.cell 0
    replace bg1c : w9.cell? ⟨w7.heap.size, 1, none⟩ = some (.slice g2 (pmB P Q).length dg2) := bg.cell 1
    clear hb
    go_wp2_with fail
    refine (toIntS_any a ca _ P _ (h.below hA) hA.size (by omega)).mono ?_
    rintro e w10 ⟨b_t2, rfl, t2, hb⟩
    replace rp := rp.below (hb.mono rp.le)
    replace rm := rm.below (hb.mono rm.le)
    replace x0 := x0.below (hb.mono x0.le)
    replace x1 := x1.below (hb.mono x1.le)
    replace gp := gp.below (hb.mono gp.le)
    replace gm := gm.below (hb.mono gm.le)
    replace hA := hA.trans (hb.mono hA.size)
    have hz10 := hb.size
    replace bw := bw.below hb bw.lt
    replace bw0c : w10.cell? ⟨w3.heap.size, 0, none⟩ = some (.slice r1 (pmL P Q).length dr1) := bw.cell 0
    replace bw1c : w10.cell? ⟨w3.heap.size, 1, none⟩ = some (.slice r2 (pmB P Q).length dr2) := bw.cell 1
    replace bg := bg.below hb bg.lt
    replace bg0c : w10.cell? ⟨w7.heap.size, 0, none⟩ = some (.slice g1 (pmL P Q).length dg1) := bg.cell 0
    replace bg1c : w10.cell? ⟨w7.heap.size, 1, none⟩ = some (.slice g2 (pmB P Q).length dg2) := bg.cell 1
    clear hb
    go_wp2_with fail
    refine (eqIntS_same _ _ _ _ _ _ (P) _ x0.rd t2.rd (by omega)).mono ?_
    rintro e w11 ⟨rfl, hd⟩
    have hb : Below w10.heap.size w10 w11 := Dr.below hd _
    clear hd
    replace rp := rp.below (hb.mono rp.le)
    replace rm := rm.below (hb.mono rm.le)
    replace x0 := x0.below (hb.mono x0.le)
    replace x1 := x1.below (hb.mono x1.le)
    replace gp := gp.below (hb.mono gp.le)
    replace gm := gm.below (hb.mono gm.le)
    replace t2 := t2.below (hb.mono t2.le)
    replace hA := hA.trans (hb.mono hA.size)
    have hz11 := hb.size
    replace bw := bw.below hb bw.lt
    replace bw0c : w11.cell? ⟨w3.heap.size, 0, none⟩ = some (.slice r1 (pmL P Q).length dr1) := bw.cell 0
    replace bw1c : w11.cell? ⟨w3.heap.size, 1, none⟩ = some (.slice r2 (pmB P Q).length dr2) := bw.cell 1
    replace bg := bg.below hb bg.lt
    replace bg0c : w11.cell? ⟨w7.heap.size, 0, none⟩ = some (.slice g1 (pmL P Q).length dg1) := bg.cell 0
    replace bg1c : w11.cell? ⟨w7.heap.size, 1, none⟩ = some (.slice g2 (pmB P Q).length dg2) := bg.cell 1
    clear hb
    clear t2
    go_wp2_with fail
    refine (toIntS_any b cb _ Q _ (hq.below hA) hA.size (by omega)).mono ?_
    rintro e w12 ⟨b_s2, rfl, s2, hb⟩
    replace rp := rp.below (hb.mono rp.le)
    replace rm := rm.below (hb.mono rm.le)
    replace x0 := x0.below (hb.mono x0.le)
    replace x1 := x1.below (hb.mono x1.le)
    replace gp := gp.below (hb.mono gp.le)
    replace gm := gm.below (hb.mono gm.le)
    replace hA := hA.trans (hb.mono hA.size)
    have hz12 := hb.size
    replace bw := bw.below hb bw.lt
    replace bw0c : w12.cell? ⟨w3.heap.size, 0, none⟩ = some (.slice r1 (pmL P Q).length dr1) := bw.cell 0
    replace bw1c : w12.cell? ⟨w3.heap.size, 1, none⟩ = some (.slice r2 (pmB P Q).length dr2) := bw.cell 1
    replace bg := bg.below hb bg.lt
    replace bg0c : w12.cell? ⟨w7.heap.size, 0, none⟩ = some (.slice g1 (pmL P Q).length dg1) := bg.cell 0
    replace bg1c : w12.cell? ⟨w7.heap.size, 1, none⟩ = some (.slice g2 (pmB P Q).length dg2) := bg.cell 1
    clear hb
    go_wp2_with fail
    refine (eqIntS_same _ _ _ _ _ _ (Q) _ x1.rd s2.rd (by omega)).mono ?_
    rintro e w13 ⟨rfl, hd⟩
    have hb : Below w12.heap.size w12 w13 := Dr.below hd _
    clear hd
    replace rp := rp.below (hb.mono rp.le)
    replace rm := rm.below (hb.mono rm.le)
    replace x0 := x0.below (hb.mono x0.le)
    replace x1 := x1.below (hb.mono x1.le)
    replace gp := gp.below (hb.mono gp.le)
    replace gm := gm.below (hb.mono gm.le)
    replace s2 := s2.below (hb.mono s2.le)
    replace hA := hA.trans (hb.mono hA.size)
    have hz13 := hb.size
    replace bw := bw.below hb bw.lt
    replace bw0c : w13.cell? ⟨w3.heap.size, 0, none⟩ = some (.slice r1 (pmL P Q).length dr1) := bw.cell 0
    replace bw1c : w13.cell? ⟨w3.heap.size, 1, none⟩ = some (.slice r2 (pmB P Q).length dr2) := bw.cell 1
    replace bg := bg.below hb bg.lt
    replace bg0c : w13.cell? ⟨w7.heap.size, 0, none⟩ = some (.slice g1 (pmL P Q).length dg1) := bg.cell 0
    replace bg1c : w13.cell? ⟨w7.heap.size, 1, none⟩ = some (.slice g2 (pmB P Q).length dg2) := bg.cell 1
    clear hb
    clear s2
    have hk0 : decide ((1 : Int) + (P.length : Int) + (Q.length : Int) < 0) = false := decide_eq_false (by omega)
    go_wp2_with fail
    refine (markIntS_any _ _ _ _ (1) (P) _ x0 (by omega) (by omega) (by omega)).mono ?_
    rintro e w14 ⟨rfl, x0m, hg⟩
    have has := (Aside.refl _ _ _).grown x0 hg
    have hb := x0.belowMark (by omega) hg
    clear hg x0 x0m
    replace rp := rp.aside has (by omega)
    replace rm := rm.aside has (by omega)
    replace x1 := x1.aside has (by omega)
    replace gp := gp.aside has (by omega)
    replace gm := gm.aside has (by omega)
    replace bw := bw.aside has (by omega)
    replace bw0c : w14.cell? ⟨w3.heap.size, 0, none⟩ = some (.slice r1 (pmL P Q).length dr1) := bw.cell 0
    replace bw1c : w14.cell? ⟨w3.heap.size, 1, none⟩ = some (.slice r2 (pmB P Q).length dr2) := bw.cell 1
    replace bg := bg.aside has (by omega)
    replace bg0c : w14.cell? ⟨w7.heap.size, 0, none⟩ = some (.slice g1 (pmL P Q).length dg1) := bg.cell 0
    replace bg1c : w14.cell? ⟨w7.heap.size, 1, none⟩ = some (.slice g2 (pmB P Q).length dg2) := bg.cell 1
    replace hA := hA.trans (hb.mono (by omega))
    have hz14 := has.1
    clear hb has
    go_wp2_with fail
    refine (markIntS_any _ _ _ _ (1 + (P.length : Int)) (Q) _ x1 (by omega) (by omega) (by omega)).mono ?_
    rintro e w15 ⟨rfl, x1m, hg⟩
    have has := (Aside.refl _ _ _).grown x1 hg
    have hb := x1.belowMark (by omega) hg
    clear hg x1 x1m
    replace rp := rp.aside has (by omega)
    replace rm := rm.aside has (by omega)
    replace gp := gp.aside has (by omega)
    replace gm := gm.aside has (by omega)
    replace bw := bw.aside has (by omega)
    replace bw0c : w15.cell? ⟨w3.heap.size, 0, none⟩ = some (.slice r1 (pmL P Q).length dr1) := bw.cell 0
    replace bw1c : w15.cell? ⟨w3.heap.size, 1, none⟩ = some (.slice r2 (pmB P Q).length dr2) := bw.cell 1
    replace bg := bg.aside has (by omega)
    replace bg0c : w15.cell? ⟨w7.heap.size, 0, none⟩ = some (.slice g1 (pmL P Q).length dg1) := bg.cell 0
    replace bg1c : w15.cell? ⟨w7.heap.size, 1, none⟩ = some (.slice g2 (pmB P Q).length dg2) := bg.cell 1
    replace hA := hA.trans (hb.mono (by omega))
    have hz15 := has.1
    clear hb has
    go_wp2_with fail
    refine (eqMarked_same _ _ _ _ _ _ _ _ _ _ _ _ (pmL P Q) (pmB P Q) _ gp.rd gm.rd rp.rd rm.rd gp.le gm.le rp.le rm.le (by omega) (by omega)).mono ?_
    rintro e w16 ⟨rfl, hb⟩
    replace rp := rp.below (hb.mono rp.le)
    replace rm := rm.below (hb.mono rm.le)
    replace gp := gp.below (hb.mono gp.le)
    replace gm := gm.below (hb.mono gm.le)
    replace hA := hA.trans (hb.mono hA.size)
    have hz16 := hb.size
    replace bw := bw.below hb bw.lt
    replace bw0c : w16.cell? ⟨w3.heap.size, 0, none⟩ = some (.slice r1 (pmL P Q).length dr1) := bw.cell 0
    replace bw1c : w16.cell? ⟨w3.heap.size, 1, none⟩ = some (.slice r2 (pmB P Q).length dr2) := bw.cell 1
    replace bg := bg.below hb bg.lt
    replace bg0c : w16.cell? ⟨w7.heap.size, 0, none⟩ = some (.slice g1 (pmL P Q).length dg1) := bg.cell 0
    replace bg1c : w16.cell? ⟨w7.heap.size, 1, none⟩ = some (.slice g2 (pmB P Q).length dg2) := bg.cell 1
    clear hb
    have hq1 : decide ((1 : Int) + ((pmL P Q).length : Int) + ((pmB P Q).length : Int) < 0) = false := decide_eq_false (by omega)
    have hq3 : ((1 : Int) + ((pmL P Q).length : Int) + ((pmB P Q).length : Int) != (1 : Int) + ((pmL P Q).length : Int) + ((pmB P Q).length : Int)) = false := by simp
    go_wp2_with fail
    refine (markMarked_any _ _ _ _ w6.heap.size w7.heap.size _ _ _ _ 1 (pmL P Q) (pmB P Q) _ gp gm (by omega) (by omega) (by omega) (by omega) (by omega) (by omega) (by omega) (by omega) (by omega) (by omega) (by omega)).mono ?_
    rintro e w17 ⟨rfl, gp2, gm2, hb, has⟩
    clear gp gm
    replace rp := rp.aside has (by omega)
    replace rm := rm.aside has (by omega)
    replace bw := bw.aside has (by omega)
    replace bw0c : w17.cell? ⟨w3.heap.size, 0, none⟩ = some (.slice r1 (pmL P Q).length dr1) := bw.cell 0
    replace bw1c : w17.cell? ⟨w3.heap.size, 1, none⟩ = some (.slice r2 (pmB P Q).length dr2) := bw.cell 1
    replace bg := bg.aside has (by omega)
    replace bg0c : w17.cell? ⟨w7.heap.size, 0, none⟩ = some (.slice g1 (pmL P Q).length dg1) := bg.cell 0
    replace bg1c : w17.cell? ⟨w7.heap.size, 1, none⟩ = some (.slice g2 (pmB P Q).length dg2) := bg.cell 1
    replace hA := hA.trans (hb.mono (by omega))
    have hz17 := has.1
    clear hb has
    go_wp2_with fail
    refine (heldMarked_any _ _ _ _ _ _ ((pmL P Q).length) ((pmB P Q).length) 1 _ gp2.rd gm2.rd gp2.le gm2.le (by omega) (by omega) (by omega) (by omega)).mono ?_
    rintro e w18 ⟨rfl, hb⟩
    replace rp := rp.below (hb.mono rp.le)
    replace rm := rm.below (hb.mono rm.le)
    replace gp2 := gp2.below (hb.mono gp2.le)
    replace gm2 := gm2.below (hb.mono gm2.le)
    replace hA := hA.trans (hb.mono hA.size)
    have hz18 := hb.size
    replace bw := bw.below hb bw.lt
    replace bw0c : w18.cell? ⟨w3.heap.size, 0, none⟩ = some (.slice r1 (pmL P Q).length dr1) := bw.cell 0
    replace bw1c : w18.cell? ⟨w3.heap.size, 1, none⟩ = some (.slice r2 (pmB P Q).length dr2) := bw.cell 1
    replace bg := bg.below hb bg.lt
    replace bg0c : w18.cell? ⟨w7.heap.size, 0, none⟩ = some (.slice g1 (pmL P Q).length dg1) := bg.cell 0
    replace bg1c : w18.cell? ⟨w7.heap.size, 1, none⟩ = some (.slice g2 (pmB P Q).length dg2) := bg.cell 1
    clear hb
    go_wp2_with fail
    refine (toIntS_any a ca _ P _ (h.below hA) hA.size (by omega)).mono ?_
    rintro e w19 ⟨b_t3, rfl, t3, hb⟩
    replace rp := rp.below (hb.mono rp.le)
    replace rm := rm.below (hb.mono rm.le)
    replace gp2 := gp2.below (hb.mono gp2.le)
    replace gm2 := gm2.below (hb.mono gm2.le)
    replace hA := hA.trans (hb.mono hA.size)
    have hz19 := hb.size
    replace bw := bw.below hb bw.lt
    replace bw0c : w19.cell? ⟨w3.heap.size, 0, none⟩ = some (.slice r1 (pmL P Q).length dr1) := bw.cell 0
    replace bw1c : w19.cell? ⟨w3.heap.size, 1, none⟩ = some (.slice r2 (pmB P Q).length dr2) := bw.cell 1
    replace bg := bg.below hb bg.lt
    replace bg0c : w19.cell? ⟨w7.heap.size, 0, none⟩ = some (.slice g1 (pmL P Q).length dg1) := bg.cell 0
    replace bg1c : w19.cell? ⟨w7.heap.size, 1, none⟩ = some (.slice g2 (pmB P Q).length dg2) := bg.cell 1
    clear hb
    go_wp2_with fail
    refine (toIntS_any b cb _ Q _ (hq.below hA) hA.size (by omega)).mono ?_
    rintro e w20 ⟨b_s3, rfl, s3, hb⟩
    replace rp := rp.below (hb.mono rp.le)
    replace rm := rm.below (hb.mono rm.le)
    replace gp2 := gp2.below (hb.mono gp2.le)
    replace gm2 := gm2.below (hb.mono gm2.le)
    replace t3 := t3.below (hb.mono t3.le)
    replace hA := hA.trans (hb.mono hA.size)
    have hz20 := hb.size
    replace bw := bw.below hb bw.lt
    replace bw0c : w20.cell? ⟨w3.heap.size, 0, none⟩ = some (.slice r1 (pmL P Q).length dr1) := bw.cell 0
    replace bw1c : w20.cell? ⟨w3.heap.size, 1, none⟩ = some (.slice r2 (pmB P Q).length dr2) := bw.cell 1
    replace bg := bg.below hb bg.lt
    replace bg0c : w20.cell? ⟨w7.heap.size, 0, none⟩ = some (.slice g1 (pmL P Q).length dg1) := bg.cell 0
    replace bg1c : w20.cell? ⟨w7.heap.size, 1, none⟩ = some (.slice g2 (pmB P Q).length dg2) := bg.cell 1
    clear hb
    go_wp2_with fail
    refine (iPutMarked_any _ _ _ _ _ _ P Q _ t3.rd s3.rd t3.le s3.le (by omega) (by omega)).mono ?_
    rintro e w21 ⟨ah1, ah2, dh1, dh2, rfl, ⟨mh, mh1, mh2, ehm, ehp⟩, hb⟩
    replace rp := rp.below (hb.mono rp.le)
    replace rm := rm.below (hb.mono rm.le)
    replace gp2 := gp2.below (hb.mono gp2.le)
    replace gm2 := gm2.below (hb.mono gm2.le)
    replace t3 := t3.below (hb.mono t3.le)
    replace s3 := s3.below (hb.mono s3.le)
    replace hA := hA.trans (hb.mono hA.size)
    have hz21 := hb.size
    replace bw := bw.below hb bw.lt
    replace bw0c : w21.cell? ⟨w3.heap.size, 0, none⟩ = some (.slice r1 (pmL P Q).length dr1) := bw.cell 0
    replace bw1c : w21.cell? ⟨w3.heap.size, 1, none⟩ = some (.slice r2 (pmB P Q).length dr2) := bw.cell 1
    replace bg := bg.below hb bg.lt
    replace bg0c : w21.cell? ⟨w7.heap.size, 0, none⟩ = some (.slice g1 (pmL P Q).length dg1) := bg.cell 0
    replace bg1c : w21.cell? ⟨w7.heap.size, 1, none⟩ = some (.slice g2 (pmB P Q).length dg2) := bg.cell 1
    clear hb
    have bw0q : (w21.alloc (.cells #[.slice ah1 (pmL P Q).length dh1, .slice ah2 (pmB P Q).length dh2] 28)).cell? ⟨w3.heap.size, 0, none⟩ = some (.slice r1 (pmL P Q).length dr1) := cell_alloc bw0c
    have bw1q : (w21.alloc (.cells #[.slice ah1 (pmL P Q).length dh1, .slice ah2 (pmB P Q).length dh2] 28)).cell? ⟨w3.heap.size, 1, none⟩ = some (.slice r2 (pmB P Q).length dr2) := cell_alloc bw1c
    have bg0q : (w21.alloc (.cells #[.slice ah1 (pmL P Q).length dh1, .slice ah2 (pmB P Q).length dh2] 28)).cell? ⟨w7.heap.size, 0, none⟩ = some (.slice g1 (pmL P Q).length dg1) := cell_alloc bg0c
    have bg1q : (w21.alloc (.cells #[.slice ah1 (pmL P Q).length dh1, .slice ah2 (pmB P Q).length dh2] 28)).cell? ⟨w7.heap.size, 1, none⟩ = some (.slice g2 (pmB P Q).length dg2) := cell_alloc bg1c
    go_wp2_with fail
    clear bw0q bw1q bg0q bg1q
    obtain ⟨w22, hw⟩ : ∃ wq, wq = w21.alloc (.cells #[.slice ah1 (pmL P Q).length dh1, .slice ah2 (pmB P Q).length dh2] 28) := ⟨_, rfl⟩
    rw [← hw]
    have hb : Below w21.heap.size w21 w22 := hw ▸ (Below.refl _ _).alloc (Nat.le_refl _) _
    have bh : Blk w22 w21.heap.size 28 #[.slice ah1 (pmL P Q).length dh1, .slice ah2 (pmB P Q).length dh2] := hw ▸ Blk.new w21 _ _
    have hw22z : w21.heap.size + 1 = w22.heap.size := by rw [hw]; simp
    clear hw
    replace rp := rp.below (hb.mono rp.le)
    replace rm := rm.below (hb.mono rm.le)
    replace gp2 := gp2.below (hb.mono gp2.le)
    replace gm2 := gm2.below (hb.mono gm2.le)
    replace t3 := t3.below (hb.mono t3.le)
    replace s3 := s3.below (hb.mono s3.le)
    replace ehp := ehp.below (hb.mono ehp.le)
    replace ehm := ehm.below (hb.mono ehm.le)
    replace hA := hA.trans (hb.mono hA.size)
    have hz22 := hb.size
    replace bw := bw.below hb bw.lt
    replace bw0c : w22.cell? ⟨w3.heap.size, 0, none⟩ = some (.slice r1 (pmL P Q).length dr1) := bw.cell 0
    replace bw1c : w22.cell? ⟨w3.heap.size, 1, none⟩ = some (.slice r2 (pmB P Q).length dr2) := bw.cell 1
    replace bg := bg.below hb bg.lt
    replace bg0c : w22.cell? ⟨w7.heap.size, 0, none⟩ = some (.slice g1 (pmL P Q).length dg1) := bg.cell 0
    replace bg1c : w22.cell? ⟨w7.heap.size, 1, none⟩ = some (.slice g2 (pmB P Q).length dg2) := bg.cell 1
    clear hb
    have bh0c : w22.cell? ⟨w21.heap.size, 0, none⟩ = some (.slice ah1 (pmL P Q).length dh1) := bh.cell 0
    have bh1c : w22.cell? ⟨w21.heap.size, 1, none⟩ = some (.slice ah2 (pmB P Q).length dh2) := bh.cell 1
    refine (eqMarked_same _ _ _ _ _ _ _ _ _ _ _ _ (pmL P Q) (pmB P Q) _ ehp.rd ehm.rd rp.rd rm.rd ehp.le ehm.le rp.le rm.le (by omega) (by omega)).mono ?_
    rintro e w23 ⟨rfl, hb⟩
    replace rp := rp.below (hb.mono rp.le)
    replace rm := rm.below (hb.mono rm.le)
    replace gp2 := gp2.below (hb.mono gp2.le)
    replace gm2 := gm2.below (hb.mono gm2.le)
    replace t3 := t3.below (hb.mono t3.le)
    replace s3 := s3.below (hb.mono s3.le)
    replace ehp := ehp.below (hb.mono ehp.le)
    replace ehm := ehm.below (hb.mono ehm.le)
    replace hA := hA.trans (hb.mono hA.size)
    have hz23 := hb.size
    replace bw := bw.below hb bw.lt
    replace bw0c : w23.cell? ⟨w3.heap.size, 0, none⟩ = some (.slice r1 (pmL P Q).length dr1) := bw.cell 0
    replace bw1c : w23.cell? ⟨w3.heap.size, 1, none⟩ = some (.slice r2 (pmB P Q).length dr2) := bw.cell 1
    replace bg := bg.below hb bg.lt
    replace bg0c : w23.cell? ⟨w7.heap.size, 0, none⟩ = some (.slice g1 (pmL P Q).length dg1) := bg.cell 0
    replace bg1c : w23.cell? ⟨w7.heap.size, 1, none⟩ = some (.slice g2 (pmB P Q).length dg2) := bg.cell 1
    replace bh := bh.below hb bh.lt
    replace bh0c : w23.cell? ⟨w21.heap.size, 0, none⟩ = some (.slice ah1 (pmL P Q).length dh1) := bh.cell 0
    replace bh1c : w23.cell? ⟨w21.heap.size, 1, none⟩ = some (.slice ah2 (pmB P Q).length dh2) := bh.cell 1
    clear hb
    go_wp2_with fail
    refine (heldMarked_any _ _ _ _ _ _ ((pmL P Q).length) ((pmB P Q).length) 1 _ gp2.rd gm2.rd gp2.le gm2.le (by omega) (by omega) (by omega) (by omega)).mono ?_
    rintro e w24 ⟨rfl, hb⟩
    replace rp := rp.below (hb.mono rp.le)
    replace rm := rm.below (hb.mono rm.le)
    replace gp2 := gp2.below (hb.mono gp2.le)
    replace gm2 := gm2.below (hb.mono gm2.le)
    replace t3 := t3.below (hb.mono t3.le)
    replace s3 := s3.below (hb.mono s3.le)
    replace ehp := ehp.below (hb.mono ehp.le)
    replace ehm := ehm.below (hb.mono ehm.le)
    replace hA := hA.trans (hb.mono hA.size)
    have hz24 := hb.size
    replace bw := bw.below hb bw.lt
    replace bw0c : w24.cell? ⟨w3.heap.size, 0, none⟩ = some (.slice r1 (pmL P Q).length dr1) := bw.cell 0
    replace bw1c : w24.cell? ⟨w3.heap.size, 1, none⟩ = some (.slice r2 (pmB P Q).length dr2) := bw.cell 1
    replace bg := bg.below hb bg.lt
    replace bg0c : w24.cell? ⟨w7.heap.size, 0, none⟩ = some (.slice g1 (pmL P Q).length dg1) := bg.cell 0
    replace bg1c : w24.cell? ⟨w7.heap.size, 1, none⟩ = some (.slice g2 (pmB P Q).length dg2) := bg.cell 1
    replace bh := bh.below hb bh.lt
    replace bh0c : w24.cell? ⟨w21.heap.size, 0, none⟩ = some (.slice ah1 (pmL P Q).length dh1) := bh.cell 0
    replace bh1c : w24.cell? ⟨w21.heap.size, 1, none⟩ = some (.slice ah2 (pmB P Q).length dh2) := bh.cell 1
    clear hb
    go_wp2_with fail
    go_ret
    exact ⟨rfl, hA⟩
  · by_cases hl1 : P.length ≤ 1048576
    · have hl2 : 1048576 < Q.length := by omega
      clear hlc
      go_enter Try.func7, Try.ntmps7
      go_wp2_with fail
      go_ret
      exact ⟨rfl, Below.refl _ _⟩
    · have hl2 : 1048576 < P.length := by omega
      clear hlc
      go_enter Try.func7, Try.ntmps7
      go_wp2_with fail
      go_ret
      exact ⟨rfl, Below.refl _ _⟩

theorem own : ownKnob Try.prog.godebug = none := by kernel_rfl
theorem laidOut : laidOutB Try.prog = true := by kernel_rfl

set_option maxRecDepth 100000 in
theorem lifted (os : Os) (started : os.Started) (H : Type) (enc : TypeId × Value → H) :
    ReturnsInHanded {} Try.checked os 7 .any (Rows.fnExactPutMarkedSpec.pre6 enc Try.prog Try.f7 Rows.fnExactPutMarkedRow.domain false) (Rows.fnExactPutMarkedSpec.post enc Try.prog Try.f7 false true false false) := by
  refine returnsInHanded_of_change (C := Try.checked) own started (by kernel_rfl) Try.func7
    (ChangeSpec.witness6 (enc := enc) (C := Try.checked) false ⟨#[], #[.slice none 0 0, .slice none 0 0], []⟩ 8 (by kernel_rfl) (by kernel_rfl) (by kernel_rfl) (by kernel_rfl)) ?_
  intro W base args ds gs before hval0 hW hcnd _
  have hval : ∀ (j : Nat) t v, Try.f7.params[j]? = some t → args[j]? = some v → Value.okWide Try.prog W .any base t v := hval0
  have hW' := hW
  obtain ⟨p, q, hA0, hV, rfl, hfz, hnd⟩ := hW
  have hA : DataW.TrodAll enc Try.prog W 0 (fun _ => true) true Try.f7.params.toList args.toList ds p := hA0
  rw [Try.params7] at hA hval
  obtain ⟨v0, vs0, d0, ds0, p0, q0, hargs, rfl, rfl, h0, r0⟩ := trodAll_cons hA
  obtain ⟨v1, vs1, d1, ds1, p1, q1, rfl, rfl, rfl, h1, r1⟩ := trodAll_cons r0
  obtain ⟨rfl, rfl, rfl⟩ := trodAll_nil r1
  obtain rfl : args = #[v0, v1] := by cases args; simp_all
  obtain ⟨rfl, rfl⟩ := trodVars_none hV
  obtain ⟨a0, len0, cap0, rfl⟩ := okWide_slice Try.underlying22 (hval 0 22 v0 rfl rfl)
  have k0 := h0
  have lt0 : ∀ x ∈ p0, x.block < W.heap.size := by obtain ⟨m, hm⟩ := k0; exact DataW.trod_lt m _ _ _ hm
  obtain ⟨z0, w0⟩ : ∃ zs, IsRow .i64 W a0 len0 cap0 zs := by
    obtain ⟨fuel, hf⟩ := h0
    rcases open_ints Try.underlying22 Try.underlying3 (by kernel_rfl) hf with ⟨hcs, _⟩ | ⟨x, l, c, zs, hcs, _, hl, hm, hz, _, hcell, hwz⟩
    · simp [Value.cells] at hcs
      obtain ⟨rfl, rfl, rfl⟩ := hcs
      exact ⟨[], .inl ⟨rfl, rfl, rfl, rfl⟩⟩
    · simp [Value.cells] at hcs
      obtain ⟨rfl, rfl, rfl⟩ := hcs
      exact ⟨zs, .inr ⟨_, rfl, hl, hm, by simpa using hz, hcell, hwz⟩⟩
  have lc0 := w0.lc
  obtain ⟨L0, rfl, R0, wf0, m0⟩ := w0.rd
  obtain ⟨a1, len1, cap1, rfl⟩ := okWide_slice Try.underlying22 (hval 1 22 v1 rfl rfl)
  have k1 := h1
  have lt1 : ∀ x ∈ p1, x.block < W.heap.size := by obtain ⟨m, hm⟩ := k1; exact DataW.trod_lt m _ _ _ hm
  obtain ⟨z1, w1⟩ : ∃ zs, IsRow .i64 W a1 len1 cap1 zs := by
    obtain ⟨fuel, hf⟩ := h1
    rcases open_ints Try.underlying22 Try.underlying3 (by kernel_rfl) hf with ⟨hcs, _⟩ | ⟨x, l, c, zs, hcs, _, hl, hm, hz, _, hcell, hwz⟩
    · simp [Value.cells] at hcs
      obtain ⟨rfl, rfl, rfl⟩ := hcs
      exact ⟨[], .inl ⟨rfl, rfl, rfl, rfl⟩⟩
    · simp [Value.cells] at hcs
      obtain ⟨rfl, rfl, rfl⟩ := hcs
      exact ⟨zs, .inr ⟨_, rfl, hl, hm, by simpa using hz, hcell, hwz⟩⟩
  have lc1 := w1.lc
  obtain ⟨L1, rfl, R1, wf1, m1⟩ := w1.rd
  clear hA0 hval0
  refine (walk a0 a1 cap0 cap1 L0 L1 W R0 R1 m0 m1).mono fun e W' ⟨he, bel⟩ => ?_
  subst he
  exact ⟨_, rfl, _, _, _, [], _, [], hW', trodAll_mk1 (shut_bool Try.underlying4 _), (trodAll_cons_mk (Below.trod laidOut (by kernel_rfl) (of_decide_eq_true (by kernel_rfl)) k0 bel lt0) (trodAll_cons_mk (Below.trod laidOut (by kernel_rfl) (of_decide_eq_true (by kernel_rfl)) k1 bel lt1) trodAll_mk0)), rfl, bel.frame _, fun h => by cases h⟩

theorem over : Rows.fnExactPutMarkedRow.holds Try.pinned (OpenSpec.ofChange Rows.fnExactPutMarkedSpec) :=
  OpenClaim.holds_of_wide 7 Try.f7 rfl rfl rfl rfl rfl rfl rfl ⟨rfl, rfl, rfl, rfl, rfl⟩ rfl rfl rfl rfl rfl (by kernel_rfl) Try.func7 (by kernel_rfl)
    (of_decide_eq_true (by kernel_rfl)) (by unfold Func.isWrapper; first | (rw [if_pos (by decide +kernel)]; kernel_rfl) | (rw [if_neg (by decide +kernel)]; exact ⟨rfl, rfl⟩))
    (fun os started H enc _ => lifted os started H enc)

/-- the given statement -/
theorem proved : Rows.FnExactPutMarkedSaid := over
end Go.Proofs.Ytbbbfaollcklkaa.fnExactPutMarked
