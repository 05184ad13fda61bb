/-
  'laws.FnPutMarked' returns true for every code, and the code reads as it did. No condition.
-/
import Derived.Test.YtbbbfaollcklkaaRows
import Derived.Test.YtbbbfaollcklkaaZp1
import Derived.Test.YtbbbfaollcklkaaZp2
import Derived.Test.YtbbbfaollcklkaaZp3
import Derived.Test.YtbbbfaollcklkaaZp4
import Derived.Test.YtbbbfaollcklkaaZp5
import Derived.Test.YtbbbfaollcklkaaZp6
import Derived.Test.YtbbbfaollcklkaaZp7
import Derived.Test.YtbbbfaollcklkaaZp8
import Derived.Test.YtbbbfaollcklkaaZp9
import Derived.Test.YtbbbfaollcklkaaZp10
import Derived.Test.YtbbbfaollcklkaaZp11
import Derived.Test.YtbbbfaollcklkaaZp12
import Derived.Test.YtbbbfaollcklkaaZr1
import Derived.Test.YtbbbfaollcklkaaZr2
import Derived.Test.YtbbbfaollcklkaaZr3
import Derived.Test.YtbbbfaollcklkaaZr4
import Derived.Lib.SmallJoins
import Derived.RegionTactic
import Derived.WalkKit
import Derived.ProofKit
import Derived.OpenShut
import Derived.ShutString
import Derived.ChangeOld
import Derived.Below
namespace Go.Proofs.Ytbbbfaollcklkaa.fnPutMarked
open Go.ChangeShapes Go.WideShapes Go.ChangeAt Go.RowKit NP
open Go.ChangeMaps (open_string shut_string)
set_option linter.unusedVariables false

theorem split_back {P Q : List Int} (hv : pmOk P Q = true) (a1 a2 : Option Addr) (c1 c2 B1 B2 : Nat) (w : World) (h1 : Rd w B1 a1 (ints (pmL P Q))) (h2 : Rd w B2 a2 (bls (pmB P Q))) (hB1 : B1 ≤ w.heap.size) (hB2 : B2 ≤ w.heap.size) :
    Calls Try.prog 17 #[.agg #[.slice a1 (pmL P Q).length c1, .slice a2 (pmB P Q).length c2]] w fun e w' => ∃ aT cT aF cF, e = .returned (.tuple #[.slice aT P.length cT, .slice aF Q.length cF]) ∧ Own w' w.heap.size w'.heap.size 3 (.slice aT P.length cT) (ints P) ∧ Own w' w.heap.size w'.heap.size 3 (.slice aF Q.length cF) (ints Q) ∧ Below w.heap.size w w' := by
  have hl := pm_len P Q
  have h3 := iSplitMarked_any a1 a2 c1 c2 B1 B2 (pmL P Q) (pmB P Q) w h1 h2 hB1 hB2 (by omega) (by omega)
  obtain ⟨_, e2, e3⟩ := put_split hv
  rw [e2, e3] at h3
  refine h3.mono ?_
  rintro e w' ⟨aT, cT, aF, cF, h4, h5, h6, -, h7⟩
  exact ⟨aT, cT, aF, cF, h4, h5, h6, h7⟩

set_option linter.unusedSimpArgs false
set_option maxRecDepth 100000 in
set_option maxHeartbeats 4000000 in
theorem walk (a : Option Addr) (c : Nat) (bs : List Int) (w0 : World) (h : Rd w0 w0.heap.size a (bs.map (Value.int .u8))) (hb : ∀ n ∈ bs, (Lit.int .u8 n).wf = true) (m : bs.length ≤ maxLen) (hc : bs.length ≤ c) :
    Calls Try.prog 8 #[.slice a bs.length c] w0 fun e w' => e = .returned (.bool true) ∧ Below w0.heap.size w0 w' := by
  unfold maxLen at m
  by_cases hl : bs.length ≤ 1048576
  · go_enter Try.func8, Try.ntmps8
    go_wp2_with fail
    refine (DrawPutMarked_any a c _ bs _ h (Nat.le_refl _) hb hl hc).mono ?_
    rintro e w1 ⟨aA, cA, P, aB, cB, Q, rfl, p1, p2, hP40, hQ40, hA⟩
    clear h hb hl hc m
    obtain ⟨B, hBd⟩ : ∃ B, B = w1.heap.size := ⟨_, rfl⟩
    rw [← hBd] at p1 p2
    have hB1 : B ≤ w1.heap.size := by omega
    have hpl := pm_len P Q
    have hp16 := hpl.1
    have hb16 : (pmB P Q).length ≤ 16 := by omega
    clear hBd hpl
    cases hv : pmOk P Q with
    | false =>
      have HV := Lib.hid hv
      clear hv
      go_wp2_with fail
      refine (iPutMarked_any aA aB cA cB B B P Q _ p1 p2 (by omega) (by omega) (by omega) (by omega)).mono ?_
      rintro e w2 ⟨g1, g2, dg1, dg2, rfl, ⟨mg, mg1, mg2, gm, gp⟩, hb⟩
      replace p1 := p1.below (hb.mono (by omega))
      replace p2 := p2.below (hb.mono (by omega))
      replace hA := hA.trans (hb.mono hA.size)
      have hz2 := hb.size
      clear hb
      rw [HV.out]
      go_wp2_with fail
      obtain ⟨w3, hw⟩ : ∃ wq, wq = w2.alloc (.cells #[.slice g1 (pmL P Q).length dg1, .slice g2 (pmB P Q).length dg2] 28) := ⟨_, rfl⟩
      rw [← hw]
      have hb : Below w2.heap.size w2 w3 := hw ▸ (Below.refl _ _).alloc (Nat.le_refl _) _
      have bo : Blk w3 w2.heap.size 28 #[.slice g1 (pmL P Q).length dg1, .slice g2 (pmB P Q).length dg2] := hw ▸ Blk.new w2 _ _
      have hwboz : w2.heap.size + 1 = w3.heap.size := by rw [hw]; simp
      clear hw
      replace p1 := p1.below (hb.mono (by omega))
      replace p2 := p2.below (hb.mono (by omega))
      replace gm := gm.below (hb.mono gm.le)
      replace gp := gp.below (hb.mono gp.le)
      replace hA := hA.trans (hb.mono hA.size)
      have hz3 := hb.size
      clear hb
      have bo0c : w3.cell? ⟨w2.heap.size, 0, none⟩ = some (.slice g1 (pmL P Q).length dg1) := bo.cell 0
      have bo1c : w3.cell? ⟨w2.heap.size, 1, none⟩ = some (.slice g2 (pmB P Q).length dg2) := bo.cell 1
      refine (sPutMarked_any aA aB cA cB B B P Q _ p1 p2 (by omega) (by omega) (by omega) (by omega)).mono ?_
      rintro e w4 ⟨r1, dr1, r2, dr2, rfl, rp, rm, hb⟩
      replace p1 := p1.below (hb.mono (by omega))
      replace p2 := p2.below (hb.mono (by omega))
      replace gm := gm.below (hb.mono gm.le)
      replace gp := gp.below (hb.mono gp.le)
      replace bo := bo.below hb bo.lt
      replace bo0c : w4.cell? ⟨w2.heap.size, 0, none⟩ = some (.slice g1 (pmL P Q).length dg1) := bo.cell 0
      replace bo1c : w4.cell? ⟨w2.heap.size, 1, none⟩ = some (.slice g2 (pmB P Q).length dg2) := bo.cell 1
      replace hA := hA.trans (hb.mono hA.size)
      have hz4 := hb.size
      clear hb
      rw [HV.out]
      have bo0q : (w4.alloc (.cells #[.slice r1 (pmL P Q).length dr1, .slice r2 (pmB P Q).length dr2] 28)).cell? ⟨w2.heap.size, 0, none⟩ = some (.slice g1 (pmL P Q).length dg1) := cell_alloc bo0c
      have bo1q : (w4.alloc (.cells #[.slice r1 (pmL P Q).length dr1, .slice r2 (pmB P Q).length dr2] 28)).cell? ⟨w2.heap.size, 1, none⟩ = some (.slice g2 (pmB P Q).length dg2) := cell_alloc bo1c
      go_wp2_with fail
      clear bo0q bo1q
      obtain ⟨w5, hw⟩ : ∃ wq, wq = w4.alloc (.cells #[.slice r1 (pmL P Q).length dr1, .slice r2 (pmB P Q).length dr2] 28) := ⟨_, rfl⟩
      rw [← hw]
      have hb : Below w4.heap.size w4 w5 := hw ▸ (Below.refl _ _).alloc (Nat.le_refl _) _
      have bw : Blk w5 w4.heap.size 28 #[.slice r1 (pmL P Q).length dr1, .slice r2 (pmB P Q).length dr2] := hw ▸ Blk.new w4 _ _
      have hwbwz : w4.heap.size + 1 = w5.heap.size := by rw [hw]; simp
      clear hw
      replace p1 := p1.below (hb.mono (by omega))
      replace p2 := p2.below (hb.mono (by omega))
      replace gm := gm.below (hb.mono gm.le)
      replace gp := gp.below (hb.mono gp.le)
      replace rp := rp.below (hb.mono rp.le)
      replace rm := rm.below (hb.mono rm.le)
      replace bo := bo.below hb bo.lt
      replace bo0c : w5.cell? ⟨w2.heap.size, 0, none⟩ = some (.slice g1 (pmL P Q).length dg1) := bo.cell 0
      replace bo1c : w5.cell? ⟨w2.heap.size, 1, none⟩ = some (.slice g2 (pmB P Q).length dg2) := bo.cell 1
      replace hA := hA.trans (hb.mono hA.size)
      have hz5 := hb.size
      clear hb
      have bw0c : w5.cell? ⟨w4.heap.size, 0, none⟩ = some (.slice r1 (pmL P Q).length dr1) := bw.cell 0
      have bw1c : w5.cell? ⟨w4.heap.size, 1, none⟩ = some (.slice r2 (pmB P Q).length dr2) := bw.cell 1
      refine (equalMarked_same _ _ _ _ _ _ _ _ _ _ _ _ (pmL P Q) (pmB P Q) _ gp.rd gm.rd rp.rd rm.rd gp.le gm.le rp.le rm.le (by omega) (by omega)).mono ?_
      rintro e w6 ⟨rfl, hb⟩
      replace p1 := p1.below (hb.mono (by omega))
      replace p2 := p2.below (hb.mono (by omega))
      replace gm := gm.below (hb.mono gm.le)
      replace gp := gp.below (hb.mono gp.le)
      replace rp := rp.below (hb.mono rp.le)
      replace rm := rm.below (hb.mono rm.le)
      replace bo := bo.below hb bo.lt
      replace bo0c : w6.cell? ⟨w2.heap.size, 0, none⟩ = some (.slice g1 (pmL P Q).length dg1) := bo.cell 0
      replace bo1c : w6.cell? ⟨w2.heap.size, 1, none⟩ = some (.slice g2 (pmB P Q).length dg2) := bo.cell 1
      replace bw := bw.below hb bw.lt
      replace bw0c : w6.cell? ⟨w4.heap.size, 0, none⟩ = some (.slice r1 (pmL P Q).length dr1) := bw.cell 0
      replace bw1c : w6.cell? ⟨w4.heap.size, 1, none⟩ = some (.slice r2 (pmB P Q).length dr2) := bw.cell 1
      replace hA := hA.trans (hb.mono hA.size)
      have hz6 := hb.size
      clear hb
      go_wp2_with fail
      refine (equalMarked_same _ _ _ _ _ _ _ _ _ _ _ _ (pmL P Q) (pmB P Q) _ gp.rd gm.rd rp.rd rm.rd gp.le gm.le rp.le rm.le (by omega) (by omega)).mono ?_
      rintro e w7 ⟨rfl, hb⟩
      replace p1 := p1.below (hb.mono (by omega))
      replace p2 := p2.below (hb.mono (by omega))
      replace gm := gm.below (hb.mono gm.le)
      replace gp := gp.below (hb.mono gp.le)
      replace rp := rp.below (hb.mono rp.le)
      replace rm := rm.below (hb.mono rm.le)
      replace bo := bo.below hb bo.lt
      replace bo0c : w7.cell? ⟨w2.heap.size, 0, none⟩ = some (.slice g1 (pmL P Q).length dg1) := bo.cell 0
      replace bo1c : w7.cell? ⟨w2.heap.size, 1, none⟩ = some (.slice g2 (pmB P Q).length dg2) := bo.cell 1
      replace bw := bw.below hb bw.lt
      replace bw0c : w7.cell? ⟨w4.heap.size, 0, none⟩ = some (.slice r1 (pmL P Q).length dr1) := bw.cell 0
      replace bw1c : w7.cell? ⟨w4.heap.size, 1, none⟩ = some (.slice r2 (pmB P Q).length dr2) := bw.cell 1
      replace hA := hA.trans (hb.mono hA.size)
      have hz7 := hb.size
      clear hb
      go_wp2_with fail
      go_ret
      exact ⟨rfl, hA⟩
    | true =>
      have HV := Lib.hid hv
      clear hv
      go_wp2_with fail
      refine (iPutMarked_any aA aB cA cB B B P Q _ p1 p2 (by omega) (by omega) (by omega) (by omega)).mono ?_
      rintro e w2 ⟨g1, g2, dg1, dg2, rfl, ⟨mg, mg1, mg2, gm, gp⟩, hb⟩
      replace p1 := p1.below (hb.mono (by omega))
      replace p2 := p2.below (hb.mono (by omega))
      replace hA := hA.trans (hb.mono hA.size)
      have hz2 := hb.size
      clear hb
      rw [HV.out]
      go_wp2_with fail
      obtain ⟨w3, hw⟩ : ∃ wq, wq = w2.alloc (.cells #[.slice g1 (pmL P Q).length dg1, .slice g2 (pmB P Q).length dg2] 28) := ⟨_, rfl⟩
      rw [← hw]
      have hb : Below w2.heap.size w2 w3 := hw ▸ (Below.refl _ _).alloc (Nat.le_refl _) _
      have bo : Blk w3 w2.heap.size 28 #[.slice g1 (pmL P Q).length dg1, .slice g2 (pmB P Q).length dg2] := hw ▸ Blk.new w2 _ _
      have hwboz : w2.heap.size + 1 = w3.heap.size := by rw [hw]; simp
      clear hw
      replace p1 := p1.below (hb.mono (by omega))
      replace p2 := p2.below (hb.mono (by omega))
      replace gm := gm.below (hb.mono gm.le)
      replace gp := gp.below (hb.mono gp.le)
      replace hA := hA.trans (hb.mono hA.size)
      have hz3 := hb.size
      clear hb
      have bo0c : w3.cell? ⟨w2.heap.size, 0, none⟩ = some (.slice g1 (pmL P Q).length dg1) := bo.cell 0
      have bo1c : w3.cell? ⟨w2.heap.size, 1, none⟩ = some (.slice g2 (pmB P Q).length dg2) := bo.cell 1
      refine (sPutMarked_any aA aB cA cB B B P Q _ p1 p2 (by omega) (by omega) (by omega) (by omega)).mono ?_
      rintro e w4 ⟨r1, dr1, r2, dr2, rfl, rp, rm, hb⟩
      replace p1 := p1.below (hb.mono (by omega))
      replace p2 := p2.below (hb.mono (by omega))
      replace gm := gm.below (hb.mono gm.le)
      replace gp := gp.below (hb.mono gp.le)
      replace bo := bo.below hb bo.lt
      replace bo0c : w4.cell? ⟨w2.heap.size, 0, none⟩ = some (.slice g1 (pmL P Q).length dg1) := bo.cell 0
      replace bo1c : w4.cell? ⟨w2.heap.size, 1, none⟩ = some (.slice g2 (pmB P Q).length dg2) := bo.cell 1
      replace hA := hA.trans (hb.mono hA.size)
      have hz4 := hb.size
      clear hb
      rw [HV.out]
      have bo0q : (w4.alloc (.cells #[.slice r1 (pmL P Q).length dr1, .slice r2 (pmB P Q).length dr2] 28)).cell? ⟨w2.heap.size, 0, none⟩ = some (.slice g1 (pmL P Q).length dg1) := cell_alloc bo0c
      have bo1q : (w4.alloc (.cells #[.slice r1 (pmL P Q).length dr1, .slice r2 (pmB P Q).length dr2] 28)).cell? ⟨w2.heap.size, 1, none⟩ = some (.slice g2 (pmB P Q).length dg2) := cell_alloc bo1c
      go_wp2_with fail
      clear bo0q bo1q
      obtain ⟨w5, hw⟩ : ∃ wq, wq = w4.alloc (.cells #[.slice r1 (pmL P Q).length dr1, .slice r2 (pmB P Q).length dr2] 28) := ⟨_, rfl⟩
      rw [← hw]
      have hb : Below w4.heap.size w4 w5 := hw ▸ (Below.refl _ _).alloc (Nat.le_refl _) _
      have bw : Blk w5 w4.heap.size 28 #[.slice r1 (pmL P Q).length dr1, .slice r2 (pmB P Q).length dr2] := hw ▸ Blk.new w4 _ _
      have hwbwz : w4.heap.size + 1 = w5.heap.size := by rw [hw]; simp
      clear hw
      replace p1 := p1.below (hb.mono (by omega))
      replace p2 := p2.below (hb.mono (by omega))
      replace gm := gm.below (hb.mono gm.le)
      replace gp := gp.below (hb.mono gp.le)
      replace rp := rp.below (hb.mono rp.le)
      replace rm := rm.below (hb.mono rm.le)
      replace bo := bo.below hb bo.lt
      replace bo0c : w5.cell? ⟨w2.heap.size, 0, none⟩ = some (.slice g1 (pmL P Q).length dg1) := bo.cell 0
      replace bo1c : w5.cell? ⟨w2.heap.size, 1, none⟩ = some (.slice g2 (pmB P Q).length dg2) := bo.cell 1
      replace hA := hA.trans (hb.mono hA.size)
      have hz5 := hb.size
      clear hb
      have bw0c : w5.cell? ⟨w4.heap.size, 0, none⟩ = some (.slice r1 (pmL P Q).length dr1) := bw.cell 0
      have bw1c : w5.cell? ⟨w4.heap.size, 1, none⟩ = some (.slice r2 (pmB P Q).length dr2) := bw.cell 1
      refine (equalMarked_same _ _ _ _ _ _ _ _ _ _ _ _ (pmL P Q) (pmB P Q) _ gp.rd gm.rd rp.rd rm.rd gp.le gm.le rp.le rm.le (by omega) (by omega)).mono ?_
      rintro e w6 ⟨rfl, hb⟩
      replace p1 := p1.below (hb.mono (by omega))
      replace p2 := p2.below (hb.mono (by omega))
      replace gm := gm.below (hb.mono gm.le)
      replace gp := gp.below (hb.mono gp.le)
      replace rp := rp.below (hb.mono rp.le)
      replace rm := rm.below (hb.mono rm.le)
      replace bo := bo.below hb bo.lt
      replace bo0c : w6.cell? ⟨w2.heap.size, 0, none⟩ = some (.slice g1 (pmL P Q).length dg1) := bo.cell 0
      replace bo1c : w6.cell? ⟨w2.heap.size, 1, none⟩ = some (.slice g2 (pmB P Q).length dg2) := bo.cell 1
      replace bw := bw.below hb bw.lt
      replace bw0c : w6.cell? ⟨w4.heap.size, 0, none⟩ = some (.slice r1 (pmL P Q).length dr1) := bw.cell 0
      replace bw1c : w6.cell? ⟨w4.heap.size, 1, none⟩ = some (.slice r2 (pmB P Q).length dr2) := bw.cell 1
      replace hA := hA.trans (hb.mono hA.size)
      have hz6 := hb.size
      clear hb
      have HVM := Lib.hid (put_split HV.out).1
      go_wp2_with fail
      refine (split_back HV.out _ _ _ _ _ _ _ gp.rd gm.rd gp.le gm.le).mono ?_
      rintro e w7 ⟨aT, cT, aF, cF, rfl, oT, oF, hb⟩
      replace p1 := p1.below (hb.mono (by omega))
      replace p2 := p2.below (hb.mono (by omega))
      replace gm := gm.below (hb.mono gm.le)
      replace gp := gp.below (hb.mono gp.le)
      replace rp := rp.below (hb.mono rp.le)
      replace rm := rm.below (hb.mono rm.le)
      replace bo := bo.below hb bo.lt
      replace bo0c : w7.cell? ⟨w2.heap.size, 0, none⟩ = some (.slice g1 (pmL P Q).length dg1) := bo.cell 0
      replace bo1c : w7.cell? ⟨w2.heap.size, 1, none⟩ = some (.slice g2 (pmB P Q).length dg2) := bo.cell 1
      replace bw := bw.below hb bw.lt
      replace bw0c : w7.cell? ⟨w4.heap.size, 0, none⟩ = some (.slice r1 (pmL P Q).length dr1) := bw.cell 0
      replace bw1c : w7.cell? ⟨w4.heap.size, 1, none⟩ = some (.slice r2 (pmB P Q).length dr2) := bw.cell 1
      replace hA := hA.trans (hb.mono hA.size)
      have hz7 := hb.size
      clear hb
      go_wp2_with fail
      refine (equalInts_same _ _ _ _ _ _ P _ oT.rd p1 (by omega)).mono ?_
      rintro e w8 ⟨rfl, hd⟩
      have hb : Below w7.heap.size w7 w8 := hd.below _
      clear hd
      replace p1 := p1.below (hb.mono (by omega))
      replace p2 := p2.below (hb.mono (by omega))
      replace gm := gm.below (hb.mono gm.le)
      replace gp := gp.below (hb.mono gp.le)
      replace rp := rp.below (hb.mono rp.le)
      replace rm := rm.below (hb.mono rm.le)
      replace oT := oT.below (hb.mono oT.le)
      replace oF := oF.below (hb.mono oF.le)
      replace bo := bo.below hb bo.lt
      replace bo0c : w8.cell? ⟨w2.heap.size, 0, none⟩ = some (.slice g1 (pmL P Q).length dg1) := bo.cell 0
      replace bo1c : w8.cell? ⟨w2.heap.size, 1, none⟩ = some (.slice g2 (pmB P Q).length dg2) := bo.cell 1
      replace bw := bw.below hb bw.lt
      replace bw0c : w8.cell? ⟨w4.heap.size, 0, none⟩ = some (.slice r1 (pmL P Q).length dr1) := bw.cell 0
      replace bw1c : w8.cell? ⟨w4.heap.size, 1, none⟩ = some (.slice r2 (pmB P Q).length dr2) := bw.cell 1
      replace hA := hA.trans (hb.mono hA.size)
      have hz8 := hb.size
      clear hb
      go_wp2_with fail
      refine (equalInts_same _ _ _ _ _ _ Q _ oF.rd p2 (by omega)).mono ?_
      rintro e w9 ⟨rfl, hd⟩
      have hb : Below w8.heap.size w8 w9 := hd.below _
      clear hd
      replace p1 := p1.below (hb.mono (by omega))
      replace p2 := p2.below (hb.mono (by omega))
      replace gm := gm.below (hb.mono gm.le)
      replace gp := gp.below (hb.mono gp.le)
      replace rp := rp.below (hb.mono rp.le)
      replace rm := rm.below (hb.mono rm.le)
      replace oT := oT.below (hb.mono oT.le)
      replace oF := oF.below (hb.mono oF.le)
      replace bo := bo.below hb bo.lt
      replace bo0c : w9.cell? ⟨w2.heap.size, 0, none⟩ = some (.slice g1 (pmL P Q).length dg1) := bo.cell 0
      replace bo1c : w9.cell? ⟨w2.heap.size, 1, none⟩ = some (.slice g2 (pmB P Q).length dg2) := bo.cell 1
      replace bw := bw.below hb bw.lt
      replace bw0c : w9.cell? ⟨w4.heap.size, 0, none⟩ = some (.slice r1 (pmL P Q).length dr1) := bw.cell 0
      replace bw1c : w9.cell? ⟨w4.heap.size, 1, none⟩ = some (.slice r2 (pmB P Q).length dr2) := bw.cell 1
      replace hA := hA.trans (hb.mono hA.size)
      have hz9 := hb.size
      clear hb
      go_wp2_with fail
      refine (iValidMarked_any _ _ _ _ _ _ (pmL P Q) (pmB P Q) _ gp.rd gm.rd gp.le gm.le (by omega) (by omega)).mono ?_
      rintro e w10 ⟨rfl, hb⟩
      replace p1 := p1.below (hb.mono (by omega))
      replace p2 := p2.below (hb.mono (by omega))
      replace gm := gm.below (hb.mono gm.le)
      replace gp := gp.below (hb.mono gp.le)
      replace rp := rp.below (hb.mono rp.le)
      replace rm := rm.below (hb.mono rm.le)
      replace oT := oT.below (hb.mono oT.le)
      replace oF := oF.below (hb.mono oF.le)
      replace bo := bo.below hb bo.lt
      replace bo0c : w10.cell? ⟨w2.heap.size, 0, none⟩ = some (.slice g1 (pmL P Q).length dg1) := bo.cell 0
      replace bo1c : w10.cell? ⟨w2.heap.size, 1, none⟩ = some (.slice g2 (pmB P Q).length dg2) := bo.cell 1
      replace bw := bw.below hb bw.lt
      replace bw0c : w10.cell? ⟨w4.heap.size, 0, none⟩ = some (.slice r1 (pmL P Q).length dr1) := bw.cell 0
      replace bw1c : w10.cell? ⟨w4.heap.size, 1, none⟩ = some (.slice r2 (pmB P Q).length dr2) := bw.cell 1
      replace hA := hA.trans (hb.mono hA.size)
      have hz10 := hb.size
      clear hb
      rw [HVM.out]
      go_wp2_with fail
      go_ret
      exact ⟨rfl, hA⟩
  · have hl' : 1048576 < bs.length := by omega
    go_enter Try.func8, Try.ntmps8
    go_wp2_with fail
    go_ret
    exact ⟨rfl, Below.refl _ _⟩

theorem own : ownKnob Try.prog.godebug = none := by kernel_rfl
theorem laidOut : laidOutB Try.prog = true := by kernel_rfl

set_option maxRecDepth 100000 in
theorem lifted (os : Os) (started : os.Started) (H : Type) (enc : TypeId × Value → H) :
    ReturnsInHanded {} Try.checked os 8 .any (Rows.fnPutMarkedSpec.pre6 enc Try.prog Try.f8 Rows.fnPutMarkedRow.domain false) (Rows.fnPutMarkedSpec.post enc Try.prog Try.f8 false true false false) := by
  refine returnsInHanded_of_change (C := Try.checked) own started (by kernel_rfl) Try.func8
    (ChangeSpec.witness6 (enc := enc) (C := Try.checked) false ⟨#[], #[.slice none 0 0], []⟩ 8 (by kernel_rfl) (by kernel_rfl) (by kernel_rfl) (by kernel_rfl)) ?_
  intro W base args ds gs before hval0 hW hcnd _
  have hval : ∀ (j : Nat) t v, Try.f8.params[j]? = some t → args[j]? = some v → Value.okWide Try.prog W .any base t v := hval0
  have hW' := hW
  obtain ⟨p, q, hA0, hV, rfl, hfz, hnd⟩ := hW
  have hA : DataW.TrodAll enc Try.prog W 0 (fun _ => true) true Try.f8.params.toList args.toList ds p := hA0
  rw [Try.params8] at hA hval
  obtain ⟨v0, vs0, d0, ds0, p0, q0, hargs, rfl, rfl, h0, r0⟩ := trodAll_cons hA
  obtain ⟨rfl, rfl, rfl⟩ := trodAll_nil r0
  obtain rfl : args = #[v0] := by cases args; simp_all
  obtain ⟨rfl, rfl⟩ := trodVars_none hV
  obtain ⟨a0, len0, cap0, rfl⟩ := okWide_slice Try.underlying32 (hval 0 32 v0 rfl rfl)
  have k0 := h0
  have lt0 : ∀ x ∈ p0, x.block < W.heap.size := by obtain ⟨m, hm⟩ := k0; exact DataW.trod_lt m _ _ _ hm
  obtain ⟨z0, w0⟩ : ∃ zs, IsRow .u8 W a0 len0 cap0 zs := by
    obtain ⟨fuel, hf⟩ := h0
    rcases open_ints Try.underlying32 Try.underlying5 (by kernel_rfl) hf with ⟨hcs, _⟩ | ⟨x, l, c, zs, hcs, _, hl, hm, hz, _, hcell, hwz⟩
    · simp [Value.cells] at hcs
      obtain ⟨rfl, rfl, rfl⟩ := hcs
      exact ⟨[], .inl ⟨rfl, rfl, rfl, rfl⟩⟩
    · simp [Value.cells] at hcs
      obtain ⟨rfl, rfl, rfl⟩ := hcs
      exact ⟨zs, .inr ⟨_, rfl, hl, hm, by simpa using hz, hcell, hwz⟩⟩
  have lc0 := w0.lc
  obtain ⟨L0, rfl, R0, wf0, m0⟩ := w0.rd
  clear hA0 hval0
  refine (walk a0 cap0 L0 W R0 wf0 m0 (by simpa using lc0)).mono fun e W' ⟨he, bel⟩ => ?_
  subst he
  exact ⟨_, rfl, _, _, _, [], _, [], hW', trodAll_mk1 (shut_bool Try.underlying4 _), (trodAll_cons_mk (Below.trod laidOut (by kernel_rfl) (of_decide_eq_true (by kernel_rfl)) k0 bel lt0) trodAll_mk0), rfl, bel.frame _, fun h => by cases h⟩

theorem over : Rows.fnPutMarkedRow.holds Try.pinned (OpenSpec.ofChange Rows.fnPutMarkedSpec) :=
  OpenClaim.holds_of_wide 8 Try.f8 rfl rfl rfl rfl rfl rfl rfl ⟨rfl, rfl, rfl, rfl, rfl⟩ rfl rfl rfl rfl rfl (by kernel_rfl) Try.func8 (by kernel_rfl)
    (of_decide_eq_true (by kernel_rfl)) (by unfold Func.isWrapper; first | (rw [if_pos (by decide +kernel)]; kernel_rfl) | (rw [if_neg (by decide +kernel)]; exact ⟨rfl, rfl⟩))
    (fun os started H enc _ => lifted os started H enc)

/-- the given statement -/
theorem proved : Rows.FnPutMarkedSaid := over
end Go.Proofs.Ytbbbfaollcklkaa.fnPutMarked
