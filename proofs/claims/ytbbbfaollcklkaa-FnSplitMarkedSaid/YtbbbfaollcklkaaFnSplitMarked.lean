/-
  'laws.FnSplitMarked' returns true for every code, and the code reads as it did. No condition.
-/
import Derived.Test.YtbbbfaollcklkaaRows
import Derived.Test.YtbbbfaollcklkaaZp1
import Derived.Test.YtbbbfaollcklkaaZp2
import Derived.Test.YtbbbfaollcklkaaZp3
import Derived.Test.YtbbbfaollcklkaaZp4
import Derived.Test.YtbbbfaollcklkaaZp5
import Derived.Test.YtbbbfaollcklkaaZp6
import Derived.Test.YtbbbfaollcklkaaZp7
import Derived.Test.YtbbbfaollcklkaaZp8
import Derived.Test.YtbbbfaollcklkaaZp9
import Derived.Test.YtbbbfaollcklkaaZp10
import Derived.Test.YtbbbfaollcklkaaZp11
import Derived.Test.YtbbbfaollcklkaaZp12
import Derived.Test.YtbbbfaollcklkaaZq1
import Derived.Test.YtbbbfaollcklkaaZq2
import Derived.Lib.SmallJoins
import Derived.RegionTactic
import Derived.WalkKit
import Derived.ProofKit
import Derived.OpenShut
import Derived.ShutString
import Derived.ChangeOld
import Derived.Below
namespace Go.Proofs.Ytbbbfaollcklkaa.fnSplitMarked
open Go.ChangeShapes Go.WideShapes Go.ChangeAt Go.RowKit NP
open Go.ChangeMaps (open_string shut_string)
set_option linter.unusedVariables false

theorem put_back {L : List Int} {T : List Bool} (hv : vmk L T = true) (a b : Option Addr) (ca cb Ba Bb : Nat) (w : World) (h : Rd w Ba a (ints (selF true L T))) (hq : Rd w Bb b (ints (selF false L T))) (hBa : Ba ≤ w.heap.size) (hBb : Bb ≤ w.heap.size) :
    Calls Try.prog 18 #[.slice a (selF true L T).length ca, .slice b (selF false L T).length cb] w fun e w' => ∃ b1 b2 d1 d2, e = .returned (.tuple #[.agg #[.slice b1 L.length d1, .slice b2 T.length d2], .bool true]) ∧ (∃ m, w.heap.size ≤ m ∧ m ≤ w'.heap.size ∧ Own w' w.heap.size m 4 (.slice b2 T.length d2) (bls T) ∧ Own w' m w'.heap.size 3 (.slice b1 L.length d1) (ints L)) ∧ Below w.heap.size w w' := by
  have h2 := iPutMarked_any a b ca cb Ba Bb (selF true L T) (selF false L T) w h hq hBa hBb (by have := selF_len true L T; omega) (by have := selF_len false L T; omega)
  obtain ⟨e1, e2, e3⟩ := split_put hv
  rw [e1, e2, e3] at h2
  exact h2

theorem split_kinds {L : List Int} {T : List Bool} (h : vmk L T = true) : kindF (⟨#[100, 105, 115, 116, 105, 110, 99, 116]⟩ : ByteArray).data.toList (selF true L T) = true ∧ valid (selF false L T) = true := by
  have h1 := (split_put h).1
  unfold pmOk at h1
  rw [Bool.and_eq_true] at h1
  obtain ⟨hA, hB, _⟩ := two_out h1.1
  exact ⟨by rw [kindF_dist _ hA]; exact h1.2, hB⟩

set_option linter.unusedSimpArgs false
set_option maxRecDepth 100000 in
set_option maxHeartbeats 4000000 in
theorem walk (a : Option Addr) (c : Nat) (bs : List Int) (w0 : World) (h : Rd w0 w0.heap.size a (bs.map (Value.int .u8))) (hb : ∀ n ∈ bs, (Lit.int .u8 n).wf = true) (m : bs.length ≤ maxLen) (hc : bs.length ≤ c) :
    Calls Try.prog 6 #[.slice a bs.length c] w0 fun e w' => e = .returned (.bool true) ∧ Below w0.heap.size w0 w' := by
  unfold maxLen at m
  by_cases hl : bs.length ≤ 1048576
  · go_enter Try.func6, Try.ntmps6
    go_wp2_with fail
    refine (DrawSplitMarked_any a c _ bs _ h (Nat.le_refl _) hb hl hc).mono ?_
    rintro e w1 ⟨L, T, a1, a2, c1, c2, rfl, ⟨p1, p2⟩, hL, hT, hA⟩
    clear h hb hl hc m
    obtain ⟨B, hBd⟩ : ∃ B, B = w1.heap.size := ⟨_, rfl⟩
    rw [← hBd] at p1 p2
    have hB1 : B ≤ w1.heap.size := by omega
    clear hBd
    go_wp2_with fail
    obtain ⟨w2, hw⟩ : ∃ wq, wq = w1.alloc (.cells #[.slice a1 L.length c1, .slice a2 T.length c2] 28) := ⟨_, rfl⟩
    rw [← hw]
    have hb : Below w1.heap.size w1 w2 := hw ▸ (Below.refl _ _).alloc (Nat.le_refl _) _
    have bx : Blk w2 w1.heap.size 28 #[.slice a1 L.length c1, .slice a2 T.length c2] := hw ▸ Blk.new w1 _ _
    have hwbxz : w1.heap.size + 1 = w2.heap.size := by rw [hw]; simp
    clear hw
    replace p1 := p1.below (hb.mono (by omega))
    replace p2 := p2.below (hb.mono (by omega))
    replace hA := hA.trans (hb.mono hA.size)
    have hz2 := hb.size
    clear hb
    have bx0c : w2.cell? ⟨w1.heap.size, 0, none⟩ = some (.slice a1 L.length c1) := bx.cell 0
    have bx1c : w2.cell? ⟨w1.heap.size, 1, none⟩ = some (.slice a2 T.length c2) := bx.cell 1
    cases hv : vmk L T with
    | false =>
      have HV := Lib.hid hv
      clear hv
      refine (iSplitMarked_any a1 a2 c1 c2 B B L T _ p1 p2 (by omega) (by omega) (by omega) (by omega)).mono ?_
      rintro e w3 ⟨aT, cT, aF, cF, rfl, oT, oF, -, hb⟩
      replace p1 := p1.below (hb.mono (by omega))
      replace p2 := p2.below (hb.mono (by omega))
      replace bx := bx.below hb bx.lt
      replace bx0c : w3.cell? ⟨w1.heap.size, 0, none⟩ = some (.slice a1 L.length c1) := bx.cell 0
      replace bx1c : w3.cell? ⟨w1.heap.size, 1, none⟩ = some (.slice a2 T.length c2) := bx.cell 1
      replace hA := hA.trans (hb.mono hA.size)
      have hz3 := hb.size
      clear hb
      go_wp2_with fail
      refine (sSplitMarked_any a1 a2 c1 c2 B B L T _ p1 p2 (by omega) (by omega) (by omega) (by omega)).mono ?_
      rintro e w4 ⟨aT2, cT2, aF2, cF2, rfl, eT, eF, hb⟩
      replace p1 := p1.below (hb.mono (by omega))
      replace p2 := p2.below (hb.mono (by omega))
      replace oT := oT.below (hb.mono oT.le)
      replace oF := oF.below (hb.mono oF.le)
      replace bx := bx.below hb bx.lt
      replace bx0c : w4.cell? ⟨w1.heap.size, 0, none⟩ = some (.slice a1 L.length c1) := bx.cell 0
      replace bx1c : w4.cell? ⟨w1.heap.size, 1, none⟩ = some (.slice a2 T.length c2) := bx.cell 1
      replace hA := hA.trans (hb.mono hA.size)
      have hz4 := hb.size
      clear hb
      go_wp2_with fail
      refine (equalInts_same _ _ _ _ _ _ (selF true L T) _ oT.rd eT.rd (by have := selF_len true L T; omega)).mono ?_
      rintro e w5 ⟨rfl, hd⟩
      have hb : Below w4.heap.size w4 w5 := hd.below _
      clear hd
      replace p1 := p1.below (hb.mono (by omega))
      replace p2 := p2.below (hb.mono (by omega))
      replace oT := oT.below (hb.mono oT.le)
      replace oF := oF.below (hb.mono oF.le)
      replace eT := eT.below (hb.mono eT.le)
      replace eF := eF.below (hb.mono eF.le)
      replace bx := bx.below hb bx.lt
      replace bx0c : w5.cell? ⟨w1.heap.size, 0, none⟩ = some (.slice a1 L.length c1) := bx.cell 0
      replace bx1c : w5.cell? ⟨w1.heap.size, 1, none⟩ = some (.slice a2 T.length c2) := bx.cell 1
      replace hA := hA.trans (hb.mono hA.size)
      have hz5 := hb.size
      clear hb
      go_wp2_with fail
      refine (equalInts_same _ _ _ _ _ _ (selF false L T) _ oF.rd eF.rd (by have := selF_len false L T; omega)).mono ?_
      rintro e w6 ⟨rfl, hd⟩
      have hb : Below w5.heap.size w5 w6 := hd.below _
      clear hd
      replace p1 := p1.below (hb.mono (by omega))
      replace p2 := p2.below (hb.mono (by omega))
      replace oT := oT.below (hb.mono oT.le)
      replace oF := oF.below (hb.mono oF.le)
      replace eT := eT.below (hb.mono eT.le)
      replace eF := eF.below (hb.mono eF.le)
      replace bx := bx.below hb bx.lt
      replace bx0c : w6.cell? ⟨w1.heap.size, 0, none⟩ = some (.slice a1 L.length c1) := bx.cell 0
      replace bx1c : w6.cell? ⟨w1.heap.size, 1, none⟩ = some (.slice a2 T.length c2) := bx.cell 1
      replace hA := hA.trans (hb.mono hA.size)
      have hz6 := hb.size
      clear hb
      go_wp2_with fail
      refine (iValidMarked_any a1 a2 c1 c2 B B L T _ p1 p2 (by omega) (by omega) (by omega) (by omega)).mono ?_
      rintro e w7 ⟨rfl, hb⟩
      replace p1 := p1.below (hb.mono (by omega))
      replace p2 := p2.below (hb.mono (by omega))
      replace oT := oT.below (hb.mono oT.le)
      replace oF := oF.below (hb.mono oF.le)
      replace eT := eT.below (hb.mono eT.le)
      replace eF := eF.below (hb.mono eF.le)
      replace bx := bx.below hb bx.lt
      replace bx0c : w7.cell? ⟨w1.heap.size, 0, none⟩ = some (.slice a1 L.length c1) := bx.cell 0
      replace bx1c : w7.cell? ⟨w1.heap.size, 1, none⟩ = some (.slice a2 T.length c2) := bx.cell 1
      replace hA := hA.trans (hb.mono hA.size)
      have hz7 := hb.size
      clear hb
      rw [HV.out]
      go_wp2_with fail
      refine (equalInts_same _ _ _ _ _ _ (selF true L T) _ oT.rd eT.rd (by have := selF_len true L T; omega)).mono ?_
      rintro e w8 ⟨rfl, hd⟩
      have hb : Below w7.heap.size w7 w8 := hd.below _
      clear hd
      replace p1 := p1.below (hb.mono (by omega))
      replace p2 := p2.below (hb.mono (by omega))
      replace oT := oT.below (hb.mono oT.le)
      replace oF := oF.below (hb.mono oF.le)
      replace eT := eT.below (hb.mono eT.le)
      replace eF := eF.below (hb.mono eF.le)
      replace bx := bx.below hb bx.lt
      replace bx0c : w8.cell? ⟨w1.heap.size, 0, none⟩ = some (.slice a1 L.length c1) := bx.cell 0
      replace bx1c : w8.cell? ⟨w1.heap.size, 1, none⟩ = some (.slice a2 T.length c2) := bx.cell 1
      replace hA := hA.trans (hb.mono hA.size)
      have hz8 := hb.size
      clear hb
      go_wp2_with fail
      refine (equalInts_same _ _ _ _ _ _ (selF false L T) _ oF.rd eF.rd (by have := selF_len false L T; omega)).mono ?_
      rintro e w9 ⟨rfl, hd⟩
      have hb : Below w8.heap.size w8 w9 := hd.below _
      clear hd
      replace p1 := p1.below (hb.mono (by omega))
      replace p2 := p2.below (hb.mono (by omega))
      replace oT := oT.below (hb.mono oT.le)
      replace oF := oF.below (hb.mono oF.le)
      replace eT := eT.below (hb.mono eT.le)
      replace eF := eF.below (hb.mono eF.le)
      replace bx := bx.below hb bx.lt
      replace bx0c : w9.cell? ⟨w1.heap.size, 0, none⟩ = some (.slice a1 L.length c1) := bx.cell 0
      replace bx1c : w9.cell? ⟨w1.heap.size, 1, none⟩ = some (.slice a2 T.length c2) := bx.cell 1
      replace hA := hA.trans (hb.mono hA.size)
      have hz9 := hb.size
      clear hb
      go_wp2_with fail
      go_ret
      exact ⟨rfl, hA⟩
    | true =>
      have HV := Lib.hid hv
      clear hv
      obtain ⟨hkd, hvf⟩ := split_kinds HV.out
      have HKD := Lib.hid hkd
      have HVF := Lib.hid hvf
      clear hkd hvf
      refine (iSplitMarked_any a1 a2 c1 c2 B B L T _ p1 p2 (by omega) (by omega) (by omega) (by omega)).mono ?_
      rintro e w3 ⟨aT, cT, aF, cF, rfl, oT, oF, -, hb⟩
      replace p1 := p1.below (hb.mono (by omega))
      replace p2 := p2.below (hb.mono (by omega))
      replace bx := bx.below hb bx.lt
      replace bx0c : w3.cell? ⟨w1.heap.size, 0, none⟩ = some (.slice a1 L.length c1) := bx.cell 0
      replace bx1c : w3.cell? ⟨w1.heap.size, 1, none⟩ = some (.slice a2 T.length c2) := bx.cell 1
      replace hA := hA.trans (hb.mono hA.size)
      have hz3 := hb.size
      clear hb
      go_wp2_with fail
      refine (sSplitMarked_any a1 a2 c1 c2 B B L T _ p1 p2 (by omega) (by omega) (by omega) (by omega)).mono ?_
      rintro e w4 ⟨aT2, cT2, aF2, cF2, rfl, eT, eF, hb⟩
      replace p1 := p1.below (hb.mono (by omega))
      replace p2 := p2.below (hb.mono (by omega))
      replace oT := oT.below (hb.mono oT.le)
      replace oF := oF.below (hb.mono oF.le)
      replace bx := bx.below hb bx.lt
      replace bx0c : w4.cell? ⟨w1.heap.size, 0, none⟩ = some (.slice a1 L.length c1) := bx.cell 0
      replace bx1c : w4.cell? ⟨w1.heap.size, 1, none⟩ = some (.slice a2 T.length c2) := bx.cell 1
      replace hA := hA.trans (hb.mono hA.size)
      have hz4 := hb.size
      clear hb
      go_wp2_with fail
      refine (equalInts_same _ _ _ _ _ _ (selF true L T) _ oT.rd eT.rd (by have := selF_len true L T; omega)).mono ?_
      rintro e w5 ⟨rfl, hd⟩
      have hb : Below w4.heap.size w4 w5 := hd.below _
      clear hd
      replace p1 := p1.below (hb.mono (by omega))
      replace p2 := p2.below (hb.mono (by omega))
      replace oT := oT.below (hb.mono oT.le)
      replace oF := oF.below (hb.mono oF.le)
      replace eT := eT.below (hb.mono eT.le)
      replace eF := eF.below (hb.mono eF.le)
      replace bx := bx.below hb bx.lt
      replace bx0c : w5.cell? ⟨w1.heap.size, 0, none⟩ = some (.slice a1 L.length c1) := bx.cell 0
      replace bx1c : w5.cell? ⟨w1.heap.size, 1, none⟩ = some (.slice a2 T.length c2) := bx.cell 1
      replace hA := hA.trans (hb.mono hA.size)
      have hz5 := hb.size
      clear hb
      go_wp2_with fail
      refine (equalInts_same _ _ _ _ _ _ (selF false L T) _ oF.rd eF.rd (by have := selF_len false L T; omega)).mono ?_
      rintro e w6 ⟨rfl, hd⟩
      have hb : Below w5.heap.size w5 w6 := hd.below _
      clear hd
      replace p1 := p1.below (hb.mono (by omega))
      replace p2 := p2.below (hb.mono (by omega))
      replace oT := oT.below (hb.mono oT.le)
      replace oF := oF.below (hb.mono oF.le)
      replace eT := eT.below (hb.mono eT.le)
      replace eF := eF.below (hb.mono eF.le)
      replace bx := bx.below hb bx.lt
      replace bx0c : w6.cell? ⟨w1.heap.size, 0, none⟩ = some (.slice a1 L.length c1) := bx.cell 0
      replace bx1c : w6.cell? ⟨w1.heap.size, 1, none⟩ = some (.slice a2 T.length c2) := bx.cell 1
      replace hA := hA.trans (hb.mono hA.size)
      have hz6 := hb.size
      clear hb
      go_wp2_with fail
      refine (iValidMarked_any a1 a2 c1 c2 B B L T _ p1 p2 (by omega) (by omega) (by omega) (by omega)).mono ?_
      rintro e w7 ⟨rfl, hb⟩
      replace p1 := p1.below (hb.mono (by omega))
      replace p2 := p2.below (hb.mono (by omega))
      replace oT := oT.below (hb.mono oT.le)
      replace oF := oF.below (hb.mono oF.le)
      replace eT := eT.below (hb.mono eT.le)
      replace eF := eF.below (hb.mono eF.le)
      replace bx := bx.below hb bx.lt
      replace bx0c : w7.cell? ⟨w1.heap.size, 0, none⟩ = some (.slice a1 L.length c1) := bx.cell 0
      replace bx1c : w7.cell? ⟨w1.heap.size, 1, none⟩ = some (.slice a2 T.length c2) := bx.cell 1
      replace hA := hA.trans (hb.mono hA.size)
      have hz7 := hb.size
      clear hb
      rw [HV.out]
      go_wp2_with fail
      refine (put_back HV.out aT aF cT cF _ _ _ oT.rd oF.rd oT.le oF.le).mono ?_
      rintro e w8 ⟨k1, k2, d1, d2, rfl, ⟨mk, mk1, mk2, om, op⟩, hb⟩
      replace p1 := p1.below (hb.mono (by omega))
      replace p2 := p2.below (hb.mono (by omega))
      replace oT := oT.below (hb.mono oT.le)
      replace oF := oF.below (hb.mono oF.le)
      replace eT := eT.below (hb.mono eT.le)
      replace eF := eF.below (hb.mono eF.le)
      replace bx := bx.below hb bx.lt
      replace bx0c : w8.cell? ⟨w1.heap.size, 0, none⟩ = some (.slice a1 L.length c1) := bx.cell 0
      replace bx1c : w8.cell? ⟨w1.heap.size, 1, none⟩ = some (.slice a2 T.length c2) := bx.cell 1
      replace hA := hA.trans (hb.mono hA.size)
      have hz8 := hb.size
      clear hb
      have bx0q : (w8.alloc (.cells #[.slice k1 L.length d1, .slice k2 T.length d2] 28)).cell? ⟨w1.heap.size, 0, none⟩ = some (.slice a1 L.length c1) := cell_alloc bx0c
      have bx1q : (w8.alloc (.cells #[.slice k1 L.length d1, .slice k2 T.length d2] 28)).cell? ⟨w1.heap.size, 1, none⟩ = some (.slice a2 T.length c2) := cell_alloc bx1c
      go_wp2_with fail
      clear bx0q bx1q
      obtain ⟨w9, hw⟩ : ∃ wq, wq = w8.alloc (.cells #[.slice k1 L.length d1, .slice k2 T.length d2] 28) := ⟨_, rfl⟩
      rw [← hw]
      have hb : Below w8.heap.size w8 w9 := hw ▸ (Below.refl _ _).alloc (Nat.le_refl _) _
      have bk : Blk w9 w8.heap.size 28 #[.slice k1 L.length d1, .slice k2 T.length d2] := hw ▸ Blk.new w8 _ _
      have hwbkz : w8.heap.size + 1 = w9.heap.size := by rw [hw]; simp
      clear hw
      replace p1 := p1.below (hb.mono (by omega))
      replace p2 := p2.below (hb.mono (by omega))
      replace oT := oT.below (hb.mono oT.le)
      replace oF := oF.below (hb.mono oF.le)
      replace eT := eT.below (hb.mono eT.le)
      replace eF := eF.below (hb.mono eF.le)
      replace om := om.below (hb.mono om.le)
      replace op := op.below (hb.mono op.le)
      replace bx := bx.below hb bx.lt
      replace bx0c : w9.cell? ⟨w1.heap.size, 0, none⟩ = some (.slice a1 L.length c1) := bx.cell 0
      replace bx1c : w9.cell? ⟨w1.heap.size, 1, none⟩ = some (.slice a2 T.length c2) := bx.cell 1
      replace hA := hA.trans (hb.mono hA.size)
      have hz9 := hb.size
      clear hb
      have bk0c : w9.cell? ⟨w8.heap.size, 0, none⟩ = some (.slice k1 L.length d1) := bk.cell 0
      have bk1c : w9.cell? ⟨w8.heap.size, 1, none⟩ = some (.slice k2 T.length d2) := bk.cell 1
      refine (equalMarked_same _ _ _ _ _ _ _ _ _ _ _ _ L T _ op.rd om.rd p1 p2 op.le om.le (by omega) (by omega) (by omega) (by omega)).mono ?_
      rintro e w10 ⟨rfl, hb⟩
      replace p1 := p1.below (hb.mono (by omega))
      replace p2 := p2.below (hb.mono (by omega))
      replace oT := oT.below (hb.mono oT.le)
      replace oF := oF.below (hb.mono oF.le)
      replace eT := eT.below (hb.mono eT.le)
      replace eF := eF.below (hb.mono eF.le)
      replace om := om.below (hb.mono om.le)
      replace op := op.below (hb.mono op.le)
      replace bx := bx.below hb bx.lt
      replace bx0c : w10.cell? ⟨w1.heap.size, 0, none⟩ = some (.slice a1 L.length c1) := bx.cell 0
      replace bx1c : w10.cell? ⟨w1.heap.size, 1, none⟩ = some (.slice a2 T.length c2) := bx.cell 1
      replace bk := bk.below hb bk.lt
      replace bk0c : w10.cell? ⟨w8.heap.size, 0, none⟩ = some (.slice k1 L.length d1) := bk.cell 0
      replace bk1c : w10.cell? ⟨w8.heap.size, 1, none⟩ = some (.slice k2 T.length d2) := bk.cell 1
      replace hA := hA.trans (hb.mono hA.size)
      have hz10 := hb.size
      clear hb
      go_wp2_with fail
      refine (iIsKind_any ⟨#[100, 105, 115, 116, 105, 110, 99, 116]⟩ (by decide) aT cT _ (selF true L T) _ oT.rd oT.le (by have := selF_len true L T; omega)).mono ?_
      rintro e w11 ⟨rfl, hb⟩
      replace p1 := p1.below (hb.mono (by omega))
      replace p2 := p2.below (hb.mono (by omega))
      replace oT := oT.below (hb.mono oT.le)
      replace oF := oF.below (hb.mono oF.le)
      replace eT := eT.below (hb.mono eT.le)
      replace eF := eF.below (hb.mono eF.le)
      replace om := om.below (hb.mono om.le)
      replace op := op.below (hb.mono op.le)
      replace bx := bx.below hb bx.lt
      replace bx0c : w11.cell? ⟨w1.heap.size, 0, none⟩ = some (.slice a1 L.length c1) := bx.cell 0
      replace bx1c : w11.cell? ⟨w1.heap.size, 1, none⟩ = some (.slice a2 T.length c2) := bx.cell 1
      replace bk := bk.below hb bk.lt
      replace bk0c : w11.cell? ⟨w8.heap.size, 0, none⟩ = some (.slice k1 L.length d1) := bk.cell 0
      replace bk1c : w11.cell? ⟨w8.heap.size, 1, none⟩ = some (.slice k2 T.length d2) := bk.cell 1
      replace hA := hA.trans (hb.mono hA.size)
      have hz11 := hb.size
      clear hb
      rw [HKD.out]
      go_wp2_with fail
      refine (iValidParts_any aF cF _ (selF false L T) _ oF.rd oF.le (by have := selF_len false L T; omega)).mono ?_
      rintro e w12 ⟨rfl, hb⟩
      replace p1 := p1.below (hb.mono (by omega))
      replace p2 := p2.below (hb.mono (by omega))
      replace oT := oT.below (hb.mono oT.le)
      replace oF := oF.below (hb.mono oF.le)
      replace eT := eT.below (hb.mono eT.le)
      replace eF := eF.below (hb.mono eF.le)
      replace om := om.below (hb.mono om.le)
      replace op := op.below (hb.mono op.le)
      replace bx := bx.below hb bx.lt
      replace bx0c : w12.cell? ⟨w1.heap.size, 0, none⟩ = some (.slice a1 L.length c1) := bx.cell 0
      replace bx1c : w12.cell? ⟨w1.heap.size, 1, none⟩ = some (.slice a2 T.length c2) := bx.cell 1
      replace bk := bk.below hb bk.lt
      replace bk0c : w12.cell? ⟨w8.heap.size, 0, none⟩ = some (.slice k1 L.length d1) := bk.cell 0
      replace bk1c : w12.cell? ⟨w8.heap.size, 1, none⟩ = some (.slice k2 T.length d2) := bk.cell 1
      replace hA := hA.trans (hb.mono hA.size)
      have hz12 := hb.size
      clear hb
      rw [HVF.out]
      go_wp2_with fail
      go_ret
      exact ⟨rfl, hA⟩
  · have hl' : 1048576 < bs.length := by omega
    go_enter Try.func6, Try.ntmps6
    go_wp2_with fail
    go_ret
    exact ⟨rfl, Below.refl _ _⟩

theorem own : ownKnob Try.prog.godebug = none := by kernel_rfl
theorem laidOut : laidOutB Try.prog = true := by kernel_rfl

set_option maxRecDepth 100000 in
theorem lifted (os : Os) (started : os.Started) (H : Type) (enc : TypeId × Value → H) :
    ReturnsInHanded {} Try.checked os 6 .any (Rows.fnSplitMarkedSpec.pre6 enc Try.prog Try.f6 Rows.fnSplitMarkedRow.domain false) (Rows.fnSplitMarkedSpec.post enc Try.prog Try.f6 false true false false) := by
  refine returnsInHanded_of_change (C := Try.checked) own started (by kernel_rfl) Try.func6
    (ChangeSpec.witness6 (enc := enc) (C := Try.checked) false ⟨#[], #[.slice none 0 0], []⟩ 8 (by kernel_rfl) (by kernel_rfl) (by kernel_rfl) (by kernel_rfl)) ?_
  intro W base args ds gs before hval0 hW hcnd _
  have hval : ∀ (j : Nat) t v, Try.f6.params[j]? = some t → args[j]? = some v → Value.okWide Try.prog W .any base t v := hval0
  have hW' := hW
  obtain ⟨p, q, hA0, hV, rfl, hfz, hnd⟩ := hW
  have hA : DataW.TrodAll enc Try.prog W 0 (fun _ => true) true Try.f6.params.toList args.toList ds p := hA0
  rw [Try.params6] at hA hval
  obtain ⟨v0, vs0, d0, ds0, p0, q0, hargs, rfl, rfl, h0, r0⟩ := trodAll_cons hA
  obtain ⟨rfl, rfl, rfl⟩ := trodAll_nil r0
  obtain rfl : args = #[v0] := by cases args; simp_all
  obtain ⟨rfl, rfl⟩ := trodVars_none hV
  obtain ⟨a0, len0, cap0, rfl⟩ := okWide_slice Try.underlying32 (hval 0 32 v0 rfl rfl)
  have k0 := h0
  have lt0 : ∀ x ∈ p0, x.block < W.heap.size := by obtain ⟨m, hm⟩ := k0; exact DataW.trod_lt m _ _ _ hm
  obtain ⟨z0, w0⟩ : ∃ zs, IsRow .u8 W a0 len0 cap0 zs := by
    obtain ⟨fuel, hf⟩ := h0
    rcases open_ints Try.underlying32 Try.underlying5 (by kernel_rfl) hf with ⟨hcs, _⟩ | ⟨x, l, c, zs, hcs, _, hl, hm, hz, _, hcell, hwz⟩
    · simp [Value.cells] at hcs
      obtain ⟨rfl, rfl, rfl⟩ := hcs
      exact ⟨[], .inl ⟨rfl, rfl, rfl, rfl⟩⟩
    · simp [Value.cells] at hcs
      obtain ⟨rfl, rfl, rfl⟩ := hcs
      exact ⟨zs, .inr ⟨_, rfl, hl, hm, by simpa using hz, hcell, hwz⟩⟩
  have lc0 := w0.lc
  obtain ⟨L0, rfl, R0, wf0, m0⟩ := w0.rd
  clear hA0 hval0
  refine (walk a0 cap0 L0 W R0 wf0 m0 (by simpa using lc0)).mono fun e W' ⟨he, bel⟩ => ?_
  subst he
  exact ⟨_, rfl, _, _, _, [], _, [], hW', trodAll_mk1 (shut_bool Try.underlying4 _), (trodAll_cons_mk (Below.trod laidOut (by kernel_rfl) (of_decide_eq_true (by kernel_rfl)) k0 bel lt0) trodAll_mk0), rfl, bel.frame _, fun h => by cases h⟩

theorem over : Rows.fnSplitMarkedRow.holds Try.pinned (OpenSpec.ofChange Rows.fnSplitMarkedSpec) :=
  OpenClaim.holds_of_wide 6 Try.f6 rfl rfl rfl rfl rfl rfl rfl ⟨rfl, rfl, rfl, rfl, rfl⟩ rfl rfl rfl rfl rfl (by kernel_rfl) Try.func6 (by kernel_rfl)
    (of_decide_eq_true (by kernel_rfl)) (by unfold Func.isWrapper; first | (rw [if_pos (by decide +kernel)]; kernel_rfl) | (rw [if_neg (by decide +kernel)]; exact ⟨rfl, rfl⟩))
    (fun os started H enc _ => lifted os started H enc)

/-- the given statement -/
theorem proved : Rows.FnSplitMarkedSaid := over
end Go.Proofs.Ytbbbfaollcklkaa.fnSplitMarked
