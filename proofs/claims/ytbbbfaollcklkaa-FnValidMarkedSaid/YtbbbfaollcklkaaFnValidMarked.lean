/-
  'laws.FnValidMarked' returns true for every code, and the code reads as it did. No condition.
-/
import Derived.Test.YtbbbfaollcklkaaRows
import Derived.Test.YtbbbfaollcklkaaZp1
import Derived.Test.YtbbbfaollcklkaaZp2
import Derived.Test.YtbbbfaollcklkaaZp3
import Derived.Test.YtbbbfaollcklkaaZp4
import Derived.Test.YtbbbfaollcklkaaZp5
import Derived.Test.YtbbbfaollcklkaaZp6
import Derived.Test.YtbbbfaollcklkaaZp7
import Derived.Test.YtbbbfaollcklkaaZp8
import Derived.Test.YtbbbfaollcklkaaZp9
import Derived.Test.YtbbbfaollcklkaaZp10
import Derived.Test.YtbbbfaollcklkaaZp11
import Derived.Test.YtbbbfaollcklkaaZp12
import Derived.Test.YtbbbfaollcklkaaZq1
import Derived.Test.YtbbbfaollcklkaaZq2
import Derived.Lib.SmallJoins
import Derived.RegionTactic
import Derived.WalkKit
import Derived.ProofKit
import Derived.OpenShut
import Derived.ShutString
import Derived.ChangeOld
import Derived.Below
namespace Go.Proofs.Ytbbbfaollcklkaa.fnValidMarked
open Go.ChangeShapes Go.WideShapes Go.ChangeAt Go.RowKit NP
open Go.ChangeMaps (open_string shut_string)
set_option linter.unusedVariables false

theorem put_back {L : List Int} {T : List Bool} (hv : vmk L T = true) (a b : Option Addr) (ca cb Ba Bb : Nat) (w : World) (h : Rd w Ba a (ints (selF true L T))) (hq : Rd w Bb b (ints (selF false L T))) (hBa : Ba ≤ w.heap.size) (hBb : Bb ≤ w.heap.size) :
    Calls Try.prog 18 #[.slice a (selF true L T).length ca, .slice b (selF false L T).length cb] w fun e w' => ∃ b1 b2 d1 d2, e = .returned (.tuple #[.agg #[.slice b1 L.length d1, .slice b2 T.length d2], .bool true]) ∧ (∃ m, w.heap.size ≤ m ∧ m ≤ w'.heap.size ∧ Own w' w.heap.size m 4 (.slice b2 T.length d2) (bls T) ∧ Own w' m w'.heap.size 3 (.slice b1 L.length d1) (ints L)) ∧ Below w.heap.size w w' := by
  have h2 := iPutMarked_any a b ca cb Ba Bb (selF true L T) (selF false L T) w h hq hBa hBb (by have := selF_len true L T; omega) (by have := selF_len false L T; omega)
  obtain ⟨e1, e2, e3⟩ := split_put hv
  rw [e1, e2, e3] at h2
  exact h2

set_option linter.unusedSimpArgs false
set_option maxRecDepth 100000 in
set_option maxHeartbeats 4000000 in
theorem walk (a : Option Addr) (c : Nat) (bs : List Int) (w0 : World) (h : Rd w0 w0.heap.size a (bs.map (Value.int .u8))) (hb : ∀ n ∈ bs, (Lit.int .u8 n).wf = true) (m : bs.length ≤ maxLen) (hc : bs.length ≤ c) :
    Calls Try.prog 4 #[.slice a bs.length c] w0 fun e w' => e = .returned (.bool true) ∧ Below w0.heap.size w0 w' := by
  unfold maxLen at m
  by_cases hl : bs.length ≤ 1048576
  · go_enter Try.func4, Try.ntmps4
    go_wp2_with fail
    refine (DrawValidMarked_any a c _ bs _ h (Nat.le_refl _) hb hl hc).mono ?_
    rintro e w1 ⟨L, T, a1, a2, c1, c2, rfl, ⟨p1, p2⟩, hL, hT, hA⟩
    clear h hb hl hc m
    obtain ⟨B, hBd⟩ : ∃ B, B = w1.heap.size := ⟨_, rfl⟩
    rw [← hBd] at p1 p2
    have hB1 : B ≤ w1.heap.size := by omega
    clear hBd
    go_wp2_with fail
    obtain ⟨w2, hw⟩ : ∃ wq, wq = w1.alloc (.cells #[.slice a1 L.length c1, .slice a2 T.length c2] 28) := ⟨_, rfl⟩
    rw [← hw]
    have hb : Below w1.heap.size w1 w2 := hw ▸ (Below.refl _ _).alloc (Nat.le_refl _) _
    have bx : Blk w2 w1.heap.size 28 #[.slice a1 L.length c1, .slice a2 T.length c2] := hw ▸ Blk.new w1 _ _
    have hwbxz : w1.heap.size + 1 = w2.heap.size := by rw [hw]; simp
    clear hw
    replace p1 := p1.below (hb.mono (by omega))
    replace p2 := p2.below (hb.mono (by omega))
    replace hA := hA.trans (hb.mono hA.size)
    have hz2 := hb.size
    clear hb
    have bx0c : w2.cell? ⟨w1.heap.size, 0, none⟩ = some (.slice a1 L.length c1) := bx.cell 0
    have bx1c : w2.cell? ⟨w1.heap.size, 1, none⟩ = some (.slice a2 T.length c2) := bx.cell 1
    cases hv : vmk L T with
    | false =>
      have HV := Lib.hid hv
      clear hv
      refine (iValidMarked_any a1 a2 c1 c2 B B L T _ p1 p2 (by omega) (by omega) (by omega) (by omega)).mono ?_
      rintro e w3 ⟨rfl, hb⟩
      replace p1 := p1.below (hb.mono (by omega))
      replace p2 := p2.below (hb.mono (by omega))
      replace bx := bx.below hb bx.lt
      replace bx0c : w3.cell? ⟨w1.heap.size, 0, none⟩ = some (.slice a1 L.length c1) := bx.cell 0
      replace bx1c : w3.cell? ⟨w1.heap.size, 1, none⟩ = some (.slice a2 T.length c2) := bx.cell 1
      replace hA := hA.trans (hb.mono hA.size)
      have hz3 := hb.size
      clear hb
      rw [HV.out]
      go_wp2_with fail
      refine (sValidMarked_any a1 a2 c1 c2 B B L T _ p1 p2 (by omega) (by omega) (by omega) (by omega)).mono ?_
      rintro e w4 ⟨rfl, hb⟩
      replace p1 := p1.below (hb.mono (by omega))
      replace p2 := p2.below (hb.mono (by omega))
      replace bx := bx.below hb bx.lt
      replace bx0c : w4.cell? ⟨w1.heap.size, 0, none⟩ = some (.slice a1 L.length c1) := bx.cell 0
      replace bx1c : w4.cell? ⟨w1.heap.size, 1, none⟩ = some (.slice a2 T.length c2) := bx.cell 1
      replace hA := hA.trans (hb.mono hA.size)
      have hz4 := hb.size
      clear hb
      rw [HV.out]
      go_wp2_with fail
      refine (sValidMarked_any a1 a2 c1 c2 B B L T _ p1 p2 (by omega) (by omega) (by omega) (by omega)).mono ?_
      rintro e w5 ⟨rfl, hb⟩
      replace p1 := p1.below (hb.mono (by omega))
      replace p2 := p2.below (hb.mono (by omega))
      replace bx := bx.below hb bx.lt
      replace bx0c : w5.cell? ⟨w1.heap.size, 0, none⟩ = some (.slice a1 L.length c1) := bx.cell 0
      replace bx1c : w5.cell? ⟨w1.heap.size, 1, none⟩ = some (.slice a2 T.length c2) := bx.cell 1
      replace hA := hA.trans (hb.mono hA.size)
      have hz5 := hb.size
      clear hb
      rw [HV.out]
      go_wp2_with fail
      go_ret
      exact ⟨rfl, hA⟩
    | true =>
      have HV := Lib.hid hv
      clear hv
      refine (iValidMarked_any a1 a2 c1 c2 B B L T _ p1 p2 (by omega) (by omega) (by omega) (by omega)).mono ?_
      rintro e w3 ⟨rfl, hb⟩
      replace p1 := p1.below (hb.mono (by omega))
      replace p2 := p2.below (hb.mono (by omega))
      replace bx := bx.below hb bx.lt
      replace bx0c : w3.cell? ⟨w1.heap.size, 0, none⟩ = some (.slice a1 L.length c1) := bx.cell 0
      replace bx1c : w3.cell? ⟨w1.heap.size, 1, none⟩ = some (.slice a2 T.length c2) := bx.cell 1
      replace hA := hA.trans (hb.mono hA.size)
      have hz3 := hb.size
      clear hb
      rw [HV.out]
      go_wp2_with fail
      refine (sValidMarked_any a1 a2 c1 c2 B B L T _ p1 p2 (by omega) (by omega) (by omega) (by omega)).mono ?_
      rintro e w4 ⟨rfl, hb⟩
      replace p1 := p1.below (hb.mono (by omega))
      replace p2 := p2.below (hb.mono (by omega))
      replace bx := bx.below hb bx.lt
      replace bx0c : w4.cell? ⟨w1.heap.size, 0, none⟩ = some (.slice a1 L.length c1) := bx.cell 0
      replace bx1c : w4.cell? ⟨w1.heap.size, 1, none⟩ = some (.slice a2 T.length c2) := bx.cell 1
      replace hA := hA.trans (hb.mono hA.size)
      have hz4 := hb.size
      clear hb
      rw [HV.out]
      go_wp2_with fail
      refine (iSplitMarked_any a1 a2 c1 c2 B B L T _ p1 p2 (by omega) (by omega) (by omega) (by omega)).mono ?_
      rintro e w5 ⟨aT, cT, aF, cF, rfl, oT, oF, -, hb⟩
      replace p1 := p1.below (hb.mono (by omega))
      replace p2 := p2.below (hb.mono (by omega))
      replace bx := bx.below hb bx.lt
      replace bx0c : w5.cell? ⟨w1.heap.size, 0, none⟩ = some (.slice a1 L.length c1) := bx.cell 0
      replace bx1c : w5.cell? ⟨w1.heap.size, 1, none⟩ = some (.slice a2 T.length c2) := bx.cell 1
      replace hA := hA.trans (hb.mono hA.size)
      have hz5 := hb.size
      clear hb
      go_wp2_with fail
      refine (put_back HV.out aT aF cT cF _ _ _ oT.rd oF.rd oT.le oF.le).mono ?_
      rintro e w6 ⟨k1, k2, d1, d2, rfl, ⟨mk, mk1, mk2, om, op⟩, hb⟩
      replace p1 := p1.below (hb.mono (by omega))
      replace p2 := p2.below (hb.mono (by omega))
      replace oT := oT.below (hb.mono oT.le)
      replace oF := oF.below (hb.mono oF.le)
      replace bx := bx.below hb bx.lt
      replace bx0c : w6.cell? ⟨w1.heap.size, 0, none⟩ = some (.slice a1 L.length c1) := bx.cell 0
      replace bx1c : w6.cell? ⟨w1.heap.size, 1, none⟩ = some (.slice a2 T.length c2) := bx.cell 1
      replace hA := hA.trans (hb.mono hA.size)
      have hz6 := hb.size
      clear hb
      have bx0q : (w6.alloc (.cells #[.slice k1 L.length d1, .slice k2 T.length d2] 28)).cell? ⟨w1.heap.size, 0, none⟩ = some (.slice a1 L.length c1) := cell_alloc bx0c
      have bx1q : (w6.alloc (.cells #[.slice k1 L.length d1, .slice k2 T.length d2] 28)).cell? ⟨w1.heap.size, 1, none⟩ = some (.slice a2 T.length c2) := cell_alloc bx1c
      go_wp2_with fail
      clear bx0q bx1q
      obtain ⟨w7, hw⟩ : ∃ wq, wq = w6.alloc (.cells #[.slice k1 L.length d1, .slice k2 T.length d2] 28) := ⟨_, rfl⟩
      rw [← hw]
      have hb : Below w6.heap.size w6 w7 := hw ▸ (Below.refl _ _).alloc (Nat.le_refl _) _
      have bk : Blk w7 w6.heap.size 28 #[.slice k1 L.length d1, .slice k2 T.length d2] := hw ▸ Blk.new w6 _ _
      have hwbkz : w6.heap.size + 1 = w7.heap.size := by rw [hw]; simp
      clear hw
      replace p1 := p1.below (hb.mono (by omega))
      replace p2 := p2.below (hb.mono (by omega))
      replace oT := oT.below (hb.mono oT.le)
      replace oF := oF.below (hb.mono oF.le)
      replace om := om.below (hb.mono om.le)
      replace op := op.below (hb.mono op.le)
      replace bx := bx.below hb bx.lt
      replace bx0c : w7.cell? ⟨w1.heap.size, 0, none⟩ = some (.slice a1 L.length c1) := bx.cell 0
      replace bx1c : w7.cell? ⟨w1.heap.size, 1, none⟩ = some (.slice a2 T.length c2) := bx.cell 1
      replace hA := hA.trans (hb.mono hA.size)
      have hz7 := hb.size
      clear hb
      have bk0c : w7.cell? ⟨w6.heap.size, 0, none⟩ = some (.slice k1 L.length d1) := bk.cell 0
      have bk1c : w7.cell? ⟨w6.heap.size, 1, none⟩ = some (.slice k2 T.length d2) := bk.cell 1
      refine (equalMarked_same _ _ _ _ _ _ _ _ _ _ _ _ L T _ op.rd om.rd p1 p2 op.le om.le (by omega) (by omega) (by omega) (by omega)).mono ?_
      rintro e w8 ⟨rfl, hb⟩
      replace p1 := p1.below (hb.mono (by omega))
      replace p2 := p2.below (hb.mono (by omega))
      replace oT := oT.below (hb.mono oT.le)
      replace oF := oF.below (hb.mono oF.le)
      replace om := om.below (hb.mono om.le)
      replace op := op.below (hb.mono op.le)
      replace bx := bx.below hb bx.lt
      replace bx0c : w8.cell? ⟨w1.heap.size, 0, none⟩ = some (.slice a1 L.length c1) := bx.cell 0
      replace bx1c : w8.cell? ⟨w1.heap.size, 1, none⟩ = some (.slice a2 T.length c2) := bx.cell 1
      replace bk := bk.below hb bk.lt
      replace bk0c : w8.cell? ⟨w6.heap.size, 0, none⟩ = some (.slice k1 L.length d1) := bk.cell 0
      replace bk1c : w8.cell? ⟨w6.heap.size, 1, none⟩ = some (.slice k2 T.length d2) := bk.cell 1
      replace hA := hA.trans (hb.mono hA.size)
      have hz8 := hb.size
      clear hb
      go_wp2_with fail
      go_ret
      exact ⟨rfl, hA⟩
  · have hl' : 1048576 < bs.length := by omega
    go_enter Try.func4, Try.ntmps4
    go_wp2_with fail
    go_ret
    exact ⟨rfl, Below.refl _ _⟩

theorem own : ownKnob Try.prog.godebug = none := by kernel_rfl
theorem laidOut : laidOutB Try.prog = true := by kernel_rfl

set_option maxRecDepth 100000 in
theorem lifted (os : Os) (started : os.Started) (H : Type) (enc : TypeId × Value → H) :
    ReturnsInHanded {} Try.checked os 4 .any (Rows.fnValidMarkedSpec.pre6 enc Try.prog Try.f4 Rows.fnValidMarkedRow.domain false) (Rows.fnValidMarkedSpec.post enc Try.prog Try.f4 false true false false) := by
  refine returnsInHanded_of_change (C := Try.checked) own started (by kernel_rfl) Try.func4
    (ChangeSpec.witness6 (enc := enc) (C := Try.checked) false ⟨#[], #[.slice none 0 0], []⟩ 8 (by kernel_rfl) (by kernel_rfl) (by kernel_rfl) (by kernel_rfl)) ?_
  intro W base args ds gs before hval0 hW hcnd _
  have hval : ∀ (j : Nat) t v, Try.f4.params[j]? = some t → args[j]? = some v → Value.okWide Try.prog W .any base t v := hval0
  have hW' := hW
  obtain ⟨p, q, hA0, hV, rfl, hfz, hnd⟩ := hW
  have hA : DataW.TrodAll enc Try.prog W 0 (fun _ => true) true Try.f4.params.toList args.toList ds p := hA0
  rw [Try.params4] at hA hval
  obtain ⟨v0, vs0, d0, ds0, p0, q0, hargs, rfl, rfl, h0, r0⟩ := trodAll_cons hA
  obtain ⟨rfl, rfl, rfl⟩ := trodAll_nil r0
  obtain rfl : args = #[v0] := by cases args; simp_all
  obtain ⟨rfl, rfl⟩ := trodVars_none hV
  obtain ⟨a0, len0, cap0, rfl⟩ := okWide_slice Try.underlying32 (hval 0 32 v0 rfl rfl)
  have k0 := h0
  have lt0 : ∀ x ∈ p0, x.block < W.heap.size := by obtain ⟨m, hm⟩ := k0; exact DataW.trod_lt m _ _ _ hm
  obtain ⟨z0, w0⟩ : ∃ zs, IsRow .u8 W a0 len0 cap0 zs := by
    obtain ⟨fuel, hf⟩ := h0
    rcases open_ints Try.underlying32 Try.underlying5 (by kernel_rfl) hf with ⟨hcs, _⟩ | ⟨x, l, c, zs, hcs, _, hl, hm, hz, _, hcell, hwz⟩
    · simp [Value.cells] at hcs
      obtain ⟨rfl, rfl, rfl⟩ := hcs
      exact ⟨[], .inl ⟨rfl, rfl, rfl, rfl⟩⟩
    · simp [Value.cells] at hcs
      obtain ⟨rfl, rfl, rfl⟩ := hcs
      exact ⟨zs, .inr ⟨_, rfl, hl, hm, by simpa using hz, hcell, hwz⟩⟩
  have lc0 := w0.lc
  obtain ⟨L0, rfl, R0, wf0, m0⟩ := w0.rd
  clear hA0 hval0
  refine (walk a0 cap0 L0 W R0 wf0 m0 (by simpa using lc0)).mono fun e W' ⟨he, bel⟩ => ?_
  subst he
  exact ⟨_, rfl, _, _, _, [], _, [], hW', trodAll_mk1 (shut_bool Try.underlying4 _), (trodAll_cons_mk (Below.trod laidOut (by kernel_rfl) (of_decide_eq_true (by kernel_rfl)) k0 bel lt0) trodAll_mk0), rfl, bel.frame _, fun h => by cases h⟩

theorem over : Rows.fnValidMarkedRow.holds Try.pinned (OpenSpec.ofChange Rows.fnValidMarkedSpec) :=
  OpenClaim.holds_of_wide 4 Try.f4 rfl rfl rfl rfl rfl rfl rfl ⟨rfl, rfl, rfl, rfl, rfl⟩ rfl rfl rfl rfl rfl (by kernel_rfl) Try.func4 (by kernel_rfl)
    (of_decide_eq_true (by kernel_rfl)) (by unfold Func.isWrapper; first | (rw [if_pos (by decide +kernel)]; kernel_rfl) | (rw [if_neg (by decide +kernel)]; exact ⟨rfl, rfl⟩))
    (fun os started H enc _ => lifted os started H enc)

/-- the given statement -/
theorem proved : Rows.FnValidMarkedSaid := over
end Go.Proofs.Ytbbbfaollcklkaa.fnValidMarked
