/-
  'laws.FnChainDown' returns true for every code, and the code reads as it did. No condition.
-/
import Derived.Test.YtmojonpjgaidgaaRows
import Derived.Test.YtmojonpjgaidgaaRows
import Derived.Test.YtmojonpjgaidgaaZchain1
import Derived.Test.YtmojonpjgaidgaaZchain2
import Derived.Test.YtmojonpjgaidgaaZchain3
import Derived.Test.YtmojonpjgaidgaaZchain4
import Derived.Test.YtmojonpjgaidgaaZchain5
import Derived.Test.YtmojonpjgaidgaaZchain6
import Derived.Test.YtmojonpjgaidgaaZchain7
import Derived.Test.YtmojonpjgaidgaaZchain8
import Derived.Test.YtmojonpjgaidgaaZchain9
import Derived.Test.YtmojonpjgaidgaaZchain10
import Derived.Test.YtmojonpjgaidgaaZchain11
import Derived.Test.YtmojonpjgaidgaaZchain12
import Derived.WalkKit
import Derived.ProofKit
import Derived.OpenShut
import Derived.ShutString
import Derived.ChangeOld
import Derived.Below
namespace Go.Proofs.Ytmojonpjgaidgaa.fnChainDown
open Go.ChangeShapes Go.WideShapes Go.ChangeAt Go.RowKit NP
open Go.ChangeMaps (open_string shut_string)
set_option linter.unusedVariables false

theorem bCell {w wq : World} {p : Addr} {v : Value} (h : Below w.heap.size w wq) (hc : w.cell? p = some v) : wq.cell? p = some v := (h.cell (World.block_lt_of_cell? w p hc)).trans hc

theorem keepC2 {wr a b : World} {p q : Addr} {x y : Value} (h : a.cell? p = some x ∧ a.cell? q = some y ∧ Below wr.heap.size wr a) (hb : Below a.heap.size a b) : b.cell? p = some x ∧ b.cell? q = some y ∧ Below wr.heap.size wr b :=
  ⟨(hb.cell (World.block_lt_of_cell? _ _ h.1)).trans h.1, (hb.cell (World.block_lt_of_cell? _ _ h.2.1)).trans h.2.1, h.2.2.trans (hb.mono h.2.2.size)⟩

structure RdK (w : World) (hi : Nat) (a : Option Addr) (LL : List (List Int)) : Prop where
  rd : RdLL w hi a LL
  le : hi ≤ w.heap.size
theorem RdK.below {w w' : World} {hi : Nat} {a : Option Addr} {LL : List (List Int)} (h : RdK w hi a LL) (hb : Below hi w w') : RdK w' hi a LL := ⟨h.rd.below hb, Nat.le_trans h.le hb.size⟩
theorem chD_all : ∀ (n : Nat) (P Q : List Int), mu P ≤ n → valid P = true → sumL P ≤ 12 → dom P Q = true →
    (∀ k (h : k + 1 < (chD P Q).length), (chD P Q)[k + 1] ∈ cvF (chD P Q)[k] ∧ dom (chD P Q)[k + 1] Q = true) ∧ (∃ h : 0 < (chD P Q).length, (chD P Q)[0] = P) ∧ ∃ h : (chD P Q).length - 1 < (chD P Q).length, (chD P Q)[(chD P Q).length - 1] = Q := by
  intro n
  induction n with
  | zero =>
    intro P Q hm h h12 hd
    cases hx : nxF P Q with
    | some R => have := mu_lt h h12 hx; omega
    | none =>
      have hPQ : P = Q := Classical.byContradiction fun hne => by
        obtain ⟨R, hR⟩ := nx_ex h12 hd hne
        rw [hx] at hR; cases hR
      have e := chD_end hx
      refine ⟨fun k hk => ?_, ⟨by rw [e]; simp, by simp [e]⟩, by rw [e]; simp, by simp only [e]; exact hPQ⟩
      rw [e] at hk; simp at hk
  | succ n ih =>
    intro P Q hm h h12 hd
    cases hx : nxF P Q with
    | some R =>
      have hlt := mu_lt h h12 hx
      obtain ⟨hmR, hvR, hsR, hdR, -⟩ := nx_some h h12 hx
      obtain ⟨i1, ⟨i2, i3⟩, i4, i5⟩ := ih R Q (by omega) hvR (by omega) hdR
      have e := chD_step h h12 hx
      refine ⟨fun k hk => ?_, ⟨by rw [e]; simp, by simp [e]⟩, by rw [e]; simp, ?_⟩
      · cases k with
        | zero =>
          simp only [e, List.getElem_cons_succ, List.getElem_cons_zero, i3]
          exact ⟨hmR, hdR⟩
        | succ k =>
          have hk' : k + 1 < (chD R Q).length := by rw [e] at hk; simpa using hk
          simp only [e, List.getElem_cons_succ]
          exact i1 k hk'
      · have el : (P :: chD R Q).length - 1 = ((chD R Q).length - 1) + 1 := by simp; omega
        simp only [e, el, List.getElem_cons_succ]
        exact i5
    | none =>
      have hPQ : P = Q := Classical.byContradiction fun hne => by
        obtain ⟨R, hR⟩ := nx_ex h12 hd hne
        rw [hx] at hR; cases hR
      have e := chD_end hx
      refine ⟨fun k hk => ?_, ⟨by rw [e]; simp, by simp [e]⟩, by rw [e]; simp, by simp only [e]; exact hPQ⟩
      rw [e] at hk; simp at hk
theorem chD_all2 (n : Nat) (P Q : List Int) (L : List (List Int)) (hL : chD P Q = L) (hm : mu P ≤ n) (h : valid P = true) (h12 : sumL P ≤ 12) (hd : dom P Q = true) :
    (∀ k (h : k + 1 < L.length), L[k + 1] ∈ cvF L[k] ∧ dom L[k + 1] Q = true) ∧ (∃ h : 0 < L.length, L[0] = P) ∧ ∃ h : L.length - 1 < L.length, L[L.length - 1] = Q := by
  subst hL
  exact chD_all n P Q hm h h12 hd

set_option linter.unusedSimpArgs false
set_option maxRecDepth 100000 in
set_option maxHeartbeats 4000000 in
theorem walk (a : Option Addr) (c : Nat) (bs : List Int) (w0 : World) (h : Rd w0 w0.heap.size a (bs.map (Value.int .u8))) (hb : ∀ n ∈ bs, (Lit.int .u8 n).wf = true) (m : bs.length ≤ maxLen) (hc : bs.length ≤ c) :
    Calls Try.prog 4 #[.slice a bs.length c] w0 fun e w' => e = .returned (.bool true) ∧ Below w0.heap.size w0 w' := by
  unfold maxLen at m
  by_cases hl : bs.length ≤ 1048576
  · go_enter Try.func4, Try.ntmps4
    go_wp2_with fail
    refine (DrawChainDown_any a c _ bs _ h (Nat.le_refl _) hb hl hc).mono ?_
    rintro e w1 ⟨a1, c1, M, a2, c2, N, rfl, p0, q0, hs1, hs2, hA⟩
    clear h hb hl hc m
    have hM40 := hs1.1
    have hN40 := hs2.1
    obtain ⟨FF, hFF⟩ : ∃ FF, cdF M N = FF := ⟨_, rfl⟩
    obtain ⟨bb, hbb⟩ : ∃ bb, cdB M N = bb := ⟨_, rfl⟩
    have hFl : FF.length ≤ 1001 := hFF ▸ (cdF_ok M N).1
    have hil : ∀ X ∈ FF, X.length ≤ 4611686018427387904 := hFF ▸ fun X hX => Nat.le_trans ((cdF_ok M N).2 X hX).2.1 (by omega)
    have hne0 : (bb != bb) = false := by simp
    have heq0 : (bb == bb) = true := by simp
    have HFF := Lib.hid hFF
    have HBB := Lib.hid hbb
    have HIL := Lib.hid hil
    clear hil hs1 hs2 hFF hbb
    go_wp2_with fail
    refine (iChainDown_any _ _ _ _ _ _ M N _ p0.rd q0.rd p0.le q0.le (by omega) (by omega)).mono ?_
    rintro e w2 ⟨ag, cg, ug, rfl, g0, hb⟩
    replace p0 := p0.below (hb.mono p0.le)
    replace q0 := q0.below (hb.mono q0.le)
    replace hA := hA.trans (hb.mono hA.size)
    have hz2 := hb.size
    clear hb
    rw [HFF.out] at g0 ⊢
    rw [HBB.out]
    go_wp2_with fail
    refine (sChainDown_any _ _ _ _ _ _ M N _ p0.rd q0.rd p0.le q0.le (by omega) (by omega)).mono ?_
    rintro e w3 ⟨ar, cr, rfl, r0, hb⟩
    replace p0 := p0.below (hb.mono p0.le)
    replace q0 := q0.below (hb.mono q0.le)
    replace g0 := g0.below (hb.mono g0.le)
    replace hA := hA.trans (hb.mono hA.size)
    have hz3 := hb.size
    clear hb
    rw [HFF.out] at r0 ⊢
    rw [HBB.out]
    replace r0 := RdK.mk r0 (Nat.le_refl _)
    go_wp2_with fail
    refine (equalLists_same _ _ _ _ _ _ FF _ g0.rd r0.rd (by omega) HIL.out).mono ?_
    rintro e w4 ⟨rfl, hd⟩
    have hb : Below w3.heap.size w3 w4 := hd.below _
    clear hd
    replace p0 := p0.below (hb.mono p0.le)
    replace q0 := q0.below (hb.mono q0.le)
    replace g0 := g0.below (hb.mono g0.le)
    replace r0 := r0.below (hb.mono r0.le)
    replace hA := hA.trans (hb.mono hA.size)
    have hz4 := hb.size
    clear hb
    cases bb with
    | false =>
      go_wp2_with fail
      refine (equalLists_same _ _ _ _ _ _ FF _ g0.rd r0.rd (by omega) HIL.out).mono ?_
      rintro e w5 ⟨rfl, hd⟩
      have hb : Below w4.heap.size w4 w5 := hd.below _
      clear hd
      replace p0 := p0.below (hb.mono p0.le)
      replace q0 := q0.below (hb.mono q0.le)
      replace g0 := g0.below (hb.mono g0.le)
      replace r0 := r0.below (hb.mono r0.le)
      replace hA := hA.trans (hb.mono hA.size)
      have hz5 := hb.size
      clear hb
      go_wp2_with fail
      go_ret
      exact ⟨rfl, hA⟩
    | true =>
      have hok := HBB.out
      unfold cdB at hok
      rw [Bool.and_eq_true, decide_eq_true_eq] at hok
      obtain ⟨hd, h12⟩ := hok
      have hvM := (dom_iff.1 hd).1
      have hvN := (dom_iff.1 hd).2.1
      have hch := chD_all2 (mu M) M N FF (by rw [← cdF_yes hd h12, HFF.out]) (Nat.le_refl _) hvM h12 hd
      obtain ⟨hp1, hp2, hp3⟩ := hch
      obtain ⟨hF0, hp2⟩ := hp2
      obtain ⟨hF9, hp3⟩ := hp3
      have HT1 : Hid (∀ k d (h : k < FF.length) (hd : d + 1 = k), decide (FF[k] ∈ cvF FF[d]) = true ∧ dom FF[k] N = true) := Lib.hid (fun k d h hd => by subst hd; exact ⟨decide_eq_true (hp1 d h).1, (hp1 d h).2⟩)
      have HT2 : Hid (decide (FF[0] = M) = true) := Lib.hid (decide_eq_true hp2)
      obtain ⟨d2, hd2⟩ : ∃ d2 : Nat, FF.length - 1 = d2 := ⟨_, rfl⟩
      have hd2l : d2 < FF.length := by omega
      have HT3 : Hid (decide (FF[d2] = N) = true) := Lib.hid (decide_eq_true (by subst hd2; exact hp3))
      have hl9 : M.length ≤ 16 := (valid_bd hvM).2.2.2
      have hl8 : N.length ≤ 16 := (valid_bd hvN).2.2.2
      have HF1 : Hid (∀ X ∈ FF, X.length ≤ 16) := Lib.hid (fun X hX => by
        have := HFF.out
        subst this
        exact ((cdF_ok M N).2 X hX).2.1)
      obtain ⟨gA, e0, -⟩ := g0.outer.read (k := 0) (by rw [g0.len]; exact hF0)
      subst e0
      clear r0 hd h12 hvM hvN hp1 hp2 hp3
      go_wp2_with fail
      go_loopw [9] (fun ii wr => ∃ k : Nat, 1 ≤ k ∧ k ≤ FF.length ∧ ii = .int .i64 (k : Int) ∧ Below w4.heap.size w4 wr) (fun ii _ => FF.length - (intOf ii).toNat)
      case atStart => exact ⟨1, Nat.le_refl _, hF0, rfl, Below.refl _ _⟩
      case round =>
        obtain ⟨k, hk1, hk, rfl, hbr⟩ := hrel
        by_cases hlt : k < FF.length
        · have hlt' : (k : Int) < (FF.length : Int) := by omega
          have gr := g0.below (hbr.mono g0.le)
          have qr := q0.below (hbr.mono q0.le)
          have HQR := Lib.hid qr
          obtain ⟨gA2, ak, ck, e2, hg1, hg2, hck, hok, -⟩ := gr.at_ hlt
          injection e2 with e2; injection e2 with e2 _; subst e2
          have hl16 := HF1.out _ (List.getElem_mem hlt)
          have HOK := Lib.hid hok
          obtain ⟨d, hkd⟩ : ∃ d : Nat, k - 1 = d := ⟨_, rfl⟩
          have hdi : (k : Int) - 1 = (d : Int) := by omega
          have hwd : IntKind.i64.wrap (d : Int) = (d : Int) := IntWalk.i64_in _ (by omega)
          have hdl : d < FF.length := by omega
          have hdl' : (d : Int) < (FF.length : Int) := by omega
          obtain ⟨gA2, ad, cd, e2, hh1, hh2, hcd, hod, -⟩ := gr.at_ hdl
          injection e2 with e2; injection e2 with e2 _; subst e2
          have HOD := Lib.hid hod
          have hl16d := HF1.out _ (List.getElem_mem hdl)
          have hT := HT1.out k d hlt (by omega)
          have HME := Lib.hid hT.1
          have HDM := Lib.hid hT.2
          have HCV : Hid ((cvF FF[d]).length ≤ 1000 ∧ ∀ X ∈ cvF FF[d], X.length ≤ 4611686018427387904) := Lib.hid ⟨(cvF_rows _).1, fun X hX => Nat.le_trans ((cvF_rows _).2 X hX) (by omega)⟩
          have hzr := hbr.size
          clear gr qr hok hod hT hkd
          go_wp2_with fail
          refine wp_region_held_drew (S := (fun w' => w'.cell? ⟨gA, k, none⟩ = some (.slice ak FF[k].length ck) ∧ w'.cell? ⟨gA, d, none⟩ = some (.slice ad FF[d].length cd) ∧ Below wr.heap.size wr w')) (by kernel_rfl) (⟨bCell ((Dr.n wr 1).below _) hck, bCell ((Dr.n wr 1).below _) hcd, (Dr.n wr 1).below _⟩) (fun hS0 => ?_)
          refine wpAnyH_take (i := 0) (v := .slice (some ⟨gA, 0, none⟩) FF.length cg) (by simp only [List.getElem?_toArray, List.getElem?_cons_succ, List.getElem?_cons_zero]; exact rfl) (by kernel_rfl) (by kernel_rfl) (by kernel_rfl) (by intro _ _ _ h; exact h) (Or.inl ⟨by kernel_rfl, by intro w hSw; go_simp⟩) (by assumption) ?_
          simp only [Act.put, List.setIfInBounds_toArray, List.set_cons_zero, List.set_cons_succ, List.toList_toArray]
          refine wpAnyH_take (i := 1) (v := .int .i64 (k : Int)) (by simp only [List.getElem?_toArray, List.getElem?_cons_succ, List.getElem?_cons_zero]; exact rfl) (by kernel_rfl) (by kernel_rfl) (by kernel_rfl) (by intro _ _ _ h; exact h) (Or.inl ⟨by kernel_rfl, by intro w hSw; go_simp⟩) (by assumption) ?_
          simp only [Act.put, List.setIfInBounds_toArray, List.set_cons_zero, List.set_cons_succ, List.toList_toArray]
          refine wpAnyH_take (i := 2) (v := .int .i64 (d : Int)) (by simp only [List.getElem?_toArray, List.getElem?_cons_succ, List.getElem?_cons_zero]; exact rfl) (by kernel_rfl) (by kernel_rfl) (by kernel_rfl) (by intro _ _ _ h; exact h) (Or.inl ⟨by kernel_rfl, by intro w hSw; go_simp⟩) (by assumption) ?_
          simp only [Act.put, List.setIfInBounds_toArray, List.set_cons_zero, List.set_cons_succ, List.toList_toArray]
          refine wpAnyH_take (i := 3) (v := .pointer (some ⟨gA, d, none⟩)) (by simp only [List.getElem?_toArray, List.getElem?_cons_succ, List.getElem?_cons_zero]; exact rfl) (by kernel_rfl) (by kernel_rfl) (by kernel_rfl) (by intro _ _ _ h; exact h) (Or.inl ⟨by kernel_rfl, by intro w hSw; go_simp⟩) (by assumption) ?_
          simp only [Act.put, List.setIfInBounds_toArray, List.set_cons_zero, List.set_cons_succ, List.toList_toArray]
          refine wpAnyH_take (i := 4) (v := .slice ad FF[d].length cd) (by simp only [List.getElem?_toArray, List.getElem?_cons_succ, List.getElem?_cons_zero]; exact rfl) (by kernel_rfl) (by kernel_rfl) (by kernel_rfl) (by intro _ _ _ h; exact h) (Or.inl ⟨by kernel_rfl, by intro w hSw; obtain ⟨s1, s2, s3⟩ := hSw; go_simp⟩) (by assumption) ?_
          simp only [Act.put, List.setIfInBounds_toArray, List.set_cons_zero, List.set_cons_succ, List.toList_toArray]
          refine wpAnyH_take (i := 6) (v := .slice (some ⟨gA, 0, none⟩) FF.length cg) (by simp only [List.getElem?_toArray, List.getElem?_cons_succ, List.getElem?_cons_zero]; exact rfl) (by kernel_rfl) (by kernel_rfl) (by kernel_rfl) (by intro _ _ _ h; exact h) (Or.inl ⟨by kernel_rfl, by intro w hSw; go_simp⟩) (by assumption) ?_
          simp only [Act.put, List.setIfInBounds_toArray, List.set_cons_zero, List.set_cons_succ, List.toList_toArray]
          refine wpAnyH_take (i := 7) (v := .int .i64 (k : Int)) (by simp only [List.getElem?_toArray, List.getElem?_cons_succ, List.getElem?_cons_zero]; exact rfl) (by kernel_rfl) (by kernel_rfl) (by kernel_rfl) (by intro _ _ _ h; exact h) (Or.inl ⟨by kernel_rfl, by intro w hSw; go_simp⟩) (by assumption) ?_
          simp only [Act.put, List.setIfInBounds_toArray, List.set_cons_zero, List.set_cons_succ, List.toList_toArray]
          refine wpAnyH_take (i := 8) (v := .pointer (some ⟨gA, k, none⟩)) (by simp only [List.getElem?_toArray, List.getElem?_cons_succ, List.getElem?_cons_zero]; exact rfl) (by kernel_rfl) (by kernel_rfl) (by kernel_rfl) (by intro _ _ _ h; exact h) (Or.inl ⟨by kernel_rfl, by intro w hSw; go_simp⟩) (by assumption) ?_
          simp only [Act.put, List.setIfInBounds_toArray, List.set_cons_zero, List.set_cons_succ, List.toList_toArray]
          refine wpAnyH_take (i := 9) (v := .slice ak FF[k].length ck) (by simp only [List.getElem?_toArray, List.getElem?_cons_succ, List.getElem?_cons_zero]; exact rfl) (by kernel_rfl) (by kernel_rfl) (by kernel_rfl) (by intro _ _ _ h; exact h) (Or.inl ⟨by kernel_rfl, by intro w hSw; obtain ⟨s1, s2, s3⟩ := hSw; go_simp⟩) (by assumption) ?_
          simp only [Act.put, List.setIfInBounds_toArray, List.set_cons_zero, List.set_cons_succ, List.toList_toArray]
          refine wpAnyH_ready (rs := [5]) (by kernel_rfl) (by simp) ?_
          refine AllReadyH.cons (o := _) (by simp only [List.getElem?_toArray, List.getElem?_cons_succ, List.getElem?_cons_zero]; exact rfl) (fun K hK => ?_) AllReadyH.nil
          rw [if_pos (by rfl)]
          go_simp
          go_at_call 20
          refine (iCoversOf_any _ _ _ FF[d] _ (HOD.out.below (hS0.2.2.mono HOD.out.le)).rd (HOD.out.below (hS0.2.2.mono HOD.out.le)).le (by omega)).mono ?_
          rintro e wq0 ⟨ac, cc, uc, rfl, oc, hb0⟩
          have HOC := Lib.hid oc
          clear oc
          have hS1 := keepC2 hS0 hb0
          refine hK.out _ _ hS1 (fun _ => ?_)
          clear hK K
          try simp only [Act.put, List.setIfInBounds_toArray, List.set_cons_zero, List.set_cons_succ, List.toList_toArray]
          refine wpAnyH_ready (rs := [10]) (by kernel_rfl) (by simp) ?_
          refine AllReadyH.cons (o := _) (by simp only [List.getElem?_toArray, List.getElem?_cons_succ, List.getElem?_cons_zero]; exact rfl) (fun K hK => ?_) AllReadyH.nil
          rw [if_pos (by rfl)]
          go_simp
          go_at_call 19
          refine (holdsList_any _ _ _ _ _ _ _ FF[k] _ HOC.out.rd (HOK.out.below (hS1.2.2.mono HOK.out.le)).rd (by have := HCV.out.1; omega) HCV.out.2 (by omega)).mono ?_
          rintro e wq1 ⟨rfl, hb1⟩
          replace hb1 : Below wq0.heap.size wq0 wq1 := hb1.below _
          rw [HME.out]
          have hS2 := keepC2 hS1 hb1
          refine hK.out _ _ hS2 (fun _ => ?_)
          clear hK K
          try simp only [Act.put, List.setIfInBounds_toArray, List.set_cons_zero, List.set_cons_succ, List.toList_toArray]
          refine wpAnyH_take (i := 11) (v := .bool false) (by simp only [List.getElem?_toArray, List.getElem?_cons_succ, List.getElem?_cons_zero]; exact rfl) (by kernel_rfl) (by kernel_rfl) (by kernel_rfl) (by intro _ _ _ h; exact h) (Or.inl ⟨by kernel_rfl, by intro w hSw; go_simp⟩) (by assumption) ?_
          simp only [Act.put, List.setIfInBounds_toArray, List.set_cons_zero, List.set_cons_succ, List.toList_toArray]
          refine wpAnyH_take (i := 12) (v := .bool false) (by simp only [List.getElem?_toArray, List.getElem?_cons_succ, List.getElem?_cons_zero]; exact rfl) (by kernel_rfl) (by kernel_rfl) (by kernel_rfl) (by intro _ _ _ h; exact h) (Or.inl ⟨by kernel_rfl, by intro w hSw; go_simp⟩) (by assumption) ?_
          simp only [Act.put, List.setIfInBounds_toArray, List.set_cons_zero, List.set_cons_succ, List.toList_toArray]
          refine wpAnyH_take (i := 13) (v := .slice (some ⟨gA, 0, none⟩) FF.length cg) (by simp only [List.getElem?_toArray, List.getElem?_cons_succ, List.getElem?_cons_zero]; exact rfl) (by kernel_rfl) (by kernel_rfl) (by kernel_rfl) (by intro _ _ _ h; exact h) (Or.inl ⟨by kernel_rfl, by intro w hSw; go_simp⟩) (by assumption) ?_
          simp only [Act.put, List.setIfInBounds_toArray, List.set_cons_zero, List.set_cons_succ, List.toList_toArray]
          refine wpAnyH_take (i := 14) (v := .int .i64 (k : Int)) (by simp only [List.getElem?_toArray, List.getElem?_cons_succ, List.getElem?_cons_zero]; exact rfl) (by kernel_rfl) (by kernel_rfl) (by kernel_rfl) (by intro _ _ _ h; exact h) (Or.inl ⟨by kernel_rfl, by intro w hSw; go_simp⟩) (by assumption) ?_
          simp only [Act.put, List.setIfInBounds_toArray, List.set_cons_zero, List.set_cons_succ, List.toList_toArray]
          refine wpAnyH_take (i := 15) (v := .pointer (some ⟨gA, k, none⟩)) (by simp only [List.getElem?_toArray, List.getElem?_cons_succ, List.getElem?_cons_zero]; exact rfl) (by kernel_rfl) (by kernel_rfl) (by kernel_rfl) (by intro _ _ _ h; exact h) (Or.inl ⟨by kernel_rfl, by intro w hSw; go_simp⟩) (by assumption) ?_
          simp only [Act.put, List.setIfInBounds_toArray, List.set_cons_zero, List.set_cons_succ, List.toList_toArray]
          refine wpAnyH_take (i := 16) (v := .slice ak FF[k].length ck) (by simp only [List.getElem?_toArray, List.getElem?_cons_succ, List.getElem?_cons_zero]; exact rfl) (by kernel_rfl) (by kernel_rfl) (by kernel_rfl) (by intro _ _ _ h; exact h) (Or.inl ⟨by kernel_rfl, by intro w hSw; obtain ⟨s1, s2, s3⟩ := hSw; go_simp⟩) (by assumption) ?_
          simp only [Act.put, List.setIfInBounds_toArray, List.set_cons_zero, List.set_cons_succ, List.toList_toArray]
          refine wpAnyH_take (i := 17) (v := .slice a2 N.length c2) (by simp only [List.getElem?_toArray, List.getElem?_cons_succ, List.getElem?_cons_zero]; exact rfl) (by kernel_rfl) (by kernel_rfl) (by kernel_rfl) (by intro _ _ _ h; exact h) (Or.inl ⟨by kernel_rfl, by intro w hSw; go_simp⟩) (by assumption) ?_
          simp only [Act.put, List.setIfInBounds_toArray, List.set_cons_zero, List.set_cons_succ, List.toList_toArray]
          refine wpAnyH_ready (rs := [18]) (by kernel_rfl) (by simp) ?_
          refine AllReadyH.cons (o := _) (by simp only [List.getElem?_toArray, List.getElem?_cons_succ, List.getElem?_cons_zero]; exact rfl) (fun K hK => ?_) AllReadyH.nil
          rw [if_pos (by rfl)]
          go_simp
          go_at_call 21
          refine (iDominates_any _ _ _ _ _ _ FF[k] N _ (HOK.out.below (hS2.2.2.mono HOK.out.le)).rd (HQR.out.below (hS2.2.2.mono HQR.out.le)).rd (HOK.out.below (hS2.2.2.mono HOK.out.le)).le (HQR.out.below (hS2.2.2.mono HQR.out.le)).le (by omega) (by omega)).mono ?_
          rintro e wq2 ⟨rfl, hb2⟩
          rw [HDM.out]
          have hS3 := keepC2 hS2 hb2
          refine hK.out _ _ hS3 (fun _ => ?_)
          clear hK K
          try simp only [Act.put, List.setIfInBounds_toArray, List.set_cons_zero, List.set_cons_succ, List.toList_toArray]
          refine wpAnyH_take (i := 19) (v := .bool false) (by simp only [List.getElem?_toArray, List.getElem?_cons_succ, List.getElem?_cons_zero]; exact rfl) (by kernel_rfl) (by kernel_rfl) (by kernel_rfl) (by intro _ _ _ h; exact h) (Or.inl ⟨by kernel_rfl, by intro w hSw; go_simp⟩) (by assumption) ?_
          simp only [Act.put, List.setIfInBounds_toArray, List.set_cons_zero, List.set_cons_succ, List.toList_toArray]
          refine wpAnyH_take (i := 20) (v := .bool false) (by simp only [List.getElem?_toArray, List.getElem?_cons_succ, List.getElem?_cons_zero]; exact rfl) (by kernel_rfl) (by kernel_rfl) (by kernel_rfl) (by intro _ _ _ h; exact h) (Or.inl ⟨by kernel_rfl, by intro w hSw; go_simp⟩) (by assumption) ?_
          simp only [Act.put, List.setIfInBounds_toArray, List.set_cons_zero, List.set_cons_succ, List.toList_toArray]
          refine wpAnyH_done (by kernel_rfl) ?_ _
          try simp only [Act.put, List.setIfInBounds_toArray, List.set_cons_zero, List.set_cons_succ]
          go_wp2_with fail
          go_roundw
          case rel => exact ⟨k + 1, by omega, by omega, by go_num, hbr.trans (hS3.2.2.mono hzr)⟩
          case measure => simp [intOf] <;> omega
        · have gr := g0.below (hbr.mono g0.le)
          have pr := p0.below (hbr.mono p0.le)
          have qr := q0.below (hbr.mono q0.le)
          have hzr := hbr.size
          obtain ⟨gA2, ak, ck, e2, hg1, hg2, hck, hok, -⟩ := gr.at_ hF0
          injection e2 with e2; injection e2 with e2 _; subst e2
          obtain ⟨gA2, ad, cd, e2, hh1, hh2, hcd, hod, -⟩ := gr.at_ hd2l
          injection e2 with e2; injection e2 with e2 _; subst e2
          have hl16 := HF1.out _ (List.getElem_mem hF0)
          have hl16d := HF1.out _ (List.getElem_mem hd2l)
          have hdi : (FF.length : Int) - 1 = (d2 : Int) := by omega
          have hwd : IntKind.i64.wrap (d2 : Int) = (d2 : Int) := IntWalk.i64_in _ (by omega)
          have hdl' : (d2 : Int) < (FF.length : Int) := by omega
          have hFp : (0 : Int) < (FF.length : Int) := by omega
          have HOK := Lib.hid hok
          have HOD := Lib.hid hod
          have HPR := Lib.hid pr
          have HQR := Lib.hid qr
          clear gr pr qr hok hod hd2
          go_wp2_with fail
          refine (equalInts_any _ _ _ _ _ _ FF[0] M _ HOK.out.rd HPR.out.rd (by omega) (by omega)).mono ?_
          rintro e w5 ⟨rfl, nn, hw5⟩
          rw [HT2.out]
          have hb5 : Below wr.heap.size wr w5 := Dr.below ⟨nn, hw5⟩ _
          have hcd5 := bCell hb5 hcd
          have HOD5 := Lib.hid (HOD.out.below (hb5.mono HOD.out.le))
          have HQR5 := Lib.hid (HQR.out.below (hb5.mono HQR.out.le))
          clear hw5 hck
          go_wp2_with fail
          refine (equalInts_any _ _ _ _ _ _ FF[d2] N _ HOD5.out.rd HQR5.out.rd (by omega) (by omega)).mono ?_
          rintro e w6 ⟨rfl, n2, rfl⟩
          rw [HT3.out]
          go_wp2_with fail
          go_ret
          exact ⟨rfl, hA.trans ((hbr.trans ((hb5.trans (((Dr.n w5 n2).below _).mono hb5.size)).mono hzr)).mono hA.size)⟩
  · have hl' : 1048576 < bs.length := by omega
    go_enter Try.func4, Try.ntmps4
    go_wp2_with fail
    go_ret
    exact ⟨rfl, Below.refl _ _⟩

theorem own : ownKnob Try.prog.godebug = none := by kernel_rfl
theorem laidOut : laidOutB Try.prog = true := by kernel_rfl

set_option maxRecDepth 100000 in
theorem lifted (os : Os) (started : os.Started) (H : Type) (enc : TypeId × Value → H) :
    ReturnsInHanded {} Try.checked os 4 .any (Rows.fnChainDownSpec.pre6 enc Try.prog Try.f4 Rows.fnChainDownRow.domain false) (Rows.fnChainDownSpec.post enc Try.prog Try.f4 false true false false) := by
  refine returnsInHanded_of_change (C := Try.checked) own started (by kernel_rfl) Try.func4
    (ChangeSpec.witness6 (enc := enc) (C := Try.checked) false ⟨#[], #[.slice none 0 0], []⟩ 8 (by kernel_rfl) (by kernel_rfl) (by kernel_rfl) (by kernel_rfl)) ?_
  intro W base args ds gs before hval0 hW hcnd _
  have hval : ∀ (j : Nat) t v, Try.f4.params[j]? = some t → args[j]? = some v → Value.okWide Try.prog W .any base t v := hval0
  have hW' := hW
  obtain ⟨p, q, hA0, hV, rfl, hfz, hnd⟩ := hW
  have hA : DataW.TrodAll enc Try.prog W 0 (fun _ => true) true Try.f4.params.toList args.toList ds p := hA0
  rw [Try.params4] at hA hval
  obtain ⟨v0, vs0, d0, ds0, p0, q0, hargs, rfl, rfl, h0, r0⟩ := trodAll_cons hA
  obtain ⟨rfl, rfl, rfl⟩ := trodAll_nil r0
  obtain rfl : args = #[v0] := by cases args; simp_all
  obtain ⟨rfl, rfl⟩ := trodVars_none hV
  obtain ⟨a0, len0, cap0, rfl⟩ := okWide_slice Try.underlying31 (hval 0 31 v0 rfl rfl)
  have k0 := h0
  have lt0 : ∀ x ∈ p0, x.block < W.heap.size := by obtain ⟨m, hm⟩ := k0; exact DataW.trod_lt m _ _ _ hm
  obtain ⟨z0, w0⟩ : ∃ zs, IsRow .u8 W a0 len0 cap0 zs := by
    obtain ⟨fuel, hf⟩ := h0
    rcases open_ints Try.underlying31 Try.underlying5 (by kernel_rfl) hf with ⟨hcs, _⟩ | ⟨x, l, c, zs, hcs, _, hl, hm, hz, _, hcell, hwz⟩
    · simp [Value.cells] at hcs
      obtain ⟨rfl, rfl, rfl⟩ := hcs
      exact ⟨[], .inl ⟨rfl, rfl, rfl, rfl⟩⟩
    · simp [Value.cells] at hcs
      obtain ⟨rfl, rfl, rfl⟩ := hcs
      exact ⟨zs, .inr ⟨_, rfl, hl, hm, by simpa using hz, hcell, hwz⟩⟩
  have lc0 := w0.lc
  obtain ⟨L0, rfl, R0, wf0, m0⟩ := w0.rd
  clear hA0 hval0
  refine (walk a0 cap0 L0 W R0 wf0 m0 (by simpa using lc0)).mono fun e W' ⟨he, bel⟩ => ?_
  subst he
  exact ⟨_, rfl, _, _, _, [], _, [], hW', trodAll_mk1 (shut_bool Try.underlying4 _), (trodAll_cons_mk (Below.trod laidOut (by kernel_rfl) (of_decide_eq_true (by kernel_rfl)) k0 bel lt0) trodAll_mk0), rfl, bel.frame _, fun h => by cases h⟩

theorem over : Rows.fnChainDownRow.holds Try.pinned (OpenSpec.ofChange Rows.fnChainDownSpec) :=
  OpenClaim.holds_of_wide 4 Try.f4 rfl rfl rfl rfl rfl rfl rfl ⟨rfl, rfl, rfl, rfl, rfl⟩ rfl rfl rfl rfl rfl (by kernel_rfl) Try.func4 (by kernel_rfl)
    (of_decide_eq_true (by kernel_rfl)) (by unfold Func.isWrapper; first | (rw [if_pos (by decide +kernel)]; kernel_rfl) | (rw [if_neg (by decide +kernel)]; exact ⟨rfl, rfl⟩))
    (fun os started H enc _ => lifted os started H enc)

/-- the given statement -/
theorem proved : Rows.FnChainDownSaid := over
end Go.Proofs.Ytmojonpjgaidgaa.fnChainDown
