/-
  'laws.FnCoversUp' returns true for every code, and the code reads as it did. No condition.
-/
import Derived.Test.YtmnlmahjgmhdiaaRows
import Derived.Test.YtmnlmahjgmhdiaaRows
import Derived.Test.YtmnlmahjgmhdiaaZcov1
import Derived.Test.YtmnlmahjgmhdiaaZcov2
import Derived.Test.YtmnlmahjgmhdiaaZcov3
import Derived.Test.YtmnlmahjgmhdiaaZcov4
import Derived.Test.YtmnlmahjgmhdiaaZcov5
import Derived.Test.YtmnlmahjgmhdiaaZcov6
import Derived.Test.YtmnlmahjgmhdiaaZcov7
import Derived.Test.YtmnlmahjgmhdiaaZcov8
import Derived.Test.YtmnlmahjgmhdiaaZcov9
import Derived.Test.YtmnlmahjgmhdiaaZcov10
import Derived.Test.YtmnlmahjgmhdiaaZcov11
import Derived.WalkKit
import Derived.ProofKit
import Derived.OpenShut
import Derived.ShutString
import Derived.ChangeOld
import Derived.Below
namespace Go.Proofs.Ytmnlmahjgmhdiaa.fnCoversUp
open Go.ChangeShapes Go.WideShapes Go.ChangeAt Go.RowKit NP
open Go.ChangeMaps (open_string shut_string)
set_option linter.unusedVariables false

theorem bCell {w wq : World} {p : Addr} {v : Value} (h : Below w.heap.size w wq) (hc : w.cell? p = some v) : wq.cell? p = some v := (h.cell (World.block_lt_of_cell? w p hc)).trans hc

theorem keepC2 {wr a b : World} {p q : Addr} {x y : Value} (h : a.cell? p = some x ∧ a.cell? q = some y ∧ Below wr.heap.size wr a) (hb : Below a.heap.size a b) : b.cell? p = some x ∧ b.cell? q = some y ∧ Below wr.heap.size wr b :=
  ⟨(hb.cell (World.block_lt_of_cell? _ _ h.1)).trans h.1, (hb.cell (World.block_lt_of_cell? _ _ h.2.1)).trans h.2.1, h.2.2.trans (hb.mono h.2.2.size)⟩

theorem cuF_eq {M : List Int} (h : valid M = true) (h12 : sumL M ≤ 12) : cuF M = (allQ (sumL M).toNat (sumL M).toNat (sumL M).toNat).filter (fun E => covB E M) := by unfold cuF; rw [if_pos (by simp [h, h12])]
theorem cvF_eq {M : List Int} (h : valid M = true) (h12 : sumL M ≤ 12) : cvF M = (allQ (sumL M).toNat (sumL M).toNat (sumL M).toNat).filter (covB M) := by unfold cvF; rw [if_pos (by simp [h, h12])]
theorem cu_mem {M : List Int} (h : valid M = true) (h12 : sumL M ≤ 12) : ∀ X ∈ cuF M, M ∈ cvF X := by
  intro X hX
  obtain ⟨h1, h2, h3⟩ := (cuF_ok M).2 X hX
  rw [cuF_eq h h12] at hX
  have hc := (List.mem_filter.1 hX).2
  rw [cvF_eq h1 (by omega), h3]
  exact List.mem_filter.2 ⟨mem_allQn h (Int.toNat_of_nonneg (valid_bd h).1).symm, hc⟩
theorem allQ_pw' {n : Nat} (hn : n ≤ 12) : (allQ n n n).Pairwise fun a b => plcF a < plcF b := by
  rw [List.pairwise_iff_getElem]
  intro i j hi hj hij
  have h := (ap_facts hn).2
  rw [(h i hi).2, (h j hj).2]
  omega
theorem cu_pw {M : List Int} (h : valid M = true) (h12 : sumL M ≤ 12) (k d : Nat) (hk : k < (cuF M).length) (hd : d < k) : plcF (cuF M)[d] < plcF (cuF M)[k] := by
  have hp : (cuF M).Pairwise fun a b => plcF a < plcF b := by
    rw [cuF_eq h h12]
    exact (allQ_pw' (by omega)).filter _
  exact List.pairwise_iff_getElem.1 hp d k (by omega) hk hd
def permTab : Bool := (List.range 13).all fun n => ((allQ n n n).map conj).isPerm (allQ n n n)
set_option maxRecDepth 100000 in
theorem perm_tab : permTab = true := by decide +kernel
theorem perm_conj {n : Nat} (hn : n ≤ 12) : ((allQ n n n).map conj).Perm (allQ n n n) := List.isPerm_iff.1 (List.all_eq_true.1 perm_tab n (List.mem_range.2 (by omega)))
theorem cu_len {M : List Int} (h : valid M = true) (h12 : sumL M ≤ 12) : (cvF (conj M)).length = (cuF M).length := by
  have hs := sumL_conj h
  have hcv := valid_conj h
  rw [cvF_eq hcv (by omega), cuF_eq h h12, hs, ← List.countP_eq_length_filter, ← List.countP_eq_length_filter, ← (perm_conj (n := (sumL M).toNat) (by omega)).countP_eq, List.countP_map]
  refine List.countP_congr fun X hX => ?_
  have hx := (allQ_ok (by omega) X hX).1
  unfold covB
  simp only [Function.comp_apply, conj_conj hx, conj_conj h]
  rw [Bool.or_comm]

set_option linter.unusedSimpArgs false
set_option maxRecDepth 100000 in
set_option maxHeartbeats 4000000 in
theorem walk (a : Option Addr) (c : Nat) (bs : List Int) (w0 : World) (h : Rd w0 w0.heap.size a (bs.map (Value.int .u8))) (hb : ∀ n ∈ bs, (Lit.int .u8 n).wf = true) (m : bs.length ≤ maxLen) (hc : bs.length ≤ c) :
    Calls Try.prog 10 #[.slice a bs.length c] w0 fun e w' => e = .returned (.bool true) ∧ Below w0.heap.size w0 w' := by
  unfold maxLen at m
  by_cases hl : bs.length ≤ 1048576
  · go_enter Try.func10, Try.ntmps10
    go_wp2_with fail
    refine (DrawCoversUp_any a c _ bs _ h (Nat.le_refl _) hb hl hc).mono ?_
    rintro e w1 ⟨a1, c1, M, rfl, p0, hs, hA⟩
    clear h hb hl hc m
    have hM40 := hs.1
    obtain ⟨FF, hFF⟩ : ∃ FF, cuF M = FF := ⟨_, rfl⟩
    have hFl : FF.length ≤ 1000 := hFF ▸ (cuF_rows M).1
    have hil : ∀ X ∈ FF, X.length ≤ 4611686018427387904 := hFF ▸ fun X hX => Nat.le_trans ((cuF_rows M).2 X hX) (by omega)
    have HFF := Lib.hid hFF
    clear hFF
    have HIL := Lib.hid hil
    clear hil hs
    go_wp2_with fail
    refine (iCoversUp_any _ _ _ M _ p0.rd p0.le (by omega)).mono ?_
    rintro e w2 ⟨ag, cg, ug, rfl, g0, hb⟩
    replace p0 := p0.below (hb.mono p0.le)
    replace hA := hA.trans (hb.mono hA.size)
    have hz2 := hb.size
    clear hb
    rw [HFF.out] at g0 ⊢
    go_wp2_with fail
    refine (sCoversUp_any _ _ _ M _ p0.rd p0.le (by omega)).mono ?_
    rintro e w3 ⟨ar, cr, rfl, r0, hb⟩
    replace p0 := p0.below (hb.mono p0.le)
    replace g0 := g0.below (hb.mono g0.le)
    replace hA := hA.trans (hb.mono hA.size)
    have hz3 := hb.size
    clear hb
    rw [HFF.out] at r0 ⊢
    replace r0 := RdH.mk r0 (Nat.le_refl _)
    go_wp2_with fail
    refine (equalLists_same _ _ _ _ _ _ FF _ g0.rd r0.rd (by omega) HIL.out).mono ?_
    rintro e w4 ⟨rfl, hd⟩
    have hb : Below w3.heap.size w3 w4 := hd.below _
    clear hd
    replace p0 := p0.below (hb.mono p0.le)
    replace g0 := g0.below (hb.mono g0.le)
    replace r0 := r0.below (hb.mono r0.le)
    replace hA := hA.trans (hb.mono hA.size)
    have hz4 := hb.size
    clear hb
    go_wp2_with fail
    refine (iValidParts_any _ _ _ M _ p0.rd p0.le (by omega)).mono ?_
    rintro e w5 ⟨rfl, hb⟩
    replace p0 := p0.below (hb.mono p0.le)
    replace g0 := g0.below (hb.mono g0.le)
    replace r0 := r0.below (hb.mono r0.le)
    replace hA := hA.trans (hb.mono hA.size)
    have hz5 := hb.size
    clear hb
    cases hv : valid M with
    | false =>
      clear hv
      go_wp2_with fail
      refine (sCoversUp_any _ _ _ M _ p0.rd p0.le (by omega)).mono ?_
      rintro e w6 ⟨ar2, cr2, rfl, r1, hb⟩
      replace p0 := p0.below (hb.mono p0.le)
      replace g0 := g0.below (hb.mono g0.le)
      replace r0 := r0.below (hb.mono r0.le)
      replace hA := hA.trans (hb.mono hA.size)
      have hz6 := hb.size
      clear hb
      rw [HFF.out] at r1 ⊢
      replace r1 := RdH.mk r1 (Nat.le_refl _)
      go_wp2_with fail
      refine (equalLists_same _ _ _ _ _ _ FF _ g0.rd r1.rd (by omega) HIL.out).mono ?_
      rintro e w7 ⟨rfl, hd⟩
      have hb : Below w6.heap.size w6 w7 := hd.below _
      clear hd
      replace p0 := p0.below (hb.mono p0.le)
      replace g0 := g0.below (hb.mono g0.le)
      replace r0 := r0.below (hb.mono r0.le)
      replace r1 := r1.below (hb.mono r1.le)
      replace hA := hA.trans (hb.mono hA.size)
      have hz7 := hb.size
      clear hb
      go_wp2_with fail
      go_ret
      exact ⟨rfl, hA⟩
    | true =>
      have HV := Lib.hid hv
      have HFT := Lib.hid (valid_fits hv)
      clear hv
      go_wp2_with fail
      refine (total_any _ _ _ M _ p0.rd HFT.out (by omega)).mono ?_
      rintro e w' ⟨rfl, rfl⟩
      by_cases h12 : 12 < sumL M
      · skip
        go_wp2_with fail
        refine (sCoversUp_any _ _ _ M _ p0.rd p0.le (by omega)).mono ?_
        rintro e w6 ⟨ar2, cr2, rfl, r1, hb⟩
        replace p0 := p0.below (hb.mono p0.le)
        replace g0 := g0.below (hb.mono g0.le)
        replace r0 := r0.below (hb.mono r0.le)
        replace hA := hA.trans (hb.mono hA.size)
        have hz6 := hb.size
        clear hb
        rw [HFF.out] at r1 ⊢
        replace r1 := RdH.mk r1 (Nat.le_refl _)
        go_wp2_with fail
        refine (equalLists_same _ _ _ _ _ _ FF _ g0.rd r1.rd (by omega) HIL.out).mono ?_
        rintro e w7 ⟨rfl, hd⟩
        have hb : Below w6.heap.size w6 w7 := hd.below _
        clear hd
        replace p0 := p0.below (hb.mono p0.le)
        replace g0 := g0.below (hb.mono g0.le)
        replace r0 := r0.below (hb.mono r0.le)
        replace r1 := r1.below (hb.mono r1.le)
        replace hA := hA.trans (hb.mono hA.size)
        have hz7 := hb.size
        clear hb
        go_wp2_with fail
        go_ret
        exact ⟨rfl, hA⟩
      · skip
        have hle : sumL M ≤ 12 := by omega
        have HT1 : Hid (∀ k (h : k < FF.length), decide (M ∈ cvF FF[k]) = true) := Lib.hid (fun k h => decide_eq_true (cu_mem HV.out hle _ (HFF.out ▸ List.getElem_mem h)))
        have HT2 : Hid (∀ k d (h : k < FF.length) (hd : d < k), decide (plcF FF[k] ≤ plcF FF[d]) = false) := Lib.hid (fun k d h hd => by
          have := HFF.out
          subst this
          exact decide_eq_false (by have := cu_pw HV.out hle k d h hd; omega))
        have HT3 : Hid ((cvF (conj M)).length = FF.length) := Lib.hid (HFF.out ▸ cu_len HV.out hle)
        have HCJ : Hid (conjF M = conj M) := Lib.hid (conjF_yes HV.out)
        have HCL : Hid ((conj M).length ≤ 16) := Lib.hid (valid_bd (valid_conj HV.out)).2.2.2
        have HF1 : Hid (∀ X ∈ FF, X.length ≤ 16) := Lib.hid (fun X hX => by
          have := HFF.out
          subst this
          exact (cuF_rows M).2 X hX)
        have hl9 : M.length ≤ 16 := (valid_bd HV.out).2.2.2
        clear r0 hle
        go_wp2_with fail
        go_loopw [5] (fun ii wr => ∃ k : Nat, k ≤ FF.length ∧ ii = .int .i64 (k : Int) ∧ Below w5.heap.size w5 wr) (fun ii _ => FF.length - (intOf ii).toNat)
        case atStart => exact ⟨0, Nat.zero_le _, rfl, Below.refl _ _⟩
        case round =>
          obtain ⟨k, hk, rfl, hbr⟩ := hrel
          by_cases hlt : k < FF.length
          · have hlt' : (k : Int) < (FF.length : Int) := by omega
            have pr := p0.below (hbr.mono p0.le)
            have gr := g0.below (hbr.mono g0.le)
            obtain ⟨gA, ak, ck, rfl, hg1, hg2, hck, hok, -⟩ := gr.at_ hlt
            have HME := Lib.hid (HT1.out k hlt)
            have hl16 := HF1.out _ (List.getElem_mem hlt)
            have HGR := Lib.hid gr
            have HPR := Lib.hid pr
            have HOK := Lib.hid hok
            have hzo := hbr.size
            obtain ⟨r1, hr1⟩ : ∃ r1, plcF FF[k] = r1 := ⟨_, rfl⟩
            have HR1 := Lib.hid hr1
            have HCV : Hid ((cvF FF[k]).length ≤ 1000 ∧ ∀ X ∈ cvF FF[k], X.length ≤ 4611686018427387904) := Lib.hid ⟨(cvF_rows _).1, fun X hX => Nat.le_trans ((cvF_rows _).2 X hX) (by omega)⟩
            clear gr pr hok hr1
            go_wp2_with fail
            by_cases hk0 : 0 < k
            · have hkg : decide ((0 : Int) < (k : Int)) = true := decide_eq_true (by omega)
              obtain ⟨d, hkd⟩ : ∃ d : Nat, k - 1 = d := ⟨_, rfl⟩
              have hdk : d < k := by omega
              have hdi : (k : Int) - 1 = (d : Int) := by omega
              have hwd : IntKind.i64.wrap (d : Int) = (d : Int) := IntWalk.i64_in _ (by omega)
              have hdl : d < FF.length := by omega
              have hdl' : (d : Int) < (FF.length : Int) := by omega
              obtain ⟨gA2, ad, cd, e2, hh1, hh2, hcd, hod, -⟩ := HGR.out.at_ hdl
              injection e2 with e2; injection e2 with e2 _; subst e2
              have HOD := Lib.hid hod
              have hl16d := HF1.out _ (List.getElem_mem hdl)
              obtain ⟨r0, hr0⟩ : ∃ r0, plcF FF[d] = r0 := ⟨_, rfl⟩
              have HR0 := Lib.hid hr0
              have hrr : decide (r1 ≤ r0) = false := by
                have := HT2.out k d hlt hdk
                rw [HR1.out, hr0] at this
                exact this
              clear hod hr0 hkd
              refine wp_region_held_drew (S := (fun w' => w'.cell? ⟨gA, k, none⟩ = some (.slice ak FF[k].length ck) ∧ w'.cell? ⟨gA, d, none⟩ = some (.slice ad FF[d].length cd) ∧ Below wr.heap.size wr w')) (by kernel_rfl) (⟨bCell ((Dr.n wr 1).below _) hck, bCell ((Dr.n wr 1).below _) hcd, (Dr.n wr 1).below _⟩) (fun hS0 => ?_)
              refine wpAnyH_take (i := 0) (v := .slice (some ⟨gA, 0, none⟩) FF.length cg) (by simp only [List.getElem?_toArray, List.getElem?_cons_succ, List.getElem?_cons_zero]; exact rfl) (by kernel_rfl) (by kernel_rfl) (by kernel_rfl) (by intro _ _ _ h; exact h) (Or.inl ⟨by kernel_rfl, by intro w hSw; go_simp⟩) (by assumption) ?_
              simp only [Act.put, List.setIfInBounds_toArray, List.set_cons_zero, List.set_cons_succ, List.toList_toArray]
              refine wpAnyH_take (i := 1) (v := .int .i64 (k : Int)) (by simp only [List.getElem?_toArray, List.getElem?_cons_succ, List.getElem?_cons_zero]; exact rfl) (by kernel_rfl) (by kernel_rfl) (by kernel_rfl) (by intro _ _ _ h; exact h) (Or.inl ⟨by kernel_rfl, by intro w hSw; go_simp⟩) (by assumption) ?_
              simp only [Act.put, List.setIfInBounds_toArray, List.set_cons_zero, List.set_cons_succ, List.toList_toArray]
              refine wpAnyH_take (i := 2) (v := .pointer (some ⟨gA, k, none⟩)) (by simp only [List.getElem?_toArray, List.getElem?_cons_succ, List.getElem?_cons_zero]; exact rfl) (by kernel_rfl) (by kernel_rfl) (by kernel_rfl) (by intro _ _ _ h; exact h) (Or.inl ⟨by kernel_rfl, by intro w hSw; go_simp⟩) (by assumption) ?_
              simp only [Act.put, List.setIfInBounds_toArray, List.set_cons_zero, List.set_cons_succ, List.toList_toArray]
              refine wpAnyH_take (i := 3) (v := .slice ak FF[k].length ck) (by simp only [List.getElem?_toArray, List.getElem?_cons_succ, List.getElem?_cons_zero]; exact rfl) (by kernel_rfl) (by kernel_rfl) (by kernel_rfl) (by intro _ _ _ h; exact h) (Or.inl ⟨by kernel_rfl, by intro w hSw; obtain ⟨s1, s2, s3⟩ := hSw; go_simp⟩) (by assumption) ?_
              simp only [Act.put, List.setIfInBounds_toArray, List.set_cons_zero, List.set_cons_succ, List.toList_toArray]
              refine wpAnyH_take (i := 5) (v := .slice a1 M.length c1) (by simp only [List.getElem?_toArray, List.getElem?_cons_succ, List.getElem?_cons_zero]; exact rfl) (by kernel_rfl) (by kernel_rfl) (by kernel_rfl) (by intro _ _ _ h; exact h) (Or.inl ⟨by kernel_rfl, by intro w hSw; go_simp⟩) (by assumption) ?_
              simp only [Act.put, List.setIfInBounds_toArray, List.set_cons_zero, List.set_cons_succ, List.toList_toArray]
              refine wpAnyH_ready (rs := [4]) (by kernel_rfl) (by simp) ?_
              refine AllReadyH.cons (o := _) (by simp only [List.getElem?_toArray, List.getElem?_cons_succ, List.getElem?_cons_zero]; exact rfl) (fun K hK => ?_) AllReadyH.nil
              rw [if_pos (by rfl)]
              go_simp
              go_at_call 31
              refine (iCoversOf_any _ _ _ FF[k] _ (HOK.out.below (hS0.2.2.mono HOK.out.le)).rd (HOK.out.below (hS0.2.2.mono HOK.out.le)).le (by omega)).mono ?_
              rintro e wq0 ⟨ac, cc, uc, rfl, oc, hb0⟩
              have HOC := Lib.hid oc
              clear oc
              have hS1 := keepC2 hS0 hb0
              refine hK.out _ _ hS1 (fun _ => ?_)
              clear hK K
              try simp only [Act.put, List.setIfInBounds_toArray, List.set_cons_zero, List.set_cons_succ, List.toList_toArray]
              refine wpAnyH_ready (rs := [6]) (by kernel_rfl) (by simp) ?_
              refine AllReadyH.cons (o := _) (by simp only [List.getElem?_toArray, List.getElem?_cons_succ, List.getElem?_cons_zero]; exact rfl) (fun K hK => ?_) AllReadyH.nil
              rw [if_pos (by rfl)]
              go_simp
              go_at_call 39
              refine (holdsList_any _ _ _ _ _ _ _ M _ HOC.out.rd (HPR.out.below (hS1.2.2.mono HPR.out.le)).rd (by have := HCV.out.1; omega) HCV.out.2 (by omega)).mono ?_
              rintro e wq1 ⟨rfl, hb1⟩
              replace hb1 : Below wq0.heap.size wq0 wq1 := hb1.below _
              rw [HME.out]
              have hS2 := keepC2 hS1 hb1
              refine hK.out _ _ hS2 (fun _ => ?_)
              clear hK K
              try simp only [Act.put, List.setIfInBounds_toArray, List.set_cons_zero, List.set_cons_succ, List.toList_toArray]
              refine wpAnyH_take (i := 7) (v := .bool false) (by simp only [List.getElem?_toArray, List.getElem?_cons_succ, List.getElem?_cons_zero]; exact rfl) (by kernel_rfl) (by kernel_rfl) (by kernel_rfl) (by intro _ _ _ h; exact h) (Or.inl ⟨by kernel_rfl, by intro w hSw; go_simp⟩) (by assumption) ?_
              simp only [Act.put, List.setIfInBounds_toArray, List.set_cons_zero, List.set_cons_succ, List.toList_toArray]
              refine wpAnyH_take (i := 8) (v := .bool false) (by simp only [List.getElem?_toArray, List.getElem?_cons_succ, List.getElem?_cons_zero]; exact rfl) (by kernel_rfl) (by kernel_rfl) (by kernel_rfl) (by intro _ _ _ h; exact h) (Or.inl ⟨by kernel_rfl, by intro w hSw; go_simp⟩) (by assumption) ?_
              simp only [Act.put, List.setIfInBounds_toArray, List.set_cons_zero, List.set_cons_succ, List.toList_toArray]
              refine wpAnyH_take (i := 9) (v := .int .i64 (k : Int)) (by simp only [List.getElem?_toArray, List.getElem?_cons_succ, List.getElem?_cons_zero]; exact rfl) (by kernel_rfl) (by kernel_rfl) (by kernel_rfl) (by intro _ _ _ h; exact h) (Or.inl ⟨by kernel_rfl, by intro w hSw; go_simp⟩) (by assumption) ?_
              simp only [Act.put, List.setIfInBounds_toArray, List.set_cons_zero, List.set_cons_succ, List.toList_toArray]
              refine wpAnyH_take (i := 10) (v := .bool true) (by simp only [List.getElem?_toArray, List.getElem?_cons_succ, List.getElem?_cons_zero]; exact rfl) (by kernel_rfl) (by kernel_rfl) (by kernel_rfl) (by intro _ _ _ h; exact h) (Or.inl ⟨by kernel_rfl, by intro w hSw; go_simp⟩) (by assumption) ?_
              simp only [Act.put, List.setIfInBounds_toArray, List.set_cons_zero, List.set_cons_succ, List.toList_toArray]
              refine wpAnyH_take (i := 11) (v := .bool true) (by simp only [List.getElem?_toArray, List.getElem?_cons_succ, List.getElem?_cons_zero]; exact rfl) (by kernel_rfl) (by kernel_rfl) (by kernel_rfl) (by intro _ _ _ h; exact h) (Or.inl ⟨by kernel_rfl, by intro w hSw; go_simp⟩) (by assumption) ?_
              simp only [Act.put, List.setIfInBounds_toArray, List.set_cons_zero, List.set_cons_succ, List.toList_toArray]
              refine wpAnyH_take (i := 12) (v := .slice (some ⟨gA, 0, none⟩) FF.length cg) (by simp only [List.getElem?_toArray, List.getElem?_cons_succ, List.getElem?_cons_zero]; exact rfl) (by kernel_rfl) (by kernel_rfl) (by kernel_rfl) (by intro _ _ _ h; exact h) (Or.inl ⟨by kernel_rfl, by intro w hSw; go_simp⟩) (by assumption) ?_
              simp only [Act.put, List.setIfInBounds_toArray, List.set_cons_zero, List.set_cons_succ, List.toList_toArray]
              refine wpAnyH_take (i := 13) (v := .int .i64 (k : Int)) (by simp only [List.getElem?_toArray, List.getElem?_cons_succ, List.getElem?_cons_zero]; exact rfl) (by kernel_rfl) (by kernel_rfl) (by kernel_rfl) (by intro _ _ _ h; exact h) (Or.inl ⟨by kernel_rfl, by intro w hSw; go_simp⟩) (by assumption) ?_
              simp only [Act.put, List.setIfInBounds_toArray, List.set_cons_zero, List.set_cons_succ, List.toList_toArray]
              refine wpAnyH_take (i := 14) (v := .pointer (some ⟨gA, k, none⟩)) (by simp only [List.getElem?_toArray, List.getElem?_cons_succ, List.getElem?_cons_zero]; exact rfl) (by kernel_rfl) (by kernel_rfl) (by kernel_rfl) (by intro _ _ _ h; exact h) (Or.inl ⟨by kernel_rfl, by intro w hSw; go_simp⟩) (by assumption) ?_
              simp only [Act.put, List.setIfInBounds_toArray, List.set_cons_zero, List.set_cons_succ, List.toList_toArray]
              refine wpAnyH_take (i := 15) (v := .slice ak FF[k].length ck) (by simp only [List.getElem?_toArray, List.getElem?_cons_succ, List.getElem?_cons_zero]; exact rfl) (by kernel_rfl) (by kernel_rfl) (by kernel_rfl) (by intro _ _ _ h; exact h) (Or.inl ⟨by kernel_rfl, by intro w hSw; obtain ⟨s1, s2, s3⟩ := hSw; go_simp⟩) (by assumption) ?_
              simp only [Act.put, List.setIfInBounds_toArray, List.set_cons_zero, List.set_cons_succ, List.toList_toArray]
              refine wpAnyH_take (i := 17) (v := .slice (some ⟨gA, 0, none⟩) FF.length cg) (by simp only [List.getElem?_toArray, List.getElem?_cons_succ, List.getElem?_cons_zero]; exact rfl) (by kernel_rfl) (by kernel_rfl) (by kernel_rfl) (by intro _ _ _ h; exact h) (Or.inl ⟨by kernel_rfl, by intro w hSw; go_simp⟩) (by assumption) ?_
              simp only [Act.put, List.setIfInBounds_toArray, List.set_cons_zero, List.set_cons_succ, List.toList_toArray]
              refine wpAnyH_take (i := 18) (v := .int .i64 (k : Int)) (by simp only [List.getElem?_toArray, List.getElem?_cons_succ, List.getElem?_cons_zero]; exact rfl) (by kernel_rfl) (by kernel_rfl) (by kernel_rfl) (by intro _ _ _ h; exact h) (Or.inl ⟨by kernel_rfl, by intro w hSw; go_simp⟩) (by assumption) ?_
              simp only [Act.put, List.setIfInBounds_toArray, List.set_cons_zero, List.set_cons_succ, List.toList_toArray]
              refine wpAnyH_take (i := 19) (v := .int .i64 (d : Int)) (by simp only [List.getElem?_toArray, List.getElem?_cons_succ, List.getElem?_cons_zero]; exact rfl) (by kernel_rfl) (by kernel_rfl) (by kernel_rfl) (by intro _ _ _ h; exact h) (Or.inl ⟨by kernel_rfl, by intro w hSw; go_simp⟩) (by assumption) ?_
              simp only [Act.put, List.setIfInBounds_toArray, List.set_cons_zero, List.set_cons_succ, List.toList_toArray]
              refine wpAnyH_take (i := 20) (v := .pointer (some ⟨gA, d, none⟩)) (by simp only [List.getElem?_toArray, List.getElem?_cons_succ, List.getElem?_cons_zero]; exact rfl) (by kernel_rfl) (by kernel_rfl) (by kernel_rfl) (by intro _ _ _ h; exact h) (Or.inl ⟨by kernel_rfl, by intro w hSw; go_simp⟩) (by assumption) ?_
              simp only [Act.put, List.setIfInBounds_toArray, List.set_cons_zero, List.set_cons_succ, List.toList_toArray]
              refine wpAnyH_take (i := 21) (v := .slice ad FF[d].length cd) (by simp only [List.getElem?_toArray, List.getElem?_cons_succ, List.getElem?_cons_zero]; exact rfl) (by kernel_rfl) (by kernel_rfl) (by kernel_rfl) (by intro _ _ _ h; exact h) (Or.inl ⟨by kernel_rfl, by intro w hSw; obtain ⟨s1, s2, s3⟩ := hSw; go_simp⟩) (by assumption) ?_
              simp only [Act.put, List.setIfInBounds_toArray, List.set_cons_zero, List.set_cons_succ, List.toList_toArray]
              refine wpAnyH_ready (rs := [16]) (by kernel_rfl) (by simp) ?_
              refine AllReadyH.cons (o := _) (by simp only [List.getElem?_toArray, List.getElem?_cons_succ, List.getElem?_cons_zero]; exact rfl) (fun K hK => ?_) AllReadyH.nil
              rw [if_pos (by rfl)]
              go_simp
              go_at_call 40
              refine (iPlaceOf_any _ _ _ FF[k] _ (HOK.out.below (hS2.2.2.mono HOK.out.le)).rd (HOK.out.below (hS2.2.2.mono HOK.out.le)).le (by omega)).mono ?_
              rintro e wq2 ⟨rfl, hb2⟩
              rw [HR1.out]
              have hS3 := keepC2 hS2 hb2
              refine hK.out _ _ hS3 (fun _ => ?_)
              clear hK K
              try simp only [Act.put, List.setIfInBounds_toArray, List.set_cons_zero, List.set_cons_succ, List.toList_toArray]
              refine wpAnyH_ready (rs := [22]) (by kernel_rfl) (by simp) ?_
              refine AllReadyH.cons (o := _) (by simp only [List.getElem?_toArray, List.getElem?_cons_succ, List.getElem?_cons_zero]; exact rfl) (fun K hK => ?_) AllReadyH.nil
              rw [if_pos (by rfl)]
              go_simp
              go_at_call 40
              refine (iPlaceOf_any _ _ _ FF[d] _ (HOD.out.below (hS3.2.2.mono HOD.out.le)).rd (HOD.out.below (hS3.2.2.mono HOD.out.le)).le (by omega)).mono ?_
              rintro e wq3 ⟨rfl, hb3⟩
              rw [HR0.out]
              have hS4 := keepC2 hS3 hb3
              refine hK.out _ _ hS4 (fun _ => ?_)
              clear hK K
              try simp only [Act.put, List.setIfInBounds_toArray, List.set_cons_zero, List.set_cons_succ, List.toList_toArray]
              refine wpAnyH_take (i := 23) (v := .bool false) (by simp only [List.getElem?_toArray, List.getElem?_cons_succ, List.getElem?_cons_zero]; exact rfl) (by kernel_rfl) (by kernel_rfl) (by kernel_rfl) (by intro _ _ _ h; exact h) (Or.inl ⟨by kernel_rfl, by intro w hSw; go_simp⟩) (by assumption) ?_
              simp only [Act.put, List.setIfInBounds_toArray, List.set_cons_zero, List.set_cons_succ, List.toList_toArray]
              refine wpAnyH_take (i := 24) (v := .bool false) (by simp only [List.getElem?_toArray, List.getElem?_cons_succ, List.getElem?_cons_zero]; exact rfl) (by kernel_rfl) (by kernel_rfl) (by kernel_rfl) (by intro _ _ _ h; exact h) (Or.inl ⟨by kernel_rfl, by intro w hSw; go_simp⟩) (by assumption) ?_
              simp only [Act.put, List.setIfInBounds_toArray, List.set_cons_zero, List.set_cons_succ, List.toList_toArray]
              refine wpAnyH_take (i := 25) (v := .bool false) (by simp only [List.getElem?_toArray, List.getElem?_cons_succ, List.getElem?_cons_zero]; exact rfl) (by kernel_rfl) (by kernel_rfl) (by kernel_rfl) (by intro _ _ _ h; exact h) (Or.inl ⟨by kernel_rfl, by intro w hSw; go_simp⟩) (by assumption) ?_
              simp only [Act.put, List.setIfInBounds_toArray, List.set_cons_zero, List.set_cons_succ, List.toList_toArray]
              refine wpAnyH_done (by kernel_rfl) ?_ _
              try simp only [Act.put, List.setIfInBounds_toArray, List.set_cons_zero, List.set_cons_succ]
              go_wp2_with fail
              go_roundw
              case rel => exact ⟨k + 1, by omega, by go_num, hbr.trans (hS4.2.2.mono hzo)⟩
              case measure => simp [intOf] <;> omega
            · have hkg : decide ((0 : Int) < (k : Int)) = false := decide_eq_false (by omega)
              refine wp_region_held_drew (S := (fun w' => w'.cell? ⟨gA, k, none⟩ = some (.slice ak FF[k].length ck) ∧ w'.cell? ⟨gA, k, none⟩ = some (.slice ak FF[k].length ck) ∧ Below wr.heap.size wr w')) (by kernel_rfl) (⟨bCell ((Dr.n wr 1).below _) hck, bCell ((Dr.n wr 1).below _) hck, (Dr.n wr 1).below _⟩) (fun hS0 => ?_)
              refine wpAnyH_take (i := 0) (v := .slice (some ⟨gA, 0, none⟩) FF.length cg) (by simp only [List.getElem?_toArray, List.getElem?_cons_succ, List.getElem?_cons_zero]; exact rfl) (by kernel_rfl) (by kernel_rfl) (by kernel_rfl) (by intro _ _ _ h; exact h) (Or.inl ⟨by kernel_rfl, by intro w hSw; go_simp⟩) (by assumption) ?_
              simp only [Act.put, List.setIfInBounds_toArray, List.set_cons_zero, List.set_cons_succ, List.toList_toArray]
              refine wpAnyH_take (i := 1) (v := .int .i64 (k : Int)) (by simp only [List.getElem?_toArray, List.getElem?_cons_succ, List.getElem?_cons_zero]; exact rfl) (by kernel_rfl) (by kernel_rfl) (by kernel_rfl) (by intro _ _ _ h; exact h) (Or.inl ⟨by kernel_rfl, by intro w hSw; go_simp⟩) (by assumption) ?_
              simp only [Act.put, List.setIfInBounds_toArray, List.set_cons_zero, List.set_cons_succ, List.toList_toArray]
              refine wpAnyH_take (i := 2) (v := .pointer (some ⟨gA, k, none⟩)) (by simp only [List.getElem?_toArray, List.getElem?_cons_succ, List.getElem?_cons_zero]; exact rfl) (by kernel_rfl) (by kernel_rfl) (by kernel_rfl) (by intro _ _ _ h; exact h) (Or.inl ⟨by kernel_rfl, by intro w hSw; go_simp⟩) (by assumption) ?_
              simp only [Act.put, List.setIfInBounds_toArray, List.set_cons_zero, List.set_cons_succ, List.toList_toArray]
              refine wpAnyH_take (i := 3) (v := .slice ak FF[k].length ck) (by simp only [List.getElem?_toArray, List.getElem?_cons_succ, List.getElem?_cons_zero]; exact rfl) (by kernel_rfl) (by kernel_rfl) (by kernel_rfl) (by intro _ _ _ h; exact h) (Or.inl ⟨by kernel_rfl, by intro w hSw; obtain ⟨s1, s2, s3⟩ := hSw; go_simp⟩) (by assumption) ?_
              simp only [Act.put, List.setIfInBounds_toArray, List.set_cons_zero, List.set_cons_succ, List.toList_toArray]
              refine wpAnyH_take (i := 5) (v := .slice a1 M.length c1) (by simp only [List.getElem?_toArray, List.getElem?_cons_succ, List.getElem?_cons_zero]; exact rfl) (by kernel_rfl) (by kernel_rfl) (by kernel_rfl) (by intro _ _ _ h; exact h) (Or.inl ⟨by kernel_rfl, by intro w hSw; go_simp⟩) (by assumption) ?_
              simp only [Act.put, List.setIfInBounds_toArray, List.set_cons_zero, List.set_cons_succ, List.toList_toArray]
              refine wpAnyH_ready (rs := [4]) (by kernel_rfl) (by simp) ?_
              refine AllReadyH.cons (o := _) (by simp only [List.getElem?_toArray, List.getElem?_cons_succ, List.getElem?_cons_zero]; exact rfl) (fun K hK => ?_) AllReadyH.nil
              rw [if_pos (by rfl)]
              go_simp
              go_at_call 31
              refine (iCoversOf_any _ _ _ FF[k] _ (HOK.out.below (hS0.2.2.mono HOK.out.le)).rd (HOK.out.below (hS0.2.2.mono HOK.out.le)).le (by omega)).mono ?_
              rintro e wq0 ⟨ac, cc, uc, rfl, oc, hb0⟩
              have HOC := Lib.hid oc
              clear oc
              have hS1 := keepC2 hS0 hb0
              refine hK.out _ _ hS1 (fun _ => ?_)
              clear hK K
              try simp only [Act.put, List.setIfInBounds_toArray, List.set_cons_zero, List.set_cons_succ, List.toList_toArray]
              refine wpAnyH_ready (rs := [6]) (by kernel_rfl) (by simp) ?_
              refine AllReadyH.cons (o := _) (by simp only [List.getElem?_toArray, List.getElem?_cons_succ, List.getElem?_cons_zero]; exact rfl) (fun K hK => ?_) AllReadyH.nil
              rw [if_pos (by rfl)]
              go_simp
              go_at_call 39
              refine (holdsList_any _ _ _ _ _ _ _ M _ HOC.out.rd (HPR.out.below (hS1.2.2.mono HPR.out.le)).rd (by have := HCV.out.1; omega) HCV.out.2 (by omega)).mono ?_
              rintro e wq1 ⟨rfl, hb1⟩
              replace hb1 : Below wq0.heap.size wq0 wq1 := hb1.below _
              rw [HME.out]
              have hS2 := keepC2 hS1 hb1
              refine hK.out _ _ hS2 (fun _ => ?_)
              clear hK K
              try simp only [Act.put, List.setIfInBounds_toArray, List.set_cons_zero, List.set_cons_succ, List.toList_toArray]
              refine wpAnyH_take (i := 7) (v := .bool false) (by simp only [List.getElem?_toArray, List.getElem?_cons_succ, List.getElem?_cons_zero]; exact rfl) (by kernel_rfl) (by kernel_rfl) (by kernel_rfl) (by intro _ _ _ h; exact h) (Or.inl ⟨by kernel_rfl, by intro w hSw; go_simp⟩) (by assumption) ?_
              simp only [Act.put, List.setIfInBounds_toArray, List.set_cons_zero, List.set_cons_succ, List.toList_toArray]
              refine wpAnyH_take (i := 8) (v := .bool false) (by simp only [List.getElem?_toArray, List.getElem?_cons_succ, List.getElem?_cons_zero]; exact rfl) (by kernel_rfl) (by kernel_rfl) (by kernel_rfl) (by intro _ _ _ h; exact h) (Or.inl ⟨by kernel_rfl, by intro w hSw; go_simp⟩) (by assumption) ?_
              simp only [Act.put, List.setIfInBounds_toArray, List.set_cons_zero, List.set_cons_succ, List.toList_toArray]
              refine wpAnyH_take (i := 9) (v := .int .i64 (k : Int)) (by simp only [List.getElem?_toArray, List.getElem?_cons_succ, List.getElem?_cons_zero]; exact rfl) (by kernel_rfl) (by kernel_rfl) (by kernel_rfl) (by intro _ _ _ h; exact h) (Or.inl ⟨by kernel_rfl, by intro w hSw; go_simp⟩) (by assumption) ?_
              simp only [Act.put, List.setIfInBounds_toArray, List.set_cons_zero, List.set_cons_succ, List.toList_toArray]
              refine wpAnyH_take (i := 10) (v := .bool false) (by simp only [List.getElem?_toArray, List.getElem?_cons_succ, List.getElem?_cons_zero]; exact rfl) (by kernel_rfl) (by kernel_rfl) (by kernel_rfl) (by intro _ _ _ h; exact h) (Or.inl ⟨by kernel_rfl, by intro w hSw; go_simp⟩) (by assumption) ?_
              simp only [Act.put, List.setIfInBounds_toArray, List.set_cons_zero, List.set_cons_succ, List.toList_toArray]
              refine wpAnyH_take (i := 11) (v := .bool false) (by simp only [List.getElem?_toArray, List.getElem?_cons_succ, List.getElem?_cons_zero]; exact rfl) (by kernel_rfl) (by kernel_rfl) (by kernel_rfl) (by intro _ _ _ h; exact h) (Or.inl ⟨by kernel_rfl, by intro w hSw; go_simp⟩) (by assumption) ?_
              simp only [Act.put, List.setIfInBounds_toArray, List.set_cons_zero, List.set_cons_succ, List.toList_toArray]
              refine wpAnyH_take (i := 12) (v := undef) (by simp only [List.getElem?_toArray, List.getElem?_cons_succ, List.getElem?_cons_zero]; exact rfl) (by kernel_rfl) (by kernel_rfl) (by kernel_rfl) (by intro _ _ _ h; exact h) (Or.inr ⟨by kernel_rfl, rfl⟩) (by assumption) ?_
              simp only [Act.put, List.setIfInBounds_toArray, List.set_cons_zero, List.set_cons_succ, List.toList_toArray]
              refine wpAnyH_take (i := 13) (v := undef) (by simp only [List.getElem?_toArray, List.getElem?_cons_succ, List.getElem?_cons_zero]; exact rfl) (by kernel_rfl) (by kernel_rfl) (by kernel_rfl) (by intro _ _ _ h; exact h) (Or.inr ⟨by kernel_rfl, rfl⟩) (by assumption) ?_
              simp only [Act.put, List.setIfInBounds_toArray, List.set_cons_zero, List.set_cons_succ, List.toList_toArray]
              refine wpAnyH_take (i := 14) (v := undef) (by simp only [List.getElem?_toArray, List.getElem?_cons_succ, List.getElem?_cons_zero]; exact rfl) (by kernel_rfl) (by kernel_rfl) (by kernel_rfl) (by intro _ _ _ h; exact h) (Or.inr ⟨by kernel_rfl, rfl⟩) (by assumption) ?_
              simp only [Act.put, List.setIfInBounds_toArray, List.set_cons_zero, List.set_cons_succ, List.toList_toArray]
              refine wpAnyH_take (i := 15) (v := undef) (by simp only [List.getElem?_toArray, List.getElem?_cons_succ, List.getElem?_cons_zero]; exact rfl) (by kernel_rfl) (by kernel_rfl) (by kernel_rfl) (by intro _ _ _ h; exact h) (Or.inr ⟨by kernel_rfl, rfl⟩) (by assumption) ?_
              simp only [Act.put, List.setIfInBounds_toArray, List.set_cons_zero, List.set_cons_succ, List.toList_toArray]
              refine wpAnyH_take (i := 16) (v := undef) (by simp only [List.getElem?_toArray, List.getElem?_cons_succ, List.getElem?_cons_zero]; exact rfl) (by kernel_rfl) (by kernel_rfl) (by kernel_rfl) (by intro _ _ _ h; exact h) (Or.inr ⟨by kernel_rfl, rfl⟩) (by assumption) ?_
              simp only [Act.put, List.setIfInBounds_toArray, List.set_cons_zero, List.set_cons_succ, List.toList_toArray]
              refine wpAnyH_take (i := 17) (v := undef) (by simp only [List.getElem?_toArray, List.getElem?_cons_succ, List.getElem?_cons_zero]; exact rfl) (by kernel_rfl) (by kernel_rfl) (by kernel_rfl) (by intro _ _ _ h; exact h) (Or.inr ⟨by kernel_rfl, rfl⟩) (by assumption) ?_
              simp only [Act.put, List.setIfInBounds_toArray, List.set_cons_zero, List.set_cons_succ, List.toList_toArray]
              refine wpAnyH_take (i := 18) (v := undef) (by simp only [List.getElem?_toArray, List.getElem?_cons_succ, List.getElem?_cons_zero]; exact rfl) (by kernel_rfl) (by kernel_rfl) (by kernel_rfl) (by intro _ _ _ h; exact h) (Or.inr ⟨by kernel_rfl, rfl⟩) (by assumption) ?_
              simp only [Act.put, List.setIfInBounds_toArray, List.set_cons_zero, List.set_cons_succ, List.toList_toArray]
              refine wpAnyH_take (i := 19) (v := undef) (by simp only [List.getElem?_toArray, List.getElem?_cons_succ, List.getElem?_cons_zero]; exact rfl) (by kernel_rfl) (by kernel_rfl) (by kernel_rfl) (by intro _ _ _ h; exact h) (Or.inr ⟨by kernel_rfl, rfl⟩) (by assumption) ?_
              simp only [Act.put, List.setIfInBounds_toArray, List.set_cons_zero, List.set_cons_succ, List.toList_toArray]
              refine wpAnyH_take (i := 20) (v := undef) (by simp only [List.getElem?_toArray, List.getElem?_cons_succ, List.getElem?_cons_zero]; exact rfl) (by kernel_rfl) (by kernel_rfl) (by kernel_rfl) (by intro _ _ _ h; exact h) (Or.inr ⟨by kernel_rfl, rfl⟩) (by assumption) ?_
              simp only [Act.put, List.setIfInBounds_toArray, List.set_cons_zero, List.set_cons_succ, List.toList_toArray]
              refine wpAnyH_take (i := 21) (v := undef) (by simp only [List.getElem?_toArray, List.getElem?_cons_succ, List.getElem?_cons_zero]; exact rfl) (by kernel_rfl) (by kernel_rfl) (by kernel_rfl) (by intro _ _ _ h; exact h) (Or.inr ⟨by kernel_rfl, rfl⟩) (by assumption) ?_
              simp only [Act.put, List.setIfInBounds_toArray, List.set_cons_zero, List.set_cons_succ, List.toList_toArray]
              refine wpAnyH_take (i := 22) (v := undef) (by simp only [List.getElem?_toArray, List.getElem?_cons_succ, List.getElem?_cons_zero]; exact rfl) (by kernel_rfl) (by kernel_rfl) (by kernel_rfl) (by intro _ _ _ h; exact h) (Or.inr ⟨by kernel_rfl, rfl⟩) (by assumption) ?_
              simp only [Act.put, List.setIfInBounds_toArray, List.set_cons_zero, List.set_cons_succ, List.toList_toArray]
              refine wpAnyH_take (i := 23) (v := undef) (by simp only [List.getElem?_toArray, List.getElem?_cons_succ, List.getElem?_cons_zero]; exact rfl) (by kernel_rfl) (by kernel_rfl) (by kernel_rfl) (by intro _ _ _ h; exact h) (Or.inr ⟨by kernel_rfl, rfl⟩) (by assumption) ?_
              simp only [Act.put, List.setIfInBounds_toArray, List.set_cons_zero, List.set_cons_succ, List.toList_toArray]
              refine wpAnyH_take (i := 24) (v := .bool false) (by simp only [List.getElem?_toArray, List.getElem?_cons_succ, List.getElem?_cons_zero]; exact rfl) (by kernel_rfl) (by kernel_rfl) (by kernel_rfl) (by intro _ _ _ h; exact h) (Or.inl ⟨by kernel_rfl, by intro w hSw; go_simp⟩) (by assumption) ?_
              simp only [Act.put, List.setIfInBounds_toArray, List.set_cons_zero, List.set_cons_succ, List.toList_toArray]
              refine wpAnyH_take (i := 25) (v := .bool false) (by simp only [List.getElem?_toArray, List.getElem?_cons_succ, List.getElem?_cons_zero]; exact rfl) (by kernel_rfl) (by kernel_rfl) (by kernel_rfl) (by intro _ _ _ h; exact h) (Or.inl ⟨by kernel_rfl, by intro w hSw; go_simp⟩) (by assumption) ?_
              simp only [Act.put, List.setIfInBounds_toArray, List.set_cons_zero, List.set_cons_succ, List.toList_toArray]
              refine wpAnyH_done (by kernel_rfl) ?_ _
              try simp only [Act.put, List.setIfInBounds_toArray, List.set_cons_zero, List.set_cons_succ]
              go_wp2_with fail
              go_roundw
              case rel => exact ⟨k + 1, by omega, by go_num, hbr.trans (hS2.2.2.mono hzo)⟩
              case measure => simp [intOf] <;> omega
          · have pr := p0.below (hbr.mono p0.le)
            have hzr := hbr.size
            go_wp2_with fail
            refine (iConjugateOf_any _ _ _ M _ pr.rd pr.le (by omega)).mono ?_
            rintro e w5 ⟨a5, c5, rfl, o5, hb5⟩
            rw [HCJ.out] at o5 ⊢
            have HO5 := Lib.hid o5
            clear o5
            go_wp2_with fail
            refine (iCoversOf_any _ _ _ (conj M) _ HO5.out.rd HO5.out.le (by have := HCL.out; omega)).mono ?_
            rintro e w6 ⟨a6, c6, u6, rfl, o6, hb6⟩
            rw [HT3.out]
            have hkk : ((FF.length : Int) == (FF.length : Int)) = true := by simp
            clear o6
            go_wp2_with fail
            go_ret
            exact ⟨rfl, hA.trans ((hbr.trans ((hb5.trans (hb6.mono hb5.size)).mono hzr)).mono hA.size)⟩
  · have hl' : 1048576 < bs.length := by omega
    go_enter Try.func10, Try.ntmps10
    go_wp2_with fail
    go_ret
    exact ⟨rfl, Below.refl _ _⟩

theorem own : ownKnob Try.prog.godebug = none := by kernel_rfl
theorem laidOut : laidOutB Try.prog = true := by kernel_rfl

set_option maxRecDepth 100000 in
theorem lifted (os : Os) (started : os.Started) (H : Type) (enc : TypeId × Value → H) :
    ReturnsInHanded {} Try.checked os 10 .any (Rows.fnCoversUpSpec.pre6 enc Try.prog Try.f10 Rows.fnCoversUpRow.domain false) (Rows.fnCoversUpSpec.post enc Try.prog Try.f10 false true false false) := by
  refine returnsInHanded_of_change (C := Try.checked) own started (by kernel_rfl) Try.func10
    (ChangeSpec.witness6 (enc := enc) (C := Try.checked) false ⟨#[], #[.slice none 0 0], []⟩ 8 (by kernel_rfl) (by kernel_rfl) (by kernel_rfl) (by kernel_rfl)) ?_
  intro W base args ds gs before hval0 hW hcnd _
  have hval : ∀ (j : Nat) t v, Try.f10.params[j]? = some t → args[j]? = some v → Value.okWide Try.prog W .any base t v := hval0
  have hW' := hW
  obtain ⟨p, q, hA0, hV, rfl, hfz, hnd⟩ := hW
  have hA : DataW.TrodAll enc Try.prog W 0 (fun _ => true) true Try.f10.params.toList args.toList ds p := hA0
  rw [Try.params10] at hA hval
  obtain ⟨v0, vs0, d0, ds0, p0, q0, hargs, rfl, rfl, h0, r0⟩ := trodAll_cons hA
  obtain ⟨rfl, rfl, rfl⟩ := trodAll_nil r0
  obtain rfl : args = #[v0] := by cases args; simp_all
  obtain ⟨rfl, rfl⟩ := trodVars_none hV
  obtain ⟨a0, len0, cap0, rfl⟩ := okWide_slice Try.underlying31 (hval 0 31 v0 rfl rfl)
  have k0 := h0
  have lt0 : ∀ x ∈ p0, x.block < W.heap.size := by obtain ⟨m, hm⟩ := k0; exact DataW.trod_lt m _ _ _ hm
  obtain ⟨z0, w0⟩ : ∃ zs, IsRow .u8 W a0 len0 cap0 zs := by
    obtain ⟨fuel, hf⟩ := h0
    rcases open_ints Try.underlying31 Try.underlying5 (by kernel_rfl) hf with ⟨hcs, _⟩ | ⟨x, l, c, zs, hcs, _, hl, hm, hz, _, hcell, hwz⟩
    · simp [Value.cells] at hcs
      obtain ⟨rfl, rfl, rfl⟩ := hcs
      exact ⟨[], .inl ⟨rfl, rfl, rfl, rfl⟩⟩
    · simp [Value.cells] at hcs
      obtain ⟨rfl, rfl, rfl⟩ := hcs
      exact ⟨zs, .inr ⟨_, rfl, hl, hm, by simpa using hz, hcell, hwz⟩⟩
  have lc0 := w0.lc
  obtain ⟨L0, rfl, R0, wf0, m0⟩ := w0.rd
  clear hA0 hval0
  refine (walk a0 cap0 L0 W R0 wf0 m0 (by simpa using lc0)).mono fun e W' ⟨he, bel⟩ => ?_
  subst he
  exact ⟨_, rfl, _, _, _, [], _, [], hW', trodAll_mk1 (shut_bool Try.underlying4 _), (trodAll_cons_mk (Below.trod laidOut (by kernel_rfl) (of_decide_eq_true (by kernel_rfl)) k0 bel lt0) trodAll_mk0), rfl, bel.frame _, fun h => by cases h⟩

theorem over : Rows.fnCoversUpRow.holds Try.pinned (OpenSpec.ofChange Rows.fnCoversUpSpec) :=
  OpenClaim.holds_of_wide 10 Try.f10 rfl rfl rfl rfl rfl rfl rfl ⟨rfl, rfl, rfl, rfl, rfl⟩ rfl rfl rfl rfl rfl (by kernel_rfl) Try.func10 (by kernel_rfl)
    (of_decide_eq_true (by kernel_rfl)) (by unfold Func.isWrapper; first | (rw [if_pos (by decide +kernel)]; kernel_rfl) | (rw [if_neg (by decide +kernel)]; exact ⟨rfl, rfl⟩))
    (fun os started H enc _ => lifted os started H enc)

/-- the given statement -/
theorem proved : Rows.FnCoversUpSaid := over
end Go.Proofs.Ytmnlmahjgmhdiaa.fnCoversUp
