/-
  'laws.FnCountIn' returns true for every code, and the code reads as it did. No condition.
-/
import Derived.Test.YteglcoalfgjjiaaRows
import Derived.Test.YteglcoalfgjjiaaW20
import Derived.Test.YteglcoalfgjjiaaW21
import Derived.Test.YteglcoalfgjjiaaD8
import Derived.Test.YteglcoalfgjjiaaW22
import Derived.Test.YteglcoalfgjjiaaC2
import Derived.Test.YteglcoalfgjjiaaL1
import Derived.WalkKit
import Derived.ProofKit
import Derived.OpenShut
import Derived.ShutString
import Derived.ChangeOld
import Derived.Below
namespace Go.Proofs.Yteglcoalfgjjiaa.fnCountIn
open Go.ChangeShapes Go.WideShapes Go.ChangeAt Go.RowKit NP
open Go.ChangeMaps (open_string shut_string)
set_option linter.unusedVariables false
set_option linter.unusedSimpArgs false

theorem cnt_nonneg (once : Bool) {S : List Int} (hs : stB S = true) {n : Int} (h0 : 0 ≤ n) (h1 : n ≤ 40) : 0 ≤ cntF once S n := by
  rw [cntF_in once hs h0 h1]
  have := (setRows_bd hs once S.length (Nat.le_refl _)) n.toNat (by omega)
  rw [List.take_length] at this
  exact this.1
theorem cap_of {w : World} {lo hi g c : Nat} {t : TypeId} {vs : List Value} (h : Own w lo hi t (.slice (some ⟨g, 0, none⟩) vs.length c) vs) (h0 : 0 < vs.length) : vs.length ≤ c := by
  obtain ⟨g', c', e, hc⟩ := h.formN h0
  injection e with _ _ e3
  omega

theorem keepB {wr wx w' : World} {g k : Nat} {x : Value} (h1 : wx.cell? ⟨g, k, none⟩ = some x) (h2 : Below wr.heap.size wr wx) (hb : Below wx.heap.size wx w') (hg : g < wr.heap.size) : w'.cell? ⟨g, k, none⟩ = some x ∧ Below wr.heap.size wr w' :=
  ⟨(hb.cell (by have := h2.size; show g < wx.heap.size; omega)).trans h1, h2.trans (hb.mono h2.size)⟩

set_option maxHeartbeats 1600000 in
theorem walk (a : Option Addr) (c : Nat) (bs : List Int) (w0 : World) (h : Rd w0 w0.heap.size a (bs.map (Value.int .u8))) (hb : ∀ n ∈ bs, (Lit.int .u8 n).wf = true) (m : bs.length ≤ maxLen) (hc : bs.length ≤ c) :
    Calls Try.prog 8 #[.slice a bs.length c] w0 fun e w' => e = .returned (.bool true) ∧ Below w0.heap.size w0 w' := by
  unfold maxLen at m
  by_cases hl : bs.length ≤ 1048576
  · go_enter Try.func8, Try.ntmps8
    go_wp2_with fail
    refine (DrawCountIn_any a c _ bs _ h (Nat.le_refl _) hb hl hc).mono ?_
    rintro e w1 ⟨a_d, c_d, M, x, rfl, od, ⟨hsm, hx0, hx41⟩, hA⟩
    have hMl : M.length ≤ 8 := hsm.1
    clear h hb hl hc m hsm
    by_cases hv : stB M = true ∧ 0 ≤ x ∧ x ≤ 40
    · obtain ⟨hs, h0, h40⟩ := hv
      clear hx0 hx41
      have hC0 := cnt_nonneg false hs h0 h40
      have hCb := (cntF_bd false M x).2
      obtain ⟨N, hN⟩ : ∃ N : Nat, x = (N : Int) := ⟨x.toNat, by omega⟩
      have hN40 : N ≤ 40 := by omega
      have R1 := fun w => rising1_any N N hN40 rfl w
      have HE : Hid (cntF false (rsL 1 N) x = cpF x) := Lib.hid (by rw [hN]; exact cntS_all N hN40)
      have hr1 : (rsL 1 N).length ≤ 4611686018427387904 := by rw [rsL_len]; omega
      rw [← hN] at R1
      clear hN hN40
      have gC : decide (cntF false M x < 0) = false := decide_eq_false (by omega)
      have HC : Hid (0 ≤ cntF false M x ∧ cntF false M x ≤ 1099511627776) := Lib.hid ⟨hC0, hCb⟩
      have HX : Hid (0 ≤ x ∧ x ≤ 40) := Lib.hid ⟨h0, h40⟩
      have HS := Lib.hid hs
      obtain ⟨C, hC⟩ : ∃ C, C = cntF false M x := ⟨_, rfl⟩
      rw [← hC] at gC HC
      have HCE := Lib.hid hC
      clear hC hC0 hCb h0 h40 hs
      go_wp2_with fail
      refine (iCountIn_any _ _ _ M x _ od.rd (by omega) (by omega)).mono ?_
      rintro e w2 ⟨rfl, hb⟩
      replace od := od.below (hb.mono od.le)
      replace hA := hA.trans (hb.mono hA.size)
      have hz2 := hb.size
      clear hb
      rw [← HCE.out]
      go_wp2_with fail
      refine (sCountIn_any _ _ _ M x _ od.rd (by omega) (by omega)).mono ?_
      rintro e w3 ⟨rfl, hb⟩
      replace od := od.below (hb.mono od.le)
      replace hA := hA.trans (hb.mono hA.size)
      have hz3 := hb.size
      clear hb
      rw [← HCE.out]
      go_wp2_with fail
      refine (R1 _).mono ?_
      rintro e w4 ⟨a_r, c_r, rfl, orr, hb⟩
      replace od := od.below (hb.mono od.le)
      replace hA := hA.trans (hb.mono hA.size)
      have hz4 := hb.size
      clear hb
      go_wp2_with fail
      refine (iCountIn_any _ _ _ (rsL 1 N) x _ orr.rd (by omega) (by omega)).mono ?_
      rintro e w5 ⟨rfl, hb⟩
      replace od := od.below (hb.mono od.le)
      replace hA := hA.trans (hb.mono hA.size)
      have hz5 := hb.size
      clear hb
      clear orr
      go_wp2_with fail
      refine (iCountParts_any x _).mono ?_
      rintro e w9 ⟨rfl, hb⟩
      replace od := od.below (hb.mono od.le)
      replace hA := hA.trans (hb.mono hA.size)
      have hz9 := hb.size
      clear hb
      rw [HE.out]
      clear HE R1
      by_cases hk : M.length = 0
      · obtain rfl : M = [] := by simpa using hk
        have hCe := HCE.out
        rw [cnt_empty false HX.out.1 HX.out.2] at hCe
        clear hk od
        by_cases hn : x = 0
        · rw [if_pos hn] at hCe
          subst hn
          subst hCe
          go_wp2_with fail
          go_ret
          exact ⟨rfl, hA⟩
        · rw [if_neg hn] at hCe
          have hn' : (x == 0) = false := by simpa using hn
          subst hCe
          clear hn
          go_wp2_with fail
          go_ret
          exact ⟨rfl, hA⟩
      · obtain ⟨Q, hQ⟩ : ∃ Q, Q = M.take (M.length - 1) := ⟨_, rfl⟩
        have hQl : Q.length + 1 = M.length := by rw [hQ, List.length_take]; omega
        obtain ⟨y, hy⟩ : ∃ y : Int, y = M[M.length - 1]'(by omega) := ⟨_, rfl⟩
        have hlast := cnt_last false HS.out (by omega : 0 < M.length) HX.out.1 HX.out.2
        rw [← HCE.out, ← hy, ← hQ] at hlast
        have hy40 : 1 ≤ y ∧ y ≤ 40 := by have h := (stB_iff M).1 HS.out (M.length - 1) (by omega); rw [getD_lt (by omega : M.length - 1 < M.length), ← hy] at h; exact ⟨h.1, h.2.1⟩
        obtain ⟨g, rfl, hcell⟩ := od.read (k := Q.length) (by simp; omega)
        have hcap : M.length ≤ c_d := by have := cap_of (vs := ints M) (by rw [List.length_map]; exact od) (by simp; omega); simpa using this
        have hglt : g < w9.heap.size := Nat.lt_of_lt_of_le (od.lt g rfl) od.le
        have hck : w9.cell? ⟨g, Q.length, none⟩ = some (.int .i64 y) := by rw [hcell, hy, List.getElem_map]; congr 2; congr 1; omega
        have hRd : Rd w9 w9.heap.size (some ⟨g, 0, none⟩) (ints M) := od.rd.more od.le
        have hRq : Rd w9 w9.heap.size (some ⟨g, 0, none⟩) (ints Q) := by rw [hQ]; have := hRd.take (M.length - 1); rwa [← List.map_take] at this
        clear hcell hy hQ od
        obtain ⟨A, hAe⟩ : ∃ A, A = cntF false Q x := ⟨_, rfl⟩
        obtain ⟨D, hD⟩ : ∃ D, D = cntF false M (x - y) := ⟨_, rfl⟩
        have hAb := cntF_bd false Q x
        have hDb := cntF_bd false M (x - y)
        simp only [if_true, Bool.false_eq_true, if_false] at hlast
        rw [← hAe] at hlast hAb
        rw [← hD] at hlast hDb
        have hwl : IntKind.i64.wrap ((M.length : Int) - 1) = (Q.length : Int) := by rw [IntWalk.i64_in _ (by omega)]; omega
        have hwx : IntKind.i64.wrap (x - y) = x - y := IntWalk.i64_in _ (by have := HX.out; omega)
        obtain ⟨m, hm⟩ : ∃ m, m = max D 0 := ⟨_, rfl⟩
        rw [← hm] at hlast
        have HL := Lib.hid hlast
        have HAb := Lib.hid hAb
        have HDb := Lib.hid hDb
        have HAE := Lib.hid hAe
        have HDE := Lib.hid hD
        have HM := Lib.hid hm
        have hQc : Q.length ≤ c_d := by omega
        have hQi : Q.length < M.length := by omega
        clear hlast hAe hD hm hAb hDb hy40 hQl hcap
        go_wp2_with fail
        refine wp_region_held_drew (S := (fun w' => w'.cell? ⟨g, Q.length, none⟩ = some (.int .i64 y) ∧ Below w9.heap.size w9 w')) (by kernel_rfl) ⟨hck, (Dr.n w9 1).below _⟩ (fun hHeld => ?_)
        refine wpAnyH_take (i := 0) (v := (.int .i64 C)) (by simp only [List.getElem?_toArray, List.getElem?_cons_succ, List.getElem?_cons_zero]; exact rfl) (by kernel_rfl) (by kernel_rfl) (by kernel_rfl) (by intro _ _ _ h; exact h) (Or.inl ⟨by kernel_rfl, by intro w hSw; go_simp⟩) (by assumption) ?_
        simp only [Act.put, List.setIfInBounds_toArray, List.set_cons_zero, List.set_cons_succ, List.toList_toArray]
        refine wpAnyH_take (i := 1) (v := (.slice (some ⟨g, 0, none⟩) M.length c_d)) (by simp only [List.getElem?_toArray, List.getElem?_cons_succ, List.getElem?_cons_zero]; exact rfl) (by kernel_rfl) (by kernel_rfl) (by kernel_rfl) (by intro _ _ _ h; exact h) (Or.inl ⟨by kernel_rfl, by intro w hSw; go_simp⟩) (by assumption) ?_
        simp only [Act.put, List.setIfInBounds_toArray, List.set_cons_zero, List.set_cons_succ, List.toList_toArray]
        refine wpAnyH_take (i := 2) (v := (.int .i64 (M.length : Int))) (by simp only [List.getElem?_toArray, List.getElem?_cons_succ, List.getElem?_cons_zero]; exact rfl) (by kernel_rfl) (by kernel_rfl) (by kernel_rfl) (by intro _ _ _ h; exact h) (Or.inl ⟨by kernel_rfl, by intro w hSw; go_simp⟩) (by assumption) ?_
        simp only [Act.put, List.setIfInBounds_toArray, List.set_cons_zero, List.set_cons_succ, List.toList_toArray]
        refine wpAnyH_take (i := 3) (v := (.int .i64 (Q.length : Int))) (by simp only [List.getElem?_toArray, List.getElem?_cons_succ, List.getElem?_cons_zero]; exact rfl) (by kernel_rfl) (by kernel_rfl) (by kernel_rfl) (by intro _ _ _ h; exact h) (Or.inl ⟨by kernel_rfl, by intro w hSw; go_simp⟩) (by assumption) ?_
        simp only [Act.put, List.setIfInBounds_toArray, List.set_cons_zero, List.set_cons_succ, List.toList_toArray]
        refine wpAnyH_take (i := 4) (v := (.slice (some ⟨g, 0, none⟩) Q.length c_d)) (by simp only [List.getElem?_toArray, List.getElem?_cons_succ, List.getElem?_cons_zero]; exact rfl) (by kernel_rfl) (by kernel_rfl) (by kernel_rfl) (by intro _ _ _ h; exact h) (Or.inl ⟨by kernel_rfl, by intro w hSw; go_simp⟩) (by assumption) ?_
        simp only [Act.put, List.setIfInBounds_toArray, List.set_cons_zero, List.set_cons_succ, List.toList_toArray]
        refine wpAnyH_take (i := 5) (v := (.int .i64 x)) (by simp only [List.getElem?_toArray, List.getElem?_cons_succ, List.getElem?_cons_zero]; exact rfl) (by kernel_rfl) (by kernel_rfl) (by kernel_rfl) (by intro _ _ _ h; exact h) (Or.inl ⟨by kernel_rfl, by intro w hSw; go_simp⟩) (by assumption) ?_
        simp only [Act.put, List.setIfInBounds_toArray, List.set_cons_zero, List.set_cons_succ, List.toList_toArray]
        refine wpAnyH_take (i := 7) (v := (.slice (some ⟨g, 0, none⟩) M.length c_d)) (by simp only [List.getElem?_toArray, List.getElem?_cons_succ, List.getElem?_cons_zero]; exact rfl) (by kernel_rfl) (by kernel_rfl) (by kernel_rfl) (by intro _ _ _ h; exact h) (Or.inl ⟨by kernel_rfl, by intro w hSw; go_simp⟩) (by assumption) ?_
        simp only [Act.put, List.setIfInBounds_toArray, List.set_cons_zero, List.set_cons_succ, List.toList_toArray]
        refine wpAnyH_take (i := 8) (v := (.int .i64 x)) (by simp only [List.getElem?_toArray, List.getElem?_cons_succ, List.getElem?_cons_zero]; exact rfl) (by kernel_rfl) (by kernel_rfl) (by kernel_rfl) (by intro _ _ _ h; exact h) (Or.inl ⟨by kernel_rfl, by intro w hSw; go_simp⟩) (by assumption) ?_
        simp only [Act.put, List.setIfInBounds_toArray, List.set_cons_zero, List.set_cons_succ, List.toList_toArray]
        refine wpAnyH_take (i := 9) (v := (.slice (some ⟨g, 0, none⟩) M.length c_d)) (by simp only [List.getElem?_toArray, List.getElem?_cons_succ, List.getElem?_cons_zero]; exact rfl) (by kernel_rfl) (by kernel_rfl) (by kernel_rfl) (by intro _ _ _ h; exact h) (Or.inl ⟨by kernel_rfl, by intro w hSw; go_simp⟩) (by assumption) ?_
        simp only [Act.put, List.setIfInBounds_toArray, List.set_cons_zero, List.set_cons_succ, List.toList_toArray]
        refine wpAnyH_take (i := 10) (v := (.int .i64 (M.length : Int))) (by simp only [List.getElem?_toArray, List.getElem?_cons_succ, List.getElem?_cons_zero]; exact rfl) (by kernel_rfl) (by kernel_rfl) (by kernel_rfl) (by intro _ _ _ h; exact h) (Or.inl ⟨by kernel_rfl, by intro w hSw; go_simp⟩) (by assumption) ?_
        simp only [Act.put, List.setIfInBounds_toArray, List.set_cons_zero, List.set_cons_succ, List.toList_toArray]
        refine wpAnyH_take (i := 11) (v := (.int .i64 (Q.length : Int))) (by simp only [List.getElem?_toArray, List.getElem?_cons_succ, List.getElem?_cons_zero]; exact rfl) (by kernel_rfl) (by kernel_rfl) (by kernel_rfl) (by intro _ _ _ h; exact h) (Or.inl ⟨by kernel_rfl, by intro w hSw; go_simp⟩) (by assumption) ?_
        simp only [Act.put, List.setIfInBounds_toArray, List.set_cons_zero, List.set_cons_succ, List.toList_toArray]
        refine wpAnyH_take (i := 12) (v := (.pointer (some ⟨g, Q.length, none⟩))) (by simp only [List.getElem?_toArray, List.getElem?_cons_succ, List.getElem?_cons_zero]; exact rfl) (by kernel_rfl) (by kernel_rfl) (by kernel_rfl) (by intro _ _ _ h; exact h) (Or.inl ⟨by kernel_rfl, by intro w hSw; go_simp⟩) (by assumption) ?_
        simp only [Act.put, List.setIfInBounds_toArray, List.set_cons_zero, List.set_cons_succ, List.toList_toArray]
        refine wpAnyH_take (i := 13) (v := (.int .i64 y)) (by simp only [List.getElem?_toArray, List.getElem?_cons_succ, List.getElem?_cons_zero]; exact rfl) (by kernel_rfl) (by kernel_rfl) (by kernel_rfl) (by intro _ _ _ h; exact h) (Or.inl ⟨by kernel_rfl, by intro w hSw; go_simp⟩) (by assumption) ?_
        simp only [Act.put, List.setIfInBounds_toArray, List.set_cons_zero, List.set_cons_succ, List.toList_toArray]
        refine wpAnyH_take (i := 14) (v := (.int .i64 (x - y))) (by simp only [List.getElem?_toArray, List.getElem?_cons_succ, List.getElem?_cons_zero]; exact rfl) (by kernel_rfl) (by kernel_rfl) (by kernel_rfl) (by intro _ _ _ h; exact h) (Or.inl ⟨by kernel_rfl, by intro w hSw; go_simp⟩) (by assumption) ?_
        simp only [Act.put, List.setIfInBounds_toArray, List.set_cons_zero, List.set_cons_succ, List.toList_toArray]
        refine wpAnyH_ready (rs := [6]) (by kernel_rfl) (by simp) ?_
        refine AllReadyH.cons (o := _) (by simp only [List.getElem?_toArray, List.getElem?_cons_succ, List.getElem?_cons_zero]; exact rfl) (fun K hK => ?_) AllReadyH.nil
        rw [if_pos (by rfl)]
        go_simp
        go_at_call 31
        refine (iCountIn_any _ _ _ Q x _ (hRq.below hHeld.2) hHeld.2.size (by omega)).mono ?_
        rintro e w10 ⟨rfl, hbd⟩
        rw [← HAE.out]
        refine hK.out _ _ (keepB hHeld.1 hHeld.2 hbd hglt) (fun hH2 => ?_)
        clear hK K
        try simp only [Act.put, List.setIfInBounds_toArray, List.set_cons_zero, List.set_cons_succ, List.toList_toArray]
        refine wpAnyH_ready (rs := [15]) (by kernel_rfl) (by simp) ?_
        refine AllReadyH.cons (o := _) (by simp only [List.getElem?_toArray, List.getElem?_cons_succ, List.getElem?_cons_zero]; exact rfl) (fun K hK => ?_) AllReadyH.nil
        rw [if_pos (by rfl)]
        go_simp
        go_at_call 31
        refine (iCountIn_any _ _ _ M (x - y) _ (hRd.below hH2.2) hH2.2.size (by omega)).mono ?_
        rintro e w11 ⟨rfl, hbd2⟩
        rw [← HDE.out]
        refine hK.out _ _ (keepB hH2.1 hH2.2 hbd2 hglt) (fun hH3 => ?_)
        clear hK K
        try simp only [Act.put, List.setIfInBounds_toArray, List.set_cons_zero, List.set_cons_succ, List.toList_toArray]
        by_cases hD0 : D < 0
        · have hlast : C = A := by have h1 := HL.out; have h2 := HM.out; omega
          have hAb := HAb.out
          have hws : IntKind.i64.wrap (A) = A := IntWalk.i64_in _ (by omega)
          have heq : (C == A) = true := by rw [show C = A by omega]; exact beq_self_eq_true _
          clear hlast HM HL HAb HDb hAb
          refine wpAnyH_take (i := 16) (v := (.int .i64 0)) (by simp only [List.getElem?_toArray, List.getElem?_cons_succ, List.getElem?_cons_zero]; exact rfl) (by kernel_rfl) (by kernel_rfl) (by kernel_rfl) (by intro _ _ _ h; exact h) (Or.inl ⟨by kernel_rfl, by intro w hSw; go_simp⟩) (by assumption) ?_
          simp only [Act.put, List.setIfInBounds_toArray, List.set_cons_zero, List.set_cons_succ, List.toList_toArray]
          refine wpAnyH_take (i := 17) (v := (.int .i64 (A))) (by simp only [List.getElem?_toArray, List.getElem?_cons_succ, List.getElem?_cons_zero]; exact rfl) (by kernel_rfl) (by kernel_rfl) (by kernel_rfl) (by intro _ _ _ h; exact h) (Or.inl ⟨by kernel_rfl, by intro w hSw; go_simp⟩) (by assumption) ?_
          simp only [Act.put, List.setIfInBounds_toArray, List.set_cons_zero, List.set_cons_succ, List.toList_toArray]
          refine wpAnyH_take (i := 18) (v := (.bool true)) (by simp only [List.getElem?_toArray, List.getElem?_cons_succ, List.getElem?_cons_zero]; exact rfl) (by kernel_rfl) (by kernel_rfl) (by kernel_rfl) (by intro _ _ _ h; exact h) (Or.inl ⟨by kernel_rfl, by intro w hSw; go_simp⟩) (by assumption) ?_
          simp only [Act.put, List.setIfInBounds_toArray, List.set_cons_zero, List.set_cons_succ, List.toList_toArray]
          refine wpAnyH_ready (rs := [19]) (by kernel_rfl) (by simp) ?_
          refine AllReadyH.cons (o := _) (by simp only [List.getElem?_toArray, List.getElem?_cons_succ, List.getElem?_cons_zero]; exact rfl) (fun K hK => ?_) AllReadyH.nil
          rw [if_pos (by rfl)]
          go_simp
          refine hK.out _ _ hH3 (fun hH4 => ?_)
          clear hK K
          try simp only [Act.put, List.setIfInBounds_toArray, List.set_cons_zero, List.set_cons_succ, List.toList_toArray]
          refine wpAnyH_done (by kernel_rfl) ?_ _
          try simp only [Act.put, List.setIfInBounds_toArray, List.set_cons_zero, List.set_cons_succ]
          have hA2 := hA.trans (hH4.2.mono hA.size)
          go_wp2_with fail
          go_ret
          exact ⟨rfl, hA2⟩
        · have hlast : C = A + D := by have h1 := HL.out; have h2 := HM.out; omega
          have hAb := HAb.out
          have hDb := HDb.out
          have hws : IntKind.i64.wrap (A + D) = A + D := IntWalk.i64_in _ (by omega)
          have heq : (C == A + D) = true := by rw [show C = A + D by omega]; exact beq_self_eq_true _
          clear hlast HM HL HAb HDb hAb
          refine wpAnyH_take (i := 16) (v := (.int .i64 D)) (by simp only [List.getElem?_toArray, List.getElem?_cons_succ, List.getElem?_cons_zero]; exact rfl) (by kernel_rfl) (by kernel_rfl) (by kernel_rfl) (by intro _ _ _ h; exact h) (Or.inl ⟨by kernel_rfl, by intro w hSw; go_simp⟩) (by assumption) ?_
          simp only [Act.put, List.setIfInBounds_toArray, List.set_cons_zero, List.set_cons_succ, List.toList_toArray]
          refine wpAnyH_take (i := 17) (v := (.int .i64 (A + D))) (by simp only [List.getElem?_toArray, List.getElem?_cons_succ, List.getElem?_cons_zero]; exact rfl) (by kernel_rfl) (by kernel_rfl) (by kernel_rfl) (by intro _ _ _ h; exact h) (Or.inl ⟨by kernel_rfl, by intro w hSw; go_simp⟩) (by assumption) ?_
          simp only [Act.put, List.setIfInBounds_toArray, List.set_cons_zero, List.set_cons_succ, List.toList_toArray]
          refine wpAnyH_take (i := 18) (v := (.bool true)) (by simp only [List.getElem?_toArray, List.getElem?_cons_succ, List.getElem?_cons_zero]; exact rfl) (by kernel_rfl) (by kernel_rfl) (by kernel_rfl) (by intro _ _ _ h; exact h) (Or.inl ⟨by kernel_rfl, by intro w hSw; go_simp⟩) (by assumption) ?_
          simp only [Act.put, List.setIfInBounds_toArray, List.set_cons_zero, List.set_cons_succ, List.toList_toArray]
          refine wpAnyH_ready (rs := [19]) (by kernel_rfl) (by simp) ?_
          refine AllReadyH.cons (o := _) (by simp only [List.getElem?_toArray, List.getElem?_cons_succ, List.getElem?_cons_zero]; exact rfl) (fun K hK => ?_) AllReadyH.nil
          rw [if_pos (by rfl)]
          go_simp
          refine hK.out _ _ hH3 (fun hH4 => ?_)
          clear hK K
          try simp only [Act.put, List.setIfInBounds_toArray, List.set_cons_zero, List.set_cons_succ, List.toList_toArray]
          refine wpAnyH_done (by kernel_rfl) ?_ _
          try simp only [Act.put, List.setIfInBounds_toArray, List.set_cons_zero, List.set_cons_succ]
          have hA2 := hA.trans (hH4.2.mono hA.size)
          go_wp2_with fail
          go_ret
          exact ⟨rfl, hA2⟩
    · have HC : Hid (cntF false M x = -1) := Lib.hid (cntF_out false hv)
      clear hv hx0 hx41
      go_wp2_with fail
      refine (iCountIn_any _ _ _ M x _ od.rd (by omega) (by omega)).mono ?_
      rintro e w2 ⟨rfl, hb⟩
      replace od := od.below (hb.mono od.le)
      replace hA := hA.trans (hb.mono hA.size)
      have hz2 := hb.size
      clear hb
      rw [HC.out]
      go_wp2_with fail
      refine (sCountIn_any _ _ _ M x _ od.rd (by omega) (by omega)).mono ?_
      rintro e w3 ⟨rfl, hb⟩
      replace od := od.below (hb.mono od.le)
      replace hA := hA.trans (hb.mono hA.size)
      have hz3 := hb.size
      clear hb
      rw [HC.out]
      go_wp2_with fail
      refine (sCountIn_any _ _ _ M x _ od.rd (by omega) (by omega)).mono ?_
      rintro e w4 ⟨rfl, hb⟩
      replace od := od.below (hb.mono od.le)
      replace hA := hA.trans (hb.mono hA.size)
      have hz4 := hb.size
      clear hb
      rw [HC.out]
      go_wp2_with fail
      go_ret
      exact ⟨rfl, hA⟩
  · have hl' : 1048576 < bs.length := by omega
    go_enter Try.func8, Try.ntmps8
    go_wp2_with fail
    go_ret
    exact ⟨rfl, Below.refl _ _⟩

theorem own : ownKnob Try.prog.godebug = none := by kernel_rfl
theorem laidOut : laidOutB Try.prog = true := by kernel_rfl

set_option maxRecDepth 100000 in
theorem lifted (os : Os) (started : os.Started) (H : Type) (enc : TypeId × Value → H) :
    ReturnsInHanded {} Try.checked os 8 .any (Rows.fnCountInSpec.pre6 enc Try.prog Try.f8 Rows.fnCountInRow.domain false) (Rows.fnCountInSpec.post enc Try.prog Try.f8 false true false false) := by
  refine returnsInHanded_of_change (C := Try.checked) own started (by kernel_rfl) Try.func8
    (ChangeSpec.witness6 (enc := enc) (C := Try.checked) false ⟨#[], #[.slice none 0 0], []⟩ 8 (by kernel_rfl) (by kernel_rfl) (by kernel_rfl) (by kernel_rfl)) ?_
  intro W base args ds gs before hval0 hW hcnd _
  have hval : ∀ (j : Nat) t v, Try.f8.params[j]? = some t → args[j]? = some v → Value.okWide Try.prog W .any base t v := hval0
  have hW' := hW
  obtain ⟨p, q, hA0, hV, rfl, hfz, hnd⟩ := hW
  have hA : DataW.TrodAll enc Try.prog W 0 (fun _ => true) true Try.f8.params.toList args.toList ds p := hA0
  rw [Try.params8] at hA hval
  obtain ⟨v0, vs0, d0, ds0, p0, q0, hargs, rfl, rfl, h0, r0⟩ := trodAll_cons hA
  obtain ⟨rfl, rfl, rfl⟩ := trodAll_nil r0
  obtain rfl : args = #[v0] := by cases args; simp_all
  obtain ⟨rfl, rfl⟩ := trodVars_none hV
  obtain ⟨a0, len0, cap0, rfl⟩ := okWide_slice Try.underlying27 (hval 0 27 v0 rfl rfl)
  have k0 := h0
  have lt0 : ∀ x ∈ p0, x.block < W.heap.size := by obtain ⟨m, hm⟩ := k0; exact DataW.trod_lt m _ _ _ hm
  obtain ⟨z0, w0⟩ : ∃ zs, IsRow .u8 W a0 len0 cap0 zs := by
    obtain ⟨fuel, hf⟩ := h0
    rcases open_ints Try.underlying27 Try.underlying5 (by kernel_rfl) hf with ⟨hcs, _⟩ | ⟨x, l, c, zs, hcs, _, hl, hm, hz, _, hcell, hwz⟩
    · simp [Value.cells] at hcs
      obtain ⟨rfl, rfl, rfl⟩ := hcs
      exact ⟨[], .inl ⟨rfl, rfl, rfl, rfl⟩⟩
    · simp [Value.cells] at hcs
      obtain ⟨rfl, rfl, rfl⟩ := hcs
      exact ⟨zs, .inr ⟨_, rfl, hl, hm, by simpa using hz, hcell, hwz⟩⟩
  have lc0 := w0.lc
  obtain ⟨L0, rfl, R0, wf0, m0⟩ := w0.rd
  clear hA0 hval0
  refine (walk a0 cap0 L0 W R0 wf0 m0 (by simpa using lc0)).mono fun e W' ⟨he, bel⟩ => ?_
  subst he
  exact ⟨_, rfl, _, _, _, [], _, [], hW', trodAll_mk1 (shut_bool Try.underlying4 _), (trodAll_cons_mk (Below.trod laidOut (by kernel_rfl) (of_decide_eq_true (by kernel_rfl)) k0 bel lt0) trodAll_mk0), rfl, bel.frame _, fun h => by cases h⟩

theorem over : Rows.fnCountInRow.holds Try.pinned (OpenSpec.ofChange Rows.fnCountInSpec) :=
  OpenClaim.holds_of_wide 8 Try.f8 rfl rfl rfl rfl rfl rfl rfl ⟨rfl, rfl, rfl, rfl, rfl⟩ rfl rfl rfl rfl rfl (by kernel_rfl) Try.func8 (by kernel_rfl)
    (of_decide_eq_true (by kernel_rfl)) (by unfold Func.isWrapper; first | (rw [if_pos (by decide +kernel)]; kernel_rfl) | (rw [if_neg (by decide +kernel)]; exact ⟨rfl, rfl⟩))
    (fun os started H enc _ => lifted os started H enc)

/-- the given statement -/
theorem proved : Rows.FnCountInSaid := over
end Go.Proofs.Yteglcoalfgjjiaa.fnCountIn
