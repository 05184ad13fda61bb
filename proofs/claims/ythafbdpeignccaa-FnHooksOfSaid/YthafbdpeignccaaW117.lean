/-
  Walks: the hooks of parts.
-/
import Derived.Test.YthafbdpeignccaaW116
import Derived.Test.YthafbdpeignccaaW115
import Derived.Test.YthafbdpeignccaaW4
import Derived.Test.YthafbdpeignccaaLL1
import Derived.Test.YthafbdpeignccaaDrCell
import Derived.Deep.RegionHeld3
namespace Go.Proofs.Ythafbdpeignccaa
open Go.RowKit NP
set_option maxRecDepth 8000
set_option linter.unusedVariables false
set_option linter.unusedSimpArgs false
def hkF (P : List Int) : List (List Int) := if valid P then hkL P P.length else []
theorem hkF_yes {P : List Int} (h : valid P = true) : hkF P = hkL P P.length := by simp [hkF, h]
theorem hkF_no {P : List Int} (h : valid P = false) : hkF P = [] := by simp [hkF, h]
theorem le_headH {L : List Int} (h : valid L = true) (i : Nat) (hi : i < L.length) : L[i] ≤ L.headD 0 := head_ge h _ (List.getElem_mem hi)
theorem op_append {P : Program} {o : Oper} {a : Act} {w w' : World} {K : Act → World → Prop} {Q : Exit → Act → World → Prop} {v v' : Value} {A : Option Addr} {m c : Nat} (s x : Operand) (t : TypeId)
    (ho : o.op = .call { callee := .builtin .append, args := #[s, x], argTypes := #[t, t] }) (hs : a.eval s = v) (hx : a.eval x = .slice A m c)
    (hrun : (Builtin.append_ #[t, t] o.type #[v, .slice A m c]).run P w = .ok v' w') (hK : K (a.put o.dst v') w') : o.wp P a w K Q := by
  unfold Oper.wp execOp
  simp only [ho, resolve, invoke, builtin, Sem.run_bind, Sem.run_pure, Result.andThen_ok, List.map_toArray, List.map_cons, List.map_nil, hs, hx]
  rw [hrun]
  exact hK
theorem OwnLL.aboveH {w w' : World} {lo hi lox hix : Nat} {eo e ex : TypeId} {v vx : Value} {vs vxs : List Value} {LL : List (List Int)} (h : OwnLL w lo hi eo e v vs LL) (hx : Own w lox hix ex vx vxs) (hg : w.grownBy w' vx.ownBlock) (hd : hix ≤ lo) : OwnLL w' lo hi eo e v vs LL :=
  ⟨h.outer.above hx hg hd, h.len, fun k u L hu hL => (h.inner k u L hu hL).above hx hg hd, h.apartO, h.apart⟩
theorem cntLL_leH (b : Nat) : ∀ LL : List (List Int), (∀ L ∈ LL, L.length ≤ b) → cntLL LL ≤ LL.length * b := by
  intro LL
  induction LL with
  | nil => intro _; simp [cntLL]
  | cons L LL ih =>
    intro h
    have h1 := ih fun M hM => h M (List.mem_cons_of_mem _ hM)
    have h2 := h L (List.mem_cons_self)
    unfold cntLL at *
    rw [List.map_cons, List.sum_cons, List.length_cons, Nat.succ_mul]
    omega
theorem hkF_rows (P : List Int) : (hkF P).length ≤ 16 ∧ ∀ L ∈ hkF P, L.length ≤ 16 := by
  cases hv : valid P with
  | false => rw [hkF_no hv]; simp
  | true =>
    have hl16 := (valid_bd hv).2.2.2
    rw [hkF_yes hv, hkL_len]
    refine ⟨hl16, fun L hL => ?_⟩
    unfold hkL at hL
    obtain ⟨j, hj, rfl⟩ := List.mem_map.1 hL
    have hj := List.mem_range.1 hj
    rw [hkR_len]
    have h3 := pad_nonneg hv j (by rw [pad_len hl16]; omega)
    rw [pad_get hl16 hj] at h3
    have e : P.getD j 0 = P[j] := by simp [List.getD_eq_getElem?_getD, hj]
    rw [e]
    omega
theorem hkF_cnt (P : List Int) : cntLL (hkF P) ≤ 256 := by
  have h := hkF_rows P
  have h1 := cntLL_leH 16 (hkF P) h.2
  have h2 := Nat.mul_le_mul_right 16 h.1
  omega
theorem iHooksOf_any (a : Option Addr) (c B : Nat) (L : List Int) (w : World) (h : Rd w B a (ints L)) (hB : B ≤ w.heap.size) (hl : L.length ≤ 4611686018427387904) :
    Calls Try.prog 33 #[.slice a L.length c] w fun e w' => ∃ a' c' us, e = .returned (.slice a' (hkF L).length c') ∧ OwnLL w' w.heap.size w'.heap.size 22 3 (.slice a' (hkF L).length c') us (hkF L) ∧ Below w.heap.size w w' := by
  have hi16 : (Try.prog.info? 59).map (·.size) = some (arr (dg L)).size := by rw [arr_size, dg_len]; exact T_info35
  have hsz : (arr (dg L)).size = (arr (List.replicate 16 0)).size := by rw [arr_size, arr_size, dg_len]; rfl
  cases hv : valid L with
  | false =>
    rw [hkF_no hv]
    have HV := Lib.hid hv
    clear hv
    go_enter Try.func33, Try.ntmps33
    go_wp2_with (first | (go_at_call 64; refine (diagramOf_any _ _ B L _ h hB hl).mono ?_; rintro e w1 ⟨rfl, hb1⟩; rw [HV.out]) | (refine wpList_store_row rfl 59 (.tmp 3) (.tmp 8) rfl w1.heap.size rfl (arr (dg L)) rfl 59 (arr (List.replicate 16 0)) (Blk.new w1 _ _) hi16 hsz (arr_one _) ?_))
    go_ret
    exact ⟨none, 0, [], rfl, OwnLL.nil _ _ _ _, below_setRow' (hb1.alloc hb1.size _) (by exact hb1.size) _⟩
  | true =>
    have HV := Lib.hid hv
    have HD := Lib.hid (dg_yes hv)
    have HH := Lib.hid (fun w => hooks_any L hv w)
    rw [← HD.out] at HH
    rw [hkF_yes hv]
    have HLL := Lib.hid (hkL_len L L.length)
    rw [HLL.out]
    clear hv
    go_enter Try.func33, Try.ntmps33
    go_wp2_with (first | (go_at_call 64; refine (diagramOf_any _ _ B L _ h hB hl).mono ?_; rintro e w1 ⟨rfl, hb1⟩; rw [HV.out]) | (refine wpList_store_row rfl 59 (.tmp 3) (.tmp 8) rfl w1.heap.size rfl (arr (dg L)) rfl 59 (arr (List.replicate 16 0)) (Blk.new w1 _ _) hi16 hsz (arr_one _) ?_) | (refine wpList_load_row rfl 59 (.tmp 3) rfl w1.heap.size rfl 59 (arr (dg L)) (0, 0) _ (Blk.new w1 _ _).row Try.underlying59 rfl hi16 ?_))
    refine (HH.out _).mono ?_
    rintro e w2 ⟨a2, c2, us, rfl, ho, hb2⟩
    have HO := Lib.hid ho
    clear ho
    go_wp2_with fail
    go_ret
    have hs := hb1.size
    exact ⟨a2, c2, us, rfl, HO.out.lower (by simp; omega), (below_setRow' (hb1.alloc hb1.size _) (by exact hb1.size) _).trans (hb2.mono (by simp; omega))⟩
set_option maxHeartbeats 4000000 in
theorem sHooksOf_any (a : Option Addr) (c B : Nat) (L : List Int) (w : World) (h : Rd w B a (ints L)) (hB : B ≤ w.heap.size) (hl : L.length ≤ 4611686018427387904) :
    Calls Try.prog 35 #[.slice a L.length c] w fun e w' => ∃ a' c' us, e = .returned (.slice a' (hkF L).length c') ∧ OwnLL w' w.heap.size w'.heap.size 22 3 (.slice a' (hkF L).length c') us (hkF L) ∧ Below w.heap.size w w' := by
  cases hv : valid L with
  | false =>
    rw [hkF_no hv]
    have HV := Lib.hid hv
    clear hv
    go_enter Try.func35, Try.ntmps35
    go_wp2_with (go_at_call 48; refine (validParts_any _ _ _ L _ h (by omega)).mono ?_; rintro e w1 ⟨rfl, hd1⟩; rw [HV.out])
    go_ret
    obtain ⟨nn, rfl⟩ := hd1
    exact ⟨none, 0, [], rfl, OwnLL.nil _ _ _ _, (Dr.n w nn).below _⟩
  | true =>
    obtain ⟨i0, hi, hz00, hz01, hz02⟩ := T_int'
    obtain ⟨i1, hj, hy0, hy1, hy2⟩ := info_parts T_ints3
    have HV := Lib.hid hv
    rw [hkF_yes hv]
    have HLL := Lib.hid (hkL_len L L.length)
    rw [HLL.out]
    have hl16 := (valid_bd hv).2.2.2
    have hmx : Try.prog.follows .mixedOrders = true := by kernel_rfl
    have HXB : Hid (∀ i (h : i < L.length), ∃ xn : Nat, L[i] = (xn : Int) ∧ L.getD i 0 = (xn : Int) ∧ 1 ≤ xn ∧ xn ≤ 16 ∧ xn ≤ (conj L).length) := Lib.hid (fun i h => by
      have h3 := pad_nonneg hv i (by rw [pad_len hl16]; omega)
      rw [pad_get hl16 h] at h3
      have h4 := preS_of_valid hv i h h
      have h5 := le_headH hv i h
      refine ⟨L[i].toNat, by omega, by rw [List.getD_eq_getElem?_getD, List.getElem?_eq_getElem h, Option.getD_some]; omega, by omega, by omega, by rw [conj_len]; omega⟩)
    have HYB : Hid (∀ k (h : k < (conj L).length), (conj L).getD k 0 = (conj L)[k] ∧ 0 ≤ (conj L)[k] ∧ (conj L)[k] ≤ 16) := Lib.hid (fun k h => by
      have hcv := valid_conj hv
      have h6 := (valid_bd hcv).2.2.2
      have h3 := pad_nonneg hcv k (by rw [pad_len h6]; omega)
      rw [pad_get h6 h] at h3
      exact ⟨by simp [List.getD_eq_getElem?_getD, h], h3⟩)
    clear hv
    go_enter Try.func35, Try.ntmps35
    go_wp2_with (go_at_call 48; refine (validParts_any _ _ _ L _ h (by omega)).mono ?_; rintro e w1 ⟨rfl, hd1⟩; rw [HV.out])
    have hb1 : Below w.heap.size w w1 := by obtain ⟨nn, rfl⟩ := hd1; exact (Dr.n w nn).below _
    have hz1 := hb1.size
    have h1 := h.below (hb1.mono hB)
    clear hd1
    refine (sconjugate_any _ _ _ L _ h1 (by omega) HV.out).mono ?_
    rintro e w2 ⟨aq, cq, rfl, oq, hb2⟩
    have h2 := h1.below (hb2.mono (by omega))
    have hbw2 : Below w.heap.size w w2 := hb1.trans (hb2.mono hz1)
    have hz2 := hb2.size
    clear hb1 hb2 h1
    have HQ := Lib.hid oq
    clear oq
    have hE := OwnLL.empty w2 22 3
    obtain ⟨w3, hw3⟩ : ∃ w3, w3 = w2.alloc (.cells #[] 22) := ⟨_, rfl⟩
    have hb3 : Below w2.heap.size w2 w3 := hw3 ▸ (Below.refl _ _).alloc (Nat.le_refl _) _
    have HW3 := Lib.hid hw3
    rw [← hw3] at hE
    clear hw3
    go_wp2_with fail
    rw [← HW3.out]
    go_loopw [4, 5] (fun v ii wr => ∃ (i : Nat) (us : List Value), ii = .int .i64 (i : Int) ∧ i ≤ L.length ∧ us.length = i ∧ OwnLL wr w2.heap.size wr.heap.size 22 3 v us (hkL L i) ∧ Below w2.heap.size w2 wr) (fun _ ii _ => L.length - (intOf ii).toNat)
    case atStart => exact ⟨0, [], rfl, Nat.zero_le _, rfl, hE.more, hb3⟩
    case round =>
      obtain ⟨i, us, rfl, hin, hul, ho, hbr⟩ := hrel
      obtain ⟨wo, rfl⟩ : ∃ wx : World, wx = wr := ⟨_, rfl⟩
      obtain ⟨a4, c4, hvo⟩ := ho.form
      rw [hkL_len] at hvo
      subst hvo
      by_cases hlt : i < L.length
      · have hlt' : (i : Int) < (L.length : Int) := by omega
        obtain ⟨xn, hxe, hxg, hx1, hx16, hxc⟩ := HXB.out i hlt
        obtain ⟨bp, op, rfl, hbB, hcp⟩ := h2.at_ hlt
        rw [hxe] at hcp
        have HNX := Lib.hid (hkL_next L i)
        rw [hxg, Int.toNat_natCast] at HNX
        have HO := Lib.hid ho
        have hzo := hbr.size
        have hbp2 : bp < w2.heap.size := by omega
        have hcpo : wo.cell? ⟨bp, op + i, none⟩ = some (.int .i64 (xn : Int)) := (hbr.cell (p := ⟨bp, op + i, none⟩) hbp2).trans hcp
        have hRE := Own.empty wo 3
        obtain ⟨w5, hw5⟩ : ∃ w5, w5 = wo.alloc (.cells #[] 3) := ⟨_, rfl⟩
        have hb5 : Below wo.heap.size wo w5 := hw5 ▸ (Below.refl _ _).alloc (Nat.le_refl _) _
        have HW5 := Lib.hid hw5
        rw [← hw5] at hRE
        clear hw5 ho hxe
        go_wp2_with fail
        rw [← HW5.out]
        go_loopw [6, 7] (fun v ii wr => ∃ k : Nat, ii = .int .i64 (k : Int) ∧ k ≤ xn ∧ Own wr wo.heap.size wr.heap.size 3 v (ints (hkR L i k)) ∧ Below wo.heap.size wo wr) (fun _ ii _ => xn - (intOf ii).toNat)
        case atStart => exact ⟨0, rfl, Nat.zero_le _, hRE.more, hb5⟩
        case round =>
          obtain ⟨k, rfl, hkx, hrow, hbk⟩ := hrel
          obtain ⟨av, cv, hvf⟩ := hrow.form
          rw [List.length_map, hkR_len] at hvf
          subst hvf
          have hcpr : wr.cell? ⟨bp, op + i, none⟩ = some (.int .i64 (xn : Int)) := (hbk.cell (p := ⟨bp, op + i, none⟩) (by show bp < wo.heap.size; omega)).trans hcpo
          by_cases hkl : k < xn
          · have hkl' : (k : Int) < (xn : Int) := by omega
            have hkc : k < (conj L).length := by omega
            obtain ⟨hyg, hy0', hy16⟩ := HYB.out k hkc
            obtain ⟨gq, rfl, hcq⟩ := HQ.out.read (k := k) (by simpa using hkc)
            rw [List.getElem_map] at hcq
            obtain ⟨y, hy⟩ : ∃ y, (conj L)[k] = y := ⟨_, rfl⟩
            rw [hy] at hcq hyg hy0' hy16
            have hgq : gq < w2.heap.size := HQ.out.lt gq rfl
            have hcqr : wr.cell? ⟨gq, k, none⟩ = some (.int .i64 y) := ((hbr.trans (hbk.mono hzo)).cell (p := ⟨gq, k, none⟩) hgq).trans hcq
            have HNK := Lib.hid (hkR_next L i k)
            rw [hxg, hyg] at HNK
            obtain ⟨vr, hvr⟩ : ∃ vr, vr = ints (hkR L i k) := ⟨_, rfl⟩
            have hvrl : vr.length = k := by rw [hvr, List.length_map, hkR_len]
            rw [← hvr] at hrow
            have HRW := Lib.hid hrow
            have HVR := Lib.hid hvr
            have HVL := Lib.hid hvrl
            have hzk := hbk.size
            have hil : i ≤ 16 := by omega
            have hkcl : (k : Int) < ((conj L).length : Int) := by omega
            have hwa := IntWalk.i64_in ((xn : Int) - (k : Int)) (by omega)
            have hwb := IntWalk.i64_in ((xn : Int) - (k : Int) + y) (by omega)
            have hwc := IntWalk.i64_in ((xn : Int) - (k : Int) + y - (i : Int)) (by omega)
            have hwd := IntWalk.i64_in ((xn : Int) - (k : Int) + y - (i : Int) - 1) (by omega)
            clear hrow hvr hvrl hy hyg
            go_wp2_with fail
            refine wp_region_held_drew (S := (fun w' => w'.cell? ⟨bp, op + i, none⟩ = some (.int .i64 (xn : Int)) ∧ w'.cell? ⟨gq, k, none⟩ = some (.int .i64 y) ∧ True)) (by kernel_rfl) (⟨hcpr, hcqr, trivial⟩) (fun hS0 => ?_)
            refine wpAnyH_take (i := 0) (v := .slice av k cv) (by simp only [List.getElem?_toArray, List.getElem?_cons_succ, List.getElem?_cons_zero]; exact rfl) (by kernel_rfl) (by kernel_rfl) (by kernel_rfl) (by intro _ _ _ h; exact h) (Or.inl ⟨by kernel_rfl, by intro w hSw; go_simp⟩) (by assumption) ?_
            simp only [Act.put, List.setIfInBounds_toArray, List.set_cons_zero, List.set_cons_succ, List.toList_toArray]
            refine wpAnyH_take (i := 1) (v := .slice (some ⟨bp, op, none⟩) L.length c) (by simp only [List.getElem?_toArray, List.getElem?_cons_succ, List.getElem?_cons_zero]; exact rfl) (by kernel_rfl) (by kernel_rfl) (by kernel_rfl) (by intro _ _ _ h; exact h) (Or.inl ⟨by kernel_rfl, by intro w hSw; go_simp⟩) (by assumption) ?_
            simp only [Act.put, List.setIfInBounds_toArray, List.set_cons_zero, List.set_cons_succ, List.toList_toArray]
            refine wpAnyH_take (i := 2) (v := .int .i64 (i : Int)) (by simp only [List.getElem?_toArray, List.getElem?_cons_succ, List.getElem?_cons_zero]; exact rfl) (by kernel_rfl) (by kernel_rfl) (by kernel_rfl) (by intro _ _ _ h; exact h) (Or.inl ⟨by kernel_rfl, by intro w hSw; go_simp⟩) (by assumption) ?_
            simp only [Act.put, List.setIfInBounds_toArray, List.set_cons_zero, List.set_cons_succ, List.toList_toArray]
            refine wpAnyH_take (i := 3) (v := .pointer (some ⟨bp, op + i, none⟩)) (by simp only [List.getElem?_toArray, List.getElem?_cons_succ, List.getElem?_cons_zero]; exact rfl) (by kernel_rfl) (by kernel_rfl) (by kernel_rfl) (by intro _ _ _ h; exact h) (Or.inl ⟨by kernel_rfl, by intro w hSw; go_simp⟩) (by assumption) ?_
            simp only [Act.put, List.setIfInBounds_toArray, List.set_cons_zero, List.set_cons_succ, List.toList_toArray]
            refine wpAnyH_take (i := 4) (v := .int .i64 (xn : Int)) (by simp only [List.getElem?_toArray, List.getElem?_cons_succ, List.getElem?_cons_zero]; exact rfl) (by kernel_rfl) (by kernel_rfl) (by kernel_rfl) (by intro _ _ _ h; exact h) (Or.inl ⟨by kernel_rfl, by intro w hSw; obtain ⟨s1, s2, s3⟩ := hSw; go_simp⟩) (by assumption) ?_
            simp only [Act.put, List.setIfInBounds_toArray, List.set_cons_zero, List.set_cons_succ, List.toList_toArray]
            refine wpAnyH_take (i := 5) (v := .int .i64 (k : Int)) (by simp only [List.getElem?_toArray, List.getElem?_cons_succ, List.getElem?_cons_zero]; exact rfl) (by kernel_rfl) (by kernel_rfl) (by kernel_rfl) (by intro _ _ _ h; exact h) (Or.inl ⟨by kernel_rfl, by intro w hSw; go_simp⟩) (by assumption) ?_
            simp only [Act.put, List.setIfInBounds_toArray, List.set_cons_zero, List.set_cons_succ, List.toList_toArray]
            refine wpAnyH_take (i := 6) (v := .int .i64 ((xn : Int) - (k : Int))) (by simp only [List.getElem?_toArray, List.getElem?_cons_succ, List.getElem?_cons_zero]; exact rfl) (by kernel_rfl) (by kernel_rfl) (by kernel_rfl) (by intro _ _ _ h; exact h) (Or.inl ⟨by kernel_rfl, by intro w hSw; go_simp⟩) (by assumption) ?_
            simp only [Act.put, List.setIfInBounds_toArray, List.set_cons_zero, List.set_cons_succ, List.toList_toArray]
            refine wpAnyH_take (i := 7) (v := .slice (some ⟨gq, 0, none⟩) (conj L).length cq) (by simp only [List.getElem?_toArray, List.getElem?_cons_succ, List.getElem?_cons_zero]; exact rfl) (by kernel_rfl) (by kernel_rfl) (by kernel_rfl) (by intro _ _ _ h; exact h) (Or.inl ⟨by kernel_rfl, by intro w hSw; go_simp⟩) (by assumption) ?_
            simp only [Act.put, List.setIfInBounds_toArray, List.set_cons_zero, List.set_cons_succ, List.toList_toArray]
            refine wpAnyH_take (i := 8) (v := .int .i64 (k : Int)) (by simp only [List.getElem?_toArray, List.getElem?_cons_succ, List.getElem?_cons_zero]; exact rfl) (by kernel_rfl) (by kernel_rfl) (by kernel_rfl) (by intro _ _ _ h; exact h) (Or.inl ⟨by kernel_rfl, by intro w hSw; go_simp⟩) (by assumption) ?_
            simp only [Act.put, List.setIfInBounds_toArray, List.set_cons_zero, List.set_cons_succ, List.toList_toArray]
            refine wpAnyH_take (i := 9) (v := .pointer (some ⟨gq, k, none⟩)) (by simp only [List.getElem?_toArray, List.getElem?_cons_succ, List.getElem?_cons_zero]; exact rfl) (by kernel_rfl) (by kernel_rfl) (by kernel_rfl) (by intro _ _ _ h; exact h) (Or.inl ⟨by kernel_rfl, by intro w hSw; go_simp⟩) (by assumption) ?_
            simp only [Act.put, List.setIfInBounds_toArray, List.set_cons_zero, List.set_cons_succ, List.toList_toArray]
            refine wpAnyH_take (i := 10) (v := .int .i64 y) (by simp only [List.getElem?_toArray, List.getElem?_cons_succ, List.getElem?_cons_zero]; exact rfl) (by kernel_rfl) (by kernel_rfl) (by kernel_rfl) (by intro _ _ _ h; exact h) (Or.inl ⟨by kernel_rfl, by intro w hSw; obtain ⟨s1, s2, s3⟩ := hSw; go_simp⟩) (by assumption) ?_
            simp only [Act.put, List.setIfInBounds_toArray, List.set_cons_zero, List.set_cons_succ, List.toList_toArray]
            refine wpAnyH_take (i := 11) (v := .int .i64 ((xn : Int) - (k : Int) + y)) (by simp only [List.getElem?_toArray, List.getElem?_cons_succ, List.getElem?_cons_zero]; exact rfl) (by kernel_rfl) (by kernel_rfl) (by kernel_rfl) (by intro _ _ _ h; exact h) (Or.inl ⟨by kernel_rfl, by intro w hSw; go_simp⟩) (by assumption) ?_
            simp only [Act.put, List.setIfInBounds_toArray, List.set_cons_zero, List.set_cons_succ, List.toList_toArray]
            refine wpAnyH_take (i := 12) (v := .int .i64 (i : Int)) (by simp only [List.getElem?_toArray, List.getElem?_cons_succ, List.getElem?_cons_zero]; exact rfl) (by kernel_rfl) (by kernel_rfl) (by kernel_rfl) (by intro _ _ _ h; exact h) (Or.inl ⟨by kernel_rfl, by intro w hSw; go_simp⟩) (by assumption) ?_
            simp only [Act.put, List.setIfInBounds_toArray, List.set_cons_zero, List.set_cons_succ, List.toList_toArray]
            refine wpAnyH_take (i := 13) (v := .int .i64 ((xn : Int) - (k : Int) + y - (i : Int))) (by simp only [List.getElem?_toArray, List.getElem?_cons_succ, List.getElem?_cons_zero]; exact rfl) (by kernel_rfl) (by kernel_rfl) (by kernel_rfl) (by intro _ _ _ h; exact h) (Or.inl ⟨by kernel_rfl, by intro w hSw; go_simp⟩) (by assumption) ?_
            simp only [Act.put, List.setIfInBounds_toArray, List.set_cons_zero, List.set_cons_succ, List.toList_toArray]
            refine wpAnyH_take (i := 14) (v := .int .i64 ((xn : Int) - (k : Int) + y - (i : Int) - 1)) (by simp only [List.getElem?_toArray, List.getElem?_cons_succ, List.getElem?_cons_zero]; exact rfl) (by kernel_rfl) (by kernel_rfl) (by kernel_rfl) (by intro _ _ _ h; exact h) (Or.inl ⟨by kernel_rfl, by intro w hSw; go_simp⟩) (by assumption) ?_
            simp only [Act.put, List.setIfInBounds_toArray, List.set_cons_zero, List.set_cons_succ, List.toList_toArray]
            refine wpAnyH_ready (rs := [15]) (by kernel_rfl) (by simp) ?_
            refine AllReadyH.cons (o := _) (by simp only [List.getElem?_toArray, List.getElem?_cons_succ, List.getElem?_cons_zero]; exact rfl) (fun K hK => ?_) AllReadyH.nil
            rw [if_pos (by rfl)]
            go_simp
            refine hK.out _ _ ⟨(Below.cell ((Below.refl wr.drew.heap.size wr.drew).alloc (Nat.le_refl _) _) (p := ⟨bp, op + i, none⟩) (World.block_lt_of_cell? wr _ hcpr)).trans hcpr, (Below.cell ((Below.refl wr.drew.heap.size wr.drew).alloc (Nat.le_refl _) _) (p := ⟨gq, k, none⟩) (World.block_lt_of_cell? wr _ hcqr)).trans hcqr, trivial⟩ (fun _ => ?_)
            clear hK K
            try simp only [Act.put, List.setIfInBounds_toArray, List.set_cons_zero, List.set_cons_succ, List.toList_toArray]
            obtain ⟨w6, hw6⟩ : ∃ w6, (wr.alloc (.cells #[.int .i64 ((xn : Int) - (k : Int) + y - (i : Int) - 1)] 3)).drew = w6 := ⟨_, rfl⟩
            have hd6 : Below wr.heap.size wr w6 := by rw [← hw6]; exact ((Below.refl wr.heap.size wr).alloc (Nat.le_refl _) _).trans ((Dr.n _ 1).below _)
            have hr6 : Rd w6 (wr.heap.size + 1) (some ⟨wr.heap.size, 0, none⟩) [.int .i64 ((xn : Int) - (k : Int) + y - (i : Int) - 1)] := by rw [← hw6]; exact (Rd.one wr _ _).dr (Dr.n _ 1)
            have hz6 : wr.heap.size < w6.heap.size := by rw [← hw6]; show wr.heap.size < (wr.alloc _).heap.size; rw [World.size_alloc]; exact Nat.lt_succ_self _
            rw [hw6]
            clear hw6
            obtain ⟨v', w7, hrun, ho7, hg7, hat7⟩ := run_append_o (P := Try.prog) (m := 1) (c := 1) w6 wo.heap.size wr.heap.size 22 22 3 i0 (.int .i64 0) 8 Try.underlying22 hi hz00 hz01 hz02 rfl (HRW.out.below hd6) hr6 rfl (by simp; rfl) (by unfold maxLen; have := HVL.out; omega) (by have := HVL.out; omega) (by omega)
            have hb7 : Below wo.heap.size w6 w7 := (Below.refl _ _).grown hg7 (by omega) (fun g e => HRW.out.base g e)
            have hcp7 := (hb7.cell (p := ⟨bp, op + i, none⟩) (by show bp < wo.heap.size; omega)).trans ((hd6.cell (p := ⟨bp, op + i, none⟩) (World.block_lt_of_cell? _ _ hcpr)).trans hcpr)
            have hcq7 := (hb7.cell (p := ⟨gq, k, none⟩) (by show gq < wo.heap.size; omega)).trans ((hd6.cell (p := ⟨gq, k, none⟩) (World.block_lt_of_cell? _ _ hcqr)).trans hcqr)
            refine wpAnyH_ready (rs := [16]) (by kernel_rfl) (by simp) ?_
            refine AllReadyH.cons (o := _) (by simp only [List.getElem?_toArray, List.getElem?_cons_succ, List.getElem?_cons_zero]; exact rfl) (fun K hK => ?_) AllReadyH.nil
            rw [if_pos (by rfl)]
            refine op_append (.tmp 29) (.tmp 44) 22 rfl rfl rfl hrun ?_
            refine hK.out _ _ ⟨hcp7, hcq7, trivial⟩ (fun _ => ?_)
            clear hK K
            try simp only [Act.put, List.setIfInBounds_toArray, List.set_cons_zero, List.set_cons_succ, List.toList_toArray]
            obtain ⟨a9, c9, hv9⟩ := ho7.form
            rw [List.length_append, HVL.out] at hv9
            subst hv9
            refine wpAnyH_take (i := 17) (v := .slice a9 (k + [Value.int .i64 ((xn : Int) - (k : Int) + y - (i : Int) - 1)].length) c9) (by simp only [List.getElem?_toArray, List.getElem?_cons_succ, List.getElem?_cons_zero]; exact rfl) (by kernel_rfl) (by kernel_rfl) (by kernel_rfl) (by intro _ _ _ h; exact h) (Or.inl ⟨by kernel_rfl, by intro w hSw; go_simp⟩) (by assumption) ?_
            simp only [Act.put, List.setIfInBounds_toArray, List.set_cons_zero, List.set_cons_succ, List.toList_toArray]
            refine wpAnyH_done (by kernel_rfl) ?_ _
            try simp only [Act.put, List.setIfInBounds_toArray, List.set_cons_zero, List.set_cons_succ]
            go_wp2_with fail
            go_roundw
            case rel =>
              refine ⟨k + 1, by go_num, by omega, ?_, (hbk.trans (hd6.mono hzk)).trans hb7⟩
              rw [HNK.out]
              show Own _ _ _ _ _ (List.map (Value.int .i64) (hkR L i k ++ [_]))
              rw [List.map_append, show List.map (Value.int .i64) (hkR L i k) = vr from HVR.out.symm]
              exact ho7
            case measure => simp [intOf] <;> omega
          · obtain rfl : k = xn := by omega
            have HRW := Lib.hid hrow
            clear hrow
            go_wp2_with (at_builtin; refine wpList_append_o _ rfl (.tmp 46) (.tmp 48) 37 rfl w2.heap.size wo.heap.size 22 i1 (.slice none 0 0) 24 Try.underlying37 hj hy0 hy1 hy2 rfl _ us rfl ((HO.out.outer.below hbk).alloc _) (wr.heap.size + 1) (some ⟨wr.heap.size, 0, none⟩) 1 1 [.slice av k cv] rfl (Rd.one wr _ _) rfl (by intro u hu; rw [List.mem_singleton.1 hu]; rfl) (by unfold maxLen; omega) (by omega) (by rw [World.size_alloc]; have := hbk.size; omega) ?_; intro v' w6 ho6 hg6 hat6)
            go_roundw
            case rel =>
              have hzk := hbk.size
              refine ⟨i + 1, us ++ [.slice av k cv], by go_num, by omega, by simp [hul], ?_, ((hbr.trans (hbk.mono hzo)).alloc (by omega) _).grown hg6 (by rw [World.size_alloc]; omega) (fun g e => HO.out.outer.base g e)⟩
              rw [HNX.out]
              exact ((HO.out.below hbk).below ((Below.refl _ _).alloc (by omega) _)).append (HRW.out.alloc _) (Nat.le_refl _) (by omega) ho6 hg6 hat6
            case measure => simp [intOf] <;> omega
      · obtain rfl : i = L.length := by omega
        have HO := Lib.hid ho
        clear ho
        go_wp2_with fail
        go_ret
        exact ⟨a4, c4, us, rfl, HO.out.lower (by omega), hbw2.trans (hbr.mono (by have := hbw2.size; omega))⟩
end Go.Proofs.Ythafbdpeignccaa
