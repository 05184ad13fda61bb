/-
  Walks: places, of the program and of the model.
-/
import Derived.Test.YteglcoalfgjjiaaW4
import Derived.Test.YteglcoalfgjjiaaC2
import Derived.Test.YteglcoalfgjjiaaM21
namespace Go.Proofs.Yteglcoalfgjjiaa
open Go.RowKit NP
set_option linter.unusedVariables false

theorem cwg_any (s g : Nat) (hg : g ≤ s) (hs : s ≤ 40) (w : World) :
    Calls Try.prog 43 #[.int .i64 s, .int .i64 g] w fun e w' => e = .returned (.int .i64 (ctZ ((s : Int) - (g : Int)) g)) ∧ Below w.heap.size w w' := by
  obtain ⟨d, hd⟩ : ∃ d : Nat, (s : Int) - (g : Int) = (d : Int) := ⟨s - g, by omega⟩
  rw [hd]
  have hk41 : d < (crow g).length := by rw [crow_len]; omega
  have hix := T_index41 (crow g) d hk41 (by omega)
  rw [crow_get, ← ctZ_nat] at hix
  have hg40 : g ≤ 40 := by omega
  clear hk41
  go_enter Try.func43, Try.ntmps43
  go_wp2_with (go_at_call 45; refine (countsUpTo_any g hg40 _).mono ?_; rintro e w1 ⟨rfl, hb⟩)
  go_ret
  exact ⟨rfl, hb⟩

/-- the greatest part that may come at place i -/
def capAt (L : List Int) (i : Nat) : Int := (L.take i).getLastD (sumL L)
def leftAt (L : List Int) (i : Nat) : Int := sumL L - sumL (L.take i)
theorem capAt_zero (L : List Int) : capAt L 0 = sumL L := rfl
theorem capAt_succ {L : List Int} {i : Nat} (h : i < L.length) : capAt L (i + 1) = L[i] := by
  unfold capAt
  rw [List.take_succ_eq_append_getElem h, List.getLastD_eq_getLast?, List.getLast?_append]; simp
theorem leftAt_zero (L : List Int) : leftAt L 0 = sumL L := by simp [leftAt, sumL]
theorem leftAt_succ {L : List Int} {i : Nat} (h : i < L.length) : leftAt L (i + 1) = leftAt L i - L[i] := by
  unfold leftAt; rw [sumL_take_succ L i h]; omega
def plcAt (L : List Int) (i : Nat) : Int := plc (sumL L) (sumL L) (L.take i)
theorem plcAt_succ {L : List Int} {i : Nat} (h : i < L.length) : plcAt L (i + 1) = plcAt L i + (ctZ (leftAt L i) (capAt L i) - ctZ (leftAt L i) L[i]) := by
  unfold plcAt leftAt capAt
  rw [List.take_succ_eq_append_getElem h, plc_append]
theorem at_bd {L : List Int} (hv : valid L = true) {i : Nat} (h : i < L.length) : 1 ≤ L[i] ∧ L[i] ≤ leftAt L i ∧ L[i] ≤ capAt L i ∧ leftAt L i ≤ 16 ∧ capAt L i ≤ 16 := by
  have hb := valid_bd hv
  have hp := preS_of_valid hv i h h
  have h1 : sumL (L.take (i + 1)) ≤ sumL L := by
    have e : sumL L = sumL (L.take (i + 1)) + sumL (L.drop (i + 1)) := by rw [← sumL_append, List.take_append_drop]
    have hn : 0 ≤ sumL (L.drop (i + 1)) := by
      have := valid_nonneg hv
      have hh : ∀ (M : List Int), (∀ x ∈ M, 0 ≤ x) → 0 ≤ sumL M := by
        intro M
        induction M with
        | nil => intro _; exact Int.le_refl _
        | cons x r ih =>
          intro h
          have := ih fun y hy => h y (by simp [hy])
          have := h x (by simp)
          rw [sumL]; omega
      exact hh _ fun x hx => this x (List.mem_of_mem_drop hx)
    omega
  have h2 := leftAt_succ h
  have h3 : 0 ≤ sumL (L.take i) := (valid_bd (valid_take hv i)).1
  rcases Nat.eq_zero_or_pos i with h0 | h0
  · subst h0
    have e1 := capAt_zero L
    have e2 := leftAt_zero L
    unfold leftAt at *
    omega
  · have e1 : capAt L i = L[i - 1]'(by omega) := by
      have := capAt_succ (L := L) (i := i - 1) (by omega)
      rwa [show i - 1 + 1 = i by omega] at this
    have h4 := (preS_of_valid hv (i - 1) (by omega) (by omega))
    have h5 := hp.2.2 h0
    unfold leftAt at *
    omega
theorem plcAt_bd {L : List Int} (hv : valid L = true) : ∀ i, i ≤ L.length → -1099511627776 * (i : Int) ≤ plcAt L i ∧ plcAt L i ≤ 1099511627776 * i := by
  intro i
  induction i with
  | zero => intro _; simp [plcAt, plc]
  | succ i ih =>
    intro hi
    have h1 := ih (by omega)
    have h2 := at_bd hv (i := i) (by omega)
    have h3 := ctZ_bd (leftAt L i) (capAt L i) (by omega)
    have h4 := ctZ_bd (leftAt L i) L[i] (by omega)
    rw [plcAt_succ (by omega)]
    omega
theorem plcAt_all (L : List Int) : plcAt L L.length = plc (sumL L) (sumL L) L := by unfold plcAt; rw [List.take_of_length_le (Nat.le_refl _)]

set_option maxHeartbeats 1000000 in
theorem place_any (L : List Int) (hv : valid L = true) (w : World) :
    Calls Try.prog 40 #[.agg (arr (pad L))] w fun e w' => e = .returned (.int .i64 (plc (sumL L) (sumL L) L)) ∧ Below w.heap.size w w' := by
  have hl16 := (valid_bd hv).2.2.2
  have hpl := pad_len hl16
  have hi16 : (Try.prog.info? 45).map (·.size) = some (arr (pad L)).size := by rw [arr_size, hpl]; exact T_info35
  have hb := Blk.new w 45 (arr (pad L))
  have HPL := Lib.hid hpl
  have HSP := Lib.hid (sumL_pad L)
  have HF := Lib.hid (pad_fits hv)
  have HV := Lib.hid hv
  clear hpl hv
  go_enter Try.func40, Try.ntmps40
  go_wp2_with (first
    | (go_at_call 44; have hsx := hb1; refine (list_any L HV.out _).mono ?_; rintro e w3 ⟨a3, rfl, ho3, hb3⟩; have hbel3 : Below w.heap.size w w3 := hb1'.trans (hb3.mono hb1'.size))
    | (go_at_call 50; refine (dsum_any (pad L) HPL.out HF.out _).mono ?_; rintro e w2 ⟨rfl, hb1⟩; rw [HSP.out]; have hb2 := hb.below hb1 (by simp); have hb1' : Below w.heap.size w w2 := ((Below.refl _ _).alloc (Nat.le_refl _) _).trans (hb1.mono (by simp)))
    | (refine wpList_load_row rfl 45 (.tmp 1) rfl w.heap.size rfl 45 (arr (pad L)) (0, 0) _ hb2 Try.underlying45 rfl hi16 ?_)
    | (refine wpList_load_row rfl 45 (.tmp 1) rfl w.heap.size rfl 45 (arr (pad L)) (0, 0) _ hb Try.underlying45 rfl hi16 ?_))
  have HR := Lib.hid ho3.rd
  have hs3 := hbel3.size
  clear hb hb1 hb2 hb1' hb3 ho3
  go_loopw [3, 4, 5, 15] (fun vp vl vm vi wr => ∃ i : Nat, i ≤ L.length ∧ vi = .int .i64 i ∧ vp = .int .i64 (plcAt L i) ∧ vl = .int .i64 (leftAt L i) ∧ vm = .int .i64 (capAt L i) ∧ Below w3.heap.size w3 wr) (fun _ _ _ vi _ => L.length - (intOf vi).toNat)
  case atStart => exact ⟨0, Nat.zero_le _, rfl, rfl, by rw [leftAt_zero], rfl, Below.refl _ _⟩
  case round =>
    obtain ⟨i, hi, rfl, rfl, rfl, rfl, hbr⟩ := hrel
    have hpb := plcAt_bd HV.out i hi
    by_cases hlt : i < L.length
    · have hlt' : (i : Int) < (L.length : Int) := by omega
      obtain ⟨b, o, rfl, hbB, hc⟩ := (HR.out.below hbr).at_ hlt
      obtain ⟨hx1, hx2, hx3, hx4, hx5⟩ := at_bd HV.out hlt
      have HS1 := Lib.hid (plcAt_succ hlt)
      have HS2 := Lib.hid (leftAt_succ hlt)
      have HS3 := Lib.hid (capAt_succ hlt)
      have HCM := Lib.hid (ctZ_min (n := leftAt L i) (m := capAt L i) (by omega))
      have hcb1 := ctZ_bd (leftAt L i) (capAt L i) (by omega)
      generalize L[i] = X at *
      generalize leftAt L i = Y at *
      generalize capAt L i = Z at *
      generalize plcAt L i = p at *
      obtain ⟨x, rfl⟩ : ∃ x : Nat, X = (x : Int) := ⟨X.toNat, by omega⟩
      obtain ⟨l, rfl⟩ : ∃ l : Nat, Y = (l : Int) := ⟨Y.toNat, by omega⟩
      obtain ⟨m, rfl⟩ : ∃ m : Nat, Z = (m : Int) := ⟨Z.toNat, by omega⟩
      obtain ⟨M, hM⟩ : ∃ M : Nat, M = min l m := ⟨_, rfl⟩
      have hMx : x ≤ M := by omega
      have hMl : M ≤ l := by omega
      have HCM2 : Hid (ctZ (l : Int) (M : Int) = ctZ (l : Int) (m : Int)) := Lib.hid (by rw [← HCM.out, hM]; congr 1; omega)
      clear HCM
      have hrest : ∀ (_ : True), True := fun _ => trivial
      by_cases hml : (l : Int) < (m : Int)
      · have dm : l < m := by omega
        have hMe : M = l := by omega
        have HME := Lib.hid hMe
        clear hM hml hMe
        go_wp2_with fail
        obtain ⟨wo, rfl⟩ : ∃ wo : World, wo = wr := ⟨_, rfl⟩
        go_loopw [3, 8] (fun vp vg wr => ∃ g : Nat, x ≤ g ∧ g ≤ M ∧ vg = .int .i64 g ∧ vp = .int .i64 (p + (ctZ (l : Int) (M : Int) - ctZ (l : Int) (g : Int))) ∧ Below w3.heap.size w3 wr) (fun _ vg _ => (intOf vg).toNat)
        case atStart => exact ⟨M, hMx, Nat.le_refl _, by rw [HME.out], by congr 1; omega, hbr⟩
        case round =>
          obtain ⟨g, hg1, hg2, rfl, rfl, hbs⟩ := hrel
          have hcg1 := ctZ_bd (l : Int) (M : Int) (by omega)
          have hcg2 := ctZ_bd (l : Int) (g : Int) (by omega)
          by_cases hgt : x < g
          · have hgt' : (x : Int) < (g : Int) := by omega
            have HREC := Lib.hid (ctZ_rec (l : Int) (g : Int) (by omega) (by omega))
            have hcg3 := ctZ_bd ((l : Int) - (g : Int)) (g : Int) (by omega)
            go_wp2_with (go_at_call 43; refine (cwg_any l g (by omega) (by omega) _).mono ?_; rintro e wq ⟨rfl, hbq⟩)
            go_roundw
            case rel =>
              have e0 : ((g - 1 : Nat) : Int) = (g : Int) - 1 := by omega
              refine ⟨g - 1, by omega, by omega, by rw [e0], ?_, hbs.trans (hbq.mono hbs.size)⟩
              rw [e0, HREC.out]
              congr 1; omega
            case measure => simp [intOf]; omega
          · obtain rfl : g = x := by omega
            have hcg4 := hx1
            go_wp2_with fail
            go_roundw
            case rel =>
              refine ⟨i + 1, by omega, by go_num, ?_, by rw [HS2.out], by rw [HS3.out], hbs⟩
              rw [HS1.out, HCM2.out]
            case measure => simp [intOf]; omega
      · have dm : ¬ l < m := by omega
        have hMe : M = m := by omega
        have HME := Lib.hid hMe
        clear hM hml hMe
        go_wp2_with fail
        obtain ⟨wo, rfl⟩ : ∃ wo : World, wo = wr := ⟨_, rfl⟩
        go_loopw [3, 8] (fun vp vg wr => ∃ g : Nat, x ≤ g ∧ g ≤ M ∧ vg = .int .i64 g ∧ vp = .int .i64 (p + (ctZ (l : Int) (M : Int) - ctZ (l : Int) (g : Int))) ∧ Below w3.heap.size w3 wr) (fun _ vg _ => (intOf vg).toNat)
        case atStart => exact ⟨M, hMx, Nat.le_refl _, by rw [HME.out], by congr 1; omega, hbr⟩
        case round =>
          obtain ⟨g, hg1, hg2, rfl, rfl, hbs⟩ := hrel
          have hcg1 := ctZ_bd (l : Int) (M : Int) (by omega)
          have hcg2 := ctZ_bd (l : Int) (g : Int) (by omega)
          by_cases hgt : x < g
          · have hgt' : (x : Int) < (g : Int) := by omega
            have HREC := Lib.hid (ctZ_rec (l : Int) (g : Int) (by omega) (by omega))
            have hcg3 := ctZ_bd ((l : Int) - (g : Int)) (g : Int) (by omega)
            go_wp2_with (go_at_call 43; refine (cwg_any l g (by omega) (by omega) _).mono ?_; rintro e wq ⟨rfl, hbq⟩)
            go_roundw
            case rel =>
              have e0 : ((g - 1 : Nat) : Int) = (g : Int) - 1 := by omega
              refine ⟨g - 1, by omega, by omega, by rw [e0], ?_, hbs.trans (hbq.mono hbs.size)⟩
              rw [e0, HREC.out]
              congr 1; omega
            case measure => simp [intOf]; omega
          · obtain rfl : g = x := by omega
            have hcg4 := hx1
            go_wp2_with fail
            go_roundw
            case rel =>
              refine ⟨i + 1, by omega, by go_num, ?_, by rw [HS2.out], by rw [HS3.out], hbs⟩
              rw [HS1.out, HCM2.out]
            case measure => simp [intOf]; omega
    · obtain rfl : i = L.length := by omega
      rw [plcAt_all]
      go_wp2
      go_ret
      exact ⟨rfl, hbel3.trans (hbr.mono hs3)⟩

theorem iPlaceOf_any (a : Option Addr) (c B : Nat) (L : List Int) (w : World) (h : Rd w B a (ints L)) (hB : B ≤ w.heap.size) (hl : L.length ≤ 4611686018427387904) :
    Calls Try.prog 13 #[.slice a L.length c] w fun e w' => e = .returned (.int .i64 (plcF L)) ∧ Below w.heap.size w w' := by
  have hi16 : (Try.prog.info? 45).map (·.size) = some (arr (dg L)).size := by rw [arr_size, dg_len]; exact T_info35
  have hsz : (arr (dg L)).size = (arr (List.replicate 16 0)).size := by rw [arr_size, arr_size, dg_len]; rfl
  cases hv : valid L with
  | true =>
    have HE := Lib.hid (plcF_yes hv)
    have HD := Lib.hid (dg_yes hv)
    have HV := Lib.hid hv
    go_enter Try.func13, Try.ntmps13
    go_wp2_with (first | (go_at_call 40; rw [HD.out]; refine (place_any L HV.out _).mono ?_; rintro e w2 ⟨rfl, hb2⟩) | (go_at_call 39; refine (diagramOf_any _ _ B L _ h hB hl).mono ?_; rintro e w1 ⟨rfl, hb1⟩) | (refine wpList_store_row rfl 45 (.tmp 3) (.tmp 8) rfl w1.heap.size rfl (arr (dg L)) rfl 45 (arr (List.replicate 16 0)) (Blk.new w1 _ _) hi16 hsz (arr_one _) ?_) | (refine wpList_load_row rfl 45 (.tmp 3) rfl w1.heap.size rfl 45 (arr (dg L)) (0, 0) _ (Blk.new w1 _ _).row Try.underlying45 rfl hi16 ?_))
    go_ret
    refine ⟨ret_i64 (by rw [HE.out]), ?_⟩
    exact (below_setRow' (hb1.alloc hb1.size _) (by exact hb1.size) _).trans (hb2.mono (by have := hb1.size; simp; omega))
  | false =>
    have HE := Lib.hid (plcF_no hv)
    go_enter Try.func13, Try.ntmps13
    go_wp2_with (first | (go_at_call 39; refine (diagramOf_any _ _ B L _ h hB hl).mono ?_; rintro e w1 ⟨rfl, hb1⟩) | (refine wpList_store_row rfl 45 (.tmp 3) (.tmp 8) rfl w1.heap.size rfl (arr (dg L)) rfl 45 (arr (List.replicate 16 0)) (Blk.new w1 _ _) hi16 hsz (arr_one _) ?_))
    go_ret
    exact ⟨ret_i64 HE.out.symm, below_setRow' (hb1.alloc hb1.size _) (by exact hb1.size) _⟩

theorem rank_any (a : Option Addr) (c B : Nat) (L : List Int) (w : World) (h : Rd w B a (ints L)) (hv : valid L = true) :
    Calls Try.prog 38 #[.slice a L.length c] w fun e w' => e = .returned (.int .i64 (plc (sumL L) (sumL L) L)) ∧ ∃ n, w' = w.drewN n := by
  have HV := Lib.hid hv
  have hl16 := (valid_bd hv).2.2.2
  have HF := Lib.hid (valid_fits hv)
  clear hv
  go_enter Try.func38, Try.ntmps38
  go_wp2_with (go_at_call 61; refine (sum_any _ _ B L _ h HF.out (by omega)).mono ?_; rintro e w1 ⟨rfl, rfl⟩)
  go_loopw [3, 4, 5, 6] (fun vp vl vm vi wr => ∃ i : Nat, i ≤ L.length ∧ vi = .int .i64 i ∧ vp = .int .i64 (plcAt L i) ∧ vl = .int .i64 (leftAt L i) ∧ vm = .int .i64 (capAt L i) ∧ Dr w wr) (fun _ _ _ vi _ => L.length - (intOf vi).toNat)
  case atStart => exact ⟨0, Nat.zero_le _, rfl, rfl, by rw [leftAt_zero], rfl, Dr.refl _⟩
  case round =>
    obtain ⟨i, hi, rfl, rfl, rfl, rfl, hdr⟩ := hrel
    have hpb := plcAt_bd HV.out i hi
    by_cases hlt : i < L.length
    · have hlt' : (i : Int) < (L.length : Int) := by omega
      obtain ⟨b, o, rfl, hbB, hc⟩ := (h.dr hdr).at_ hlt
      obtain ⟨hx1, hx2, hx3, hx4, hx5⟩ := at_bd HV.out hlt
      have HS1 := Lib.hid (plcAt_succ hlt)
      have HS2 := Lib.hid (leftAt_succ hlt)
      have HS3 := Lib.hid (capAt_succ hlt)
      have hcb1 := ctZ_bd (leftAt L i) (capAt L i) (by omega)
      have hcb2 := ctZ_bd (leftAt L i) L[i] (by omega)
      generalize L[i] = x at *
      generalize leftAt L i = l at *
      generalize capAt L i = m at *
      generalize plcAt L i = p at *
      have e1 : IntKind.i64.wrap (p + ctZ l m) = p + ctZ l m := IntWalk.i64_in _ (by omega)
      have e2 : IntKind.i64.wrap (p + ctZ l m - ctZ l x) = p + ctZ l m - ctZ l x := IntWalk.i64_in _ (by omega)
      go_wp2_with fail
      go_quiet ((go_at_call 47; exact Calls.quiet_of_same ((countTo_at _ _ _ (by omega) (by omega) (by omega) (by omega)).mono fun e w' h => ⟨h.1, h.2.symm⟩)))
      go_wp2
      go_roundw
      case rel =>
        refine ⟨i + 1, by omega, by go_num, ?_, by rw [HS2.out], by rw [HS3.out], hdr.drewN _⟩
        rw [HS1.out]
        congr 1; omega
      case measure => simp [intOf]; omega
    · obtain rfl : i = L.length := by omega
      rw [plcAt_all]
      go_wp2
      go_ret
      exact ⟨rfl, hdr⟩

theorem sPlaceOf_any (a : Option Addr) (c B : Nat) (L : List Int) (w : World) (h : Rd w B a (ints L)) (hl : L.length ≤ 4611686018427387904) :
    Calls Try.prog 11 #[.slice a L.length c] w fun e w' => e = .returned (.int .i64 (plcF L)) ∧ ∃ n, w' = w.drewN n := by
  cases hv : valid L with
  | true =>
    have HE := Lib.hid (plcF_yes hv)
    have HV := Lib.hid hv
    go_enter Try.func11, Try.ntmps11
    go_wp2_with (first | (go_at_call 38; refine (rank_any _ _ B L _ (h.dr (Dr.n w n)) HV.out).mono ?_; rintro e w2 ⟨rfl, n2, rfl⟩) | (go_at_call 37; refine (validParts_any _ _ B L _ h hl).mono ?_; rintro e w1 ⟨rfl, n, rfl⟩))
    go_ret
    exact ⟨ret_i64 HE.out.symm, Dr.n w (n + n2)⟩
  | false =>
    have HE := Lib.hid (plcF_no hv)
    go_enter Try.func11, Try.ntmps11
    go_wp2_with (go_at_call 37; refine (validParts_any _ _ B L _ h hl).mono ?_; rintro e w1 ⟨rfl, n, rfl⟩)
    go_ret
    exact ⟨ret_i64 HE.out.symm, Dr.n _ _⟩
end Go.Proofs.Yteglcoalfgjjiaa
