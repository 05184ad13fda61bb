/-
  Walks: CountParts, AtMostParts, JustParts of the model and of the program. Walks: places, of the program and of the model. Lists of lists that come in: their sizes, their copies. A cell behind draws. Lists of lists that can be read from a bound on up: kept by whatever leaves the blocks between two bounds alone. Walks of the model: parts of one sum sorted.
-/
import Derived.Test.YtmnlmahjgmhdiaaZcov1
import Derived.Test.YtmnlmahjgmhdiaaZcov2
import Derived.Test.YtmnlmahjgmhdiaaZcov3
import Derived.Test.YtmnlmahjgmhdiaaZcov4
import Derived.Test.YtmnlmahjgmhdiaaZcov5
import Derived.Test.YtmnlmahjgmhdiaaZcov6
import Derived.Deep.Matrix
namespace Go.Proofs.Ytmnlmahjgmhdiaa
open Go.RowKit NP
set_option maxRecDepth 8000
set_option linter.unusedVariables false

theorem cpF_in {n : Int} (h : 0 ≤ n ∧ n ≤ 40) : cpF n = ctZ n n := by unfold cpF; rw [if_pos h]
theorem cpF_out {n : Int} (h : ¬ (0 ≤ n ∧ n ≤ 40)) : cpF n = -1 := by unfold cpF; rw [if_neg h]
theorem amF_in {n k : Int} (h : 0 ≤ n ∧ n ≤ 40) (h2 : 0 ≤ k ∧ k ≤ 40) : amF n k = ctZ n k := by unfold amF; rw [if_pos ⟨h, h2⟩]
theorem amF_out {n k : Int} (h : ¬ ((0 ≤ n ∧ n ≤ 40) ∧ (0 ≤ k ∧ k ≤ 40))) : amF n k = -1 := by unfold amF; rw [if_neg h]
theorem jpF_in {n k : Int} (h : 0 ≤ n ∧ n ≤ 40) (h2 : 0 ≤ k ∧ k ≤ 40) : jpF n k = ctZ (n - k) k := by unfold jpF; rw [if_pos ⟨h, h2⟩]
theorem jpF_out {n k : Int} (h : ¬ ((0 ≤ n ∧ n ≤ 40) ∧ (0 ≤ k ∧ k ≤ 40))) : jpF n k = -1 := by unfold jpF; rw [if_neg h]






end Go.Proofs.Ytmnlmahjgmhdiaa
namespace Go.Proofs.Ytmnlmahjgmhdiaa
open Go.RowKit NP
set_option maxRecDepth 8000
set_option linter.unusedVariables false

theorem cwg_any (s g : Nat) (hg : g ≤ s) (hs : s ≤ 40) (w : World) :
    Calls Try.prog 80 #[.int .i64 s, .int .i64 g] w fun e w' => e = .returned (.int .i64 (ctZ ((s : Int) - (g : Int)) g)) ∧ Below w.heap.size w w' := by
  obtain ⟨d, hd⟩ : ∃ d : Nat, (s : Int) - (g : Int) = (d : Int) := ⟨s - g, by omega⟩
  rw [hd]
  have hk41 : d < (crow g).length := by rw [crow_len]; omega
  have hix := T_index41 (crow g) d hk41 (by omega)
  rw [crow_get, ← ctZ_nat] at hix
  have hg40 : g ≤ 40 := by omega
  clear hk41
  go_enter Try.func80, Try.ntmps80
  go_wp2_with (go_at_call 86; refine (countsUpTo_any g hg40 _).mono ?_; rintro e w1 ⟨rfl, hb⟩)
  go_ret
  exact ⟨rfl, hb⟩

/-- the greatest part that may come at place i -/
def capAt (L : List Int) (i : Nat) : Int := (L.take i).getLastD (sumL L)
def leftAt (L : List Int) (i : Nat) : Int := sumL L - sumL (L.take i)
theorem capAt_zero (L : List Int) : capAt L 0 = sumL L := rfl
theorem capAt_succ {L : List Int} {i : Nat} (h : i < L.length) : capAt L (i + 1) = L[i] := by
  unfold capAt
  rw [List.take_succ_eq_append_getElem h, List.getLastD_eq_getLast?, List.getLast?_append]; simp
theorem leftAt_zero (L : List Int) : leftAt L 0 = sumL L := by simp [leftAt, sumL]
theorem leftAt_succ {L : List Int} {i : Nat} (h : i < L.length) : leftAt L (i + 1) = leftAt L i - L[i] := by
  unfold leftAt; rw [sumL_take_succ L i h]; omega
def plcAt (L : List Int) (i : Nat) : Int := plc (sumL L) (sumL L) (L.take i)
theorem plcAt_succ {L : List Int} {i : Nat} (h : i < L.length) : plcAt L (i + 1) = plcAt L i + (ctZ (leftAt L i) (capAt L i) - ctZ (leftAt L i) L[i]) := by
  unfold plcAt leftAt capAt
  rw [List.take_succ_eq_append_getElem h, plc_append]
theorem at_bd {L : List Int} (hv : valid L = true) {i : Nat} (h : i < L.length) : 1 ≤ L[i] ∧ L[i] ≤ leftAt L i ∧ L[i] ≤ capAt L i ∧ leftAt L i ≤ 16 ∧ capAt L i ≤ 16 := by
  have hb := valid_bd hv
  have hp := preS_of_valid hv i h h
  have h1 : sumL (L.take (i + 1)) ≤ sumL L := by
    have e : sumL L = sumL (L.take (i + 1)) + sumL (L.drop (i + 1)) := by rw [← sumL_append, List.take_append_drop]
    have hn : 0 ≤ sumL (L.drop (i + 1)) := by
      have := valid_nonneg hv
      have hh : ∀ (M : List Int), (∀ x ∈ M, 0 ≤ x) → 0 ≤ sumL M := by
        intro M
        induction M with
        | nil => intro _; exact Int.le_refl _
        | cons x r ih =>
          intro h
          have := ih fun y hy => h y (by simp [hy])
          have := h x (by simp)
          rw [sumL]; omega
      exact hh _ fun x hx => this x (List.mem_of_mem_drop hx)
    omega
  have h2 := leftAt_succ h
  have h3 : 0 ≤ sumL (L.take i) := (valid_bd (valid_take hv i)).1
  rcases Nat.eq_zero_or_pos i with h0 | h0
  · subst h0
    have e1 := capAt_zero L
    have e2 := leftAt_zero L
    unfold leftAt at *
    omega
  · have e1 : capAt L i = L[i - 1]'(by omega) := by
      have := capAt_succ (L := L) (i := i - 1) (by omega)
      rwa [show i - 1 + 1 = i by omega] at this
    have h4 := (preS_of_valid hv (i - 1) (by omega) (by omega))
    have h5 := hp.2.2 h0
    unfold leftAt at *
    omega
theorem plcAt_bd {L : List Int} (hv : valid L = true) : ∀ i, i ≤ L.length → -1099511627776 * (i : Int) ≤ plcAt L i ∧ plcAt L i ≤ 1099511627776 * i := by
  intro i
  induction i with
  | zero => intro _; simp [plcAt, plc]
  | succ i ih =>
    intro hi
    have h1 := ih (by omega)
    have h2 := at_bd hv (i := i) (by omega)
    have h3 := ctZ_bd (leftAt L i) (capAt L i) (by omega)
    have h4 := ctZ_bd (leftAt L i) L[i] (by omega)
    rw [plcAt_succ (by omega)]
    omega
theorem plcAt_all (L : List Int) : plcAt L L.length = plc (sumL L) (sumL L) L := by unfold plcAt; rw [List.take_of_length_le (Nat.le_refl _)]

set_option maxHeartbeats 1000000 in
theorem place_any (L : List Int) (hv : valid L = true) (w : World) :
    Calls Try.prog 66 #[.agg (arr (pad L))] w fun e w' => e = .returned (.int .i64 (plc (sumL L) (sumL L) L)) ∧ Below w.heap.size w w' := by
  have hl16 := (valid_bd hv).2.2.2
  have hpl := pad_len hl16
  have hi16 : (Try.prog.info? 41).map (·.size) = some (arr (pad L)).size := by rw [arr_size, hpl]; exact T_info35
  have hb := Blk.new w 41 (arr (pad L))
  have HPL := Lib.hid hpl
  have HSP := Lib.hid (sumL_pad L)
  have HF := Lib.hid (pad_fits hv)
  have HV := Lib.hid hv
  clear hpl hv
  go_enter Try.func66, Try.ntmps66
  go_wp2_with (first
    | (go_at_call 57; have hsx := hb1; refine (list_any L HV.out _).mono ?_; rintro e w3 ⟨a3, rfl, ho3, hb3⟩; have hbel3 : Below w.heap.size w w3 := hb1'.trans (hb3.mono hb1'.size))
    | (go_at_call 48; refine (dsum_any (pad L) HPL.out HF.out _).mono ?_; rintro e w2 ⟨rfl, hb1⟩; rw [HSP.out]; have hb2 := hb.below hb1 (by simp); have hb1' : Below w.heap.size w w2 := ((Below.refl _ _).alloc (Nat.le_refl _) _).trans (hb1.mono (by simp)))
    | (refine wpList_load_row rfl 41 (.tmp 1) rfl w.heap.size rfl 41 (arr (pad L)) (0, 0) _ hb2 Try.underlying41 rfl hi16 ?_)
    | (refine wpList_load_row rfl 41 (.tmp 1) rfl w.heap.size rfl 41 (arr (pad L)) (0, 0) _ hb Try.underlying41 rfl hi16 ?_))
  have HR := Lib.hid ho3.rd
  have hs3 := hbel3.size
  clear hb hb1 hb2 hb1' hb3 ho3
  go_loopw [3, 4, 5, 15] (fun vp vl vm vi wr => ∃ i : Nat, i ≤ L.length ∧ vi = .int .i64 i ∧ vp = .int .i64 (plcAt L i) ∧ vl = .int .i64 (leftAt L i) ∧ vm = .int .i64 (capAt L i) ∧ Below w3.heap.size w3 wr) (fun _ _ _ vi _ => L.length - (intOf vi).toNat)
  case atStart => exact ⟨0, Nat.zero_le _, rfl, rfl, by rw [leftAt_zero], rfl, Below.refl _ _⟩
  case round =>
    obtain ⟨i, hi, rfl, rfl, rfl, rfl, hbr⟩ := hrel
    have hpb := plcAt_bd HV.out i hi
    by_cases hlt : i < L.length
    · have hlt' : (i : Int) < (L.length : Int) := by omega
      obtain ⟨b, o, rfl, hbB, hc⟩ := (HR.out.below hbr).at_ hlt
      obtain ⟨hx1, hx2, hx3, hx4, hx5⟩ := at_bd HV.out hlt
      have HS1 := Lib.hid (plcAt_succ hlt)
      have HS2 := Lib.hid (leftAt_succ hlt)
      have HS3 := Lib.hid (capAt_succ hlt)
      have HCM := Lib.hid (ctZ_min (n := leftAt L i) (m := capAt L i) (by omega))
      have hcb1 := ctZ_bd (leftAt L i) (capAt L i) (by omega)
      generalize L[i] = X at *
      generalize leftAt L i = Y at *
      generalize capAt L i = Z at *
      generalize plcAt L i = p at *
      obtain ⟨x, rfl⟩ : ∃ x : Nat, X = (x : Int) := ⟨X.toNat, by omega⟩
      obtain ⟨l, rfl⟩ : ∃ l : Nat, Y = (l : Int) := ⟨Y.toNat, by omega⟩
      obtain ⟨m, rfl⟩ : ∃ m : Nat, Z = (m : Int) := ⟨Z.toNat, by omega⟩
      obtain ⟨M, hM⟩ : ∃ M : Nat, M = min l m := ⟨_, rfl⟩
      have hMx : x ≤ M := by omega
      have hMl : M ≤ l := by omega
      have HCM2 : Hid (ctZ (l : Int) (M : Int) = ctZ (l : Int) (m : Int)) := Lib.hid (by rw [← HCM.out, hM]; congr 1; omega)
      clear HCM
      have hrest : ∀ (_ : True), True := fun _ => trivial
      by_cases hml : (l : Int) < (m : Int)
      · have dm : l < m := by omega
        have hMe : M = l := by omega
        have HME := Lib.hid hMe
        clear hM hml hMe
        go_wp2_with fail
        obtain ⟨wo, rfl⟩ : ∃ wo : World, wo = wr := ⟨_, rfl⟩
        go_loopw [3, 8] (fun vp vg wr => ∃ g : Nat, x ≤ g ∧ g ≤ M ∧ vg = .int .i64 g ∧ vp = .int .i64 (p + (ctZ (l : Int) (M : Int) - ctZ (l : Int) (g : Int))) ∧ Below w3.heap.size w3 wr) (fun _ vg _ => (intOf vg).toNat)
        case atStart => exact ⟨M, hMx, Nat.le_refl _, by rw [HME.out], by congr 1; omega, hbr⟩
        case round =>
          obtain ⟨g, hg1, hg2, rfl, rfl, hbs⟩ := hrel
          have hcg1 := ctZ_bd (l : Int) (M : Int) (by omega)
          have hcg2 := ctZ_bd (l : Int) (g : Int) (by omega)
          by_cases hgt : x < g
          · have hgt' : (x : Int) < (g : Int) := by omega
            have HREC := Lib.hid (ctZ_rec (l : Int) (g : Int) (by omega) (by omega))
            have hcg3 := ctZ_bd ((l : Int) - (g : Int)) (g : Int) (by omega)
            go_wp2_with (go_at_call 80; refine (cwg_any l g (by omega) (by omega) _).mono ?_; rintro e wq ⟨rfl, hbq⟩)
            go_roundw
            case rel =>
              have e0 : ((g - 1 : Nat) : Int) = (g : Int) - 1 := by omega
              refine ⟨g - 1, by omega, by omega, by rw [e0], ?_, hbs.trans (hbq.mono hbs.size)⟩
              rw [e0, HREC.out]
              congr 1; omega
            case measure => simp [intOf]; omega
          · obtain rfl : g = x := by omega
            have hcg4 := hx1
            go_wp2_with fail
            go_roundw
            case rel =>
              refine ⟨i + 1, by omega, by go_num, ?_, by rw [HS2.out], by rw [HS3.out], hbs⟩
              rw [HS1.out, HCM2.out]
            case measure => simp [intOf]; omega
      · have dm : ¬ l < m := by omega
        have hMe : M = m := by omega
        have HME := Lib.hid hMe
        clear hM hml hMe
        go_wp2_with fail
        obtain ⟨wo, rfl⟩ : ∃ wo : World, wo = wr := ⟨_, rfl⟩
        go_loopw [3, 8] (fun vp vg wr => ∃ g : Nat, x ≤ g ∧ g ≤ M ∧ vg = .int .i64 g ∧ vp = .int .i64 (p + (ctZ (l : Int) (M : Int) - ctZ (l : Int) (g : Int))) ∧ Below w3.heap.size w3 wr) (fun _ vg _ => (intOf vg).toNat)
        case atStart => exact ⟨M, hMx, Nat.le_refl _, by rw [HME.out], by congr 1; omega, hbr⟩
        case round =>
          obtain ⟨g, hg1, hg2, rfl, rfl, hbs⟩ := hrel
          have hcg1 := ctZ_bd (l : Int) (M : Int) (by omega)
          have hcg2 := ctZ_bd (l : Int) (g : Int) (by omega)
          by_cases hgt : x < g
          · have hgt' : (x : Int) < (g : Int) := by omega
            have HREC := Lib.hid (ctZ_rec (l : Int) (g : Int) (by omega) (by omega))
            have hcg3 := ctZ_bd ((l : Int) - (g : Int)) (g : Int) (by omega)
            go_wp2_with (go_at_call 80; refine (cwg_any l g (by omega) (by omega) _).mono ?_; rintro e wq ⟨rfl, hbq⟩)
            go_roundw
            case rel =>
              have e0 : ((g - 1 : Nat) : Int) = (g : Int) - 1 := by omega
              refine ⟨g - 1, by omega, by omega, by rw [e0], ?_, hbs.trans (hbq.mono hbs.size)⟩
              rw [e0, HREC.out]
              congr 1; omega
            case measure => simp [intOf]; omega
          · obtain rfl : g = x := by omega
            have hcg4 := hx1
            go_wp2_with fail
            go_roundw
            case rel =>
              refine ⟨i + 1, by omega, by go_num, ?_, by rw [HS2.out], by rw [HS3.out], hbs⟩
              rw [HS1.out, HCM2.out]
            case measure => simp [intOf]; omega
    · obtain rfl : i = L.length := by omega
      rw [plcAt_all]
      go_wp2
      go_ret
      exact ⟨rfl, hbel3.trans (hbr.mono hs3)⟩

theorem iPlaceOf_any (a : Option Addr) (c B : Nat) (L : List Int) (w : World) (h : Rd w B a (ints L)) (hB : B ≤ w.heap.size) (hl : L.length ≤ 4611686018427387904) :
    Calls Try.prog 40 #[.slice a L.length c] w fun e w' => e = .returned (.int .i64 (plcF L)) ∧ Below w.heap.size w w' := by
  have hi16 : (Try.prog.info? 41).map (·.size) = some (arr (dg L)).size := by rw [arr_size, dg_len]; exact T_info35
  have hsz : (arr (dg L)).size = (arr (List.replicate 16 0)).size := by rw [arr_size, arr_size, dg_len]; rfl
  cases hv : valid L with
  | true =>
    have HE := Lib.hid (plcF_yes hv)
    have HD := Lib.hid (dg_yes hv)
    have HV := Lib.hid hv
    go_enter Try.func40, Try.ntmps40
    go_wp2_with (first | (go_at_call 66; rw [HD.out]; refine (place_any L HV.out _).mono ?_; rintro e w2 ⟨rfl, hb2⟩) | (go_at_call 43; refine (diagramOf_any _ _ B L _ h hB hl).mono ?_; rintro e w1 ⟨rfl, hb1⟩) | (refine wpList_store_row rfl 41 (.tmp 3) (.tmp 8) rfl w1.heap.size rfl (arr (dg L)) rfl 41 (arr (List.replicate 16 0)) (Blk.new w1 _ _) hi16 hsz (arr_one _) ?_) | (refine wpList_load_row rfl 41 (.tmp 3) rfl w1.heap.size rfl 41 (arr (dg L)) (0, 0) _ (Blk.new w1 _ _).row Try.underlying41 rfl hi16 ?_))
    go_ret
    refine ⟨ret_i64 (by rw [HE.out]), ?_⟩
    exact (below_setRow' (hb1.alloc hb1.size _) (by exact hb1.size) _).trans (hb2.mono (by have := hb1.size; simp; omega))
  | false =>
    have HE := Lib.hid (plcF_no hv)
    go_enter Try.func40, Try.ntmps40
    go_wp2_with (first | (go_at_call 43; refine (diagramOf_any _ _ B L _ h hB hl).mono ?_; rintro e w1 ⟨rfl, hb1⟩) | (refine wpList_store_row rfl 41 (.tmp 3) (.tmp 8) rfl w1.heap.size rfl (arr (dg L)) rfl 41 (arr (List.replicate 16 0)) (Blk.new w1 _ _) hi16 hsz (arr_one _) ?_))
    go_ret
    exact ⟨ret_i64 HE.out.symm, below_setRow' (hb1.alloc hb1.size _) (by exact hb1.size) _⟩

theorem rank_any (a : Option Addr) (c B : Nat) (L : List Int) (w : World) (h : Rd w B a (ints L)) (hv : valid L = true) :
    Calls Try.prog 75 #[.slice a L.length c] w fun e w' => e = .returned (.int .i64 (plc (sumL L) (sumL L) L)) ∧ ∃ n, w' = w.drewN n := by
  have HV := Lib.hid hv
  have hl16 := (valid_bd hv).2.2.2
  have HF := Lib.hid (valid_fits hv)
  clear hv
  go_enter Try.func75, Try.ntmps75
  go_wp2_with (go_at_call 50; refine (sum_any _ _ B L _ h HF.out (by omega)).mono ?_; rintro e w1 ⟨rfl, rfl⟩)
  go_loopw [3, 4, 5, 6] (fun vp vl vm vi wr => ∃ i : Nat, i ≤ L.length ∧ vi = .int .i64 i ∧ vp = .int .i64 (plcAt L i) ∧ vl = .int .i64 (leftAt L i) ∧ vm = .int .i64 (capAt L i) ∧ Dr w wr) (fun _ _ _ vi _ => L.length - (intOf vi).toNat)
  case atStart => exact ⟨0, Nat.zero_le _, rfl, rfl, by rw [leftAt_zero], rfl, Dr.refl _⟩
  case round =>
    obtain ⟨i, hi, rfl, rfl, rfl, rfl, hdr⟩ := hrel
    have hpb := plcAt_bd HV.out i hi
    by_cases hlt : i < L.length
    · have hlt' : (i : Int) < (L.length : Int) := by omega
      obtain ⟨b, o, rfl, hbB, hc⟩ := (h.dr hdr).at_ hlt
      obtain ⟨hx1, hx2, hx3, hx4, hx5⟩ := at_bd HV.out hlt
      have HS1 := Lib.hid (plcAt_succ hlt)
      have HS2 := Lib.hid (leftAt_succ hlt)
      have HS3 := Lib.hid (capAt_succ hlt)
      have hcb1 := ctZ_bd (leftAt L i) (capAt L i) (by omega)
      have hcb2 := ctZ_bd (leftAt L i) L[i] (by omega)
      generalize L[i] = x at *
      generalize leftAt L i = l at *
      generalize capAt L i = m at *
      generalize plcAt L i = p at *
      have e1 : IntKind.i64.wrap (p + ctZ l m) = p + ctZ l m := IntWalk.i64_in _ (by omega)
      have e2 : IntKind.i64.wrap (p + ctZ l m - ctZ l x) = p + ctZ l m - ctZ l x := IntWalk.i64_in _ (by omega)
      go_wp2_with fail
      go_quiet ((go_at_call 83; exact Calls.quiet_of_same ((countTo_at _ _ _ (by omega) (by omega) (by omega) (by omega)).mono fun e w' h => ⟨h.1, h.2.symm⟩)))
      go_wp2
      go_roundw
      case rel =>
        refine ⟨i + 1, by omega, by go_num, ?_, by rw [HS2.out], by rw [HS3.out], hdr.drewN _⟩
        rw [HS1.out]
        congr 1; omega
      case measure => simp [intOf]; omega
    · obtain rfl : i = L.length := by omega
      rw [plcAt_all]
      go_wp2
      go_ret
      exact ⟨rfl, hdr⟩

end Go.Proofs.Ytmnlmahjgmhdiaa
namespace Go.Proofs.Ytmnlmahjgmhdiaa
open Go.RowKit NP
set_option maxRecDepth 8000
set_option linter.unusedVariables false
set_option linter.unusedSimpArgs false
/-- a list put into its place: its block was made behind all others -/
theorem OwnLL.put {w : World} {lo hi lou : Nat} {eo e : TypeId} {g n c : Nat} {u : Value} {vs : List Value} {LL : List (List Int)} {L : List Int} (h : OwnLL w lo hi eo e (.slice (some ⟨g, 0, none⟩) n c) vs LL)
    (hu : Own w lou w.heap.size e u (ints L)) (hlou : hi ≤ lou) (hlo : lo ≤ lou) {k : Nat} (hk : k < vs.length) : OwnLL (w.setCell ⟨g, k, none⟩ u) lo w.heap.size eo e (.slice (some ⟨g, 0, none⟩) n c) (vs.set k u) (LL.set k L) := by
  have hgh : g < hi := h.outer.lt g rfl
  have hlen := h.len
  have hle := h.le
  refine ⟨h.outer.more.set k u, by rw [List.length_set, List.length_set]; exact hlen, fun j x M hx hM => ?_, fun j x q hx hq hv => ?_, fun i j x y q hx hy hqx hqy => ?_⟩
  · rw [List.getElem?_set] at hx hM
    by_cases hj : k = j
    · subst hj
      rw [if_pos rfl, if_pos hk] at hx
      rw [if_pos rfl, if_pos (by omega)] at hM
      cases hx; cases hM
      exact (hu.off (p := ⟨g, k, none⟩) (fun q hq e => by have := hu.base q hq; have e' : q = g := e; omega) u).lower hlo
    · rw [if_neg hj] at hx hM
      have hi' := h.inner j x M hx hM
      exact (hi'.more).off (p := ⟨g, k, none⟩) (fun q hq e => h.apartO j x q hx hq (by rw [e]; rfl)) u
  · rw [List.getElem?_set] at hx
    have hgq : g = q := by simp [Value.ownBlock] at hv; exact hv
    by_cases hj : k = j
    · subst hj
      rw [if_pos rfl, if_pos hk] at hx
      cases hx
      have := hu.base q hq
      omega
    · rw [if_neg hj] at hx
      exact h.apartO j x q hx hq hv
  · rw [List.getElem?_set] at hx hy
    by_cases hi : k = i
    · subst hi
      rw [if_pos rfl, if_pos hk] at hx
      cases hx
      by_cases hj : k = j
      · exact hj
      · rw [if_neg hj] at hy
        have h1 := h.lt hy hqy
        have h2 := hu.base q hqx
        omega
    · rw [if_neg hi] at hx
      by_cases hj : k = j
      · subst hj
        rw [if_pos rfl, if_pos hk] at hy
        cases hy
        have h1 := h.lt hx hqx
        have h2 := hu.base q hqy
        omega
      · rw [if_neg hj] at hy
        exact h.apart i j x y q hx hy hqx hqy
theorem own_nil2 (w : World) (lo hi : Nat) (e : TypeId) (h : hi ≤ w.heap.size) : Own w lo hi e (.slice none 0 0) [] :=
  ⟨World.ownsRow_nil w lo e 1, fun g hg => by simp [Value.ownBlock] at hg, h⟩
/-- a list of empty lists, laid anew -/
theorem OwnLL.zeros (w : World) (n : Nat) (eo e : TypeId) (hn : n ≤ maxLen) :
    OwnLL (w.alloc (.cells (List.replicate n (Value.slice none 0 0)).toArray eo)) w.heap.size (w.heap.size + 1) eo e (.slice (some ⟨w.heap.size, 0, none⟩) n n) (List.replicate n (Value.slice none 0 0)) (List.replicate n []) := by
  have hb := Blk.new w eo (List.replicate n (Value.slice none 0 0)).toArray
  have ho := hb.own (lo := w.heap.size) (vs := List.replicate n (Value.slice none 0 0)) (Nat.le_refl _) (by simpa using hn)
  rw [List.length_replicate, World.size_alloc] at ho
  refine ⟨ho, by simp, fun k u L hu hL => ?_, fun k u g hu hg => ?_, fun i j u u' g hu hu' hg => ?_⟩
  · have h1 := List.mem_of_getElem? hu
    have h2 := List.mem_of_getElem? hL
    rw [List.mem_replicate] at h1 h2
    rw [h1.2, h2.2]
    exact own_nil2 _ _ _ _ (by simp)
  · have h1 := List.mem_of_getElem? hu
    rw [List.mem_replicate] at h1
    rw [h1.2] at hg
    simp [Value.ownBlock] at hg
  · have h1 := List.mem_of_getElem? hu
    rw [List.mem_replicate] at h1
    rw [h1.2] at hg
    simp [Value.ownBlock] at hg
theorem run_make_lists {P : Program} (t e : TypeId) (i : TypeInfo) (h1 : P.underlying t = some (.slice e)) (h2 : P.info? e = some i) (h3 : i.zero = some (.slice none 0 0)) (h4 : i.size = 1) (h5 : i.bytes = 24)
    (n : Nat) (hn : n ≤ 4194304) (w : World) :
    (Instr.makeSlice t (.int .i64 n) (.int .i64 n)).run P w = .ok (.slice (some ⟨w.heap.size, 0, none⟩) n n) (w.alloc (.cells (List.replicate n (Value.slice none 0 0)).toArray e)) := by
  have hrun := run_make (P := P) w t e i (.slice none 0 0) h1 h2 h3 .i64 .i64 n n (by omega) (by omega) (by rw [h5]; omega) (by omega)
  rw [h4] at hrun
  simp only [Int.toNat_natCast, Nat.mul_one] at hrun
  rw [hrun]
  congr 3
  apply Array.toList_inj.1
  simp [Value.cells, toList_madeCells_one]
theorem fill_setV {us : List Value} {k n : Nat} (hk : us.length = k) (hn : k < n) (u : Value) : (us ++ List.replicate (n - k) (Value.slice none 0 0)).set k u = (us ++ [u]) ++ List.replicate (n - (k + 1)) (Value.slice none 0 0) := by
  rw [List.set_append_right _ _ (by omega), hk, Nat.sub_self, show n - k = (n - (k + 1)) + 1 by omega, List.replicate_succ, List.set_cons_zero, List.append_assoc]
  rfl
theorem fill_setL {LL : List (List Int)} {k : Nat} (hk : k < LL.length) : (LL.take k ++ List.replicate (LL.length - k) []).set k LL[k] = LL.take (k + 1) ++ List.replicate (LL.length - (k + 1)) [] := by
  rw [List.set_append_right _ _ (by simp; omega), List.length_take, Nat.min_eq_left (by omega), Nat.sub_self, show LL.length - k = (LL.length - (k + 1)) + 1 by omega, List.replicate_succ, List.set_cons_zero, List.take_succ_eq_append_getElem hk, List.append_assoc]
  rfl
/-- rows that came in, read as lists -/
theorem rows_of {w : World} {a : Addr} {len cap : Nat} {A : Nat → Option Addr} {L C : Nat → Nat} {Z : Nat → List Int} (hl : len ≤ cap)
    (h : ∀ r, r < cap → w.cell? (a.add r) = some (.slice (A r) (L r) (C r)) ∧ L r ≤ C r ∧ C r ≤ maxLen ∧ (Z r).length = C r ∧ (∀ n ∈ Z r, (Lit.int .i64 n).wf = true) ∧ (A r = none → C r = 0) ∧
      ∀ a', A r = some a' → 0 ≤ a'.block ∧ ∀ c, c < C r → w.cell? (a'.add c) = some (.int .i64 ((Z r).getD c 0))) :
    ∃ LL : List (List Int), LL.length = len ∧ RdLL w w.heap.size (some a) LL ∧ ∀ M ∈ LL, M.length ≤ maxLen := by
  have each : ∀ r, r < len → ∃ M : List Int, M.length = L r ∧ Rd w w.heap.size (A r) (ints M) ∧ M.length ≤ maxLen ∧ M.length ≤ C r := by
    intro r hr
    obtain ⟨h1, h2, h3, h4, h5, h6, h7⟩ := h r (by omega)
    have hrow : IsRow .i64 w (A r) (L r) (C r) (Z r) := by
      cases ha : A r with
      | none =>
        have := h6 ha
        exact .inl ⟨rfl, by omega, this, List.eq_nil_of_length_eq_zero (by omega)⟩
      | some x => exact .inr ⟨x, rfl, h2, h3, h4, fun i hi => (h7 x ha).2 i (by omega), h5⟩
    obtain ⟨M, e1, e2, _, e4⟩ := hrow.rd
    exact ⟨M, e1, e2, by omega, by omega⟩
  obtain ⟨y, hy⟩ := Go.Deep.choose_lt each
  refine ⟨(List.range len).map y, by simp, ⟨(List.range len).map fun r => .slice (A r) (L r) (C r), ?_, by simp, ?_⟩, ?_⟩
  · intro hne
    have h0 : 0 < len := by
      rcases Nat.eq_zero_or_pos len with h0 | h0
      · subst h0; simp at hne
      · exact h0
    obtain ⟨b, o, spot⟩ := a
    have hc0 := (h 0 (by omega)).1
    have hspot : spot = none := by simpa [Addr.add] using World.cell?_spot hc0
    subst hspot
    have hlt := World.block_lt_of_cell? _ _ hc0
    refine ⟨b, o, rfl, by simpa [Addr.add] using hlt, fun k v hv => ?_⟩
    have hk := (List.getElem?_eq_some_iff.1 hv).1
    simp at hk
    have h1 := (h k (by omega)).1
    rw [Addr.add_lit] at h1
    rw [h1]
    simpa [hk] using hv
  · intro k v M hv hM
    have hk := (List.getElem?_eq_some_iff.1 hv).1
    simp at hk
    simp [hk] at hv hM
    subst hv hM
    obtain ⟨e1, e2, e3, e4⟩ := hy k hk
    exact ⟨A k, C k, by rw [e1], e2, e4⟩
  · intro M hM
    obtain ⟨r, hr, rfl⟩ := List.mem_map.1 hM
    exact (hy r (List.mem_range.1 hr)).2.2.1
/-- what is left of a size when lists are taken from it -/
def szs (left : Int) : List (List Int) → Int
  | [] => left
  | L :: R => if left - (L.length : Int) < 0 then -1 else szs (left - (L.length : Int)) R
theorem szs_neg (left : Int) (LL : List (List Int)) (h : 0 ≤ left) (hs : 0 ≤ szs left LL) : ∀ L ∈ LL, (L.length : Int) ≤ left := by
  induction LL generalizing left with
  | nil => intro L hL; cases hL
  | cons x R ih =>
    unfold szs at hs
    split at hs
    · omega
    · rename_i h1
      intro L hL
      rcases List.mem_cons.1 hL with rfl | hL
      · omega
      · have := ih (left - (x.length : Int)) (by omega) hs L hL
        omega
theorem szs_cnt (left : Int) (LL : List (List Int)) (h : 0 ≤ left) (hs : 0 ≤ szs left LL) : (cntLL LL : Int) ≤ left := by
  induction LL generalizing left with
  | nil => simp [cntLL]; exact h
  | cons x R ih =>
    unfold szs at hs
    split at hs
    · omega
    · rename_i h1
      have := ih (left - (x.length : Int)) (by omega) hs
      simp [cntLL] at this ⊢
      omega
def szF (left : Int) (LL : List (List Int)) : Int := if left - (LL.length : Int) < 0 then -1 else szs (left - (LL.length : Int)) LL
theorem szF_ok {LL : List (List Int)} (h : 0 ≤ szF 1048576 LL) : LL.length ≤ 1048576 ∧ (∀ L ∈ LL, L.length ≤ 1048576) ∧ cntLL LL ≤ 1048576 := by
  unfold szF at h
  split at h
  · omega
  · rename_i h1
    have h2 := szs_neg _ _ (by omega) h
    have h3 := szs_cnt _ _ (by omega) h
    refine ⟨by omega, fun L hL => ?_, by omega⟩
    have := h2 L hL
    omega
theorem szs_drop (left : Int) {LL : List (List Int)} {k : Nat} (hk : k < LL.length) : szs left (LL.drop k) = if left - (LL[k].length : Int) < 0 then -1 else szs (left - (LL[k].length : Int)) (LL.drop (k + 1)) := by
  rw [List.drop_eq_getElem_cons hk]
  rfl
theorem T_ints3 : (Try.prog.info? 22).map (fun i => (i.zero, i.size, i.bytes)) = some (some (.slice none 0 0), 1, 24) := by kernel_rfl
end Go.Proofs.Ytmnlmahjgmhdiaa
namespace Go.Proofs.Ytmnlmahjgmhdiaa
open Go.RowKit
theorem drCell {w w' : World} {p : Addr} {v : Value} (h : Dr w w') (hc : w.cell? p = some v) : w'.cell? p = some v := by
  rw [(h.below w.heap.size).cell (p := p) (World.block_lt_of_cell? w p hc)]; exact hc
end Go.Proofs.Ytmnlmahjgmhdiaa
namespace Go.Proofs.Ytmnlmahjgmhdiaa
open Go.RowKit
set_option linter.unusedVariables false
def LoA (lo : Nat) (a : Option Addr) (vs : List Value) : Prop := vs ≠ [] → ∀ p, a = some p → lo ≤ p.block
def InnF (w : World) (lo B : Nat) (v : Value) (L : List Int) : Prop := ∃ a c, v = .slice a L.length c ∧ Rd w B a (ints L) ∧ L.length ≤ c ∧ LoA lo a (ints L)
def RdLF (w : World) (lo B : Nat) (a : Option Addr) (LL : List (List Int)) : Prop :=
  ∃ vs, Rd w B a vs ∧ LoA lo a vs ∧ vs.length = LL.length ∧ ∀ (k : Nat) v L, vs[k]? = some v → LL[k]? = some L → InnF w lo B v L
/-- the blocks from lo up to hi are what they were -/
def Same2 (lo hi : Nat) (w w' : World) : Prop := ∀ g, lo ≤ g → g < hi → w'.heap[g]? = w.heap[g]?
theorem Same2.refl (lo hi : Nat) (w : World) : Same2 lo hi w w := fun _ _ _ => rfl
theorem Same2.trans {lo hi : Nat} {w w' w'' : World} (h : Same2 lo hi w w') (h' : Same2 lo hi w' w'') : Same2 lo hi w w'' := fun g h1 h2 => (h' g h1 h2).trans (h g h1 h2)
theorem Same2.of {lo hi B : Nat} {w w' : World} (h : Below B w w') (hB : hi ≤ B) : Same2 lo hi w w' := fun g _ h2 => h.block g (by omega)
theorem Same2.grown {lo hi : Nat} {w w' : World} {row : Option Nat} (hg : w.grownBy w' row) (hs : hi ≤ w.heap.size) (h : ∀ g, row = some g → g < lo ∨ hi ≤ g) : Same2 lo hi w w' := fun g h1 h2 =>
  hg.block g (by omega) (fun e => by have := h g e.symm; omega)
theorem Rd.same2 {w w' : World} {lo B : Nat} {a : Option Addr} {vs : List Value} (h : Rd w B a vs) (hl : LoA lo a vs) (hs : Same2 lo B w w') : Rd w' B a vs := fun hne => by
  obtain ⟨b, o, rfl, hb, hc⟩ := h hne
  have hlo := hl hne _ rfl
  refine ⟨b, o, rfl, hb, fun k v hv => ?_⟩
  rw [World.cell?_of_block (w := w) (hs b hlo hb)]
  exact hc k v hv
theorem InnF.same2 {w w' : World} {lo B : Nat} {v : Value} {L : List Int} (h : InnF w lo B v L) (hs : Same2 lo B w w') : InnF w' lo B v L := by
  obtain ⟨a, c, h1, h2, h3, h4⟩ := h
  exact ⟨a, c, h1, h2.same2 h4 hs, h3, h4⟩
theorem InnF.inn {w : World} {lo B : Nat} {v : Value} {L : List Int} (h : InnF w lo B v L) : Inn w B v L := by
  obtain ⟨a, c, h1, h2, h3, h4⟩ := h
  exact ⟨a, c, h1, h2, h3⟩
theorem InnF.below {w w' : World} {lo B : Nat} {v : Value} {L : List Int} (h : InnF w lo B v L) (hb : Below B w w') : InnF w' lo B v L := h.same2 (Same2.of hb (Nat.le_refl _))
theorem InnF.more {w : World} {lo B B' : Nat} {v : Value} {L : List Int} (h : InnF w lo B v L) (hB : B ≤ B') : InnF w lo B' v L := by
  obtain ⟨a, c, h1, h2, h3, h4⟩ := h
  exact ⟨a, c, h1, h2.more hB, h3, h4⟩
theorem LoA.lower {lo lo' : Nat} {a : Option Addr} {vs : List Value} (h : LoA lo a vs) (hl : lo' ≤ lo) : LoA lo' a vs := fun hne p e => Nat.le_trans hl (h hne p e)
theorem InnF.lower {w : World} {lo lo' B : Nat} {v : Value} {L : List Int} (h : InnF w lo B v L) (hl : lo' ≤ lo) : InnF w lo' B v L := by
  obtain ⟨a, c, h1, h2, h3, h4⟩ := h
  exact ⟨a, c, h1, h2, h3, h4.lower hl⟩
theorem RdLF.rd {w : World} {lo B : Nat} {a : Option Addr} {LL : List (List Int)} (h : RdLF w lo B a LL) : RdLL w B a LL := by
  obtain ⟨vs, h1, _, h2, h3⟩ := h
  exact ⟨vs, h1, h2, fun k v L hv hL => (h3 k v L hv hL).inn⟩
theorem RdLF.same2 {w w' : World} {lo B : Nat} {a : Option Addr} {LL : List (List Int)} (h : RdLF w lo B a LL) (hs : Same2 lo B w w') : RdLF w' lo B a LL := by
  obtain ⟨vs, h1, h0, h2, h3⟩ := h
  exact ⟨vs, h1.same2 h0 hs, h0, h2, fun k v L hv hL => (h3 k v L hv hL).same2 hs⟩
theorem RdLF.below {w w' : World} {lo B : Nat} {a : Option Addr} {LL : List (List Int)} (h : RdLF w lo B a LL) (hb : Below B w w') : RdLF w' lo B a LL := h.same2 (Same2.of hb (Nat.le_refl _))
theorem RdLF.more {w : World} {lo B B' : Nat} {a : Option Addr} {LL : List (List Int)} (h : RdLF w lo B a LL) (hB : B ≤ B') : RdLF w lo B' a LL := by
  obtain ⟨vs, h1, h0, h2, h3⟩ := h
  exact ⟨vs, h1.more hB, h0, h2, fun k v L hv hL => (h3 k v L hv hL).more hB⟩
theorem RdLF.lower {w : World} {lo lo' B : Nat} {a : Option Addr} {LL : List (List Int)} (h : RdLF w lo B a LL) (hl : lo' ≤ lo) : RdLF w lo' B a LL := by
  obtain ⟨vs, h1, h0, h2, h3⟩ := h
  exact ⟨vs, h1, h0.lower hl, h2, fun k v L hv hL => (h3 k v L hv hL).lower hl⟩
theorem RdLF.nil (w : World) (lo B : Nat) : RdLF w lo B none [] := ⟨[], fun h => absurd rfl h, fun h => absurd rfl h, rfl, fun k v L hv => by simp at hv⟩
/-- the k-th list -/
theorem RdLF.at_ {w : World} {lo B : Nat} {a : Option Addr} {LL : List (List Int)} (h : RdLF w lo B a LL) {k : Nat} (hk : k < LL.length) :
    ∃ b o a' c', a = some ⟨b, o, none⟩ ∧ lo ≤ b ∧ b < B ∧ w.cell? ⟨b, o + k, none⟩ = some (.slice a' LL[k].length c') ∧ Rd w B a' (ints LL[k]) ∧ LL[k].length ≤ c' ∧ LoA lo a' (ints LL[k]) := by
  obtain ⟨vs, h1, h0, h2, h3⟩ := h
  have hkv : k < vs.length := by omega
  have hne : vs ≠ [] := by intro e; subst e; simp at hkv
  obtain ⟨b, o, rfl, hb, hc⟩ := h1 hne
  obtain ⟨a', c', e, hr, hl, h4⟩ := h3 k vs[k] LL[k] (List.getElem?_eq_getElem hkv) (List.getElem?_eq_getElem hk)
  exact ⟨b, o, a', c', rfl, h0 hne _ rfl, hb, by rw [hc k vs[k] (List.getElem?_eq_getElem hkv), e], hr, hl, h4⟩
theorem Own.loA {w : World} {lo hi : Nat} {e : TypeId} {a : Option Addr} {n c : Nat} {vs : List Value} (h : Own w lo hi e (.slice a n c) vs) : LoA lo a vs := fun hne p hp => by
  cases vs with
  | nil => exact absurd rfl hne
  | cons x r =>
    obtain ⟨g, c', e1, h2, _⟩ := h.at_ (k := 0) (by simp)
    injection e1 with e1 _ _
    rw [hp] at e1
    injection e1 with e1
    rw [e1]
    exact h2
theorem OwnLL.rdF {w : World} {lo hi : Nat} {eo e : TypeId} {a : Option Addr} {n c : Nat} {vs : List Value} {LL : List (List Int)} (h : OwnLL w lo hi eo e (.slice a n c) vs LL) : RdLF w lo hi a LL := by
  refine ⟨vs, h.outer.rd, h.outer.loA, h.len, fun k u L hu hL => ?_⟩
  have hi' := h.inner k u L hu hL
  obtain ⟨a', c', rfl⟩ := hi'.form
  refine ⟨a', c', by rw [List.length_map], hi'.rd, ?_, hi'.loA⟩
  rcases Nat.eq_zero_or_pos L.length with h0 | h0
  · omega
  · obtain ⟨g, c2, e2, hc⟩ := hi'.formN (by simpa using h0)
    injection e2 with _ _ e3
    rw [List.length_map] at hc
    omega
end Go.Proofs.Ytmnlmahjgmhdiaa
namespace Go.Proofs.Ytmnlmahjgmhdiaa
open Go.RowKit NP
set_option maxRecDepth 8000
set_option linter.unusedVariables false
set_option linter.unusedSimpArgs false
attribute [local go_sem ↓] Go.wp_at_zero Go.wp_at_succ
def insQ {α : Type} (ps : List α) (q : Nat) (p : α) : List α := ps.take q ++ [p] ++ ps.drop q
theorem insQ_len {α : Type} (ps : List α) (q : Nat) (p : α) (h : q ≤ ps.length) : (insQ ps q p).length = ps.length + 1 := by simp [insQ]; omega
theorem insQ_all {α : Type} {ps : List α} {q : Nat} {p : α} {G : α → Prop} (h : ∀ x ∈ ps, G x) (hp : G p) : ∀ x ∈ insQ ps q p, G x := by
  intro x hx
  simp only [insQ, List.mem_append, List.mem_singleton] at hx
  rcases hx with (hx | rfl) | hx
  · exact h x (List.mem_of_mem_take hx)
  · exact hp
  · exact h x (List.mem_of_mem_drop hx)
theorem tw_len {α : Type} (p : α → Bool) : ∀ (M : List α) (q : Nat), q ≤ M.length → (∀ r (h : r < M.length), r < q → p M[r] = true) → (q = M.length ∨ ∃ h : q < M.length, p M[q] = false) → (M.takeWhile p).length = q := by
  intro M
  induction M with
  | nil => intro q hq _ _; simp at hq; simp [hq]
  | cons x r ih =>
    intro q hq h1 h2
    cases q with
    | zero =>
      rcases h2 with h2 | ⟨_, h2⟩
      · simp at h2
      · simp only [List.getElem_cons_zero] at h2
        simp [List.takeWhile_cons, h2]
    | succ q =>
      have h0 := h1 0 (by simp) (by omega)
      simp only [List.getElem_cons_zero] at h0
      rw [List.takeWhile_cons, if_pos h0, List.length_cons]
      have := ih q (by simpa using hq) (fun j hj hjq => by have := h1 (j + 1) (by simp; omega) (by omega); simpa using this) (by
        rcases h2 with h2 | ⟨hq2, h2⟩
        · left; simp at h2; exact h2
        · right; exact ⟨by simpa using hq2, by simpa using h2⟩)
      omega
theorem insP_eq {ps : List (Value × List Int)} {L : List Int} {q : Nat} (hP : ∀ r (h : r < ps.length), r < q → lexB ps[r].2 L = true) (hq : q ≤ ps.length) (h2 : q = ps.length ∨ ∃ h : q < ps.length, lexB ps[q].2 L = false) : insP (ps.map Prod.snd) L = q := by
  unfold insP
  refine tw_len _ _ q (by simpa using hq) (fun r h hr => by have := hP r (by simpa using h) hr; simpa using this) ?_
  rcases h2 with h2 | ⟨h3, h4⟩
  · left; simpa using h2
  · right; exact ⟨by simpa using h3, by simpa using h4⟩
theorem insW_yes {v : Value} {ps : List (Value × List Int)} {L : List Int} {q : Nat} (hP : ∀ r (h : r < ps.length), r < q → lexB ps[r].2 L = true) (hq : q ≤ ps.length) (h2 : q = ps.length ∨ ∃ h : q < ps.length, lexB ps[q].2 L = false ∧ ¬ ps[q].2 = L) :
    insW (ps.map Prod.snd) L = (insQ ps q (v, L)).map Prod.snd := by
  have e := insP_eq (L := L) hP hq (h2.imp id fun ⟨h, h3, _⟩ => ⟨h, h3⟩)
  unfold insW
  rw [e, if_pos ?_]
  · simp [insQ, List.map_take, List.map_drop]
  · rcases h2 with h | ⟨h, _, h4⟩
    · left; simpa using h
    · right; simpa [List.getD_eq_getElem?_getD, h] using h4
theorem insW_no {ps : List (Value × List Int)} {L : List Int} {q : Nat} (hP : ∀ r (h : r < ps.length), r < q → lexB ps[r].2 L = true) (hq : q < ps.length) (h1 : lexB ps[q].2 L = false) (h2 : ps[q].2 = L) :
    insW (ps.map Prod.snd) L = ps.map Prod.snd := by
  have e := insP_eq (L := L) hP (Nat.le_of_lt hq) (.inr ⟨hq, h1⟩)
  unfold insW
  rw [e, if_neg ?_]
  rintro (h | h)
  · simp at h; omega
  · exact h (by simpa [List.getD_eq_getElem?_getD, hq] using h2)
def GoodP (w : World) (lo B : Nat) (n : Int) (p : Value × List Int) : Prop := InnF w lo B p.1 p.2 ∧ valid p.2 = true ∧ sumL p.2 = n
set_option maxRecDepth 100000 in
set_option maxHeartbeats 8000000 in
theorem sorted_any (a : Option Addr) (c lo B : Nat) (n : Int) (LL : List (List Int)) (w : World) (h : RdLF w lo B a LL) (hlo : lo ≤ w.heap.size) (hB : B ≤ w.heap.size) (hl : LL.length ≤ 1000) (hv : ∀ L ∈ LL, valid L = true ∧ sumL L = n) :
    Calls Try.prog 59 #[.slice a LL.length c] w fun e w' => ∃ a' c', e = .returned (.slice a' (srtF LL).length c') ∧ RdLF w' lo w'.heap.size a' (srtF LL) ∧ Below w.heap.size w w' := by
  obtain ⟨i1, hj, hy0, hy1, hy2⟩ := info_parts T_ints3
  have hmx : Try.prog.follows .mixedOrders = true := by kernel_rfl
  go_enter Try.func59, Try.ntmps59
  go_wp2
  go_loopw [3, 4] (fun v i wr => ∃ (k : Nat) (ps : List (Value × List Int)) (g cc : Nat), k ≤ LL.length ∧ i = .int .i64 (k : Int) ∧ Below w.heap.size w wr ∧ v = .slice (some ⟨g, 0, none⟩) ps.length cc ∧ ps.length ≤ cc ∧ ps.length ≤ k ∧ Hid (ps.map Prod.snd = (LL.take k).foldl insW []) ∧ Hid (∀ p ∈ ps, GoodP w lo B n p) ∧ Own wr w.heap.size wr.heap.size 22 (.slice (some ⟨g, 0, none⟩) ps.length cc) (ps.map Prod.fst)) (fun _ i _ => LL.length - (intOf i).toNat)
  case atStart => exact ⟨0, [], w.heap.size, 0, Nat.zero_le _, rfl, (Below.refl _ _).alloc (Nat.le_refl _) _, rfl, Nat.le_refl _, Nat.le_refl _, Lib.hid rfl, Lib.hid (fun p hp => by simp at hp), (Own.empty w 22).more⟩
  case round =>
    obtain ⟨k, ps, g, cc, hk, rfl, hbel, rfl, hcc, hpk, HM, HGD, hown⟩ := hrel
    by_cases hlt : k < LL.length
    · have hlt' : (k : Int) < (LL.length : Int) := by omega
      obtain ⟨b, o, ak, ck, rfl, hblo, hbB, hc00, hrk, hlk, hloa⟩ := h.at_ hlt
      have hc0 : wr.cell? ⟨b, o + k, none⟩ = some (.slice ak LL[k].length ck) := (hbel.cell (p := ⟨b, o + k, none⟩) (by show b < w.heap.size; omega)).trans hc00
      obtain ⟨hvk, hsk⟩ := hv LL[k] (List.getElem_mem hlt)
      have HGK : Hid (GoodP w lo B n (.slice ak LL[k].length ck, LL[k])) := Lib.hid ⟨⟨ak, ck, rfl, hrk, hlk, hloa⟩, hvk, hsk⟩
      have HVK := Lib.hid hvk
      have HSK := Lib.hid hsk
      have hl16k : LL[k].length ≤ 16 := (valid_bd hvk).2.2.2
      have HRK := Lib.hid ((hrk.more hB).below hbel)
      have HG1 : Hid (∀ u ∈ ps.map Prod.fst, u.oneCell' = true) := Lib.hid (fun u hu => by
        obtain ⟨p, hp, rfl⟩ := List.mem_map.1 hu
        obtain ⟨⟨a', c', he, -, -, -⟩, -, -⟩ := HGD.out p hp
        rw [he]; rfl)
      obtain ⟨r2, hr2⟩ : ∃ r, plc (sumL LL[k]) (sumL LL[k]) LL[k] = r := ⟨_, rfl⟩
      have HR2 := Lib.hid hr2
      obtain ⟨wo, rfl⟩ : ∃ wo : World, wo = wr := ⟨_, rfl⟩
      have HO := Lib.hid hown
      clear hown hc00 hrk hvk hsk hr2 hloa hblo
      go_wp2
      go_loopw [5] (fun j wr => ∃ q : Nat, q ≤ ps.length ∧ j = .int .i64 (q : Int) ∧ Dr wo wr ∧ Hid (∀ r (h : r < ps.length), r < q → lexB ps[r].2 LL[k] = true)) (fun j _ => ps.length - (intOf j).toNat)
      case atStart => exact ⟨0, Nat.zero_le _, rfl, Dr.refl _, Lib.hid fun r _ hr => by omega⟩
      case round =>
        obtain ⟨q, hq, rfl, hdr, HP⟩ := hrel
        have hcr : wr.cell? ⟨b, o + k, none⟩ = some (.slice ak LL[k].length ck) := drCell hdr hc0
        by_cases hqM : q < ps.length
        · have hqM' : (q : Int) < (ps.length : Int) := by omega
          have hown := HO.out.dr hdr
          obtain ⟨⟨aq, cq, heq, hrq0, hlq, -⟩, hvq, hsq⟩ := HGD.out ps[q] (List.getElem_mem hqM)
          have hcM : wr.cell? ⟨g, q, none⟩ = some (.slice aq ps[q].2.length cq) := by
            obtain ⟨g', e, hcM⟩ := hown.read (k := q) (by simpa using hqM)
            injection e with e; injection e with e _; subst e
            rw [hcM]; simp [heq]
          have HRQ := Lib.hid (((hrq0.more hB).below hbel).dr hdr)
          have HRK2 := Lib.hid (HRK.out.dr hdr)
          obtain ⟨r1, hr1⟩ : ∃ r, plc (sumL ps[q].2) (sumL ps[q].2) ps[q].2 = r := ⟨_, rfl⟩
          have hlex : decide (r1 < r2) = lexB ps[q].2 LL[k] := by
            have := plc_lexV hvq HVK.out (by rw [hsq, HSK.out])
            rw [hr1, HR2.out] at this
            exact this
          have hl16q : ps[q].2.length ≤ 16 := (valid_bd hvq).2.2.2
          have HR1 := Lib.hid hr1
          have HVQ := Lib.hid hvq
          clear hown hr1 hvq hsq hrq0 heq
          by_cases hx : r1 < r2
          · have hxl : Hid (lexB ps[q].2 LL[k] = true) := Lib.hid (by rw [← hlex]; exact decide_eq_true hx)
            clear hlex
            go_wp2_with fail
            refine wp_region_vals [0, 1, 2, 3, 4, 5, 6, 7, 8, 9, 10, 11, 12, 13, 14, 15, 16] [.int .i64 (q : Int), .slice (some ⟨g, 0, none⟩) ps.length cc, .int .i64 (ps.length : Int), .bool true, .bool true, .slice (some ⟨g, 0, none⟩) ps.length cc, .int .i64 (q : Int), .pointer (some ⟨g, q, none⟩), .slice aq ps[q].2.length cq, .int .i64 r1, .slice (some ⟨b, o, none⟩) LL.length c, .int .i64 (k : Int), .pointer (some ⟨b, o + k, none⟩), .slice ak LL[k].length ck, .int .i64 r2, .bool true, .bool true] (fun w' => Dr wr w') _ hmx (fun _ h => h) rfl rfl (by kernel_rfl) (by kernel_rfl) rfl ?steps ?rest
            case steps =>
              simp only [putsOfG, Act.put, List.getElem?_toArray, List.getElem?_cons_succ, List.getElem?_cons_zero, Option.bind_some, Nat.reduceAdd, List.setIfInBounds_toArray, List.set_cons_zero, List.set_cons_succ]
              refine StepsG.cons rfl rfl (fun wq hS => ?_) ?_
              · have c1 := drCell hS hcr
                have c2 := drCell hS hcM
                go_simp
              refine StepsG.cons rfl rfl (fun wq hS => ?_) ?_
              · have c1 := drCell hS hcr
                have c2 := drCell hS hcM
                go_simp
              refine StepsG.cons rfl rfl (fun wq hS => ?_) ?_
              · have c1 := drCell hS hcr
                have c2 := drCell hS hcM
                go_simp
              refine StepsG.cons rfl rfl (fun wq hS => ?_) ?_
              · have c1 := drCell hS hcr
                have c2 := drCell hS hcM
                go_simp
              refine StepsG.cons rfl rfl (fun wq hS => ?_) ?_
              · have c1 := drCell hS hcr
                have c2 := drCell hS hcM
                go_simp
              refine StepsG.cons rfl rfl (fun wq hS => ?_) ?_
              · have c1 := drCell hS hcr
                have c2 := drCell hS hcM
                go_simp
              refine StepsG.cons rfl rfl (fun wq hS => ?_) ?_
              · have c1 := drCell hS hcr
                have c2 := drCell hS hcM
                go_simp
              refine StepsG.cons rfl rfl (fun wq hS => ?_) ?_
              · have c1 := drCell hS hcr
                have c2 := drCell hS hcM
                go_simp
              refine StepsG.cons rfl rfl (fun wq hS => ?_) ?_
              · have c1 := drCell hS hcr
                have c2 := drCell hS hcM
                go_simp
              refine StepsG.cons rfl rfl (fun wq hS => ?_) ?_
              · go_simp
                go_at_call 75
                refine (rank_any _ _ _ ps[q].2 wq (HRQ.out.dr hS) HVQ.out).mono ?_
                rintro e w5 ⟨rfl, nn, rfl⟩
                rw [HR1.out]
                exact ⟨rfl, hS.drewN nn⟩
              refine StepsG.cons rfl rfl (fun wq hS => ?_) ?_
              · have c1 := drCell hS hcr
                have c2 := drCell hS hcM
                go_simp
              refine StepsG.cons rfl rfl (fun wq hS => ?_) ?_
              · have c1 := drCell hS hcr
                have c2 := drCell hS hcM
                go_simp
              refine StepsG.cons rfl rfl (fun wq hS => ?_) ?_
              · have c1 := drCell hS hcr
                have c2 := drCell hS hcM
                go_simp
              refine StepsG.cons rfl rfl (fun wq hS => ?_) ?_
              · have c1 := drCell hS hcr
                have c2 := drCell hS hcM
                go_simp
              refine StepsG.cons rfl rfl (fun wq hS => ?_) ?_
              · go_simp
                go_at_call 75
                refine (rank_any _ _ _ LL[k] wq (HRK2.out.dr hS) HVK.out).mono ?_
                rintro e w5 ⟨rfl, nn, rfl⟩
                rw [HR2.out]
                exact ⟨rfl, hS.drewN nn⟩
              refine StepsG.cons rfl rfl (fun wq hS => ?_) ?_
              · have c1 := drCell hS hcr
                have c2 := drCell hS hcM
                go_simp
              refine StepsG.cons rfl rfl (fun wq hS => ?_) ?_
              · have c1 := drCell hS hcr
                have c2 := drCell hS hcM
                go_simp
              exact StepsG.nil
            case rest =>
              intro wq hS
              simp only [putsOfG, Act.put, List.getElem?_toArray, List.getElem?_cons_succ, List.getElem?_cons_zero, Option.bind_some, Nat.reduceAdd, List.setIfInBounds_toArray, List.set_cons_zero, List.set_cons_succ]
              go_wp2_with fail
              go_roundw
              case rel =>
                exact ⟨q + 1, by omega, by go_num, hdr.trans hS, Lib.hid fun r hr hrq => by
                  rcases Nat.lt_or_ge r q with h | h
                  · exact HP.out r hr h
                  · obtain rfl : r = q := by omega
                    exact hxl.out⟩
              case measure => simp [intOf]; omega
          · have hxl : Hid (lexB ps[q].2 LL[k] = false) := Lib.hid (by rw [← hlex]; exact decide_eq_false hx)
            have hxf : decide (r1 < r2) = false := decide_eq_false hx
            clear hlex
            go_wp2_with fail
            refine wp_region_vals [0, 1, 2, 3, 4, 5, 6, 7, 8, 9, 10, 11, 12, 13, 14, 15, 16] [.int .i64 (q : Int), .slice (some ⟨g, 0, none⟩) ps.length cc, .int .i64 (ps.length : Int), .bool true, .bool true, .slice (some ⟨g, 0, none⟩) ps.length cc, .int .i64 (q : Int), .pointer (some ⟨g, q, none⟩), .slice aq ps[q].2.length cq, .int .i64 r1, .slice (some ⟨b, o, none⟩) LL.length c, .int .i64 (k : Int), .pointer (some ⟨b, o + k, none⟩), .slice ak LL[k].length ck, .int .i64 r2, .bool false, .bool false] (fun w' => Dr wr w') _ hmx (fun _ h => h) rfl rfl (by kernel_rfl) (by kernel_rfl) rfl ?steps ?rest
            case steps =>
              simp only [putsOfG, Act.put, List.getElem?_toArray, List.getElem?_cons_succ, List.getElem?_cons_zero, Option.bind_some, Nat.reduceAdd, List.setIfInBounds_toArray, List.set_cons_zero, List.set_cons_succ]
              refine StepsG.cons rfl rfl (fun wq hS => ?_) ?_
              · have c1 := drCell hS hcr
                have c2 := drCell hS hcM
                go_simp
              refine StepsG.cons rfl rfl (fun wq hS => ?_) ?_
              · have c1 := drCell hS hcr
                have c2 := drCell hS hcM
                go_simp
              refine StepsG.cons rfl rfl (fun wq hS => ?_) ?_
              · have c1 := drCell hS hcr
                have c2 := drCell hS hcM
                go_simp
              refine StepsG.cons rfl rfl (fun wq hS => ?_) ?_
              · have c1 := drCell hS hcr
                have c2 := drCell hS hcM
                go_simp
              refine StepsG.cons rfl rfl (fun wq hS => ?_) ?_
              · have c1 := drCell hS hcr
                have c2 := drCell hS hcM
                go_simp
              refine StepsG.cons rfl rfl (fun wq hS => ?_) ?_
              · have c1 := drCell hS hcr
                have c2 := drCell hS hcM
                go_simp
              refine StepsG.cons rfl rfl (fun wq hS => ?_) ?_
              · have c1 := drCell hS hcr
                have c2 := drCell hS hcM
                go_simp
              refine StepsG.cons rfl rfl (fun wq hS => ?_) ?_
              · have c1 := drCell hS hcr
                have c2 := drCell hS hcM
                go_simp
              refine StepsG.cons rfl rfl (fun wq hS => ?_) ?_
              · have c1 := drCell hS hcr
                have c2 := drCell hS hcM
                go_simp
              refine StepsG.cons rfl rfl (fun wq hS => ?_) ?_
              · go_simp
                go_at_call 75
                refine (rank_any _ _ _ ps[q].2 wq (HRQ.out.dr hS) HVQ.out).mono ?_
                rintro e w5 ⟨rfl, nn, rfl⟩
                rw [HR1.out]
                exact ⟨rfl, hS.drewN nn⟩
              refine StepsG.cons rfl rfl (fun wq hS => ?_) ?_
              · have c1 := drCell hS hcr
                have c2 := drCell hS hcM
                go_simp
              refine StepsG.cons rfl rfl (fun wq hS => ?_) ?_
              · have c1 := drCell hS hcr
                have c2 := drCell hS hcM
                go_simp
              refine StepsG.cons rfl rfl (fun wq hS => ?_) ?_
              · have c1 := drCell hS hcr
                have c2 := drCell hS hcM
                go_simp
              refine StepsG.cons rfl rfl (fun wq hS => ?_) ?_
              · have c1 := drCell hS hcr
                have c2 := drCell hS hcM
                go_simp
              refine StepsG.cons rfl rfl (fun wq hS => ?_) ?_
              · go_simp
                go_at_call 75
                refine (rank_any _ _ _ LL[k] wq (HRK2.out.dr hS) HVK.out).mono ?_
                rintro e w5 ⟨rfl, nn, rfl⟩
                rw [HR2.out]
                exact ⟨rfl, hS.drewN nn⟩
              refine StepsG.cons rfl rfl (fun wq hS => ?_) ?_
              · have c1 := drCell hS hcr
                have c2 := drCell hS hcM
                go_simp
              refine StepsG.cons rfl rfl (fun wq hS => ?_) ?_
              · have c1 := drCell hS hcr
                have c2 := drCell hS hcM
                go_simp
              exact StepsG.nil
            case rest =>
              intro wq hS
              simp only [putsOfG, Act.put, List.getElem?_toArray, List.getElem?_cons_succ, List.getElem?_cons_zero, Option.bind_some, Nat.reduceAdd, List.setIfInBounds_toArray, List.set_cons_zero, List.set_cons_succ]
              go_wp2_with fail
              obtain ⟨wd, hwd⟩ : ∃ wd, wd = wq := ⟨_, rfl⟩
              rw [← hwd]
              have hdq : Dr wo wd := hwd ▸ hdr.trans hS
              have hcrd := drCell hdq hc0
              have hcMd : wd.cell? ⟨g, q, none⟩ = some (.slice aq ps[q].2.length cq) := by rw [hwd]; exact drCell hS hcM
              have HRQ3 := Lib.hid (hwd ▸ HRQ.out.dr hS : Rd wd _ _ _)
              have HRK3 := Lib.hid (HRK.out.dr hdq)
              have HSM : Hid (decide (ps[q].2 = LL[k]) = decide (ps[q].2 = LL[k])) := Lib.hid rfl
              have heq1 : ((q : Int) == (ps.length : Int)) = false := by simp; omega
              clear hwd hS hcr hcM hx hxf
              obtain ⟨wr, rfl⟩ : ∃ wr, wr = wd := ⟨_, rfl⟩
              cases hse : decide (ps[q].2 = LL[k]) with
              | true =>
                have HSE := Lib.hid hse
                clear hse
                refine wp_region_vals [0, 1, 2, 3, 4, 5, 6, 7, 8, 9, 10, 11, 12, 13, 14, 15] [.int .i64 (q : Int), .slice (some ⟨g, 0, none⟩) ps.length cc, .int .i64 (ps.length : Int), .bool false, .bool false, .slice (some ⟨g, 0, none⟩) ps.length cc, .int .i64 (q : Int), .pointer (some ⟨g, q, none⟩), .slice aq ps[q].2.length cq, .slice (some ⟨b, o, none⟩) LL.length c, .int .i64 (k : Int), .pointer (some ⟨b, o + k, none⟩), .slice ak LL[k].length ck, .bool true, .bool false, .bool false] (fun w' => Dr wr w') _ hmx (fun _ h => h) rfl rfl (by kernel_rfl) (by kernel_rfl) rfl ?steps ?rest
                case steps =>
                  simp only [putsOfG, Act.put, List.getElem?_toArray, List.getElem?_cons_succ, List.getElem?_cons_zero, Option.bind_some, Nat.reduceAdd, List.setIfInBounds_toArray, List.set_cons_zero, List.set_cons_succ]
                  refine StepsG.cons rfl rfl (fun wq hS => ?_) ?_
                  · have c1 := drCell hS hcrd
                    have c2 := drCell hS hcMd
                    go_simp
                  refine StepsG.cons rfl rfl (fun wq hS => ?_) ?_
                  · have c1 := drCell hS hcrd
                    have c2 := drCell hS hcMd
                    go_simp
                  refine StepsG.cons rfl rfl (fun wq hS => ?_) ?_
                  · have c1 := drCell hS hcrd
                    have c2 := drCell hS hcMd
                    go_simp
                  refine StepsG.cons rfl rfl (fun wq hS => ?_) ?_
                  · have c1 := drCell hS hcrd
                    have c2 := drCell hS hcMd
                    go_simp
                  refine StepsG.cons rfl rfl (fun wq hS => ?_) ?_
                  · have c1 := drCell hS hcrd
                    have c2 := drCell hS hcMd
                    go_simp
                  refine StepsG.cons rfl rfl (fun wq hS => ?_) ?_
                  · have c1 := drCell hS hcrd
                    have c2 := drCell hS hcMd
                    go_simp
                  refine StepsG.cons rfl rfl (fun wq hS => ?_) ?_
                  · have c1 := drCell hS hcrd
                    have c2 := drCell hS hcMd
                    go_simp
                  refine StepsG.cons rfl rfl (fun wq hS => ?_) ?_
                  · have c1 := drCell hS hcrd
                    have c2 := drCell hS hcMd
                    go_simp
                  refine StepsG.cons rfl rfl (fun wq hS => ?_) ?_
                  · have c1 := drCell hS hcrd
                    have c2 := drCell hS hcMd
                    go_simp
                  refine StepsG.cons rfl rfl (fun wq hS => ?_) ?_
                  · have c1 := drCell hS hcrd
                    have c2 := drCell hS hcMd
                    go_simp
                  refine StepsG.cons rfl rfl (fun wq hS => ?_) ?_
                  · have c1 := drCell hS hcrd
                    have c2 := drCell hS hcMd
                    go_simp
                  refine StepsG.cons rfl rfl (fun wq hS => ?_) ?_
                  · have c1 := drCell hS hcrd
                    have c2 := drCell hS hcMd
                    go_simp
                  refine StepsG.cons rfl rfl (fun wq hS => ?_) ?_
                  · have c1 := drCell hS hcrd
                    have c2 := drCell hS hcMd
                    go_simp
                  refine StepsG.cons rfl rfl (fun wq hS => ?_) ?_
                  · go_simp
                    go_at_call 76
                    refine (sameL_any _ _ _ _ _ _ ps[q].2 LL[k] (by omega) wq (HRQ3.out.dr hS) (HRK3.out.dr hS) (by omega)).mono ?_
                    rintro e w5 ⟨rfl, nn, rfl⟩
                    rw [HSE.out]
                    exact ⟨rfl, hS.drewN nn⟩
                  refine StepsG.cons rfl rfl (fun wq hS => ?_) ?_
                  · have c1 := drCell hS hcrd
                    have c2 := drCell hS hcMd
                    go_simp
                  refine StepsG.cons rfl rfl (fun wq hS => ?_) ?_
                  · have c1 := drCell hS hcrd
                    have c2 := drCell hS hcMd
                    go_simp
                  exact StepsG.nil
                case rest =>
                  intro wq hS
                  simp only [putsOfG, Act.put, List.getElem?_toArray, List.getElem?_cons_succ, List.getElem?_cons_zero, Option.bind_some, Nat.reduceAdd, List.setIfInBounds_toArray, List.set_cons_zero, List.set_cons_succ]
                  go_wp2_with fail
                  go_roundw
                  case rel => exact ⟨k + 1, ps, g, cc, by omega, by go_num, hbel.trans ((hdq.trans hS).below _), rfl, hcc, by omega, Lib.hid (by rw [List.take_succ_eq_append_getElem hlt, List.foldl_append, ← HM.out]; exact (insW_no HP.out hqM hxl.out (of_decide_eq_true HSE.out)).symm), HGD, (HO.out.dr (hdq.trans hS)).more⟩
                  case measure => simp [intOf]; omega
              | false =>
                have HSE := Lib.hid hse
                clear hse
                refine wp_region_vals [0, 1, 2, 3, 4, 5, 6, 7, 8, 9, 10, 11, 12, 13, 14, 15] [.int .i64 (q : Int), .slice (some ⟨g, 0, none⟩) ps.length cc, .int .i64 (ps.length : Int), .bool false, .bool false, .slice (some ⟨g, 0, none⟩) ps.length cc, .int .i64 (q : Int), .pointer (some ⟨g, q, none⟩), .slice aq ps[q].2.length cq, .slice (some ⟨b, o, none⟩) LL.length c, .int .i64 (k : Int), .pointer (some ⟨b, o + k, none⟩), .slice ak LL[k].length ck, .bool false, .bool true, .bool true] (fun w' => Dr wr w') _ hmx (fun _ h => h) rfl rfl (by kernel_rfl) (by kernel_rfl) rfl ?steps ?rest
                case steps =>
                  simp only [putsOfG, Act.put, List.getElem?_toArray, List.getElem?_cons_succ, List.getElem?_cons_zero, Option.bind_some, Nat.reduceAdd, List.setIfInBounds_toArray, List.set_cons_zero, List.set_cons_succ]
                  refine StepsG.cons rfl rfl (fun wq hS => ?_) ?_
                  · have c1 := drCell hS hcrd
                    have c2 := drCell hS hcMd
                    go_simp
                  refine StepsG.cons rfl rfl (fun wq hS => ?_) ?_
                  · have c1 := drCell hS hcrd
                    have c2 := drCell hS hcMd
                    go_simp
                  refine StepsG.cons rfl rfl (fun wq hS => ?_) ?_
                  · have c1 := drCell hS hcrd
                    have c2 := drCell hS hcMd
                    go_simp
                  refine StepsG.cons rfl rfl (fun wq hS => ?_) ?_
                  · have c1 := drCell hS hcrd
                    have c2 := drCell hS hcMd
                    go_simp
                  refine StepsG.cons rfl rfl (fun wq hS => ?_) ?_
                  · have c1 := drCell hS hcrd
                    have c2 := drCell hS hcMd
                    go_simp
                  refine StepsG.cons rfl rfl (fun wq hS => ?_) ?_
                  · have c1 := drCell hS hcrd
                    have c2 := drCell hS hcMd
                    go_simp
                  refine StepsG.cons rfl rfl (fun wq hS => ?_) ?_
                  · have c1 := drCell hS hcrd
                    have c2 := drCell hS hcMd
                    go_simp
                  refine StepsG.cons rfl rfl (fun wq hS => ?_) ?_
                  · have c1 := drCell hS hcrd
                    have c2 := drCell hS hcMd
                    go_simp
                  refine StepsG.cons rfl rfl (fun wq hS => ?_) ?_
                  · have c1 := drCell hS hcrd
                    have c2 := drCell hS hcMd
                    go_simp
                  refine StepsG.cons rfl rfl (fun wq hS => ?_) ?_
                  · have c1 := drCell hS hcrd
                    have c2 := drCell hS hcMd
                    go_simp
                  refine StepsG.cons rfl rfl (fun wq hS => ?_) ?_
                  · have c1 := drCell hS hcrd
                    have c2 := drCell hS hcMd
                    go_simp
                  refine StepsG.cons rfl rfl (fun wq hS => ?_) ?_
                  · have c1 := drCell hS hcrd
                    have c2 := drCell hS hcMd
                    go_simp
                  refine StepsG.cons rfl rfl (fun wq hS => ?_) ?_
                  · have c1 := drCell hS hcrd
                    have c2 := drCell hS hcMd
                    go_simp
                  refine StepsG.cons rfl rfl (fun wq hS => ?_) ?_
                  · go_simp
                    go_at_call 76
                    refine (sameL_any _ _ _ _ _ _ ps[q].2 LL[k] (by omega) wq (HRQ3.out.dr hS) (HRK3.out.dr hS) (by omega)).mono ?_
                    rintro e w5 ⟨rfl, nn, rfl⟩
                    rw [HSE.out]
                    exact ⟨rfl, hS.drewN nn⟩
                  refine StepsG.cons rfl rfl (fun wq hS => ?_) ?_
                  · have c1 := drCell hS hcrd
                    have c2 := drCell hS hcMd
                    go_simp
                  refine StepsG.cons rfl rfl (fun wq hS => ?_) ?_
                  · have c1 := drCell hS hcrd
                    have c2 := drCell hS hcMd
                    go_simp
                  exact StepsG.nil
                case rest =>
                  intro wq hS
                  simp only [putsOfG, Act.put, List.getElem?_toArray, List.getElem?_cons_succ, List.getElem?_cons_zero, Option.bind_some, Nat.reduceAdd, List.setIfInBounds_toArray, List.set_cons_zero, List.set_cons_succ]
                  go_wp2_with fail
                  obtain ⟨w2, hw2⟩ : ∃ w2, w2 = wq := ⟨_, rfl⟩
                  rw [← hw2]
                  have hd2 : Dr wo w2 := hw2 ▸ hdq.trans hS
                  have hcr := hcrd
                  clear hw2 hS hcrd hcMd
                  have hown := HO.out.dr hd2
                  have hbel2 := hbel.trans (hd2.below _)
                  have hcx : w2.cell? ⟨b, o + k, none⟩ = some (.slice ak LL[k].length ck) := drCell hd2 hc0
                  have hRT : Rd w2 w2.heap.size (some ⟨g, 0, none⟩) ((ps.map Prod.fst).take q) := (hown.rd.more hown.le).take q
                  have hRC : Rd w2 w2.heap.size (if cc = q then some ⟨g, 0, none⟩ else some ⟨g, q, none⟩) ((ps.map Prod.fst).drop q) := (hown.rd.more hown.le).cutAt (cap := cc) q (by simpa using hcc)
                  have hln := hown.le
                  have hb2 : b < w2.heap.size := by have := hbel2.size; omega
                  have HLT : Hid (q = ((ps.map Prod.fst).take q).length) := Lib.hid (by rw [List.length_take, List.length_map]; omega)
                  have HLD : Hid (ps.length - q = ((ps.map Prod.fst).drop q).length) := Lib.hid (by rw [List.length_drop, List.length_map])
                  have H1T : ∀ u ∈ (ps.map Prod.fst).take q, u.oneCell' = true := fun u hu => HG1.out u (List.mem_of_mem_take hu)
                  have H1D : ∀ u ∈ (ps.map Prod.fst).drop q, u.oneCell' = true := fun u hu => HG1.out u (List.mem_of_mem_drop hu)
                  have hcp : (q : Int) ≤ (cc : Int) := by omega
                  have hq0 : (0 : Int) ≤ (q : Int) := by omega
                  have hqp : (q : Int) ≤ (ps.length : Int) := by omega
                  clear hown hcr
                  go_wp2_with fail
                  go_region_law (first | (refine step_append_b _ (by rfl) (.tmp 48) (.tmp 51) 23 (by rfl) w2.heap.size _ 22 i1 (.slice none 0 0) 24 Try.underlying23 hj hy0 hy1 hy2 rfl _ [] (by rfl) w2 (by go_grown) (Nat.le_refl _) (by first | exact (own_empty1 w2 _ (Nat.le_refl _)).drew | exact ((own_empty1 w2 _ (Nat.le_refl _)).alloc _).drew | exact (own_empty2 w2 _ _ (Nat.le_refl _)).drew) w2.heap.size (some ⟨g, 0, none⟩) q cc ((ps.map Prod.fst).take q) (by rfl) (hRT.below (by go_grown)) HLT.out H1T (by simp only [List.length_nil]; omega) (by omega) ?_; intro v1 w3 ho1 hb3 hg1; have hcx3 : w3.cell? ⟨b, o + k, none⟩ = some (.slice ak LL[k].length ck) := (hb3.cell (p := ⟨b, o + k, none⟩) hb2).trans hcx) | (refine step_append_b _ (by rfl) (.tmp 52) (.tmp 57) 23 (by rfl) w2.heap.size _ 22 i1 (.slice none 0 0) 24 Try.underlying23 hj hy0 hy1 hy2 rfl _ _ (by rfl) w2 (by first | exact hb3 | exact hb3.alloc hb3.size _) (Nat.le_refl _) (by first | exact ho1 | exact ho1.alloc _) _ _ 1 1 [.slice ak LL[k].length ck] (by rfl) (by first | exact Rd.one w3 _ _ | exact (rd_one2 w2 _ _ _).drew.apart hg1 (by simp) (by omega) | exact (rd_one3 w2 _ _ _).drew.apart hg1 (by simp) (by omega)) rfl (by intro u hu; rw [List.mem_singleton.1 hu]; rfl) (by simp; omega) (by omega) ?_; intro v2 w4 ho2 hb4 hg2) | (refine step_append_b _ (by rfl) (.tmp 58) (.tmp 61) 23 (by rfl) w2.heap.size _ 22 i1 (.slice none 0 0) 24 Try.underlying23 hj hy0 hy1 hy2 rfl _ _ (by rfl) w2 hb4 (Nat.le_refl _) ho2 _ _ (ps.length - q) (cc - q) ((ps.map Prod.fst).drop q) (by rfl) (hRC.below hb4) HLD.out H1D (by simp; omega) (by omega) ?_; intro v3 w5 ho3 hb5 hg3))
                  all_goals
                    have hvs : ([] ++ (ps.map Prod.fst).take q) ++ [.slice ak LL[k].length ck] ++ (ps.map Prod.fst).drop q = (insQ ps q (.slice ak LL[k].length ck, LL[k])).map Prod.fst := by simp [insQ, List.map_take, List.map_drop]
                    rw [hvs] at ho3
                    clear hvs
                    have hlen : (insQ ps q (.slice ak LL[k].length ck, LL[k])).length = ps.length + 1 := insQ_len ps q _ hq
                    have HI : Hid ((insQ ps q (.slice ak LL[k].length ck, LL[k])).map Prod.snd = (LL.take (k + 1)).foldl insW []) := Lib.hid (by rw [List.take_succ_eq_append_getElem hlt, List.foldl_append, ← HM.out]; exact (insW_yes (HP.out) hq (.inr ⟨hqM, hxl.out, of_decide_eq_false HSE.out⟩)).symm)
                    have HGN : Hid (∀ p ∈ insQ ps q (.slice ak LL[k].length ck, LL[k]), GoodP w lo B n p) := Lib.hid (insQ_all HGD.out HGK.out)
                    obtain ⟨ps', hM'⟩ : ∃ M', M' = insQ ps q (.slice ak LL[k].length ck, LL[k]) := ⟨_, rfl⟩
                    rw [← hM'] at ho3 hlen HI HGN
                    clear hM'
                    obtain ⟨g3, c3, rfl, hc3⟩ := ho3.formN (by simp; omega)
                    have hl0 : (ps'.map Prod.fst).length = ps'.length := by simp
                    rw [hl0] at hc3
                    have HO3 := Lib.hid ho3
                    clear ho3
                    have HLEN := Lib.hid hlen
                    clear hlen
                    rw [hl0]
                    rw [hl0] at HO3
                    have HL0 := Lib.hid hl0
                    clear hl0
                    go_wp2
                    go_roundw
                    case rel => exact ⟨k + 1, ps', g3, c3, by omega, by go_num, hbel2.trans (hb5.mono hbel2.size), rfl, hc3, by rw [HLEN.out]; omega, HI, HGN, HO3.out.lower hbel2.size⟩
                    case measure => simp [intOf]; omega
        · have hov : decide ((q : Int) < (ps.length : Int)) = false := decide_eq_false (by omega)
          have HQE : Hid (q = ps.length) := Lib.hid (by omega)
          have heq1 : ((q : Int) == (ps.length : Int)) = true := by simp; omega
          have hqN : ps.length ≤ q := by omega
          clear hqM
          go_wp2_with fail
          refine wp_region_vals [0, 1, 2, 3, 4, 5, 6, 7, 8, 9, 10, 11, 12, 13, 14, 15, 16] [.int .i64 (q : Int), .slice (some ⟨g, 0, none⟩) ps.length cc, .int .i64 (ps.length : Int), .bool false, .bool false, undef, undef, undef, undef, undef, undef, undef, undef, undef, undef, undef, .bool false] (fun w' => Dr wr w') _ hmx (fun _ h => h) rfl rfl (by kernel_rfl) (by kernel_rfl) rfl ?steps ?rest
          case steps =>
            simp only [putsOfG, Act.put, List.getElem?_toArray, List.getElem?_cons_succ, List.getElem?_cons_zero, Option.bind_some, Nat.reduceAdd, List.setIfInBounds_toArray, List.set_cons_zero, List.set_cons_succ]
            refine StepsG.cons rfl rfl (fun wq hS => ?_) ?_
            · go_simp
            refine StepsG.cons rfl rfl (fun wq hS => ?_) ?_
            · go_simp
            refine StepsG.cons rfl rfl (fun wq hS => ?_) ?_
            · go_simp
            refine StepsG.cons rfl rfl (fun wq hS => ?_) ?_
            · go_simp
            refine StepsG.cons rfl rfl (fun wq hS => ?_) ?_
            · go_simp
            refine StepsG.skip rfl rfl rfl ?_
            refine StepsG.skip rfl rfl rfl ?_
            refine StepsG.skip rfl rfl rfl ?_
            refine StepsG.skip rfl rfl rfl ?_
            refine StepsG.skip rfl rfl rfl ?_
            refine StepsG.skip rfl rfl rfl ?_
            refine StepsG.skip rfl rfl rfl ?_
            refine StepsG.skip rfl rfl rfl ?_
            refine StepsG.skip rfl rfl rfl ?_
            refine StepsG.skip rfl rfl rfl ?_
            refine StepsG.skip rfl rfl rfl ?_
            refine StepsG.cons rfl rfl (fun wq hS => ?_) ?_
            · go_simp
            exact StepsG.nil
          case rest =>
            intro wq hS
            simp only [putsOfG, Act.put, List.getElem?_toArray, List.getElem?_cons_succ, List.getElem?_cons_zero, Option.bind_some, Nat.reduceAdd, List.setIfInBounds_toArray, List.set_cons_zero, List.set_cons_succ]
            go_wp2_with fail
            obtain ⟨wd, hwd⟩ : ∃ wd, wd = wq := ⟨_, rfl⟩
            rw [← hwd]
            have hdq : Dr wo wd := hwd ▸ hdr.trans hS
            clear hwd hS hcr hdr
            obtain ⟨wr, rfl⟩ : ∃ wr, wr = wd := ⟨_, rfl⟩
            refine wp_region_vals [0, 1, 2, 3, 4, 5, 6, 7, 8, 9, 10, 11, 12, 13, 14, 15] [.int .i64 (q : Int), .slice (some ⟨g, 0, none⟩) ps.length cc, .int .i64 (ps.length : Int), .bool true, .bool true, undef, undef, undef, undef, undef, undef, undef, undef, undef, undef, .bool true] (fun w' => Dr wr w') _ hmx (fun _ h => h) rfl rfl (by kernel_rfl) (by kernel_rfl) rfl ?steps ?rest
            case steps =>
              simp only [putsOfG, Act.put, List.getElem?_toArray, List.getElem?_cons_succ, List.getElem?_cons_zero, Option.bind_some, Nat.reduceAdd, List.setIfInBounds_toArray, List.set_cons_zero, List.set_cons_succ]
              refine StepsG.cons rfl rfl (fun wq hS => ?_) ?_
              · go_simp
              refine StepsG.cons rfl rfl (fun wq hS => ?_) ?_
              · go_simp
              refine StepsG.cons rfl rfl (fun wq hS => ?_) ?_
              · go_simp
              refine StepsG.cons rfl rfl (fun wq hS => ?_) ?_
              · go_simp
              refine StepsG.cons rfl rfl (fun wq hS => ?_) ?_
              · go_simp
              refine StepsG.skip rfl rfl rfl ?_
              refine StepsG.skip rfl rfl rfl ?_
              refine StepsG.skip rfl rfl rfl ?_
              refine StepsG.skip rfl rfl rfl ?_
              refine StepsG.skip rfl rfl rfl ?_
              refine StepsG.skip rfl rfl rfl ?_
              refine StepsG.skip rfl rfl rfl ?_
              refine StepsG.skip rfl rfl rfl ?_
              refine StepsG.skip rfl rfl rfl ?_
              refine StepsG.skip rfl rfl rfl ?_
              refine StepsG.cons rfl rfl (fun wq hS => ?_) ?_
              · go_simp
              exact StepsG.nil
            case rest =>
              intro wq hS
              simp only [putsOfG, Act.put, List.getElem?_toArray, List.getElem?_cons_succ, List.getElem?_cons_zero, Option.bind_some, Nat.reduceAdd, List.setIfInBounds_toArray, List.set_cons_zero, List.set_cons_succ]
              go_wp2_with fail
              obtain ⟨w2, hw2⟩ : ∃ w2, w2 = wq := ⟨_, rfl⟩
              rw [← hw2]
              have hd2 : Dr wo w2 := hw2 ▸ hdq.trans hS
              have hcr := hc0
              clear hw2 hS heq1 hqN
              have hown := HO.out.dr hd2
              have hbel2 := hbel.trans (hd2.below _)
              have hcx : w2.cell? ⟨b, o + k, none⟩ = some (.slice ak LL[k].length ck) := drCell hd2 hc0
              have hRT : Rd w2 w2.heap.size (some ⟨g, 0, none⟩) ((ps.map Prod.fst).take q) := (hown.rd.more hown.le).take q
              have hRC : Rd w2 w2.heap.size (if cc = q then some ⟨g, 0, none⟩ else some ⟨g, q, none⟩) ((ps.map Prod.fst).drop q) := (hown.rd.more hown.le).cutAt (cap := cc) q (by simpa using hcc)
              have hln := hown.le
              have hb2 : b < w2.heap.size := by have := hbel2.size; omega
              have HLT : Hid (q = ((ps.map Prod.fst).take q).length) := Lib.hid (by rw [List.length_take, List.length_map]; omega)
              have HLD : Hid (ps.length - q = ((ps.map Prod.fst).drop q).length) := Lib.hid (by rw [List.length_drop, List.length_map])
              have H1T : ∀ u ∈ (ps.map Prod.fst).take q, u.oneCell' = true := fun u hu => HG1.out u (List.mem_of_mem_take hu)
              have H1D : ∀ u ∈ (ps.map Prod.fst).drop q, u.oneCell' = true := fun u hu => HG1.out u (List.mem_of_mem_drop hu)
              have hcp : (q : Int) ≤ (cc : Int) := by omega
              have hq0 : (0 : Int) ≤ (q : Int) := by omega
              have hqp : (q : Int) ≤ (ps.length : Int) := by omega
              clear hown hcr
              go_wp2_with fail
              go_region_law (first | (refine step_append_b _ (by rfl) (.tmp 48) (.tmp 51) 23 (by rfl) w2.heap.size _ 22 i1 (.slice none 0 0) 24 Try.underlying23 hj hy0 hy1 hy2 rfl _ [] (by rfl) w2 (by go_grown) (Nat.le_refl _) (by first | exact (own_empty1 w2 _ (Nat.le_refl _)).drew | exact ((own_empty1 w2 _ (Nat.le_refl _)).alloc _).drew | exact (own_empty2 w2 _ _ (Nat.le_refl _)).drew) w2.heap.size (some ⟨g, 0, none⟩) q cc ((ps.map Prod.fst).take q) (by rfl) (hRT.below (by go_grown)) HLT.out H1T (by simp only [List.length_nil]; omega) (by omega) ?_; intro v1 w3 ho1 hb3 hg1; have hcx3 : w3.cell? ⟨b, o + k, none⟩ = some (.slice ak LL[k].length ck) := (hb3.cell (p := ⟨b, o + k, none⟩) hb2).trans hcx) | (refine step_append_b _ (by rfl) (.tmp 52) (.tmp 57) 23 (by rfl) w2.heap.size _ 22 i1 (.slice none 0 0) 24 Try.underlying23 hj hy0 hy1 hy2 rfl _ _ (by rfl) w2 (by first | exact hb3 | exact hb3.alloc hb3.size _) (Nat.le_refl _) (by first | exact ho1 | exact ho1.alloc _) _ _ 1 1 [.slice ak LL[k].length ck] (by rfl) (by first | exact Rd.one w3 _ _ | exact (rd_one2 w2 _ _ _).drew.apart hg1 (by simp) (by omega) | exact (rd_one3 w2 _ _ _).drew.apart hg1 (by simp) (by omega)) rfl (by intro u hu; rw [List.mem_singleton.1 hu]; rfl) (by simp; omega) (by omega) ?_; intro v2 w4 ho2 hb4 hg2) | (refine step_append_b _ (by rfl) (.tmp 58) (.tmp 61) 23 (by rfl) w2.heap.size _ 22 i1 (.slice none 0 0) 24 Try.underlying23 hj hy0 hy1 hy2 rfl _ _ (by rfl) w2 hb4 (Nat.le_refl _) ho2 _ _ (ps.length - q) (cc - q) ((ps.map Prod.fst).drop q) (by rfl) (hRC.below hb4) HLD.out H1D (by simp; omega) (by omega) ?_; intro v3 w5 ho3 hb5 hg3))
              all_goals
                have hvs : ([] ++ (ps.map Prod.fst).take q) ++ [.slice ak LL[k].length ck] ++ (ps.map Prod.fst).drop q = (insQ ps q (.slice ak LL[k].length ck, LL[k])).map Prod.fst := by simp [insQ, List.map_take, List.map_drop]
                rw [hvs] at ho3
                clear hvs
                have hlen : (insQ ps q (.slice ak LL[k].length ck, LL[k])).length = ps.length + 1 := insQ_len ps q _ hq
                have HI : Hid ((insQ ps q (.slice ak LL[k].length ck, LL[k])).map Prod.snd = (LL.take (k + 1)).foldl insW []) := Lib.hid (by rw [List.take_succ_eq_append_getElem hlt, List.foldl_append, ← HM.out]; exact (insW_yes (HP.out) hq (.inl HQE.out)).symm)
                have HGN : Hid (∀ p ∈ insQ ps q (.slice ak LL[k].length ck, LL[k]), GoodP w lo B n p) := Lib.hid (insQ_all HGD.out HGK.out)
                obtain ⟨ps', hM'⟩ : ∃ M', M' = insQ ps q (.slice ak LL[k].length ck, LL[k]) := ⟨_, rfl⟩
                rw [← hM'] at ho3 hlen HI HGN
                clear hM'
                obtain ⟨g3, c3, rfl, hc3⟩ := ho3.formN (by simp; omega)
                have hl0 : (ps'.map Prod.fst).length = ps'.length := by simp
                rw [hl0] at hc3
                have HO3 := Lib.hid ho3
                clear ho3
                have HLEN := Lib.hid hlen
                clear hlen
                rw [hl0]
                rw [hl0] at HO3
                have HL0 := Lib.hid hl0
                clear hl0
                go_wp2
                go_roundw
                case rel => exact ⟨k + 1, ps', g3, c3, by omega, by go_num, hbel2.trans (hb5.mono hbel2.size), rfl, hc3, by rw [HLEN.out]; omega, HI, HGN, HO3.out.lower hbel2.size⟩
                case measure => simp [intOf]; omega
    · obtain rfl : k = LL.length := by omega
      have HOW := Lib.hid hown
      clear hown
      go_wp2_with fail
      go_ret
      have e1 : ps.map Prod.snd = srtF LL := by rw [HM.out, List.take_length]; rfl
      rw [← e1]
      refine ⟨some ⟨g, 0, none⟩, cc, by rw [List.length_map]; rfl, ⟨ps.map Prod.fst, HOW.out.rd, HOW.out.loA.lower hlo, by simp, fun j v L hv hL => ?_⟩, hbel⟩
      rw [List.getElem?_map] at hv hL
      obtain ⟨p, hp, rfl⟩ := Option.map_eq_some_iff.1 hv
      rw [hp] at hL
      obtain rfl : p.2 = L := by simpa using hL
      have hin := (HGD.out p (List.mem_of_getElem? hp)).1
      exact (hin.more hB).below hbel |>.more hbel.size
end Go.Proofs.Ytmnlmahjgmhdiaa
