/-
  Walks: numbers by steps (the laws' rising). All parts with a sum: their sums, their places, how many: tables. Walks: places, of the program and of the model. Plain mathematics: the parts of a kind: each of the kind, of the sum, in the order of their places. Walks: the draws of names of kinds. Plain mathematics: parts are among all parts of their sum; no Go text. Walks: the draws of two parts. Walks: the draws of parts of a kind. Walks: the draw of a name and of parts, of its kind or not. Walks: whether a list is among others.
-/
import Derived.Test.YtifhnjnpbpgjfaaZk1
import Derived.Test.YtifhnjnpbpgjfaaZk2
import Derived.Test.YtifhnjnpbpgjfaaZk3
import Derived.Test.YtifhnjnpbpgjfaaZk4
import Derived.Test.YtifhnjnpbpgjfaaZk5
import Derived.Test.YtifhnjnpbpgjfaaZk6
import Derived.Test.YtifhnjnpbpgjfaaZk7
import Derived.Test.YtifhnjnpbpgjfaaZk8
namespace Go.Proofs.Ytifhnjnpbpgjfaa
open Go.RowKit NP
set_option maxRecDepth 8000
set_option linter.unusedVariables false
theorem rsL_take (st k j : Nat) (h : j ≤ k) : (rsL st k).take j = rsL st j := by
  apply List.ext_getElem
  · simp [rsL_len]; omega
  · intro i h1 h2
    rw [rsL_len] at h2
    rw [List.getElem_take, ← getD_lt, ← getD_lt, rsL_getD _ _ _ (by omega), rsL_getD _ _ _ h2]

theorem rising1_any (N k : Nat) (hN : N ≤ 40) (hk : k = N) (w : World) :
    Calls Try.prog 16 #[.int .i64 1, .int .i64 N, .int .i64 1] w fun e w' => ∃ a' c', e = .returned (.slice a' (rsL 1 k).length c') ∧ Own w' w.heap.size w'.heap.size 3 (.slice a' (rsL 1 k).length c') (ints (rsL 1 k)) ∧ Below w.heap.size w w' := by
  obtain ⟨i0, hi, hz0, hz1, hz2⟩ := T_int'
  go_enter Try.func16, Try.ntmps16
  go_wp2_with fail
  go_loopw [7, 8] (fun v vi wr => ∃ j : Nat, j ≤ k ∧ vi = .int .i64 (1 + 1 * (j : Int)) ∧ Below w.heap.size w wr ∧ Own wr w.heap.size wr.heap.size 3 v (ints (rsL 1 j))) (fun _ vi _ => 50 - (intOf vi).toNat)
  case atStart => exact ⟨0, Nat.zero_le _, rfl, (Below.refl _ _).alloc (Nat.le_refl _) _, (Own.empty w 3).more⟩
  case round =>
    obtain ⟨j, hj, rfl, hbel, hown⟩ := hrel
    have HO := Lib.hid hown
    have hvl : (ints (rsL 1 j)).length = j := by rw [List.length_map, rsL_len]
    have HS := Lib.hid (rsL_succ 1 j)
    obtain ⟨x, hx⟩ : ∃ x : Int, x = 1 + 1 * (j : Int) := ⟨_, rfl⟩
    by_cases hlt : j < k
    · have hx2 : x ≤ (N : Int) := by omega
      clear hown
      rw [← hx]
      have HX := Lib.hid hx
      have hx3 : 1 ≤ x := by omega
      have hx40 : x ≤ 40 := by omega
      have hnx : x + 1 = 1 + 1 * ((j + 1 : Nat) : Int) := by omega
      have HNX := Lib.hid hnx
      have hxm : (intOf (.int .i64 x)).toNat < (intOf (.int .i64 (x + 1))).toNat := by simp [intOf]; omega
      clear hx hnx
      obtain ⟨vs, hvs⟩ : ∃ vs, vs = ints (rsL 1 j) := ⟨_, rfl⟩
      rw [← hvs] at HO hvl
      have HVS := Lib.hid hvs
      clear hvs
      go_wp2_with (at_builtin; refine wpList_append_o _ rfl (.tmp 17) (.tmp 19) 25 rfl w.heap.size wr.heap.size 3 i0 (.int .i64 0) 8 Try.underlying25 hi hz0 hz1 hz2 rfl _ vs rfl (HO.out.alloc _) (wr.heap.size + 1) (some ⟨wr.heap.size, 0, none⟩) 1 1 [.int .i64 x] rfl (Rd.one _ _ _) rfl (by simp; rfl) (by unfold maxLen; omega) (by omega) (by have := hbel.size; simp; omega) ?_; intro v' w1 ho1 hg1 hat1)
      go_roundw
      case rel =>
        refine ⟨j + 1, by omega, by rw [← HNX.out], below_push hbel (Nat.le_refl _) hg1 HO.out.base, ?_⟩
        rw [HVS.out] at ho1
        rw [HS.out]
        have e : (1 : Int) + ((1 : Nat) : Int) * (j : Int) = x := by rw [HX.out]; rfl
        rw [e]
        simpa [ints] using ho1
      case measure => simp [intOf] at hxm ⊢; omega
    · obtain rfl : j = k := by omega
      have hx2 : (N : Int) < x := by omega
      rw [← hx]
      clear hx
      obtain ⟨a', c', rfl⟩ := hown.form
      rw [hvl] at HO ⊢
      have HL := Lib.hid (rsL_len 1 j)
      clear hown
      go_wp2_with fail
      go_ret
      rw [HL.out]
      exact ⟨a', c', rfl, HO.out, hbel⟩


theorem rising2_any (N k : Nat) (hN : N ≤ 40) (hk : k = (N + 1) / 2) (w : World) :
    Calls Try.prog 16 #[.int .i64 1, .int .i64 N, .int .i64 2] w fun e w' => ∃ a' c', e = .returned (.slice a' (rsL 2 k).length c') ∧ Own w' w.heap.size w'.heap.size 3 (.slice a' (rsL 2 k).length c') (ints (rsL 2 k)) ∧ Below w.heap.size w w' := by
  obtain ⟨i0, hi, hz0, hz1, hz2⟩ := T_int'
  go_enter Try.func16, Try.ntmps16
  go_wp2_with fail
  go_loopw [7, 8] (fun v vi wr => ∃ j : Nat, j ≤ k ∧ vi = .int .i64 (1 + 2 * (j : Int)) ∧ Below w.heap.size w wr ∧ Own wr w.heap.size wr.heap.size 3 v (ints (rsL 2 j))) (fun _ vi _ => 50 - (intOf vi).toNat)
  case atStart => exact ⟨0, Nat.zero_le _, rfl, (Below.refl _ _).alloc (Nat.le_refl _) _, (Own.empty w 3).more⟩
  case round =>
    obtain ⟨j, hj, rfl, hbel, hown⟩ := hrel
    have HO := Lib.hid hown
    have hvl : (ints (rsL 2 j)).length = j := by rw [List.length_map, rsL_len]
    have HS := Lib.hid (rsL_succ 2 j)
    obtain ⟨x, hx⟩ : ∃ x : Int, x = 1 + 2 * (j : Int) := ⟨_, rfl⟩
    by_cases hlt : j < k
    · have hx2 : x ≤ (N : Int) := by omega
      clear hown
      rw [← hx]
      have HX := Lib.hid hx
      have hx3 : 1 ≤ x := by omega
      have hx40 : x ≤ 40 := by omega
      have hnx : x + 2 = 1 + 2 * ((j + 1 : Nat) : Int) := by omega
      have HNX := Lib.hid hnx
      have hxm : (intOf (.int .i64 x)).toNat < (intOf (.int .i64 (x + 2))).toNat := by simp [intOf]; omega
      clear hx hnx
      obtain ⟨vs, hvs⟩ : ∃ vs, vs = ints (rsL 2 j) := ⟨_, rfl⟩
      rw [← hvs] at HO hvl
      have HVS := Lib.hid hvs
      clear hvs
      go_wp2_with (at_builtin; refine wpList_append_o _ rfl (.tmp 17) (.tmp 19) 25 rfl w.heap.size wr.heap.size 3 i0 (.int .i64 0) 8 Try.underlying25 hi hz0 hz1 hz2 rfl _ vs rfl (HO.out.alloc _) (wr.heap.size + 1) (some ⟨wr.heap.size, 0, none⟩) 1 1 [.int .i64 x] rfl (Rd.one _ _ _) rfl (by simp; rfl) (by unfold maxLen; omega) (by omega) (by have := hbel.size; simp; omega) ?_; intro v' w1 ho1 hg1 hat1)
      go_roundw
      case rel =>
        refine ⟨j + 1, by omega, by rw [← HNX.out], below_push hbel (Nat.le_refl _) hg1 HO.out.base, ?_⟩
        rw [HVS.out] at ho1
        rw [HS.out]
        have e : (1 : Int) + ((2 : Nat) : Int) * (j : Int) = x := by rw [HX.out]; rfl
        rw [e]
        simpa [ints] using ho1
      case measure => simp [intOf] at hxm ⊢; omega
    · obtain rfl : j = k := by omega
      have hx2 : (N : Int) < x := by omega
      rw [← hx]
      clear hx
      obtain ⟨a', c', rfl⟩ := hown.form
      rw [hvl] at HO ⊢
      have HL := Lib.hid (rsL_len 2 j)
      clear hown
      go_wp2_with fail
      go_ret
      rw [HL.out]
      exact ⟨a', c', rfl, HO.out, hbel⟩

end Go.Proofs.Ytifhnjnpbpgjfaa
namespace Go.Proofs.Ytifhnjnpbpgjfaa
open NP
set_option linter.unusedVariables false
def apTab : Bool := (List.range 13).all fun n => decide (((allQ n n n).length : Int) = cpF n) && (List.range (allQ n n n).length).all fun k => decide (sumF ((allQ n n n).getD k []) = (n : Int)) && decide (plcF ((allQ n n n).getD k []) = (k : Int))
set_option maxRecDepth 100000 in
theorem apTab_all : apTab = true := by decide +kernel
theorem ap_facts {n : Nat} (hn : n ≤ 12) : ((allQ n n n).length : Int) = cpF n ∧ ∀ k (h : k < (allQ n n n).length), sumF (allQ n n n)[k] = (n : Int) ∧ plcF (allQ n n n)[k] = (k : Int) := by
  have h1 := List.all_eq_true.1 apTab_all n (by simp; omega)
  rw [Bool.and_eq_true] at h1
  refine ⟨by simpa using h1.1, fun k hk => ?_⟩
  have h2 := List.all_eq_true.1 h1.2 k (by simpa using hk)
  rw [List.getD_eq_getElem?_getD, List.getElem?_eq_getElem hk] at h2
  simpa using h2
end Go.Proofs.Ytifhnjnpbpgjfaa
namespace Go.Proofs.Ytifhnjnpbpgjfaa
open Go.RowKit NP
set_option maxRecDepth 8000
set_option linter.unusedVariables false

theorem cwg_any (s g : Nat) (hg : g ≤ s) (hs : s ≤ 40) (w : World) :
    Calls Try.prog 72 #[.int .i64 s, .int .i64 g] w fun e w' => e = .returned (.int .i64 (ctZ ((s : Int) - (g : Int)) g)) ∧ Below w.heap.size w w' := by
  obtain ⟨d, hd⟩ : ∃ d : Nat, (s : Int) - (g : Int) = (d : Int) := ⟨s - g, by omega⟩
  rw [hd]
  have hk41 : d < (crow g).length := by rw [crow_len]; omega
  have hix := T_index41 (crow g) d hk41 (by omega)
  rw [crow_get, ← ctZ_nat] at hix
  have hg40 : g ≤ 40 := by omega
  clear hk41
  go_enter Try.func72, Try.ntmps72
  go_wp2_with (go_at_call 53; refine (countsUpTo_any g hg40 _).mono ?_; rintro e w1 ⟨rfl, hb⟩)
  go_ret
  exact ⟨rfl, hb⟩

/-- the greatest part that may come at place i -/
def capAt (L : List Int) (i : Nat) : Int := (L.take i).getLastD (sumL L)
def leftAt (L : List Int) (i : Nat) : Int := sumL L - sumL (L.take i)
theorem capAt_zero (L : List Int) : capAt L 0 = sumL L := rfl
theorem capAt_succ {L : List Int} {i : Nat} (h : i < L.length) : capAt L (i + 1) = L[i] := by
  unfold capAt
  rw [List.take_succ_eq_append_getElem h, List.getLastD_eq_getLast?, List.getLast?_append]; simp
theorem leftAt_zero (L : List Int) : leftAt L 0 = sumL L := by simp [leftAt, sumL]
theorem leftAt_succ {L : List Int} {i : Nat} (h : i < L.length) : leftAt L (i + 1) = leftAt L i - L[i] := by
  unfold leftAt; rw [sumL_take_succ L i h]; omega
def plcAt (L : List Int) (i : Nat) : Int := plc (sumL L) (sumL L) (L.take i)
theorem plcAt_succ {L : List Int} {i : Nat} (h : i < L.length) : plcAt L (i + 1) = plcAt L i + (ctZ (leftAt L i) (capAt L i) - ctZ (leftAt L i) L[i]) := by
  unfold plcAt leftAt capAt
  rw [List.take_succ_eq_append_getElem h, plc_append]
theorem at_bd {L : List Int} (hv : valid L = true) {i : Nat} (h : i < L.length) : 1 ≤ L[i] ∧ L[i] ≤ leftAt L i ∧ L[i] ≤ capAt L i ∧ leftAt L i ≤ 16 ∧ capAt L i ≤ 16 := by
  have hb := valid_bd hv
  have hp := preS_of_valid hv i h h
  have h1 : sumL (L.take (i + 1)) ≤ sumL L := by
    have e : sumL L = sumL (L.take (i + 1)) + sumL (L.drop (i + 1)) := by rw [← sumL_append, List.take_append_drop]
    have hn : 0 ≤ sumL (L.drop (i + 1)) := by
      have := valid_nonneg hv
      have hh : ∀ (M : List Int), (∀ x ∈ M, 0 ≤ x) → 0 ≤ sumL M := by
        intro M
        induction M with
        | nil => intro _; exact Int.le_refl _
        | cons x r ih =>
          intro h
          have := ih fun y hy => h y (by simp [hy])
          have := h x (by simp)
          rw [sumL]; omega
      exact hh _ fun x hx => this x (List.mem_of_mem_drop hx)
    omega
  have h2 := leftAt_succ h
  have h3 : 0 ≤ sumL (L.take i) := (valid_bd (valid_take hv i)).1
  rcases Nat.eq_zero_or_pos i with h0 | h0
  · subst h0
    have e1 := capAt_zero L
    have e2 := leftAt_zero L
    unfold leftAt at *
    omega
  · have e1 : capAt L i = L[i - 1]'(by omega) := by
      have := capAt_succ (L := L) (i := i - 1) (by omega)
      rwa [show i - 1 + 1 = i by omega] at this
    have h4 := (preS_of_valid hv (i - 1) (by omega) (by omega))
    have h5 := hp.2.2 h0
    unfold leftAt at *
    omega
theorem plcAt_bd {L : List Int} (hv : valid L = true) : ∀ i, i ≤ L.length → -1099511627776 * (i : Int) ≤ plcAt L i ∧ plcAt L i ≤ 1099511627776 * i := by
  intro i
  induction i with
  | zero => intro _; simp [plcAt, plc]
  | succ i ih =>
    intro hi
    have h1 := ih (by omega)
    have h2 := at_bd hv (i := i) (by omega)
    have h3 := ctZ_bd (leftAt L i) (capAt L i) (by omega)
    have h4 := ctZ_bd (leftAt L i) L[i] (by omega)
    rw [plcAt_succ (by omega)]
    omega
theorem plcAt_all (L : List Int) : plcAt L L.length = plc (sumL L) (sumL L) L := by unfold plcAt; rw [List.take_of_length_le (Nat.le_refl _)]

set_option maxHeartbeats 1000000 in
theorem place_any (L : List Int) (hv : valid L = true) (w : World) :
    Calls Try.prog 47 #[.agg (arr (pad L))] w fun e w' => e = .returned (.int .i64 (plc (sumL L) (sumL L) L)) ∧ Below w.heap.size w w' := by
  have hl16 := (valid_bd hv).2.2.2
  have hpl := pad_len hl16
  have hi16 : (Try.prog.info? 62).map (·.size) = some (arr (pad L)).size := by rw [arr_size, hpl]; exact T_info35
  have hb := Blk.new w 62 (arr (pad L))
  have HPL := Lib.hid hpl
  have HSP := Lib.hid (sumL_pad L)
  have HF := Lib.hid (pad_fits hv)
  have HV := Lib.hid hv
  clear hpl hv
  go_enter Try.func47, Try.ntmps47
  go_wp2_with (first
    | (go_at_call 71; have hsx := hb1; refine (list_any L HV.out _).mono ?_; rintro e w3 ⟨a3, rfl, ho3, hb3⟩; have hbel3 : Below w.heap.size w w3 := hb1'.trans (hb3.mono hb1'.size))
    | (go_at_call 46; refine (dsum_any (pad L) HPL.out HF.out _).mono ?_; rintro e w2 ⟨rfl, hb1⟩; rw [HSP.out]; have hb2 := hb.below hb1 (by simp); have hb1' : Below w.heap.size w w2 := ((Below.refl _ _).alloc (Nat.le_refl _) _).trans (hb1.mono (by simp)))
    | (refine wpList_load_row rfl 62 (.tmp 1) rfl w.heap.size rfl 62 (arr (pad L)) (0, 0) _ hb2 Try.underlying62 rfl hi16 ?_)
    | (refine wpList_load_row rfl 62 (.tmp 1) rfl w.heap.size rfl 62 (arr (pad L)) (0, 0) _ hb Try.underlying62 rfl hi16 ?_))
  have HR := Lib.hid ho3.rd
  have hs3 := hbel3.size
  clear hb hb1 hb2 hb1' hb3 ho3
  go_loopw [3, 4, 5, 15] (fun vp vl vm vi wr => ∃ i : Nat, i ≤ L.length ∧ vi = .int .i64 i ∧ vp = .int .i64 (plcAt L i) ∧ vl = .int .i64 (leftAt L i) ∧ vm = .int .i64 (capAt L i) ∧ Below w3.heap.size w3 wr) (fun _ _ _ vi _ => L.length - (intOf vi).toNat)
  case atStart => exact ⟨0, Nat.zero_le _, rfl, rfl, by rw [leftAt_zero], rfl, Below.refl _ _⟩
  case round =>
    obtain ⟨i, hi, rfl, rfl, rfl, rfl, hbr⟩ := hrel
    have hpb := plcAt_bd HV.out i hi
    by_cases hlt : i < L.length
    · have hlt' : (i : Int) < (L.length : Int) := by omega
      obtain ⟨b, o, rfl, hbB, hc⟩ := (HR.out.below hbr).at_ hlt
      obtain ⟨hx1, hx2, hx3, hx4, hx5⟩ := at_bd HV.out hlt
      have HS1 := Lib.hid (plcAt_succ hlt)
      have HS2 := Lib.hid (leftAt_succ hlt)
      have HS3 := Lib.hid (capAt_succ hlt)
      have HCM := Lib.hid (ctZ_min (n := leftAt L i) (m := capAt L i) (by omega))
      have hcb1 := ctZ_bd (leftAt L i) (capAt L i) (by omega)
      generalize L[i] = X at *
      generalize leftAt L i = Y at *
      generalize capAt L i = Z at *
      generalize plcAt L i = p at *
      obtain ⟨x, rfl⟩ : ∃ x : Nat, X = (x : Int) := ⟨X.toNat, by omega⟩
      obtain ⟨l, rfl⟩ : ∃ l : Nat, Y = (l : Int) := ⟨Y.toNat, by omega⟩
      obtain ⟨m, rfl⟩ : ∃ m : Nat, Z = (m : Int) := ⟨Z.toNat, by omega⟩
      obtain ⟨M, hM⟩ : ∃ M : Nat, M = min l m := ⟨_, rfl⟩
      have hMx : x ≤ M := by omega
      have hMl : M ≤ l := by omega
      have HCM2 : Hid (ctZ (l : Int) (M : Int) = ctZ (l : Int) (m : Int)) := Lib.hid (by rw [← HCM.out, hM]; congr 1; omega)
      clear HCM
      have hrest : ∀ (_ : True), True := fun _ => trivial
      by_cases hml : (l : Int) < (m : Int)
      · have dm : l < m := by omega
        have hMe : M = l := by omega
        have HME := Lib.hid hMe
        clear hM hml hMe
        go_wp2_with fail
        obtain ⟨wo, rfl⟩ : ∃ wo : World, wo = wr := ⟨_, rfl⟩
        go_loopw [3, 8] (fun vp vg wr => ∃ g : Nat, x ≤ g ∧ g ≤ M ∧ vg = .int .i64 g ∧ vp = .int .i64 (p + (ctZ (l : Int) (M : Int) - ctZ (l : Int) (g : Int))) ∧ Below w3.heap.size w3 wr) (fun _ vg _ => (intOf vg).toNat)
        case atStart => exact ⟨M, hMx, Nat.le_refl _, by rw [HME.out], by congr 1; omega, hbr⟩
        case round =>
          obtain ⟨g, hg1, hg2, rfl, rfl, hbs⟩ := hrel
          have hcg1 := ctZ_bd (l : Int) (M : Int) (by omega)
          have hcg2 := ctZ_bd (l : Int) (g : Int) (by omega)
          by_cases hgt : x < g
          · have hgt' : (x : Int) < (g : Int) := by omega
            have HREC := Lib.hid (ctZ_rec (l : Int) (g : Int) (by omega) (by omega))
            have hcg3 := ctZ_bd ((l : Int) - (g : Int)) (g : Int) (by omega)
            go_wp2_with (go_at_call 72; refine (cwg_any l g (by omega) (by omega) _).mono ?_; rintro e wq ⟨rfl, hbq⟩)
            go_roundw
            case rel =>
              have e0 : ((g - 1 : Nat) : Int) = (g : Int) - 1 := by omega
              refine ⟨g - 1, by omega, by omega, by rw [e0], ?_, hbs.trans (hbq.mono hbs.size)⟩
              rw [e0, HREC.out]
              congr 1; omega
            case measure => simp [intOf]; omega
          · obtain rfl : g = x := by omega
            have hcg4 := hx1
            go_wp2_with fail
            go_roundw
            case rel =>
              refine ⟨i + 1, by omega, by go_num, ?_, by rw [HS2.out], by rw [HS3.out], hbs⟩
              rw [HS1.out, HCM2.out]
            case measure => simp [intOf]; omega
      · have dm : ¬ l < m := by omega
        have hMe : M = m := by omega
        have HME := Lib.hid hMe
        clear hM hml hMe
        go_wp2_with fail
        obtain ⟨wo, rfl⟩ : ∃ wo : World, wo = wr := ⟨_, rfl⟩
        go_loopw [3, 8] (fun vp vg wr => ∃ g : Nat, x ≤ g ∧ g ≤ M ∧ vg = .int .i64 g ∧ vp = .int .i64 (p + (ctZ (l : Int) (M : Int) - ctZ (l : Int) (g : Int))) ∧ Below w3.heap.size w3 wr) (fun _ vg _ => (intOf vg).toNat)
        case atStart => exact ⟨M, hMx, Nat.le_refl _, by rw [HME.out], by congr 1; omega, hbr⟩
        case round =>
          obtain ⟨g, hg1, hg2, rfl, rfl, hbs⟩ := hrel
          have hcg1 := ctZ_bd (l : Int) (M : Int) (by omega)
          have hcg2 := ctZ_bd (l : Int) (g : Int) (by omega)
          by_cases hgt : x < g
          · have hgt' : (x : Int) < (g : Int) := by omega
            have HREC := Lib.hid (ctZ_rec (l : Int) (g : Int) (by omega) (by omega))
            have hcg3 := ctZ_bd ((l : Int) - (g : Int)) (g : Int) (by omega)
            go_wp2_with (go_at_call 72; refine (cwg_any l g (by omega) (by omega) _).mono ?_; rintro e wq ⟨rfl, hbq⟩)
            go_roundw
            case rel =>
              have e0 : ((g - 1 : Nat) : Int) = (g : Int) - 1 := by omega
              refine ⟨g - 1, by omega, by omega, by rw [e0], ?_, hbs.trans (hbq.mono hbs.size)⟩
              rw [e0, HREC.out]
              congr 1; omega
            case measure => simp [intOf]; omega
          · obtain rfl : g = x := by omega
            have hcg4 := hx1
            go_wp2_with fail
            go_roundw
            case rel =>
              refine ⟨i + 1, by omega, by go_num, ?_, by rw [HS2.out], by rw [HS3.out], hbs⟩
              rw [HS1.out, HCM2.out]
            case measure => simp [intOf]; omega
    · obtain rfl : i = L.length := by omega
      rw [plcAt_all]
      go_wp2
      go_ret
      exact ⟨rfl, hbel3.trans (hbr.mono hs3)⟩

theorem iPlaceOf_any (a : Option Addr) (c B : Nat) (L : List Int) (w : World) (h : Rd w B a (ints L)) (hB : B ≤ w.heap.size) (hl : L.length ≤ 4611686018427387904) :
    Calls Try.prog 23 #[.slice a L.length c] w fun e w' => e = .returned (.int .i64 (plcF L)) ∧ Below w.heap.size w w' := by
  have hi16 : (Try.prog.info? 62).map (·.size) = some (arr (dg L)).size := by rw [arr_size, dg_len]; exact T_info35
  have hsz : (arr (dg L)).size = (arr (List.replicate 16 0)).size := by rw [arr_size, arr_size, dg_len]; rfl
  cases hv : valid L with
  | true =>
    have HE := Lib.hid (plcF_yes hv)
    have HD := Lib.hid (dg_yes hv)
    have HV := Lib.hid hv
    go_enter Try.func23, Try.ntmps23
    go_wp2_with (first | (go_at_call 47; rw [HD.out]; refine (place_any L HV.out _).mono ?_; rintro e w2 ⟨rfl, hb2⟩) | (go_at_call 45; refine (diagramOf_any _ _ B L _ h hB hl).mono ?_; rintro e w1 ⟨rfl, hb1⟩) | (refine wpList_store_row rfl 62 (.tmp 3) (.tmp 8) rfl w1.heap.size rfl (arr (dg L)) rfl 62 (arr (List.replicate 16 0)) (Blk.new w1 _ _) hi16 hsz (arr_one _) ?_) | (refine wpList_load_row rfl 62 (.tmp 3) rfl w1.heap.size rfl 62 (arr (dg L)) (0, 0) _ (Blk.new w1 _ _).row Try.underlying62 rfl hi16 ?_))
    go_ret
    refine ⟨ret_i64 (by rw [HE.out]), ?_⟩
    exact (below_setRow' (hb1.alloc hb1.size _) (by exact hb1.size) _).trans (hb2.mono (by have := hb1.size; simp; omega))
  | false =>
    have HE := Lib.hid (plcF_no hv)
    go_enter Try.func23, Try.ntmps23
    go_wp2_with (first | (go_at_call 45; refine (diagramOf_any _ _ B L _ h hB hl).mono ?_; rintro e w1 ⟨rfl, hb1⟩) | (refine wpList_store_row rfl 62 (.tmp 3) (.tmp 8) rfl w1.heap.size rfl (arr (dg L)) rfl 62 (arr (List.replicate 16 0)) (Blk.new w1 _ _) hi16 hsz (arr_one _) ?_))
    go_ret
    exact ⟨ret_i64 HE.out.symm, below_setRow' (hb1.alloc hb1.size _) (by exact hb1.size) _⟩


end Go.Proofs.Ytifhnjnpbpgjfaa
namespace Go.Proofs.Ytifhnjnpbpgjfaa
open NP
theorem allQ_pw {n : Nat} (hn : n ≤ 12) : (allQ n n n).Pairwise fun a b => plcF a < plcF b := by
  rw [List.pairwise_iff_getElem]
  intro i j hi hj hij
  have h := (ap_facts hn).2
  rw [(h i hi).2, (h j hj).2]
  omega
theorem kp_pw {l : List UInt8} {K : List Int → Bool} (h : kindOf l = some K) {n : Nat} (hn : n ≤ 12) : (kpF l (n : Int)).Pairwise fun a b => plcF a < plcF b := by
  rw [kpF_some h hn]
  exact (allQ_pw hn).filter _
theorem kp_place {l : List UInt8} {K : List Int → Bool} (h : kindOf l = some K) {n : Nat} (hn : n ≤ 12) {k : Nat} (hk : k + 1 < (kpF l (n : Int)).length) : plcF ((kpF l (n : Int))[k]'(by omega)) < plcF (kpF l (n : Int))[k + 1] :=
  (List.pairwise_iff_getElem.1 (kp_pw h hn)) k (k + 1) (by omega) hk (by omega)
theorem kp_each {l : List UInt8} {K : List Int → Bool} (h : kindOf l = some K) {n : Nat} (hn : n ≤ 12) : ∀ L ∈ kpF l (n : Int), kindF l L = true ∧ sumF L = (n : Int) := by
  intro L hL
  rw [kpF_some h hn] at hL
  obtain ⟨h1, h2⟩ := List.mem_filter.1 hL
  refine ⟨by rw [kindF_some h, (allQ_ok hn L h1).1, h2]; rfl, ?_⟩
  obtain ⟨k, hk, rfl⟩ := List.getElem_of_mem h1
  exact ((ap_facts hn).2 k hk).1
theorem kp_kind {l : List UInt8} {n : Int} (h : 0 ≤ kcF l n) : ∃ K, kindOf l = some K ∧ 0 ≤ n ∧ n ≤ 12 ∧ kcF l n = ((kpF l n).length : Int) := by
  unfold kcF at h ⊢
  split at h
  · rename_i h1
    rw [if_pos h1]
    unfold kpOk at h1
    simp only [Bool.and_eq_true, decide_eq_true_eq] at h1
    obtain ⟨K, hK⟩ := Option.isSome_iff_exists.1 h1.1.1
    exact ⟨K, hK, h1.1.2, h1.2, rfl⟩
  · omega
end Go.Proofs.Ytifhnjnpbpgjfaa
namespace Go.Proofs.Ytifhnjnpbpgjfaa
open Go.RowKit NP
set_option maxRecDepth 100000
set_option linter.unusedVariables false
set_option linter.unusedSimpArgs false
abbrev strs (M : List ByteArray) : List Value := M.map Value.string
theorem of_any (g q B c : Nat) (a : Option Addr) (M : List ByteArray) (bs : List Int) (w : World) (hM : 0 < M.length) (hM2 : M.length ≤ 4294967296) (hq : q ≤ 1000000) (h : Rdr w g bs q) (hr : Rd w B a (strs M)) (hB : ∀ b o, a = some ⟨b, o, none⟩ → b ≠ g) :
    Calls Try.prog 61 #[.pointer (some ⟨g, 0, none⟩), .slice a M.length c] w fun e w' => ∃ k, ∃ hk : k < M.length, e = .returned (.string M[k]) ∧ Rdr w' g bs (q + 1) ∧ w.grownBy w' (some g) ∧ w'.heap.size = w.heap.size := by
  go_enter Try.func61, Try.ntmps61
  go_wp2_with fail
  refine (pick_any g q _ bs _ (by omega) hq h).mono ?_
  rintro e w1 ⟨x, rfl, hx0, hx1, h1, hg1, hs1⟩
  obtain ⟨k, rfl⟩ := Int.eq_ofNat_of_zero_le hx0
  have hk : k < M.length := by have := hx1 (by omega); omega
  obtain ⟨b, o, rfl, hb, hc0⟩ := hr (fun e => by have h9 := congrArg List.length e; rw [List.length_map, List.length_nil] at h9; omega)
  have hc := hc0 k (.string M[k]) (by simp [hk])
  have hlt := World.block_lt_of_cell? _ _ hc
  have hc' : w1.cell? ⟨b, o + k, none⟩ = some (.string M[k]) := (World.cell?_of_block (hg1.block b hlt (by have := hB b o rfl; simpa using this))).trans hc
  clear hx1 hc0
  go_wp2_with fail
  go_ret
  exact ⟨k, hk, rfl, h1, hg1, hs1⟩
def names3 : List ByteArray := [⟨#[]⟩, ⟨#[101, 118, 101, 110]⟩, ⟨#[79, 100, 100]⟩]
def names12 : List ByteArray := [⟨#[111, 100, 100]⟩, ⟨#[100, 105, 115, 116, 105, 110, 99, 116]⟩, ⟨#[115, 101, 108, 102]⟩, ⟨#[100, 105, 115, 116, 105, 110, 99, 116, 111, 100, 100]⟩, ⟨#[110, 111, 116, 116, 104, 114, 101, 101]⟩, ⟨#[116, 119, 105, 99, 101]⟩, ⟨#[103, 97, 112]⟩, ⟨#[102, 105, 118, 101]⟩, ⟨#[103, 97, 112, 111, 110, 101]⟩, ⟨#[102, 105, 118, 101, 116, 119, 111]⟩, ⟨#[115, 99, 104, 117, 114]⟩, ⟨#[115, 105, 120]⟩]
def Name (s : ByteArray) : Prop := s ∈ names3 ∨ s ∈ names12
theorem Name.small {s : ByteArray} (h : Name s) : s.size ≤ 11 := by
  have h3 : ∀ s ∈ names3, s.size ≤ 11 := by decide
  have h12 : ∀ s ∈ names12, s.size ≤ 11 := by decide
  exact h.elim (h3 s) (h12 s)
set_option maxHeartbeats 1000000 in
theorem aName_any (g q : Nat) (bs : List Int) (w : World) (hq : q ≤ 900000) (h : Rdr w g bs q) :
    Calls Try.prog 39 #[.pointer (some ⟨g, 0, none⟩)] w fun e w' => ∃ s, e = .returned (.string s) ∧ Name s ∧ Rdr w' g bs (q + 2) ∧ w.grownBy w' (some g) := by
  have hlt := h.lt
  go_enter Try.func39, Try.ntmps39
  go_wp2_with fail
  refine (pick_any g _ 24 bs _ (by omega) (by omega) h).mono ?_
  rintro e w1 ⟨y, rfl, hp0, hp1, h1, hg1, -⟩
  clear hp1 h
  by_cases y0 : y = 0
  · have b0 : (y == 0) = true := beq_iff_eq.2 y0
    clear y0
    go_wp2_with fail
    have hrd : Rd (w1.alloc (.cells (strs [⟨#[]⟩, ⟨#[101, 118, 101, 110]⟩, ⟨#[79, 100, 100]⟩]).toArray 9)) (w1.heap.size + 1) (some ⟨w1.heap.size, 0, none⟩) (strs [⟨#[]⟩, ⟨#[101, 118, 101, 110]⟩, ⟨#[79, 100, 100]⟩]) := rd_new w1 (strs [⟨#[]⟩, ⟨#[101, 118, 101, 110]⟩, ⟨#[79, 100, 100]⟩]).toArray 9
    refine (of_any g (q + 1) (w1.heap.size + 1) 3 (some ⟨w1.heap.size, 0, none⟩) [⟨#[]⟩, ⟨#[101, 118, 101, 110]⟩, ⟨#[79, 100, 100]⟩] bs (w1.alloc (.cells (strs [⟨#[]⟩, ⟨#[101, 118, 101, 110]⟩, ⟨#[79, 100, 100]⟩]).toArray 9)) (by simp) (by simp) (by omega) (h1.below ((Below.refl _ _).alloc h1.lt _)) hrd (by intro b o e; injection e with e; injection e with e; have := h1.lt; omega)).mono ?_
    rintro e w2 ⟨k, hk, rfl, h2, hg2, -⟩
    have hm : ([⟨#[]⟩, ⟨#[101, 118, 101, 110]⟩, ⟨#[79, 100, 100]⟩] : List ByteArray)[k] ∈ names3 := List.getElem_mem hk
    generalize ([⟨#[]⟩, ⟨#[101, 118, 101, 110]⟩, ⟨#[79, 100, 100]⟩] : List ByteArray)[k] = s at hm ⊢
    go_wp2_with fail
    go_ret
    exact ⟨s, rfl, .inl hm, h2, chg_trans (chg_alloc hg1 _) hg2⟩
  · have b0 : (y == 0) = false := beq_eq_false_iff_ne.2 y0
    clear y0
    go_wp2_with fail
    have hrd : Rd (w1.alloc (.cells (strs [⟨#[111, 100, 100]⟩, ⟨#[100, 105, 115, 116, 105, 110, 99, 116]⟩, ⟨#[115, 101, 108, 102]⟩, ⟨#[100, 105, 115, 116, 105, 110, 99, 116, 111, 100, 100]⟩, ⟨#[110, 111, 116, 116, 104, 114, 101, 101]⟩, ⟨#[116, 119, 105, 99, 101]⟩, ⟨#[103, 97, 112]⟩, ⟨#[102, 105, 118, 101]⟩, ⟨#[103, 97, 112, 111, 110, 101]⟩, ⟨#[102, 105, 118, 101, 116, 119, 111]⟩, ⟨#[115, 99, 104, 117, 114]⟩, ⟨#[115, 105, 120]⟩]).toArray 9)) (w1.heap.size + 1) (some ⟨w1.heap.size, 0, none⟩) (strs [⟨#[111, 100, 100]⟩, ⟨#[100, 105, 115, 116, 105, 110, 99, 116]⟩, ⟨#[115, 101, 108, 102]⟩, ⟨#[100, 105, 115, 116, 105, 110, 99, 116, 111, 100, 100]⟩, ⟨#[110, 111, 116, 116, 104, 114, 101, 101]⟩, ⟨#[116, 119, 105, 99, 101]⟩, ⟨#[103, 97, 112]⟩, ⟨#[102, 105, 118, 101]⟩, ⟨#[103, 97, 112, 111, 110, 101]⟩, ⟨#[102, 105, 118, 101, 116, 119, 111]⟩, ⟨#[115, 99, 104, 117, 114]⟩, ⟨#[115, 105, 120]⟩]) := rd_new w1 (strs [⟨#[111, 100, 100]⟩, ⟨#[100, 105, 115, 116, 105, 110, 99, 116]⟩, ⟨#[115, 101, 108, 102]⟩, ⟨#[100, 105, 115, 116, 105, 110, 99, 116, 111, 100, 100]⟩, ⟨#[110, 111, 116, 116, 104, 114, 101, 101]⟩, ⟨#[116, 119, 105, 99, 101]⟩, ⟨#[103, 97, 112]⟩, ⟨#[102, 105, 118, 101]⟩, ⟨#[103, 97, 112, 111, 110, 101]⟩, ⟨#[102, 105, 118, 101, 116, 119, 111]⟩, ⟨#[115, 99, 104, 117, 114]⟩, ⟨#[115, 105, 120]⟩]).toArray 9
    refine (of_any g (q + 1) (w1.heap.size + 1) 12 (some ⟨w1.heap.size, 0, none⟩) [⟨#[111, 100, 100]⟩, ⟨#[100, 105, 115, 116, 105, 110, 99, 116]⟩, ⟨#[115, 101, 108, 102]⟩, ⟨#[100, 105, 115, 116, 105, 110, 99, 116, 111, 100, 100]⟩, ⟨#[110, 111, 116, 116, 104, 114, 101, 101]⟩, ⟨#[116, 119, 105, 99, 101]⟩, ⟨#[103, 97, 112]⟩, ⟨#[102, 105, 118, 101]⟩, ⟨#[103, 97, 112, 111, 110, 101]⟩, ⟨#[102, 105, 118, 101, 116, 119, 111]⟩, ⟨#[115, 99, 104, 117, 114]⟩, ⟨#[115, 105, 120]⟩] bs (w1.alloc (.cells (strs [⟨#[111, 100, 100]⟩, ⟨#[100, 105, 115, 116, 105, 110, 99, 116]⟩, ⟨#[115, 101, 108, 102]⟩, ⟨#[100, 105, 115, 116, 105, 110, 99, 116, 111, 100, 100]⟩, ⟨#[110, 111, 116, 116, 104, 114, 101, 101]⟩, ⟨#[116, 119, 105, 99, 101]⟩, ⟨#[103, 97, 112]⟩, ⟨#[102, 105, 118, 101]⟩, ⟨#[103, 97, 112, 111, 110, 101]⟩, ⟨#[102, 105, 118, 101, 116, 119, 111]⟩, ⟨#[115, 99, 104, 117, 114]⟩, ⟨#[115, 105, 120]⟩]).toArray 9)) (by simp) (by simp) (by omega) (h1.below ((Below.refl _ _).alloc h1.lt _)) hrd (by intro b o e; injection e with e; injection e with e; have := h1.lt; omega)).mono ?_
    rintro e w2 ⟨k, hk, rfl, h2, hg2, -⟩
    have hm : ([⟨#[111, 100, 100]⟩, ⟨#[100, 105, 115, 116, 105, 110, 99, 116]⟩, ⟨#[115, 101, 108, 102]⟩, ⟨#[100, 105, 115, 116, 105, 110, 99, 116, 111, 100, 100]⟩, ⟨#[110, 111, 116, 116, 104, 114, 101, 101]⟩, ⟨#[116, 119, 105, 99, 101]⟩, ⟨#[103, 97, 112]⟩, ⟨#[102, 105, 118, 101]⟩, ⟨#[103, 97, 112, 111, 110, 101]⟩, ⟨#[102, 105, 118, 101, 116, 119, 111]⟩, ⟨#[115, 99, 104, 117, 114]⟩, ⟨#[115, 105, 120]⟩] : List ByteArray)[k] ∈ names12 := List.getElem_mem hk
    generalize ([⟨#[111, 100, 100]⟩, ⟨#[100, 105, 115, 116, 105, 110, 99, 116]⟩, ⟨#[115, 101, 108, 102]⟩, ⟨#[100, 105, 115, 116, 105, 110, 99, 116, 111, 100, 100]⟩, ⟨#[110, 111, 116, 116, 104, 114, 101, 101]⟩, ⟨#[116, 119, 105, 99, 101]⟩, ⟨#[103, 97, 112]⟩, ⟨#[102, 105, 118, 101]⟩, ⟨#[103, 97, 112, 111, 110, 101]⟩, ⟨#[102, 105, 118, 101, 116, 119, 111]⟩, ⟨#[115, 99, 104, 117, 114]⟩, ⟨#[115, 105, 120]⟩] : List ByteArray)[k] = s at hm ⊢
    go_wp2_with fail
    go_ret
    exact ⟨s, rfl, .inr hm, h2, chg_trans (chg_alloc hg1 _) hg2⟩
set_option maxHeartbeats 1000000 in
theorem DrawKindParts_any (a : Option Addr) (c B : Nat) (bs : List Int) (w : World) (h : Rd w B a (bs.map (Value.int .u8))) (hB : B ≤ w.heap.size) (hb : ∀ n ∈ bs, (Lit.int .u8 n).wf = true) (hl : bs.length ≤ 1048576) (hc : bs.length ≤ c) :
    Calls Try.prog 17 #[.slice a bs.length c] w fun e w' => ∃ s x, e = .returned (.tuple #[.string s, .int .i64 x]) ∧ Name s ∧ (-1000 ≤ x ∧ x ≤ 1000) ∧ Below w.heap.size w w' := by
  go_enter Try.func17, Try.ntmps17
  go_wp2_with fail
  refine (newReader_any _ _ B bs _ h hB hb hl hc).mono ?_
  rintro e w1 ⟨rfl, h1, hb1, hz1⟩
  clear h hB hb hl hc
  go_wp2_with fail
  refine (aName_any _ 0 _ _ (by omega) h1).mono ?_
  rintro e w2 ⟨s, rfl, hs, h2, hg2⟩
  have hA2 := hb1.trans ((Chg.of hg2 (Nat.le_refl _)).below (by omega))
  have hz2 := hA2.size
  clear h1 hg2 hb1
  go_wp2_with fail
  refine (one_any _ _ _ _ _ [6, 8, 5, 4, 7, 3, 10, 2, 12, 1, 0, 9, 13, -1] _ _ (by simp) (by simp) (by omega) (h2.below ((Below.refl _ _).alloc h2.lt _)) (rd_new w2 _ _) (by intro b o e; injection e with e; injection e with e; have := h2.lt; omega)).mono ?_
  rintro e w3 ⟨k, hk, rfl, h3, hg3, -⟩
  have hx : ∀ x ∈ ([6, 8, 5, 4, 7, 3, 10, 2, 12, 1, 0, 9, 13, -1] : List Int), -1000 ≤ x ∧ x ≤ 1000 := by decide
  have hx1 := hx _ (List.getElem_mem hk)
  generalize ([6, 8, 5, 4, 7, 3, 10, 2, 12, 1, 0, 9, 13, -1] : List Int)[k] = x at hx1 ⊢
  have hA3 := (hA2.alloc hz2 (.cells (ints [6, 8, 5, 4, 7, 3, 10, 2, 12, 1, 0, 9, 13, -1]).toArray 3)).trans ((Chg.of hg3 (Nat.le_refl _)).below (by simp; omega))
  clear hk hx hg3 h3 hA2 h2
  go_wp2_with fail
  go_ret2
  exact ⟨s, x, rfl, hs, hx1, hA3⟩
end Go.Proofs.Ytifhnjnpbpgjfaa
namespace Go.Proofs.Ytifhnjnpbpgjfaa
namespace NP
set_option linter.unusedVariables false
theorem vb_nn : ∀ (L : List Int) (m l : Int), vb m l L = true → 0 ≤ sumL L
  | [], _, _, _ => by simp [sumL]
  | x :: r, m, l, h => by
    simp only [vb, Bool.and_eq_true, decide_eq_true_eq] at h
    have h1 := vb_nn r x (l - x) (by simp_all)
    rw [show sumL (x :: r) = x + sumL r from rfl]
    omega
theorem mem_allQ : ∀ (L : List Int) (f : Nat) (m l : Int) (n most : Nat), vb m l L = true → sumL L = (n : Int) → n ≤ f → m ≤ most → L ∈ allQ f n most
  | [], f, m, l, n, most, h, hs, hn, hm => by
    obtain rfl : n = 0 := by simp [sumL] at hs; omega
    rw [allQ_zero]
    simp
  | x :: r, f, m, l, n, most, h, hs, hn, hm => by
    simp only [vb, Bool.and_eq_true, decide_eq_true_eq] at h
    have hr : vb x (l - x) r = true := by simp_all
    have h0 := vb_nn r x (l - x) hr
    rw [show sumL (x :: r) = x + sumL r from rfl] at hs
    have hx : 1 ≤ x ∧ x ≤ m := by simp_all
    obtain ⟨f', rfl⟩ : ∃ f', f = f' + 1 := ⟨f - 1, by omega⟩
    obtain ⟨i, hi⟩ : ∃ i : Nat, x = ((i + 1 : Nat) : Int) := ⟨(x - 1).toNat, by omega⟩
    rw [allQ, if_neg (by omega)]
    refine List.mem_flatMap.2 ⟨i, by simp; omega, List.mem_map.2 ⟨r, ?_, by rw [hi]⟩⟩
    exact mem_allQ r f' x (l - x) (n - (i + 1)) (i + 1) hr (by omega) (by omega) (by omega)
theorem mem_allQn {L : List Int} (h : valid L = true) {n : Nat} (hs : sumL L = (n : Int)) : L ∈ allQ n n n := by
  have h1 := mem_allQ L n 16 16 n 16 h hs (Nat.le_refl _) (by omega)
  rcases Nat.lt_or_ge 16 n with h2 | h2
  · have := (valid_bd h).2.1; omega
  · cases n with
    | zero => rw [allQ_zero] at h1 ⊢; exact h1
    | succ f =>
      rw [allQ, if_neg (by omega)] at h1 ⊢
      rw [Nat.min_eq_left (by omega)] at h1 ⊢
      exact h1
end NP
end Go.Proofs.Ytifhnjnpbpgjfaa
namespace Go.Proofs.Ytifhnjnpbpgjfaa
open Go.RowKit NP
set_option maxRecDepth 8000
set_option linter.unusedVariables false

theorem small_of_parts {M : List Int} (h : SmallParts M) : Small M := ⟨by have := h.1; omega, fun x hx => by have := h.2 x hx; omega⟩

end Go.Proofs.Ytifhnjnpbpgjfaa
namespace Go.Proofs.Ytifhnjnpbpgjfaa
open Go.RowKit NP
set_option maxRecDepth 8000
set_option linter.unusedVariables false
set_option linter.unusedSimpArgs false

set_option maxHeartbeats 1000000 in
theorem partsOfKind_any (g q : Nat) (bs : List Int) (s : ByteArray) (K : List Int → Bool) (hSK : SK s K) (w : World) (hq : q ≤ 800000) (h : Rdr w g bs q) :
    Calls Try.prog 50 #[.pointer (some ⟨g, 0, none⟩), .string s] w (Drawn g bs SmallParts (q + 4) w) := by
  have hlt := h.lt
  go_enter Try.func50, Try.ntmps50
  go_wp2_with fail
  refine (one_any g _ _ _ _ [6, 8, 9, 5, 10, 4, 12, 3, 1, 0] bs _ (by simp) (by simp) (by omega) (h.below ((Below.refl _ _).alloc hlt _)) (rd_new w _ _) (by intro b o e; injection e with e; injection e with e; omega)).mono ?_
  rintro e w1 ⟨k, hk, rfl, h1, hg1, -⟩
  have hx : ∀ x ∈ ([6, 8, 9, 5, 10, 4, 12, 3, 1, 0] : List Int), 0 ≤ x ∧ x ≤ 12 := by decide
  have hx1 := hx _ (List.getElem_mem hk)
  obtain ⟨x, hxx⟩ : ∃ x, x = ([6, 8, 9, 5, 10, 4, 12, 3, 1, 0] : List Int)[k] := ⟨_, rfl⟩
  rw [← hxx] at hx1 ⊢
  clear hx hxx hk h
  obtain ⟨n, rfl⟩ := Int.eq_ofNat_of_zero_le hx1.1
  have hG1 := chg_trans (World.grownBy_alloc w (.cells (ints [6, 8, 9, 5, 10, 4, 12, 3, 1, 0]).toArray 3) (some g)) hg1
  clear hg1
  go_wp2_with fail
  refine (kindList_any s K hSK n (by omega) _).mono ?_
  rintro e w2 ⟨a2, c2, us, rfl, hul, ho, hin, hb2⟩
  have h2 := h1.below (hb2.mono h1.lt)
  have hG2 := chg_below hG1 (hb2.mono hG1.size)
  have hz1 := hG1.size
  have hz2 := hG2.size
  clear h1 hG1 hb2 hx1
  by_cases h0 : us.length = 0
  · have b0 : ((us.length : Int) == 0) = true := beq_iff_eq.2 (by omega)
    clear ho hin
    go_wp2_with fail
    go_ret
    exact ⟨_, _, [], rfl, ((Own.empty w2 3).lower hz2).more, ⟨by simp, by simp⟩, ⟨q + 1, by omega, h2.below ((Below.refl _ _).alloc h2.lt _)⟩, chg_alloc hG2 _⟩
  · have b0 : ((us.length : Int) == 0) = false := beq_eq_false_iff_ne.2 (by omega)
    have HO := Lib.hid ho
    have HIN := Lib.hid hin
    clear ho hin
    go_wp2_with fail
    refine (pick_any g _ _ bs _ (by omega) (by omega) h2).mono ?_
    rintro e w3 ⟨y, rfl, hy0, hy1, h3, hg3, -⟩
    obtain ⟨j, rfl⟩ := Int.eq_ofNat_of_zero_le hy0
    have hj : j < us.length := by have := hy1 (by omega); omega
    have hlt2 : g < w1.heap.size := by omega
    have HO3 := Lib.hid (HO.out.chg hg3 hlt2).more
    obtain ⟨M, hs, hM⟩ := HIN.out _ (List.getElem_mem hj)
    obtain ⟨gA, cA, hv, hlo, hhi, hc, -⟩ := HO3.out.at_ hj
    have hM3 := (hM.chg hg3 hlt2).more
    obtain ⟨aM, cM, hf⟩ := hM3.form
    rw [List.length_map] at hf
    rw [hf] at hM3 hc
    injection hv with hv _ _
    subst hv
    have HM := Lib.hid (hM3.lower hz1)
    have HS := Lib.hid hs
    have hG3 := chg_trans hG2 hg3
    clear hM hM3 hf hG2 hg3 h2 hs
    go_wp2_with fail
    go_ret
    exact ⟨aM, cM, M, rfl, HM.out, HS.out, ⟨_, by omega, h3⟩, hG3⟩




end Go.Proofs.Ytifhnjnpbpgjfaa
namespace Go.Proofs.Ytifhnjnpbpgjfaa
open Go.RowKit NP
set_option maxRecDepth 100000
set_option linter.unusedVariables false
set_option linter.unusedSimpArgs false
def SKb (s : ByteArray) (K : List Int → Bool) (b : Bool) : Prop := ∀ (a : Option Addr) (c B : Nat) (L : List Int) (w : World), valid L = true → Rd w B a (ints L) → B ≤ w.heap.size →
    Calls Try.prog 43 #[.string s, .slice a L.length c] w fun e w' => e = .returned (.tuple #[.bool (K L), .bool b]) ∧ Below w.heap.size w w'
theorem skb_any (s : ByteArray) : ∃ K b, SKb s K b := by
  cases hk : kindOf s.data.toList with
  | some K =>
    obtain ⟨K', h, -⟩ := sk_of hk
    exact ⟨K', true, h⟩
  | none => exact ⟨fun _ => false, false, fun a c B L w _ _ _ => skind_none s hk a c L w⟩
set_option maxHeartbeats 1000000 in
theorem kindListB_any (s : ByteArray) (K : List Int → Bool) (bk : Bool) (hSK : SKb s K bk) (n : Nat) (hn : n ≤ 12) (w : World) :
    Calls Try.prog 44 #[.string s, .int .i64 (n : Int)] w fun e w' => ∃ a' c' us, e = .returned (.slice a' us.length c') ∧ us.length ≤ 400 ∧ Own w' w.heap.size w'.heap.size 25 (.slice a' us.length c') us ∧ (∀ u ∈ us, ∃ M, SmallParts M ∧ Own w' w.heap.size w'.heap.size 3 u (ints M)) ∧ Below w.heap.size w w' := by
  obtain ⟨i0, hi, hz0, hz1, hz2⟩ := T_int'
  obtain ⟨i1, hj, hy0, hy1, hy2⟩ := T_ints'
  have hE := Own.empty w 25
  obtain ⟨w1, hw1⟩ : ∃ w1, w1 = w.alloc (.cells #[] 25) := ⟨_, rfl⟩
  have hb1 : Below w.heap.size w w1 := hw1 ▸ (Below.refl _ _).alloc (Nat.le_refl _) _
  have hz1' : w1.heap.size = w.heap.size + 1 := by rw [hw1, World.size_alloc]
  have HW1 := Lib.hid hw1
  have HZ1 := Lib.hid hz1'
  rw [← hw1] at hE
  clear hw1 hz1'
  have HZ2 : Hid ((w1.alloc (.cells #[] 3)).heap.size = w.heap.size + 1 + 1) := Lib.hid (by rw [World.size_alloc, HZ1.out])
  obtain ⟨LL, hLL⟩ : ∃ LL, LL = allQ n n n := ⟨_, rfl⟩
  have HOK : Hid (∀ L ∈ LL, valid L = true ∧ SmallParts L) := Lib.hid (hLL ▸ allQ_ok hn)
  have hle : LL.length ≤ 400 := hLL ▸ allQ_le (by omega) (by omega) (by omega)
  have HL := Lib.hid hLL
  clear hLL
  go_enter Try.func44, Try.ntmps44
  go_wp2_with fail
  rw [← HW1.out]
  refine (slist_lists n (by omega) n _ 0 (w1.alloc (.cells #[] 3)).heap.size [] n _ (Nat.le_refl _) (by simp; omega) (by omega) (fun h => absurd rfl h) (Nat.le_refl _)).mono ?_
  rintro e w2 ⟨a6, c6, vs, rfl, h6, hb2⟩
  rw [show List.map (fun x => [] ++ x) (allQ n n n) = allQ n n n from by simp, ← HL.out] at h6
  rw [← HL.out]
  rw [HZ2.out] at h6 hb2
  have HALL := Lib.hid (h6.lower (show w.heap.size + 1 ≤ w.heap.size + 1 + 1 by omega))
  clear h6
  have hbw2 : Below w.heap.size w w2 := (hb1.alloc hb1.size _).trans (hb2.mono (by omega))
  have hE2 : Own w2 w.heap.size (w.heap.size + 1) 25 (.slice (some ⟨w.heap.size, 0, none⟩) 0 0) [] := (hE.alloc _).below (hb2.mono (by omega))
  have hsz2 : w.heap.size + 1 ≤ w2.heap.size := by have := hb2.size; rw [HZ2.out] at this; omega
  go_wp2_with fail
  clear hE hb1 hb2
  go_loopw [5, 7] (fun v ii wr => ∃ (i : Nat) (a5 : Option Addr) (c5 : Nat) (us : List Value), ii = .int .i64 (i : Int) ∧ i ≤ LL.length ∧ us.length ≤ i ∧ v = .slice a5 us.length c5 ∧ Own wr w.heap.size wr.heap.size 25 (.slice a5 us.length c5) us ∧ (∀ g, (Value.slice a5 us.length c5).ownBlock = some g → g < w.heap.size + 1 ∨ w2.heap.size ≤ g) ∧ (∀ u ∈ us, u ∈ vs) ∧ Kp w2 wr (w.heap.size + 1) ∧ Below w.heap.size w wr) (fun _ ii _ => LL.length - (intOf ii).toNat)
  case atStart => exact ⟨0, _, _, [], rfl, Nat.zero_le _, Nat.le_refl _, rfl, hE2.more, fun g hg => by left; cases hg; exact Nat.lt_succ_self _, by simp, ⟨Nat.le_refl _, fun _ _ _ => rfl⟩, hbw2⟩
  case round =>
    obtain ⟨i, a5, c5, us, rfl, hiN, hui, rfl, ho, hout, hmem, hkp, hbel⟩ := hrel
    clear hE2 hbw2
    have HO := Lib.hid ho
    clear ho
    by_cases hlt : i < LL.length
    · have hlt' : (i : Int) < (LL.length : Int) := by omega
      obtain ⟨hv, hs⟩ := HOK.out _ (List.getElem_mem hlt)
      obtain ⟨gA, aM, cM, rfl, hgl, hgh, hcell, hoM, hvk⟩ := (HALL.out.keep hkp.1 hkp.2).at_ hlt
      obtain ⟨M, hM⟩ : ∃ M, M = LL[i] := ⟨_, rfl⟩
      rw [← hM] at hv hs hcell hoM hvk
      have HV := Lib.hid hv
      have HR := Lib.hid hoM.rd
      clear hv hs hM hoM
      have hkz := hkp.1
      cases hK : K M with
      | false =>
        have HK := Lib.hid hK
        clear hK
        go_wp2_with (go_at_call 43; refine (hSK _ _ _ M _ HV.out HR.out (by omega)).mono ?_; rintro e w3 ⟨rfl, hb3⟩; rw [HK.out])
        go_roundw
        case rel =>
          exact ⟨i + 1, a5, c5, us, by go_num, by omega, by omega, rfl, (HO.out.below hb3).more, hout, hmem, hkp.below hb3, hbel.trans (hb3.mono hbel.size)⟩
        case measure => simp [intOf]; omega
      | true =>
        have HK := Lib.hid hK
        clear hK
        go_wp2_with (first
          | (at_builtin; refine wpList_append_o _ rfl (.tmp 31) (.tmp 36) 32 rfl w.heap.size w3.heap.size 25 i1 (.slice none 0 0) 24 Try.underlying32 hj hy0 hy1 hy2 rfl _ us rfl ((HO.out.below hb3).more.alloc _) (w3.heap.size + 1) (some ⟨w3.heap.size, 0, none⟩) 1 1 [.slice aM M.length cM] rfl (Rd.one w3 _ _) rfl (by intro u hu; rw [List.mem_singleton.1 hu]; rfl) (by unfold maxLen; omega) (by omega) (by rw [World.size_alloc]; have := hbel.size; have := hb3.size; omega) ?_; intro v' w6 ho6 hg6 hat6)
          | (go_at_call 43; refine (hSK _ _ _ M _ HV.out HR.out (by omega)).mono ?_; rintro e w3 ⟨rfl, hb3⟩; rw [HK.out]; have hcell3 := (hb3.cell (p := ⟨gA, i, none⟩) (World.block_lt_of_cell? _ _ hcell)).trans hcell))
        go_roundw
        case rel =>
          have hlow : ∀ g, (Value.slice a5 us.length c5).ownBlock = some g → g < w.heap.size + 1 ∨ w2.heap.size ≤ g := hout
          obtain ⟨a7, c7, rfl⟩ := ho6.form
          rw [show (us ++ [Value.slice aM M.length cM]).length = us.length + 1 from by simp] at ho6 hat6 ⊢
          have hrow := HO.out.base
          refine ⟨i + 1, a7, c7, us ++ [Value.slice aM M.length cM], by go_num, by omega, by simp; omega, by simp, by simpa using ho6, fun g hg => ?_, fun u hu => ?_, ((hkp.below hb3).alloc _).grown hg6 hlow, below_push (hbel.trans (hb3.mono hbel.size)) (Nat.le_refl _) hg6 hrow⟩
          · rcases hat6 with e | e
            · exact hlow g (e ▸ (by simpa using hg))
            · have hg' : (Value.slice a7 (us.length + 1) c7).ownBlock = some g := by simpa using hg
              rw [e] at hg'
              cases hg'
              right
              have := hb3.size
              rw [World.size_alloc]
              omega
          · rcases List.mem_append.1 hu with h | h
            · exact hmem u h
            · rw [List.mem_singleton.1 h]; exact List.mem_of_getElem? hvk
        case measure => simp [intOf]; omega
    · obtain rfl : i = LL.length := by omega
      go_wp2_with fail
      go_ret
      refine ⟨a5, c5, us, rfl, by omega, HO.out, fun u hu => ?_, hbel⟩
      obtain ⟨k, hk, hku⟩ := List.getElem_of_mem (hmem u hu)
      have hAL := HALL.out.keep hkp.1 hkp.2
      have hkl : k < LL.length := by rw [← hAL.len]; exact hk
      refine ⟨LL[k], (HOK.out _ (List.getElem_mem hkl)).2, ?_⟩
      exact (((hAL.inner k u LL[k] (by rw [List.getElem?_eq_getElem hk, hku]) (List.getElem?_eq_getElem hkl)).lower (show w.heap.size ≤ w.heap.size + 1 by omega)).more)
set_option maxHeartbeats 1000000 in
theorem partsOfKindB_any (g q : Nat) (bs : List Int) (s : ByteArray) (K : List Int → Bool) (bk : Bool) (hSK : SKb s K bk) (w : World) (hq : q ≤ 800000) (h : Rdr w g bs q) :
    Calls Try.prog 50 #[.pointer (some ⟨g, 0, none⟩), .string s] w (Drawn g bs SmallParts (q + 4) w) := by
  have hlt := h.lt
  go_enter Try.func50, Try.ntmps50
  go_wp2_with fail
  refine (one_any g _ _ _ _ [6, 8, 9, 5, 10, 4, 12, 3, 1, 0] bs _ (by simp) (by simp) (by omega) (h.below ((Below.refl _ _).alloc hlt _)) (rd_new w _ _) (by intro b o e; injection e with e; injection e with e; omega)).mono ?_
  rintro e w1 ⟨k, hk, rfl, h1, hg1, -⟩
  have hx : ∀ x ∈ ([6, 8, 9, 5, 10, 4, 12, 3, 1, 0] : List Int), 0 ≤ x ∧ x ≤ 12 := by decide
  have hx1 := hx _ (List.getElem_mem hk)
  obtain ⟨x, hxx⟩ : ∃ x, x = ([6, 8, 9, 5, 10, 4, 12, 3, 1, 0] : List Int)[k] := ⟨_, rfl⟩
  rw [← hxx] at hx1 ⊢
  clear hx hxx hk h
  obtain ⟨n, rfl⟩ := Int.eq_ofNat_of_zero_le hx1.1
  have hG1 := chg_trans (World.grownBy_alloc w (.cells (ints [6, 8, 9, 5, 10, 4, 12, 3, 1, 0]).toArray 3) (some g)) hg1
  clear hg1
  go_wp2_with fail
  refine (kindListB_any s K bk hSK n (by omega) _).mono ?_
  rintro e w2 ⟨a2, c2, us, rfl, hul, ho, hin, hb2⟩
  have h2 := h1.below (hb2.mono h1.lt)
  have hG2 := chg_below hG1 (hb2.mono hG1.size)
  have hz1 := hG1.size
  have hz2 := hG2.size
  clear h1 hG1 hb2 hx1
  by_cases h0 : us.length = 0
  · have b0 : ((us.length : Int) == 0) = true := beq_iff_eq.2 (by omega)
    clear ho hin
    go_wp2_with fail
    go_ret
    exact ⟨_, _, [], rfl, ((Own.empty w2 3).lower hz2).more, ⟨by simp, by simp⟩, ⟨q + 1, by omega, h2.below ((Below.refl _ _).alloc h2.lt _)⟩, chg_alloc hG2 _⟩
  · have b0 : ((us.length : Int) == 0) = false := beq_eq_false_iff_ne.2 (by omega)
    have HO := Lib.hid ho
    have HIN := Lib.hid hin
    clear ho hin
    go_wp2_with fail
    refine (pick_any g _ _ bs _ (by omega) (by omega) h2).mono ?_
    rintro e w3 ⟨y, rfl, hy0, hy1, h3, hg3, -⟩
    obtain ⟨j, rfl⟩ := Int.eq_ofNat_of_zero_le hy0
    have hj : j < us.length := by have := hy1 (by omega); omega
    have hlt2 : g < w1.heap.size := by omega
    have HO3 := Lib.hid (HO.out.chg hg3 hlt2).more
    obtain ⟨M, hs, hM⟩ := HIN.out _ (List.getElem_mem hj)
    obtain ⟨gA, cA, hv, hlo, hhi, hc, -⟩ := HO3.out.at_ hj
    have hM3 := (hM.chg hg3 hlt2).more
    obtain ⟨aM, cM, hf⟩ := hM3.form
    rw [List.length_map] at hf
    rw [hf] at hM3 hc
    injection hv with hv _ _
    subst hv
    have HM := Lib.hid (hM3.lower hz1)
    have HS := Lib.hid hs
    have hG3 := chg_trans hG2 hg3
    clear hM hM3 hf hG2 hg3 h2 hs
    go_wp2_with fail
    go_ret
    exact ⟨aM, cM, M, rfl, HM.out, HS.out, ⟨_, by omega, h3⟩, hG3⟩
set_option maxHeartbeats 1000000 in
theorem DrawIsKind_any (a : Option Addr) (c B : Nat) (bs : List Int) (w : World) (h : Rd w B a (bs.map (Value.int .u8))) (hB : B ≤ w.heap.size) (hb : ∀ n ∈ bs, (Lit.int .u8 n).wf = true) (hl : bs.length ≤ 1048576) (hc : bs.length ≤ c) :
    Calls Try.prog 24 #[.slice a bs.length c] w fun e w' => ∃ s M a' c', e = .returned (.tuple #[.string s, .slice a' M.length c']) ∧ Name s ∧ Own w' w.heap.size w'.heap.size 3 (.slice a' M.length c') (ints M) ∧ Small M ∧ Below w.heap.size w w' := by
  go_enter Try.func24, Try.ntmps24
  go_wp2_with fail
  refine (newReader_any _ _ B bs _ h hB hb hl hc).mono ?_
  rintro e w1 ⟨rfl, h1, hb1, hz1⟩
  clear h hB hb hl hc
  go_wp2_with fail
  refine (aName_any _ 0 _ _ (by omega) h1).mono ?_
  rintro e w2 ⟨s, rfl, hs, h2, hg2⟩
  have hA2 := hb1.trans ((Chg.of hg2 (Nat.le_refl _)).below (by omega))
  have hz2 := hg2.size
  clear h1 hg2 hb1
  go_wp2_with fail
  refine (pick_any _ _ 2 _ _ (by omega) (by omega) h2).mono ?_
  rintro e w3 ⟨y, rfl, hp0, hp1, h3, hg3, hz3⟩
  have hA3 := hA2.trans ((Chg.of hg3 (Nat.le_refl _)).below (by omega))
  clear h2 hg3 hA2 hp1
  by_cases y0 : y = 0
  · have b0 : (y == 0) = true := beq_iff_eq.2 y0
    obtain ⟨K, bk, hsk⟩ := skb_any s
    have HSK := Lib.hid hsk
    clear y0 hsk
    go_wp2_with fail
    refine (partsOfKindB_any w.heap.size _ _ s K bk HSK.out _ (by omega) h3).mono ?_
    rintro e w4 ⟨a4, c4, M4, rfl, hoM, hsM, ⟨q4, hq4, h4⟩, hg4⟩
    have hA4 := hA3.trans ((Chg.of hg4 (Nat.le_refl _)).below (by omega))
    have hz4 := hg4.size
    clear h3 hg4 hA3
    go_wp2_with fail
    refine (bent_any w.heap.size q4 w3.heap.size a4 c4 M4 _ w4 (by omega) h4 hsM (hoM) (by omega) (by omega)).mono ?_
    rintro e w5 ⟨a5, c5, M5, rfl, hoM5, hsM5, -, hc5⟩
    have hA5 := hA4.trans (hc5.below (by omega))
    go_wp2_with fail
    go_ret2
    exact ⟨s, M5, a5, c5, rfl, hs, hoM5.lower (by omega), hsM5, hA5⟩
  · have b0 : (y == 0) = false := beq_eq_false_iff_ne.2 y0
    clear y0
    go_wp2_with fail
    refine (someParts_any w.heap.size _ _ _ (by omega) h3).mono ?_
    rintro e w4 ⟨a4, c4, M4, rfl, hoM, hsM, -, hb4⟩
    go_wp2_with fail
    go_ret2
    exact ⟨s, M4, a4, c4, rfl, hs, hoM.lower (by omega), hsM, hA3.trans hb4⟩
end Go.Proofs.Ytifhnjnpbpgjfaa
namespace Go.Proofs.Ytifhnjnpbpgjfaa
open Go.RowKit NP
set_option maxRecDepth 100000
set_option linter.unusedVariables false
set_option linter.unusedSimpArgs false
theorem holdsList_any (a b : Option Addr) (ca cb Ba Bb : Nat) (A : List (List Int)) (L : List Int) (w : World) (h : RdLL w Ba a A) (hm : Rd w Bb b (ints L)) (hl : A.length ≤ 1099511627776) (hil : ∀ X ∈ A, X.length ≤ 4611686018427387904) (hl2 : L.length ≤ 4611686018427387904) :
    Calls Try.prog 28 #[.slice a A.length ca, .slice b L.length cb] w fun e w' => e = .returned (.bool (decide (L ∈ A))) ∧ Dr w w' := by
  go_enter Try.func28, Try.ntmps28
  go_wp2
  go_loopw [5] (fun i wr => ∃ k : Nat, k ≤ A.length ∧ i = .int .i64 k ∧ Dr w wr ∧ Hid (∀ j (hj : j < A.length), j < k → A[j] ≠ L)) (fun i _ => A.length - (intOf i).toNat)
  case atStart => exact ⟨0, Nat.zero_le _, rfl, Dr.refl _, Lib.hid fun j hj h => absurd h (by omega)⟩
  case round =>
    obtain ⟨k, hk, rfl, hdr, HT⟩ := hrel
    by_cases hlt : k < A.length
    · have hlti : (k : Int) < (A.length : Int) := by omega
      have hkw : IntKind.i64.wrap ((k : Int) + 1) = (k : Int) + 1 := IntWalk.i64_in _ (by omega)
      obtain ⟨b1, o1, a1, c1, rfl, -, hc1, hr1, -⟩ := (h.dr hdr).at_ hlt
      have hil1 := hil A[k] (List.getElem_mem hlt)
      have HMEM : Hid (A[k] = L → L ∈ A) := Lib.hid (fun e => e ▸ List.getElem_mem hlt)
      have HNX : Hid (A[k] ≠ L → ∀ j (hj : j < A.length), j < k + 1 → A[j] ≠ L) := Lib.hid (fun h9 j hj hjk => by
        rcases Nat.lt_or_ge j k with h8 | h8
        · exact HT.out j hj h8
        · have : j = k := by omega
          subst this; exact h9)
      generalize A[k] = M at hc1 hr1 hil1 HMEM HNX
      by_cases hx : M = L
      · have HD : Hid (decide (M = L) = true) := Lib.hid (decide_eq_true hx)
        have HF := Lib.hid (HMEM.out hx)
        clear hx
        go_wp2_with fail
        refine (equalInts_any a1 b c1 cb Ba Bb M L _ hr1 (hm.dr hdr) hil1 hl2).mono ?_
        rintro e w' ⟨rfl, n, rfl⟩
        rw [HD.out]
        go_wp2_with fail
        go_ret
        exact ⟨ret_bool (by rw [decide_eq_true HF.out]), hdr.drewN n⟩
      · have HD : Hid (decide (M = L) = false) := Lib.hid (decide_eq_false hx)
        have HF := Lib.hid (HNX.out hx)
        clear hx
        go_wp2_with fail
        refine (equalInts_any a1 b c1 cb Ba Bb M L _ hr1 (hm.dr hdr) hil1 hl2).mono ?_
        rintro e w' ⟨rfl, n, rfl⟩
        rw [HD.out]
        go_wp2_with fail
        go_roundw
        case rel => exact ⟨k + 1, by omega, by go_num, hdr.drewN n, HF⟩
        case measure => simp [intOf]; omega
    · obtain rfl : k = A.length := by omega
      have hge : ¬ (A.length : Int) < (A.length : Int) := by omega
      have HF : Hid (L ∉ A) := Lib.hid (fun hmem => by
        obtain ⟨j, hj, e⟩ := List.getElem_of_mem hmem
        exact HT.out j hj hj e)
      go_wp2_with fail
      go_ret
      exact ⟨ret_bool (by rw [decide_eq_false HF.out]), hdr⟩
end Go.Proofs.Ytifhnjnpbpgjfaa
