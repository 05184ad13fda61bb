/-
  Walks of the program: kinds of parts. Walks: corners of the model and of the program. A row loaded under a guard that holds. Walks: cells taken away and put, of the model and of the program. Walks of the model: kinds of parts; stairs. Walks: the model's kind at three names, its list of the parts of a kind. A function value that tells of each diagram whether something holds of its parts. Walks of the program: parts of a kind led a way.
-/
import Derived.Test.YtifhnjnpbpgjfaaZk1
import Derived.Test.YtifhnjnpbpgjfaaZk2
import Derived.Test.YtifhnjnpbpgjfaaZk3
import Derived.Test.YtifhnjnpbpgjfaaZk4
import Derived.Deep.MidRow
import Derived.Deep.RegionHeld3
import Derived.Deep.RegionLaw
import Derived.Deep.DrawnRows
import Derived.StillTailTactics
import Derived.Shelf.Abstract
namespace Go.Proofs.Ytifhnjnpbpgjfaa
open Go.RowKit NP
set_option maxRecDepth 8000
set_option linter.unusedVariables false
set_option linter.unusedSimpArgs false
theorem cnt_pad {M : List Int} (hM : valid M = true) : cntD (pad M) = M.length := by
  have hlen : M.length ≤ 16 := (valid_bd hM).2.2.2
  unfold cntD
  refine ff_eq (fun j hj => ?_) hlen ?_
  · have h1 := preS_of_valid hM j hj hj
    rw [List.getD_eq_getElem?_getD, List.getElem?_eq_getElem (by rw [pad_len hlen]; omega), Option.getD_some, pad_get hlen hj]
    simp; omega
  · rcases Nat.lt_or_ge M.length 16 with h | h
    · right
      rw [List.getD_eq_getElem?_getD, List.getElem?_eq_getElem (by rw [pad_len hlen]; omega), Option.getD_some, pad_get0 hlen (Nat.le_refl _) h]
      simp
    · left; omega
theorem Blk.one {w : World} {g : Nat} {t : TypeId} {v : Value} (h : Blk w g t #[v]) : w.cell? ⟨g, 0, none⟩ = some v := by rw [h.cell 0]; rfl
theorem upto {k : Nat} {p : Nat → Bool} (H : ∀ j, j < k → p j = true) (h : p k = true) : ∀ j, j < k + 1 → p j = true := fun j hj => by
  rcases Nat.lt_or_ge j k with h1 | h1
  · exact H j h1
  · obtain rfl : j = k := by omega
    exact h

set_option maxHeartbeats 1000000 in
theorem remK_any (m r : Int) (hr : 1 ≤ r ∧ r < m) (hm : m ≤ 100) (g1 g2 : Nat) (L : List Int) (hv : valid L = true) (w : World) (h1 : Blk w g1 3 #[.int .i64 m]) (h2 : Blk w g2 3 #[.int .i64 r]) :
    Calls Try.prog 76 #[.agg (arr (pad L)), .pointer (some ⟨g1, 0, none⟩), .pointer (some ⟨g2, 0, none⟩)] w fun e w' => e = .returned (.bool (kRem m r L)) ∧ Below w.heap.size w w' := by
  have hl16 := (valid_bd hv).2.2.2
  have HV := Lib.hid hv
  have HNN := Lib.hid (getD_nn hv)
  clear hv
  have hB0 := Blk.new w 62 (arr (pad L))
  have hiL : (Try.prog.info? 62).map (·.size) = some (arr (pad L)).size := by rw [arr_size, pad_len hl16]; exact T_info35
  go_enter Try.func76, Try.ntmps76
  go_wp2_with (first | (go_at_call 71; refine (list_any L HV.out _).mono ?_; rintro e w1 ⟨a', rfl, ho1, hb1⟩) | (refine wpList_load_row rfl 62 (.tmp 3) rfl w.heap.size rfl 62 (arr (pad L)) (0, 0) _ hB0 Try.underlying62 rfl hiL ?_))
  have k1 := ((h1.alloc (.cells (arr (pad L)) 62)).below hb1 (by simp; have := h1.lt; omega)).one
  have k2 := ((h2.alloc (.cells (arr (pad L)) 62)).below hb1 (by simp; have := h2.lt; omega)).one
  have hbel : Below w.heap.size w w1 := ((Below.refl _ _).alloc (Nat.le_refl _) _).trans (hb1.mono (by simp))
  have hrd := ho1.rd
  clear hb1 ho1 h1 h2
  go_loop [6, 7, 11] (fun _ _ vi => ∃ k : Nat, k ≤ L.length ∧ vi = .int .i64 k ∧ Hid (∀ j, j < k → (fun j => L.getD j 0 % m == r || L.getD j 0 % m == m - r) j = true)) (fun _ _ vi => L.length - (intOf vi).toNat)
  case atStart => exact ⟨0, Nat.zero_le _, rfl, Lib.hid fun j hj => by omega⟩
  case round =>
    obtain ⟨k, hk, rfl, HP⟩ := hrel
    by_cases hlt : k < L.length
    · have hlt' : (k : Int) < (L.length : Int) := by omega
      obtain ⟨b, o, rfl, _, hc⟩ := hrd.at_ hlt
      have hx := HNN.out k
      have hg : L.getD k 0 = L[k] := getD_lt hlt
      rw [hg] at hx
      have HG := Lib.hid hg
      clear hg
      generalize L[k] = x at hc hx HG
      obtain ⟨q, hq⟩ : ∃ q, x % m = q := ⟨_, rfl⟩
      have hq0 : x.tmod m = q := by rw [Int.tmod_eq_emod_of_nonneg hx.1]; exact hq
      have hqb : 0 ≤ q ∧ q < m := ⟨hq ▸ Int.emod_nonneg _ (by omega), hq ▸ Int.emod_lt_of_pos _ (by omega)⟩
      have HQ := Lib.hid hq
      by_cases e1 : q = r
      · have b1 : (q != r) = false := by simp [e1]
        clear e1
        go_wp2_with fail
        go_round
        case rel => exact ⟨k + 1, by omega, by go_num, Lib.hid (upto HP.out (by show (L.getD k 0 % m == r || L.getD k 0 % m == m - r) = true; rw [HG.out, HQ.out]; have := bne_eq_false_iff_eq.1 b1; simp [this]))⟩
        case measure => simp [intOf]; omega
      · have b1 : (q != r) = true := by simpa using e1
        by_cases e2 : q = m - r
        · have b2 : (q != m - r) = false := by simp [e2]
          clear e1
          have HE := Lib.hid e2
          clear e2
          go_wp2_with fail
          go_round
          case rel => exact ⟨k + 1, by omega, by go_num, Lib.hid (upto HP.out (by show (L.getD k 0 % m == r || L.getD k 0 % m == m - r) = true; rw [HG.out, HQ.out]; simp [HE.out]))⟩
          case measure => simp [intOf]; omega
        · have b2 : (q != m - r) = true := by simpa using e2
          have HF : Hid (kRem m r L = false) := Lib.hid (allTo_no hlt (by show (L.getD k 0 % m == r || L.getD k 0 % m == m - r) = false; rw [HG.out, HQ.out]; simp [e1, e2]))
          clear e1 e2
          go_wp2_with fail
          go_ret
          exact ⟨ret_bool HF.out.symm, hbel⟩
    · obtain rfl : k = L.length := by omega
      have HF : Hid (kRem m r L = true) := Lib.hid (allTo_yes HP.out)
      go_wp2
      go_ret
      exact ⟨ret_bool HF.out.symm, hbel⟩

set_option maxHeartbeats 1000000 in
theorem fallK_any (s t : Int) (hs : 0 ≤ s ∧ s ≤ 100) (ht : 0 ≤ t ∧ t ≤ 100) (g1 g2 : Nat) (L : List Int) (hv : valid L = true) (w : World) (h1 : Blk w g1 3 #[.int .i64 s]) (h2 : Blk w g2 3 #[.int .i64 t]) :
    Calls Try.prog 77 #[.agg (arr (pad L)), .pointer (some ⟨g1, 0, none⟩), .pointer (some ⟨g2, 0, none⟩)] w fun e w' => e = .returned (.bool (kFall s t L)) ∧ Below w.heap.size w w' := by
  have hl16 := (valid_bd hv).2.2.2
  have HNN := Lib.hid (getD_nn hv)
  have HC := Lib.hid (cnt_pad hv)
  have HPL := Lib.hid (pad_len hl16)
  clear hv
  have hB0 := Blk.new w 62 (arr (pad L))
  have hiL : (Try.prog.info? 62).map (·.size) = some (arr (pad L)).size := by rw [arr_size, pad_len hl16]; exact T_info35
  go_enter Try.func77, Try.ntmps77
  go_wp2_with (first | (go_at_call 78; refine (count_any (pad L) HPL.out _).mono ?_; rintro e w1 ⟨rfl, hb1⟩; rw [HC.out]) | (refine wpList_load_row rfl 62 (.tmp 3) rfl w.heap.size rfl 62 (arr (pad L)) (0, 0) _ hB0 Try.underlying62 rfl hiL ?_))
  have k1 := (h1.alloc (.cells (arr (pad L)) 62)).below hb1 (by simp; have := h1.lt; omega)
  have k2 := (h2.alloc (.cells (arr (pad L)) 62)).below hb1 (by simp; have := h2.lt; omega)
  have k0 := (Blk.new w 62 (arr (pad L))).below hb1 (by simp)
  have hbel : Below w.heap.size w w1 := ((Below.refl _ _).alloc (Nat.le_refl _) _).trans (hb1.mono (by simp))
  clear hb1 h1 h2
  go_loopw [5, 6, 10] (fun _ _ vi wr => ∃ k : Nat, k ≤ L.length - 1 ∧ vi = .int .i64 k ∧ Dr w1 wr ∧ Hid (∀ j, j < k → (fun j => decide ((if L.getD j 0 % 3 = 0 then t else s) ≤ L.getD j 0 - L.getD (j + 1) 0)) j = true)) (fun _ _ vi _ => L.length - (intOf vi).toNat)
  case atStart => exact ⟨0, Nat.zero_le _, rfl, Dr.refl _, Lib.hid fun j hj => by omega⟩
  case round =>
    obtain ⟨k, hk, rfl, hdr, HP⟩ := hrel
    have hbd := hdr.below w1.heap.size
    have c1 := (k1.below hbd k1.lt).one
    have c2 := (k2.below hbd k2.lt).one
    have c0 := k0.below hbd k0.lt
    by_cases hlt : k < L.length - 1
    · have hlt' : (k : Int) < (L.length : Int) - 1 := by omega
      have hp16 : k < 16 := by omega
      have hp17 : k + 1 < 16 := by omega
      have hk16 : (k : Int) < 16 := by omega
      have hk17 : (k : Int) + 1 < 16 := by omega
      have hc := c0.cell k
      have hc' := c0.cell (k + 1)
      rw [arr_get _ k (by rw [HPL.out]; omega)] at hc
      rw [arr_get _ (k + 1) (by rw [HPL.out]; omega)] at hc'
      rw [pad_get hl16 (by omega)] at hc hc'
      have hx := HNN.out k
      have hy := HNN.out (k + 1)
      have hg : L.getD k 0 = L[k] := getD_lt (by omega)
      have hg' : L.getD (k + 1) 0 = L[k + 1] := getD_lt (by omega)
      rw [hg] at hx
      rw [hg'] at hy
      have HG := Lib.hid hg
      have HG' := Lib.hid hg'
      clear hg hg' c0
      generalize L[k] = x at hc hx HG
      generalize L[k + 1] = y at hc' hy HG'
      obtain ⟨q, hq⟩ : ∃ q, x % 3 = q := ⟨_, rfl⟩
      have hq0 : x.tmod 3 = q := by rw [Int.tmod_eq_emod_of_nonneg hx.1]; exact hq
      have HQ := Lib.hid hq
      by_cases e1 : q = 0
      · have b1 : (q == 0) = true := by simp [e1]
        have HT : Hid ((if x % 3 = 0 then t else s) = t) := Lib.hid (by rw [hq, if_pos e1])
        clear e1
        by_cases e2 : x - y < t
        · have HF : Hid (kFall s t L = false) := Lib.hid (allTo_no hlt (by rw [HG.out, HG'.out, HT.out]; simpa using e2))
          go_wp2_with fail
          go_quiet (fail)
          go_wp2
          go_ret
          exact ⟨ret_bool HF.out.symm, hbel.trans ((hdr.trans (Dr.n _ _)).below _)⟩
        · have e3 : t ≤ x - y := by omega
          clear e2
          go_wp2_with fail
          go_quiet (fail)
          go_wp2
          go_roundw
          case rel => exact ⟨k + 1, by omega, by go_num, hdr.drewN _, Lib.hid (upto HP.out (by show decide (_ ≤ _) = true; rw [HG.out, HG'.out, HT.out]; simpa using e3))⟩
          case measure => simp [intOf]; omega
      · have b1 : (q == 0) = false := by simpa using e1
        have HT : Hid ((if x % 3 = 0 then t else s) = s) := Lib.hid (by rw [hq, if_neg e1])
        clear e1
        by_cases e2 : x - y < s
        · have HF : Hid (kFall s t L = false) := Lib.hid (allTo_no hlt (by rw [HG.out, HG'.out, HT.out]; simpa using e2))
          go_wp2_with fail
          go_quiet (fail)
          go_wp2
          go_ret
          exact ⟨ret_bool HF.out.symm, hbel.trans ((hdr.trans (Dr.n _ _)).below _)⟩
        · have e3 : s ≤ x - y := by omega
          clear e2
          go_wp2_with fail
          go_quiet (fail)
          go_wp2
          go_roundw
          case rel => exact ⟨k + 1, by omega, by go_num, hdr.drewN _, Lib.hid (upto HP.out (by show decide (_ ≤ _) = true; rw [HG.out, HG'.out, HT.out]; simpa using e3))⟩
          case measure => simp [intOf]; omega
    · have hge : ¬ (k : Int) < (L.length : Int) - 1 := by omega
      obtain rfl : k = L.length - 1 := by omega
      have HF : Hid (kFall s t L = true) := Lib.hid (allTo_yes HP.out)
      clear hlt
      go_wp2
      go_ret
      exact ⟨ret_bool HF.out.symm, hbel.trans (hdr.below _)⟩

set_option maxHeartbeats 1000000 in
theorem noOneK_any (L : List Int) (hv : valid L = true) (w : World) :
    Calls Try.prog 60 #[.agg (arr (pad L))] w fun e w' => e = .returned (.bool (kNoOne L)) ∧ Below w.heap.size w w' := by
  have hl16 := (valid_bd hv).2.2.2
  have HPL := Lib.hid (pad_len hl16)
  have HNN := Lib.hid (getD_nn hv)
  clear hv
  have hB0 := Blk.new w 62 (arr (pad L))
  have hiL : (Try.prog.info? 62).map (·.size) = some (arr (pad L)).size := by rw [arr_size, pad_len hl16]; exact T_info35
  go_enter Try.func60, Try.ntmps60
  go_wp2_with (refine wpList_load_row rfl 62 (.tmp 1) rfl w.heap.size rfl 62 (arr (pad L)) (0, 0) _ hB0 Try.underlying62 rfl hiL ?_)
  go_loop [4, 6] (fun _ vi => ∃ k : Nat, k ≤ 16 ∧ vi = .int .i64 k ∧ Hid (∀ j, j < k → (fun j => decide (L.getD j 0 ≠ 1)) j = true)) (fun _ vi => 16 - (intOf vi).toNat)
  case atStart => exact ⟨0, Nat.zero_le _, rfl, Lib.hid fun j hj => by omega⟩
  case round =>
    obtain ⟨k, hk, rfl, HP⟩ := hrel
    by_cases hlt : k < 16
    · have hlt' : (k : Int) < 16 := by omega
      have hkp : k < (pad L).length := by rw [HPL.out]; exact hlt
      have hidx := T_index (pad L) k hkp hlt
      have hg : (pad L)[k] = L.getD k 0 := by rw [← getD_lt hkp, pad_getD hl16]
      rw [hg] at hidx
      have hx := HNN.out k
      obtain ⟨x, hxx⟩ : ∃ x, x = L.getD k 0 := ⟨_, rfl⟩
      rw [← hxx] at hidx hx
      have HX := Lib.hid hxx
      clear hxx hg
      by_cases e1 : x = 1
      · have b1 : (x == 1) = true := by simp [e1]
        have hkl : k < L.length := by
          rcases Nat.lt_or_ge k L.length with h | h
          · exact h
          · rw [HX.out, getD_ge h] at e1; omega
        have HF : Hid (kNoOne L = false) := Lib.hid (allTo_no hkl (by rw [← HX.out, e1]; rfl))
        clear e1
        go_wp2
        go_ret
        exact ⟨ret_bool HF.out.symm, (Below.refl _ _).alloc (Nat.le_refl _) _⟩
      · have b1 : (x == 1) = false := by simpa using e1
        go_wp2
        go_round
        case rel => exact ⟨k + 1, by omega, by go_num, Lib.hid (upto HP.out (by show decide (_ ≠ _) = true; rw [← HX.out]; simpa using e1))⟩
        case measure => simp [intOf]; omega
    · obtain rfl : k = 16 := by omega
      have HF : Hid (kNoOne L = true) := Lib.hid (allTo_yes fun j hj => HP.out j (by omega))
      go_wp2
      go_ret
      exact ⟨ret_bool HF.out.symm, (Below.refl _ _).alloc (Nat.le_refl _) _⟩

theorem T_eqd (D E : List Int) (hD : D.length = 16) (hE : E.length = 16) (w : World) : (Op.equalIn 10000 62 (.agg (arr D)) (.agg (arr E))).run Try.prog w = .ok (decide (D = E)) w := by
  obtain ⟨i, hi⟩ := info_of_underlying Try.underlying3
  exact run_equal_arr Try.underlying62 Try.underlying3 (by kernel_rfl) hi (by kernel_rfl) D E hD hE w
theorem pad_inj {L M : List Int} (hL : valid L = true) (hM : valid M = true) (h : pad L = pad M) : L = M := by
  have h1 := cnt_pad hL
  have h2 := cnt_pad hM
  rw [h] at h1
  have e1 := pad_take (L := L)
  have e2 := pad_take (L := M)
  rw [h, ← h1, h2, e2] at e1
  exact e1.symm
set_option maxHeartbeats 2000000 in
theorem selfK_any (L : List Int) (hv : valid L = true) (w : World) :
    Calls Try.prog 57 #[.agg (arr (pad L))] w fun e w' => e = .returned (.bool (kSelf L)) ∧ Below w.heap.size w w' := by
  have hl16 := (valid_bd hv).2.2.2
  have HPL := Lib.hid (pad_len hl16)
  have HNP := Lib.hid (pad_nonneg hv)
  have hcv := valid_conj hv
  have hcl := (valid_bd hcv).2.2.2
  have hq : decide (pad L = pad (conj L)) = kSelf L := by
    unfold kSelf
    rw [decide_eq_decide]
    constructor
    · intro h; exact (pad_inj hv hcv h)
    · intro h; rw [← h]
  have HQ := Lib.hid hq
  have hca := (acc_end (pad L) (pad_len hl16)).trans (conj_pad hv)
  have HCA := Lib.hid hca
  have heq : ∀ w : World, (Op.equalIn 10000 62 (.agg (ints (pad L)).toArray) (.agg (arr (pad (conj L))))).run Try.prog w = .ok (decide (pad L = pad (conj L))) w := T_eqd (pad L) (pad (conj L)) (pad_len hl16) (pad_len hcl)
  have hgt : Try.prog.eqGuardType Try.prog.depth 62 = false := by kernel_rfl
  have hB0 := Blk.new w 62 (arr (pad L))
  have hiL : (Try.prog.info? 62).map (·.size) = some (arr (pad L)).size := by rw [arr_size, pad_len hl16]; exact T_info35
  have hbel0 : Below w.heap.size w (w.alloc (.cells (arr (pad L)) 62)) := (Below.refl _ _).alloc (Nat.le_refl _) _
  have hr0 : (w.alloc (.cells (arr (pad L)) 62)).rangeAt w.heap.size 0 (ints (pad L)) := Blk.range (vs := ints (pad L)) hB0
  have hu := Try.underlying62
  have hiL' : (Try.prog.info? 62).map (·.size) = some (ints (pad L)).length := by rw [List.length_map, pad_len hl16]; exact T_info35
  clear hv hq hca
  go_enter Try.func57, Try.ntmps57
  go_wp2_with fail
  refine wp_region_held_drew (S := fun w' => w'.rangeAt w.heap.size 0 (ints (pad L)) ∧ Below w.heap.size w w') (by kernel_rfl) ⟨hr0, hbel0.trans ((Dr.n _ 1).below _)⟩ (fun hHeld => ?_)
  refine wpAnyH_take (i := 0) (v := _) (by simp only [List.getElem?_toArray, List.getElem?_cons_succ, List.getElem?_cons_zero]; exact rfl) (by kernel_rfl) (by kernel_rfl) (by kernel_rfl) (by intro _ _ _ h; exact h) (yieldsIf_load_mid (by kernel_rfl) _ _ rfl w.heap.size 0 rfl (ints (pad L)) _ (fun _ hw => hw.1) hu rfl hiL') (by assumption) ?_
  simp only [Act.put, List.setIfInBounds_toArray, List.set_cons_zero, List.set_cons_succ, List.toList_toArray]
  refine wpAnyH_take (i := 1) (v := _) (by simp only [List.getElem?_toArray, List.getElem?_cons_succ, List.getElem?_cons_zero]; exact rfl) (by kernel_rfl) (by kernel_rfl) (by kernel_rfl) (by intro _ _ _ h; exact h) (yieldsIf_load_mid (by kernel_rfl) _ _ rfl w.heap.size 0 rfl (ints (pad L)) _ (fun _ hw => hw.1) hu rfl hiL') (by assumption) ?_
  simp only [Act.put, List.setIfInBounds_toArray, List.set_cons_zero, List.set_cons_succ, List.toList_toArray]
  refine wpAnyH_ready (rs := [2]) (by kernel_rfl) (by simp) ?_
  refine AllReadyH.cons (o := _) (by simp only [List.getElem?_toArray, List.getElem?_cons_succ, List.getElem?_cons_zero]; exact rfl) (fun K hK => ?_) AllReadyH.nil
  rw [if_pos (by rfl)]
  go_simp
  go_at_call 79
  refine (conjugate_any (pad L) HPL.out HNP.out _).mono ?_
  rintro e w1 ⟨rfl, hb1⟩
  rw [HCA.out]
  refine hK.out _ _ ⟨range_below hHeld.1 hb1, hHeld.2.trans (hb1.mono hHeld.2.size)⟩ (fun hH2 => ?_)
  clear hK K
  try simp only [Act.put, List.setIfInBounds_toArray, List.set_cons_zero, List.set_cons_succ, List.toList_toArray]
  refine wpAnyH_take (i := 3) (v := .bool (decide (pad L = pad (conj L)))) (by simp only [List.getElem?_toArray, List.getElem?_cons_succ, List.getElem?_cons_zero]; exact rfl) (by kernel_rfl) (by kernel_rfl) (by kernel_rfl) (by intro _ _ _ h; exact h) (Or.inl ⟨by kernel_rfl, by intro w hSw; go_simp⟩) (by assumption) ?_
  simp only [Act.put, List.setIfInBounds_toArray, List.set_cons_zero, List.set_cons_succ, List.toList_toArray]
  refine wpAnyH_take (i := 4) (v := .bool (decide (pad L = pad (conj L)))) (by simp only [List.getElem?_toArray, List.getElem?_cons_succ, List.getElem?_cons_zero]; exact rfl) (by kernel_rfl) (by kernel_rfl) (by kernel_rfl) (by intro _ _ _ h; exact h) (Or.inl ⟨by kernel_rfl, by intro w hSw; go_simp⟩) (by assumption) ?_
  simp only [Act.put, List.setIfInBounds_toArray, List.set_cons_zero, List.set_cons_succ, List.toList_toArray]
  refine wpAnyH_done (by kernel_rfl) ?_ _
  try simp only [Act.put, List.setIfInBounds_toArray, List.set_cons_zero, List.set_cons_succ]
  go_wp2_with fail
  go_ret
  exact ⟨ret_bool HQ.out, hH2.2⟩
end Go.Proofs.Ytifhnjnpbpgjfaa
namespace Go.Proofs.Ytifhnjnpbpgjfaa
open Go.RowKit NP
set_option maxRecDepth 8000
set_option linter.unusedVariables false





end Go.Proofs.Ytifhnjnpbpgjfaa
namespace Go.Proofs.Ytifhnjnpbpgjfaa
open Go.RowKit
theorem wpList_load_row_g {P : Program} {ops : Array Oper} {rest : List Oper} {o : Oper} {a : Act} {w : World} {Q : Exit → Act → World → Prop} (hgd : Region.wanted o (yielded ops a.tmps) = true) (ty : TypeId) (x : Operand) (ho : o.op = .load ty x)
    (g : Nat) (hx : a.eval x = .pointer (some ⟨g, 0, none⟩)) (t : TypeId) (cs : Array Value) (fr : Nat × Nat) (d : TypeDesc) (hg : w.heap[g]? = some (.cells cs t fr))
    (hu : P.underlying ty = some d) (hd : (match d with | .struct _ | .array _ _ => true | _ => false) = true) (hi : (P.info? ty).map (·.size) = some cs.size)
    (h : wpList P ops Q rest (a.put o.dst (.agg cs)) w) : wpList P ops Q (o :: rest) a w :=
  wpList_step fun K hK => by
    rw [if_pos hgd]
    exact wp_load_row ty x ho g hx t cs fr d hg hu hd hi (hK _ _ h)
end Go.Proofs.Ytifhnjnpbpgjfaa
namespace Go.Proofs.Ytifhnjnpbpgjfaa
open Go.RowKit NP
set_option maxRecDepth 8000
set_option linter.unusedVariables false

theorem Own.take {w : World} {lo hi : Nat} {e : TypeId} {a : Option Addr} {n c : Nat} {vs : List Value} (h : Own w lo hi e (.slice a n c) vs) (k : Nat) (hk : k ≤ vs.length) : Own w lo hi e (.slice a k c) (vs.take k) := by
  refine ⟨?_, fun g hg => h.lt g (by cases a with | none => cases hg | some b => exact hg), h.le⟩
  have hlen : (vs.take k).length = k := by simp; omega
  rw [hlen]
  refine ⟨by rw [hlen]; omega, ?_⟩
  rcases h.row.2 with ⟨e1, e2⟩ | ⟨g, cap, cur, e1, hb, hg, hc, hm, hs, ht⟩
  · injection e1 with e3 e4 e5
    subst e3; subst e5
    have : k = 0 := by omega
    subst this
    exact .inl ⟨rfl, rfl⟩
  · injection e1 with e3 e4 e5
    subst e3; subst e5
    refine .inr ⟨g, c, cur, rfl, hb, hg, by omega, hm, hs, ?_⟩
    rw [← ht, List.take_take]
    congr 1
    omega

theorem hasInt_any (a : Option Addr) (c B : Nat) (M : List Int) (n : Int) (w : World) (h : Rd w B a (ints M)) (hl : M.length ≤ 4611686018427387904) :
    Calls Try.prog 68 #[.slice a M.length c, .int .i64 n] w fun e w' => e = .returned (.bool (hasI M n)) ∧ w = w' := by
  go_enter Try.func68, Try.ntmps68
  go_wp2
  go_loop [5] (fun i => ∃ k : Nat, k ≤ M.length ∧ i = .int .i64 k ∧ Hid (∀ j (hj : j < M.length), j < k → M[j] ≠ n)) (fun i => M.length - (intOf i).toNat)
  case atStart => exact ⟨0, Nat.zero_le _, rfl, Lib.hid fun j _ hj => by omega⟩
  case round =>
    obtain ⟨k, hk, rfl, HP⟩ := hrel
    by_cases hlt : k < M.length
    · obtain ⟨b, o, rfl, _, hc⟩ := h.at_ hlt
      by_cases hx : M[k] = n
      · have hxb : (M[k] == n) = true := beq_iff_eq.2 hx
        have HX := Lib.hid hx
        clear hx
        go_wp2
        go_ret
        exact ⟨ret_bool (by unfold hasI; rw [eq_comm, decide_eq_true_eq, ← HX.out]; exact List.getElem_mem hlt), rfl⟩
      · have hxb : (M[k] == n) = false := beq_eq_false_iff_ne.2 hx
        have HX := Lib.hid hx
        clear hx
        go_wp2
        go_round
        case rel => exact ⟨k + 1, by omega, by go_num, Lib.hid fun j hj hjk => by
          rcases Nat.lt_or_ge j k with h | h
          · exact HP.out j hj h
          · obtain rfl : j = k := by omega
            exact HX.out⟩
        case measure => simp [intOf]; omega
    · obtain rfl : k = M.length := by omega
      go_wp2
      go_ret
      exact ⟨ret_bool (by
        unfold hasI
        rw [eq_comm, decide_eq_false_iff_not]
        intro hm
        obtain ⟨j, hj, e⟩ := List.mem_iff_getElem.1 hm
        exact HP.out j hj hj e), rfl⟩


theorem rmvOk_no {L : List Int} (h : valid L = false) (i : Int) : rmvOk L i = false := by simp [rmvOk, h]
theorem rmvOk_yes {L : List Int} (h : valid L = true) (i : Int) : rmvOk L i = hasI (crn L) i := by
  unfold rmvOk crn
  rw [h, Bool.true_and, crnTo_fl, hasI_fl]
theorem rmv_no {L : List Int} {i : Int} (h : rmvOk L i = false) : rmv L i = [] := by simp [rmv, h]
theorem rmv_yes {L : List Int} {i : Int} (h : rmvOk L i = true) : ∃ k : Nat, i = k ∧ k < L.length ∧ isC L k = true ∧ valid L = true ∧ rmv L i = lessL L k := by
  have h2 := h
  unfold rmvOk at h
  simp only [Bool.and_eq_true, decide_eq_true_eq] at h
  obtain ⟨hv, ⟨h0, hlt⟩, hc⟩ := h
  obtain ⟨k, rfl⟩ := Int.eq_ofNat_of_zero_le h0
  refine ⟨k, rfl, by omega, hc, hv, ?_⟩
  unfold rmv
  rw [if_pos h2]
  rfl
theorem own_nil0 (w : World) (lo : Nat) (e : TypeId) : Own w lo w.heap.size e (.slice none ([] : List Int).length 0) (ints []) := Own.nil w lo e

theorem addOk_no {L : List Int} (h : valid L = false) (i : Int) : addOk L i = false := by simp [addOk, h]
theorem addC_no {L : List Int} {i : Int} (h : addOk L i = false) : addC L i = [] := by simp [addC, h]
theorem addC_yes {L : List Int} {i : Int} (h : addOk L i = true) : addC L i = addL L i.toNat := by simp [addC, h]
theorem addOk_at {L : List Int} (hv : valid L = true) {k : Nat} (hk : k ≤ L.length) : addOk L k = valid (addL L k) := by
  unfold addOk
  rw [hv, decide_eq_true (by omega : (0 : Int) ≤ (k : Int)), decide_eq_true (by omega : (k : Int) ≤ (L.length : Int))]
  rfl
theorem addOk_out {L : List Int} {i : Int} (h : ¬ (0 ≤ i ∧ i ≤ L.length)) : addOk L i = false := by
  unfold addOk
  rcases Int.lt_or_le i 0 with h0 | h0
  · rw [decide_eq_false (by omega : ¬ 0 ≤ i)]; simp
  · rw [decide_eq_false (by omega : ¬ i ≤ (L.length : Int))]; simp
theorem Blk.drs {w : World} {g : Nat} {t : TypeId} {cs : Array Value} (h : Blk w g t cs) (n : Nat) : Blk (w.drewN n) g t cs := h

end Go.Proofs.Ytifhnjnpbpgjfaa
namespace Go.Proofs.Ytifhnjnpbpgjfaa
open Go.RowKit NP
set_option maxRecDepth 8000
set_option linter.unusedVariables false
set_option linter.unusedSimpArgs false

set_option maxHeartbeats 1000000 in
theorem gaps_any (a : Option Addr) (c B : Nat) (L : List Int) (d : Int) (hd : 0 ≤ d ∧ d ≤ 100) (hv : valid L = true) (w : World) (h : Rd w B a (ints L)) :
    Calls Try.prog 64 #[.slice a L.length c, .int .i64 d] w fun e w' => e = .returned (.bool (kFall d d L)) ∧ ∃ n, w' = w.drewN n := by
  have hl16 := (valid_bd hv).2.2.2
  have HNN := Lib.hid (getD_nn hv)
  clear hv
  go_enter Try.func64, Try.ntmps64
  go_wp2
  go_loopw [5] (fun vi wr => ∃ k : Nat, k ≤ L.length - 1 ∧ vi = .int .i64 k ∧ Dr w wr ∧ Hid (∀ j, j < k → (fun j => decide ((if L.getD j 0 % 3 = 0 then d else d) ≤ L.getD j 0 - L.getD (j + 1) 0)) j = true)) (fun vi _ => L.length - (intOf vi).toNat)
  case atStart => exact ⟨0, Nat.zero_le _, rfl, Dr.refl _, Lib.hid fun j hj => by omega⟩
  case round =>
    obtain ⟨k, hk, rfl, hdr, HP⟩ := hrel
    by_cases hlt : k < L.length - 1
    · have hlt' : (k : Int) + 1 < (L.length : Int) := by omega
      have hR := h.dr hdr
      have hk0 : k < L.length := by omega
      have hk1 : k + 1 < L.length := by omega
      obtain ⟨b, o, rfl, _, hc⟩ := hR.at_ hk0
      obtain ⟨b', o', e', -, hc'⟩ := hR.at_ hk1
      injection e' with e'; injection e' with e2 e3; subst e2 e3
      have hx := HNN.out k
      have hy := HNN.out (k + 1)
      have hg : L.getD k 0 = L[k] := getD_lt hk0
      have hg' : L.getD (k + 1) 0 = L[k + 1] := getD_lt hk1
      rw [hg] at hx
      rw [hg'] at hy
      have HG := Lib.hid hg
      have HG' := Lib.hid hg'
      have HT : Hid (∀ x : Int, (if x % 3 = 0 then d else d) = d) := Lib.hid fun x => by split <;> rfl
      clear hg hg'
      generalize L[k] = x at hc hx HG
      generalize L[k + 1] = y at hc' hy HG'
      by_cases e2 : x - y < d
      · have HF : Hid (kFall d d L = false) := Lib.hid (allTo_no hlt (by rw [HG.out, HG'.out, HT.out]; simpa using e2))
        go_wp2_with fail
        go_quiet (fail)
        go_wp2
        go_ret
        exact ⟨ret_bool HF.out.symm, hdr.trans (Dr.n _ _)⟩
      · have e3 : d ≤ x - y := by omega
        clear e2
        go_wp2_with fail
        go_quiet (fail)
        go_wp2
        go_roundw
        case rel => exact ⟨k + 1, by omega, by go_num, hdr.drewN _, Lib.hid (upto HP.out (by show decide (_ ≤ _) = true; rw [HG.out, HG'.out, HT.out]; simpa using e3))⟩
        case measure => simp [intOf]; omega
    · have hge : ¬ (k : Int) + 1 < (L.length : Int) := by omega
      obtain rfl : k = L.length - 1 := by omega
      have HF : Hid (kFall d d L = true) := Lib.hid (allTo_yes HP.out)
      clear hlt
      go_wp2
      go_ret
      exact ⟨ret_bool HF.out.symm, hdr⟩

set_option maxHeartbeats 1000000 in
theorem same_any (a b : Option Addr) (ca cb Ba Bb : Nat) (L M : List Int) (hl : L.length ≤ 1000) (w : World) (h : Rd w Ba a (ints L)) (hm : Rd w Bb b (ints M)) (hml : M.length ≤ 1000) :
    Calls Try.prog 65 #[.slice a L.length ca, .slice b M.length cb] w fun e w' => e = .returned (.bool (decide (L = M))) ∧ ∃ n, w' = w.drewN n := by
  by_cases hlen : L.length = M.length
  · have b0 : ((L.length : Int) != (M.length : Int)) = false := by simp [hlen]
    go_enter Try.func65, Try.ntmps65
    go_wp2_with fail
    clear b0
    go_loopw [5] (fun vi wr => ∃ k : Nat, k ≤ L.length ∧ vi = .int .i64 k ∧ Dr w wr ∧ Hid (∀ j, j < k → L.getD j 0 = M.getD j 0)) (fun vi _ => L.length - (intOf vi).toNat)
    case atStart => exact ⟨0, Nat.zero_le _, rfl, Dr.refl _, Lib.hid fun j hj => by omega⟩
    case round =>
      obtain ⟨k, hk, rfl, hdr, HP⟩ := hrel
      by_cases hlt : k < L.length
      · have hlt' : (k : Int) < (L.length : Int) := by omega
        have hltm : k < M.length := by omega
        have hlt'm : (k : Int) < (M.length : Int) := by omega
        obtain ⟨b1, o1, rfl, _, hc⟩ := (h.dr hdr).at_ hlt
        obtain ⟨b2, o2, rfl, _, hc'⟩ := (hm.dr hdr).at_ hltm
        have HG : Hid (L.getD k 0 = L[k]) := Lib.hid (getD_lt hlt)
        have HG' : Hid (M.getD k 0 = M[k]) := Lib.hid (getD_lt hltm)
        by_cases e1 : L[k] = M[k]
        · have HE : Hid (L.getD k 0 = M.getD k 0) := Lib.hid (by rw [HG.out, HG'.out, e1])
          have b1 : (L[k] != M[k]) = false := by simp [e1]
          clear e1 hlen
          generalize L[k] = x at hc HG b1
          generalize M[k] = y at hc' HG' b1
          go_wp2_with fail
          go_quiet (fail)
          go_wp2
          go_roundw
          case rel => exact ⟨k + 1, by omega, by go_num, hdr.drewN _, Lib.hid fun j hj => by
            rcases Nat.lt_or_ge j k with h1 | h1
            · exact HP.out j h1
            · obtain rfl : j = k := by omega
              exact HE.out⟩
          case measure => simp [intOf]; omega
        · have HF : Hid (decide (L = M) = false) := Lib.hid (decide_eq_false fun hc => e1 (by subst hc; rfl))
          have b1 : (L[k] != M[k]) = true := by simpa using e1
          clear e1 hlen
          generalize L[k] = x at hc HG b1
          generalize M[k] = y at hc' HG' b1
          go_wp2_with fail
          go_quiet (fail)
          go_wp2
          go_ret
          exact ⟨ret_bool HF.out.symm, hdr.trans (Dr.n _ _)⟩
      · obtain rfl : k = L.length := by omega
        have HF : Hid (decide (L = M) = true) := Lib.hid (decide_eq_true (List.ext_getElem hlen fun j h1 h2 => by
          have := HP.out j h1
          rwa [getD_lt h1, getD_lt h2] at this))
        clear hlen
        go_wp2
        go_ret
        exact ⟨ret_bool HF.out.symm, hdr⟩
  · have b0 : ((L.length : Int) != (M.length : Int)) = true := by simp; omega
    have HF : Hid (decide (L = M) = false) := Lib.hid (decide_eq_false fun hc => hlen (by rw [hc]))
    clear hlen
    go_enter Try.func65, Try.ntmps65
    go_wp2_with fail
    go_ret
    exact ⟨ret_bool HF.out.symm, 0, rfl⟩

/-- whether all leave one of some remainders -/
def remIn (m : Int) (R : List Int) (L : List Int) : Bool := allTo (fun j => hasI R (L.getD j 0 % m)) L.length
set_option maxHeartbeats 1000000 in
theorem allRemain_any (a b : Option Addr) (c cb Bb B : Nat) (L R : List Int) (m : Int) (hm : 1 ≤ m ∧ m ≤ 100) (hv : valid L = true) (w : World) (h : Rd w B a (ints L)) (hr : Rd w Bb b (ints R)) (hrl : R.length ≤ 1000) :
    Calls Try.prog 63 #[.slice a L.length c, .int .i64 m, .slice b R.length cb] w fun e w' => e = .returned (.bool (remIn m R L)) ∧ w = w' := by
  have hl16 := (valid_bd hv).2.2.2
  have HNN := Lib.hid (getD_nn hv)
  clear hv
  go_enter Try.func63, Try.ntmps63
  go_wp2
  go_loop [7] (fun vi => ∃ k : Nat, k ≤ L.length ∧ vi = .int .i64 k ∧ Hid (∀ j, j < k → (fun j => hasI R (L.getD j 0 % m)) j = true)) (fun vi => L.length - (intOf vi).toNat)
  case atStart => exact ⟨0, Nat.zero_le _, rfl, Lib.hid fun j hj => by omega⟩
  case round =>
    obtain ⟨k, hk, rfl, HP⟩ := hrel
    by_cases hlt : k < L.length
    · have hlt' : (k : Int) < (L.length : Int) := by omega
      obtain ⟨b1, o1, rfl, _, hc⟩ := h.at_ hlt
      have hx := HNN.out k
      have hg : L.getD k 0 = L[k] := getD_lt hlt
      rw [hg] at hx
      have HG := Lib.hid hg
      clear hg
      generalize L[k] = x at hc hx HG
      obtain ⟨q, hq⟩ : ∃ q, x % m = q := ⟨_, rfl⟩
      have hq0 : x.tmod m = q := by rw [Int.tmod_eq_emod_of_nonneg hx.1]; exact hq
      have HQ := Lib.hid hq
      cases hh : hasI R q with
      | true =>
        have HH := Lib.hid hh
        clear hh
        go_wp2_with (go_at_call 68; refine (hasInt_any _ _ Bb R q _ hr (by omega)).mono ?_; rintro e w' ⟨rfl, rfl⟩; rw [HH.out])
        go_round
        case rel => exact ⟨k + 1, by omega, by go_num, Lib.hid (upto HP.out (by show hasI R _ = true; rw [HG.out, HQ.out, HH.out]))⟩
        case measure => simp [intOf]; omega
      | false =>
        have HH := Lib.hid hh
        have HF : Hid (remIn m R L = false) := Lib.hid (allTo_no hlt (by rw [HG.out, HQ.out, hh]))
        clear hh
        go_wp2_with (go_at_call 68; refine (hasInt_any _ _ Bb R q _ hr (by omega)).mono ?_; rintro e w' ⟨rfl, rfl⟩; rw [HH.out])
        go_ret
        exact ⟨ret_bool HF.out.symm, rfl⟩
    · obtain rfl : k = L.length := by omega
      have HF : Hid (remIn m R L = true) := Lib.hid (allTo_yes HP.out)
      go_wp2
      go_ret
      exact ⟨ret_bool HF.out.symm, rfl⟩


end Go.Proofs.Ytifhnjnpbpgjfaa
namespace Go.Proofs.Ytifhnjnpbpgjfaa
open Go.RowKit NP
set_option maxRecDepth 8000
set_option linter.unusedVariables false
set_option linter.unusedSimpArgs false
theorem OwnLL.keep {w w' : World} {lo hi : Nat} {eo e : TypeId} {v : Value} {vs : List Value} {LL : List (List Int)} (h : OwnLL w lo hi eo e v vs LL) (hs : w.heap.size ≤ w'.heap.size) (hk : ∀ g, lo ≤ g → g < hi → w'.heap[g]? = w.heap[g]?) : OwnLL w' lo hi eo e v vs LL :=
  ⟨h.outer.keep hs fun g hg => hk g (h.outer.base g hg) (h.outer.lt g hg), h.len, fun k u L hu hL => (h.inner k u L hu hL).keep hs fun g hg => hk g ((h.inner k u L hu hL).base g hg) ((h.inner k u L hu hL).lt g hg), h.apartO, h.apart⟩
theorem remIn_twoK (L : List Int) : remIn 2 [1] L = kRem 2 1 L := by
  unfold remIn kRem
  congr 1
  funext j
  simp [hasI]
  try rw [Bool.eq_iff_iff]
  try simp
  try omega
def okQ (L : List Int) : Bool := valid L && decide (L.length ≤ 16) && L.all fun x => decide (1 ≤ x) && decide (x ≤ 16)
def okTab : Bool := (List.range 13).all fun n => (allQ n n n).all okQ
set_option maxRecDepth 100000 in
theorem okTab_all : okTab = true := by decide +kernel
theorem allQ_ok {n : Nat} (hn : n ≤ 12) : ∀ L ∈ allQ n n n, valid L = true ∧ SmallParts L := by
  intro L hL
  have h := okTab_all
  unfold okTab at h
  have h1 := List.all_eq_true.1 h n (by simp; omega)
  have h2 := List.all_eq_true.1 h1 L hL
  unfold okQ at h2
  simp only [Bool.and_eq_true, decide_eq_true_eq, List.all_eq_true] at h2
  exact ⟨h2.1.1, h2.1.2, h2.2⟩

/-- the model's kind of a name -/
def SK (s : ByteArray) (K : List Int → Bool) : Prop := ∀ (a : Option Addr) (c B : Nat) (L : List Int) (w : World), valid L = true → Rd w B a (ints L) → B ≤ w.heap.size →
    Calls Try.prog 43 #[.string s, .slice a L.length c] w fun e w' => e = .returned (.tuple #[.bool (K L), .bool true]) ∧ Below w.heap.size w w'
theorem sk_distinct : SK ⟨#[100, 105, 115, 116, 105, 110, 99, 116]⟩ (kFall 1 1) := by
  intro a c B L w hv h hB
  have HV := Lib.hid hv
  have hl16 := (valid_bd hv).2.2.2
  clear hv
  go_enter Try.func43, Try.ntmps43
  go_wp2_with (go_at_call 64; refine (gaps_any _ _ B L 1 (by omega) HV.out _ h).mono ?_; rintro e wv ⟨rfl, n1, rfl⟩)
  go_ret2
  exact ⟨rfl, (Dr.n w n1).below _⟩
theorem sk_self : SK ⟨#[115, 101, 108, 102]⟩ kSelf := by
  intro a c B L w hv h hB
  have HV := Lib.hid hv
  have hl16 := (valid_bd hv).2.2.2
  have hcl := (valid_bd (valid_conj hv)).2.2.2
  clear hv
  go_enter Try.func43, Try.ntmps43
  go_wp2_with (first
    | (go_at_call 65; refine (same_any _ _ _ _ _ _ L (conj L) (by omega) _ ((h.more hB).below hb2) ho2.rd (by omega)).mono ?_; rintro e wv ⟨rfl, n3, rfl⟩)
    | (go_at_call 66; refine (sconjugate_any _ _ B L _ h hB HV.out).mono ?_; rintro e w2 ⟨a2, c2, rfl, ho2, hb2⟩))
  go_ret2
  exact ⟨rfl, hb2.trans ((Dr.n _ n3).below _)⟩
set_option maxHeartbeats 1000000 in
theorem sk_distinctodd : SK ⟨#[100, 105, 115, 116, 105, 110, 99, 116, 111, 100, 100]⟩ (fun L => kFall 1 1 L && kRem 2 1 L) := by
  intro a c B L w hv h hB
  have HV := Lib.hid hv
  have hl16 := (valid_bd hv).2.2.2
  clear hv
  cases hk : kFall 1 1 L with
  | false =>
    have HK := Lib.hid hk
    clear hk
    go_enter Try.func43, Try.ntmps43
    go_wp2_with (go_at_call 64; refine (gaps_any _ _ B L 1 (by omega) HV.out _ h).mono ?_; rintro e wv ⟨rfl, n1, rfl⟩; rw [HK.out])
    go_ret2
    exact ⟨by simp [HK.out], (Dr.n w n1).below _⟩
  | true =>
    have HK := Lib.hid hk
    clear hk
    go_enter Try.func43, Try.ntmps43
    go_wp2_with (first
      | (go_at_call 63; refine (allRemain_any _ _ _ _ _ B L [1] 2 (by omega) HV.out _ (h2.below hb2) (rd_new w2 _ _) (by simp)).mono ?_; rintro e w3 ⟨rfl, rfl⟩; rw [remIn_twoK])
      | (go_at_call 64; refine (gaps_any _ _ B L 1 (by omega) HV.out _ h).mono ?_; rintro e wv ⟨rfl, n1, rfl⟩; rw [HK.out]; have h2 := h.dr (Dr.n w n1); have hb1 := (Dr.n w n1).below w.heap.size; obtain ⟨w2, hw2⟩ : ∃ w2, w2 = w.drewN n1 := ⟨_, rfl⟩; rw [← hw2] at h2 hb1 ⊢; have hb2 : Below B w2 (w2.alloc (.cells (ints [1]).toArray 3)) := (Below.refl _ _).alloc (Nat.le_trans hB hb1.size) _; clear hw2))
    go_ret2
    exact ⟨by simp [HK.out], hb1.alloc hb1.size _⟩
/-- what lies between lo and the end of w2 is the same in w' -/
def Kp (w2 w' : World) (lo : Nat) : Prop := w2.heap.size ≤ w'.heap.size ∧ ∀ g, lo ≤ g → g < w2.heap.size → w'.heap[g]? = w2.heap[g]?
theorem Kp.below {w2 w w' : World} {lo : Nat} (h : Kp w2 w lo) (hb : Below w.heap.size w w') : Kp w2 w' lo :=
  ⟨Nat.le_trans h.1 hb.size, fun g h1 h2 => (hb.block g (Nat.lt_of_lt_of_le h2 h.1)).trans (h.2 g h1 h2)⟩
theorem Kp.alloc {w2 w : World} {lo : Nat} (h : Kp w2 w lo) (o : Obj) : Kp w2 (w.alloc o) lo :=
  h.below ((Below.refl _ _).alloc (Nat.le_refl _) o)
theorem Kp.grown {w2 w w' : World} {lo : Nat} {row : Option Nat} (h : Kp w2 w lo) (hg : w.grownBy w' row) (hr : ∀ g, row = some g → g < lo ∨ w2.heap.size ≤ g) : Kp w2 w' lo :=
  ⟨Nat.le_trans h.1 hg.size, fun g h1 h2 => (hg.block g (Nat.lt_of_lt_of_le h2 h.1) (fun e => by have := hr g e.symm; omega)).trans (h.2 g h1 h2)⟩
set_option maxHeartbeats 4000000 in
theorem kindList_any (s : ByteArray) (K : List Int → Bool) (hSK : SK s K) (n : Nat) (hn : n ≤ 12) (w : World) :
    Calls Try.prog 44 #[.string s, .int .i64 (n : Int)] w fun e w' => ∃ a' c' us, e = .returned (.slice a' us.length c') ∧ us.length ≤ 400 ∧ Own w' w.heap.size w'.heap.size 25 (.slice a' us.length c') us ∧ (∀ u ∈ us, ∃ M, SmallParts M ∧ Own w' w.heap.size w'.heap.size 3 u (ints M)) ∧ Below w.heap.size w w' := by
  obtain ⟨i0, hi, hz0, hz1, hz2⟩ := T_int'
  obtain ⟨i1, hj, hy0, hy1, hy2⟩ := T_ints'
  have hE := Own.empty w 25
  obtain ⟨w1, hw1⟩ : ∃ w1, w1 = w.alloc (.cells #[] 25) := ⟨_, rfl⟩
  have hb1 : Below w.heap.size w w1 := hw1 ▸ (Below.refl _ _).alloc (Nat.le_refl _) _
  have hz1' : w1.heap.size = w.heap.size + 1 := by rw [hw1, World.size_alloc]
  have HW1 := Lib.hid hw1
  have HZ1 := Lib.hid hz1'
  rw [← hw1] at hE
  clear hw1 hz1'
  have HZ2 : Hid ((w1.alloc (.cells #[] 3)).heap.size = w.heap.size + 1 + 1) := Lib.hid (by rw [World.size_alloc, HZ1.out])
  obtain ⟨LL, hLL⟩ : ∃ LL, LL = allQ n n n := ⟨_, rfl⟩
  have HOK : Hid (∀ L ∈ LL, valid L = true ∧ SmallParts L) := Lib.hid (hLL ▸ allQ_ok hn)
  have hle : LL.length ≤ 400 := hLL ▸ allQ_le (by omega) (by omega) (by omega)
  have HL := Lib.hid hLL
  clear hLL
  go_enter Try.func44, Try.ntmps44
  go_wp2_with fail
  rw [← HW1.out]
  refine (slist_lists n (by omega) n _ 0 (w1.alloc (.cells #[] 3)).heap.size [] n _ (Nat.le_refl _) (by simp; omega) (by omega) (fun h => absurd rfl h) (Nat.le_refl _)).mono ?_
  rintro e w2 ⟨a6, c6, vs, rfl, h6, hb2⟩
  rw [show List.map (fun x => [] ++ x) (allQ n n n) = allQ n n n from by simp, ← HL.out] at h6
  rw [← HL.out]
  rw [HZ2.out] at h6 hb2
  have HALL := Lib.hid (h6.lower (show w.heap.size + 1 ≤ w.heap.size + 1 + 1 by omega))
  clear h6
  have hbw2 : Below w.heap.size w w2 := (hb1.alloc hb1.size _).trans (hb2.mono (by omega))
  have hE2 : Own w2 w.heap.size (w.heap.size + 1) 25 (.slice (some ⟨w.heap.size, 0, none⟩) 0 0) [] := (hE.alloc _).below (hb2.mono (by omega))
  have hsz2 : w.heap.size + 1 ≤ w2.heap.size := by have := hb2.size; rw [HZ2.out] at this; omega
  go_wp2_with fail
  clear hE hb1 hb2
  go_loopw [5, 7] (fun v ii wr => ∃ (i : Nat) (a5 : Option Addr) (c5 : Nat) (us : List Value), ii = .int .i64 (i : Int) ∧ i ≤ LL.length ∧ us.length ≤ i ∧ v = .slice a5 us.length c5 ∧ Own wr w.heap.size wr.heap.size 25 (.slice a5 us.length c5) us ∧ (∀ g, (Value.slice a5 us.length c5).ownBlock = some g → g < w.heap.size + 1 ∨ w2.heap.size ≤ g) ∧ (∀ u ∈ us, u ∈ vs) ∧ Kp w2 wr (w.heap.size + 1) ∧ Below w.heap.size w wr) (fun _ ii _ => LL.length - (intOf ii).toNat)
  case atStart => exact ⟨0, _, _, [], rfl, Nat.zero_le _, Nat.le_refl _, rfl, hE2.more, fun g hg => by left; cases hg; exact Nat.lt_succ_self _, by simp, ⟨Nat.le_refl _, fun _ _ _ => rfl⟩, hbw2⟩
  case round =>
    obtain ⟨i, a5, c5, us, rfl, hiN, hui, rfl, ho, hout, hmem, hkp, hbel⟩ := hrel
    clear hE2 hbw2
    have HO := Lib.hid ho
    clear ho
    by_cases hlt : i < LL.length
    · have hlt' : (i : Int) < (LL.length : Int) := by omega
      obtain ⟨hv, hs⟩ := HOK.out _ (List.getElem_mem hlt)
      obtain ⟨gA, aM, cM, rfl, hgl, hgh, hcell, hoM, hvk⟩ := (HALL.out.keep hkp.1 hkp.2).at_ hlt
      obtain ⟨M, hM⟩ : ∃ M, M = LL[i] := ⟨_, rfl⟩
      rw [← hM] at hv hs hcell hoM hvk
      have HV := Lib.hid hv
      have HR := Lib.hid hoM.rd
      clear hv hs hM hoM
      have hkz := hkp.1
      cases hK : K M with
      | false =>
        have HK := Lib.hid hK
        clear hK
        go_wp2_with (go_at_call 43; refine (hSK _ _ _ M _ HV.out HR.out (by omega)).mono ?_; rintro e w3 ⟨rfl, hb3⟩; rw [HK.out])
        go_roundw
        case rel =>
          exact ⟨i + 1, a5, c5, us, by go_num, by omega, by omega, rfl, (HO.out.below hb3).more, hout, hmem, hkp.below hb3, hbel.trans (hb3.mono hbel.size)⟩
        case measure => simp [intOf]; omega
      | true =>
        have HK := Lib.hid hK
        clear hK
        go_wp2_with (first
          | (at_builtin; refine wpList_append_o _ rfl (.tmp 31) (.tmp 36) 32 rfl w.heap.size w3.heap.size 25 i1 (.slice none 0 0) 24 Try.underlying32 hj hy0 hy1 hy2 rfl _ us rfl ((HO.out.below hb3).more.alloc _) (w3.heap.size + 1) (some ⟨w3.heap.size, 0, none⟩) 1 1 [.slice aM M.length cM] rfl (Rd.one w3 _ _) rfl (by intro u hu; rw [List.mem_singleton.1 hu]; rfl) (by unfold maxLen; omega) (by omega) (by rw [World.size_alloc]; have := hbel.size; have := hb3.size; omega) ?_; intro v' w6 ho6 hg6 hat6)
          | (go_at_call 43; refine (hSK _ _ _ M _ HV.out HR.out (by omega)).mono ?_; rintro e w3 ⟨rfl, hb3⟩; rw [HK.out]; have hcell3 := (hb3.cell (p := ⟨gA, i, none⟩) (World.block_lt_of_cell? _ _ hcell)).trans hcell))
        go_roundw
        case rel =>
          have hlow : ∀ g, (Value.slice a5 us.length c5).ownBlock = some g → g < w.heap.size + 1 ∨ w2.heap.size ≤ g := hout
          obtain ⟨a7, c7, rfl⟩ := ho6.form
          rw [show (us ++ [Value.slice aM M.length cM]).length = us.length + 1 from by simp] at ho6 hat6 ⊢
          have hrow := HO.out.base
          refine ⟨i + 1, a7, c7, us ++ [Value.slice aM M.length cM], by go_num, by omega, by simp; omega, by simp, by simpa using ho6, fun g hg => ?_, fun u hu => ?_, ((hkp.below hb3).alloc _).grown hg6 hlow, below_push (hbel.trans (hb3.mono hbel.size)) (Nat.le_refl _) hg6 hrow⟩
          · rcases hat6 with e | e
            · exact hlow g (e ▸ (by simpa using hg))
            · have hg' : (Value.slice a7 (us.length + 1) c7).ownBlock = some g := by simpa using hg
              rw [e] at hg'
              cases hg'
              right
              have := hb3.size
              rw [World.size_alloc]
              omega
          · rcases List.mem_append.1 hu with h | h
            · exact hmem u h
            · rw [List.mem_singleton.1 h]; exact List.mem_of_getElem? hvk
        case measure => simp [intOf]; omega
    · obtain rfl : i = LL.length := by omega
      go_wp2_with fail
      go_ret
      refine ⟨a5, c5, us, rfl, by omega, HO.out, fun u hu => ?_, hbel⟩
      obtain ⟨k, hk, hku⟩ := List.getElem_of_mem (hmem u hu)
      have hAL := HALL.out.keep hkp.1 hkp.2
      have hkl : k < LL.length := by rw [← hAL.len]; exact hk
      refine ⟨LL[k], (HOK.out _ (List.getElem_mem hkl)).2, ?_⟩
      exact (((hAL.inner k u LL[k] (by rw [List.getElem?_eq_getElem hk, hku]) (List.getElem?_eq_getElem hkl)).lower (show w.heap.size ≤ w.heap.size + 1 by omega)).more)
end Go.Proofs.Ytifhnjnpbpgjfaa
namespace Go.Proofs.Ytifhnjnpbpgjfaa
open Go.RowKit NP
set_option maxRecDepth 8000
/-- a function value that tells of each diagram of parts whether K holds of them, in every later world -/
def IsK (w : World) (v : Value) (K : List Int → Bool) : Prop := ∃ (f : Nat) (p c : Array Value), v = .func (.func f) p c ∧ (∀ (args : Array Value) (w : World), (callFunc f args).run Try.prog w = .ok (.enter f args) w) ∧ ∀ w1, Below w.heap.size w w1 → ∀ L, valid L = true →
  Calls Try.prog f (p.push (.agg (arr (pad L))) ++ c) w1 fun e w2 => e = .returned (.bool (K L)) ∧ Below w1.heap.size w1 w2
end Go.Proofs.Ytifhnjnpbpgjfaa
namespace Go.Proofs.Ytifhnjnpbpgjfaa
open Go.RowKit NP
set_option maxRecDepth 8000
set_option linter.unusedVariables false
set_option linter.unusedSimpArgs false

/-- a function value that leads each diagram of parts of which K holds to that of the parts F, in every later world -/
def IsWay (w : World) (v : Value) (K : List Int → Bool) (F : List Int → List Int) : Prop := ∃ (f : Nat) (p c : Array Value), v = .func (.func f) p c ∧ (∀ (args : Array Value) (w : World), (callFunc f args).run Try.prog w = .ok (.enter f args) w) ∧ ∀ w1, Below w.heap.size w w1 → ∀ L, valid L = true → K L = true →
  Calls Try.prog f (p.push (.agg (arr (pad L))) ++ c) w1 fun e w2 => e = .returned (.agg (arr (pad (F L)))) ∧ Below w1.heap.size w1 w2
theorem IsK.below {w w' : World} {v : Value} {K : List Int → Bool} (h : IsK w v K) (hb : Below w.heap.size w w') : IsK w' v K := by
  obtain ⟨f, p, c, rfl, he, hh⟩ := h
  exact ⟨f, p, c, rfl, he, fun w1 h1 => hh w1 (hb.trans (h1.mono hb.size))⟩
theorem IsWay.below {w w' : World} {v : Value} {K : List Int → Bool} {F : List Int → List Int} (h : IsWay w v K F) (hb : Below w.heap.size w w') : IsWay w' v K F := by
  obtain ⟨f, p, c, rfl, he, hh⟩ := h
  exact ⟨f, p, c, rfl, he, fun w1 h1 => hh w1 (hb.trans (h1.mono hb.size))⟩
theorem IsWay.at_ {w : World} {v : Value} {K : List Int → Bool} {F : List Int → List Int} (h : IsWay w v K F) (L : List Int) : IsWay w v (fun M => decide (M = L) && K M) F := by
  obtain ⟨f, p, c, rfl, he, hh⟩ := h
  exact ⟨f, p, c, rfl, he, fun w1 h1 M hv hk => hh w1 h1 M hv (by simp at hk; exact hk.2)⟩
def mpOk (K : List Int → Bool) (L : List Int) : Bool := valid L && K L
def mpF (K : List Int → Bool) (F : List Int → List Int) (L : List Int) : List Int := if mpOk K L then F L else []

end Go.Proofs.Ytifhnjnpbpgjfaa
