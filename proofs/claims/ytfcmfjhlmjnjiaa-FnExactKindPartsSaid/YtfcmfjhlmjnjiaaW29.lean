/-
  Walks of the program: kinds of parts.
-/
import Derived.Test.YtfcmfjhlmjnjiaaW4
import Derived.Test.YtfcmfjhlmjnjiaaM26
import Derived.Test.YtfcmfjhlmjnjiaaArr3
import Derived.Test.YtfcmfjhlmjnjiaaW44
import Derived.Deep.MidRow
import Derived.Deep.RegionHeld3
import Derived.Deep.RegionLaw
import Derived.Deep.DrawnRows
import Derived.StillTailTactics
import Derived.Deep.RegionHeld3
namespace Go.Proofs.Ytfcmfjhlmjnjiaa
open Go.RowKit NP
set_option linter.unusedVariables false
set_option linter.unusedSimpArgs false
theorem cnt_pad {M : List Int} (hM : valid M = true) : cntD (pad M) = M.length := by
  have hlen : M.length ≤ 16 := (valid_bd hM).2.2.2
  unfold cntD
  refine ff_eq (fun j hj => ?_) hlen ?_
  · have h1 := preS_of_valid hM j hj hj
    rw [List.getD_eq_getElem?_getD, List.getElem?_eq_getElem (by rw [pad_len hlen]; omega), Option.getD_some, pad_get hlen hj]
    simp; omega
  · rcases Nat.lt_or_ge M.length 16 with h | h
    · right
      rw [List.getD_eq_getElem?_getD, List.getElem?_eq_getElem (by rw [pad_len hlen]; omega), Option.getD_some, pad_get0 hlen (Nat.le_refl _) h]
      simp
    · left; omega
theorem Blk.one {w : World} {g : Nat} {t : TypeId} {v : Value} (h : Blk w g t #[v]) : w.cell? ⟨g, 0, none⟩ = some v := by rw [h.cell 0]; rfl
theorem upto {k : Nat} {p : Nat → Bool} (H : ∀ j, j < k → p j = true) (h : p k = true) : ∀ j, j < k + 1 → p j = true := fun j hj => by
  rcases Nat.lt_or_ge j k with h1 | h1
  · exact H j h1
  · obtain rfl : j = k := by omega
    exact h

set_option maxHeartbeats 1000000 in
theorem remK_any (m r : Int) (hr : 1 ≤ r ∧ r < m) (hm : m ≤ 100) (g1 g2 : Nat) (L : List Int) (hv : valid L = true) (w : World) (h1 : Blk w g1 3 #[.int .i64 m]) (h2 : Blk w g2 3 #[.int .i64 r]) :
    Calls Try.prog 74 #[.agg (arr (pad L)), .pointer (some ⟨g1, 0, none⟩), .pointer (some ⟨g2, 0, none⟩)] w fun e w' => e = .returned (.bool (kRem m r L)) ∧ Below w.heap.size w w' := by
  have hl16 := (valid_bd hv).2.2.2
  have HV := Lib.hid hv
  have HNN := Lib.hid (getD_nn hv)
  clear hv
  have hB0 := Blk.new w 58 (arr (pad L))
  have hiL : (Try.prog.info? 58).map (·.size) = some (arr (pad L)).size := by rw [arr_size, pad_len hl16]; exact T_info35
  go_enter Try.func74, Try.ntmps74
  go_wp2_with (first | (go_at_call 68; refine (list_any L HV.out _).mono ?_; rintro e w1 ⟨a', rfl, ho1, hb1⟩) | (refine wpList_load_row rfl 58 (.tmp 3) rfl w.heap.size rfl 58 (arr (pad L)) (0, 0) _ hB0 Try.underlying58 rfl hiL ?_))
  have k1 := ((h1.alloc (.cells (arr (pad L)) 58)).below hb1 (by simp; have := h1.lt; omega)).one
  have k2 := ((h2.alloc (.cells (arr (pad L)) 58)).below hb1 (by simp; have := h2.lt; omega)).one
  have hbel : Below w.heap.size w w1 := ((Below.refl _ _).alloc (Nat.le_refl _) _).trans (hb1.mono (by simp))
  have hrd := ho1.rd
  clear hb1 ho1 h1 h2
  go_loop [6, 7, 11] (fun _ _ vi => ∃ k : Nat, k ≤ L.length ∧ vi = .int .i64 k ∧ Hid (∀ j, j < k → (fun j => L.getD j 0 % m == r || L.getD j 0 % m == m - r) j = true)) (fun _ _ vi => L.length - (intOf vi).toNat)
  case atStart => exact ⟨0, Nat.zero_le _, rfl, Lib.hid fun j hj => by omega⟩
  case round =>
    obtain ⟨k, hk, rfl, HP⟩ := hrel
    by_cases hlt : k < L.length
    · have hlt' : (k : Int) < (L.length : Int) := by omega
      obtain ⟨b, o, rfl, _, hc⟩ := hrd.at_ hlt
      have hx := HNN.out k
      have hg : L.getD k 0 = L[k] := getD_lt hlt
      rw [hg] at hx
      have HG := Lib.hid hg
      clear hg
      generalize L[k] = x at hc hx HG
      obtain ⟨q, hq⟩ : ∃ q, x % m = q := ⟨_, rfl⟩
      have hq0 : x.tmod m = q := by rw [Int.tmod_eq_emod_of_nonneg hx.1]; exact hq
      have hqb : 0 ≤ q ∧ q < m := ⟨hq ▸ Int.emod_nonneg _ (by omega), hq ▸ Int.emod_lt_of_pos _ (by omega)⟩
      have HQ := Lib.hid hq
      by_cases e1 : q = r
      · have b1 : (q != r) = false := by simp [e1]
        clear e1
        go_wp2_with fail
        go_round
        case rel => exact ⟨k + 1, by omega, by go_num, Lib.hid (upto HP.out (by show (L.getD k 0 % m == r || L.getD k 0 % m == m - r) = true; rw [HG.out, HQ.out]; have := bne_eq_false_iff_eq.1 b1; simp [this]))⟩
        case measure => simp [intOf]; omega
      · have b1 : (q != r) = true := by simpa using e1
        by_cases e2 : q = m - r
        · have b2 : (q != m - r) = false := by simp [e2]
          clear e1
          have HE := Lib.hid e2
          clear e2
          go_wp2_with fail
          go_round
          case rel => exact ⟨k + 1, by omega, by go_num, Lib.hid (upto HP.out (by show (L.getD k 0 % m == r || L.getD k 0 % m == m - r) = true; rw [HG.out, HQ.out]; simp [HE.out]))⟩
          case measure => simp [intOf]; omega
        · have b2 : (q != m - r) = true := by simpa using e2
          have HF : Hid (kRem m r L = false) := Lib.hid (allTo_no hlt (by show (L.getD k 0 % m == r || L.getD k 0 % m == m - r) = false; rw [HG.out, HQ.out]; simp [e1, e2]))
          clear e1 e2
          go_wp2_with fail
          go_ret
          exact ⟨ret_bool HF.out.symm, hbel⟩
    · obtain rfl : k = L.length := by omega
      have HF : Hid (kRem m r L = true) := Lib.hid (allTo_yes HP.out)
      go_wp2
      go_ret
      exact ⟨ret_bool HF.out.symm, hbel⟩

set_option maxHeartbeats 1000000 in
theorem fallK_any (s t : Int) (hs : 0 ≤ s ∧ s ≤ 100) (ht : 0 ≤ t ∧ t ≤ 100) (g1 g2 : Nat) (L : List Int) (hv : valid L = true) (w : World) (h1 : Blk w g1 3 #[.int .i64 s]) (h2 : Blk w g2 3 #[.int .i64 t]) :
    Calls Try.prog 75 #[.agg (arr (pad L)), .pointer (some ⟨g1, 0, none⟩), .pointer (some ⟨g2, 0, none⟩)] w fun e w' => e = .returned (.bool (kFall s t L)) ∧ Below w.heap.size w w' := by
  have hl16 := (valid_bd hv).2.2.2
  have HNN := Lib.hid (getD_nn hv)
  have HC := Lib.hid (cnt_pad hv)
  have HPL := Lib.hid (pad_len hl16)
  clear hv
  have hB0 := Blk.new w 58 (arr (pad L))
  have hiL : (Try.prog.info? 58).map (·.size) = some (arr (pad L)).size := by rw [arr_size, pad_len hl16]; exact T_info35
  go_enter Try.func75, Try.ntmps75
  go_wp2_with (first | (go_at_call 76; refine (count_any (pad L) HPL.out _).mono ?_; rintro e w1 ⟨rfl, hb1⟩; rw [HC.out]) | (refine wpList_load_row rfl 58 (.tmp 3) rfl w.heap.size rfl 58 (arr (pad L)) (0, 0) _ hB0 Try.underlying58 rfl hiL ?_))
  have k1 := (h1.alloc (.cells (arr (pad L)) 58)).below hb1 (by simp; have := h1.lt; omega)
  have k2 := (h2.alloc (.cells (arr (pad L)) 58)).below hb1 (by simp; have := h2.lt; omega)
  have k0 := (Blk.new w 58 (arr (pad L))).below hb1 (by simp)
  have hbel : Below w.heap.size w w1 := ((Below.refl _ _).alloc (Nat.le_refl _) _).trans (hb1.mono (by simp))
  clear hb1 h1 h2
  go_loopw [5, 6, 10] (fun _ _ vi wr => ∃ k : Nat, k ≤ L.length - 1 ∧ vi = .int .i64 k ∧ Dr w1 wr ∧ Hid (∀ j, j < k → (fun j => decide ((if L.getD j 0 % 3 = 0 then t else s) ≤ L.getD j 0 - L.getD (j + 1) 0)) j = true)) (fun _ _ vi _ => L.length - (intOf vi).toNat)
  case atStart => exact ⟨0, Nat.zero_le _, rfl, Dr.refl _, Lib.hid fun j hj => by omega⟩
  case round =>
    obtain ⟨k, hk, rfl, hdr, HP⟩ := hrel
    have hbd := hdr.below w1.heap.size
    have c1 := (k1.below hbd k1.lt).one
    have c2 := (k2.below hbd k2.lt).one
    have c0 := k0.below hbd k0.lt
    by_cases hlt : k < L.length - 1
    · have hlt' : (k : Int) < (L.length : Int) - 1 := by omega
      have hp16 : k < 16 := by omega
      have hp17 : k + 1 < 16 := by omega
      have hk16 : (k : Int) < 16 := by omega
      have hk17 : (k : Int) + 1 < 16 := by omega
      have hc := c0.cell k
      have hc' := c0.cell (k + 1)
      rw [arr_get _ k (by rw [HPL.out]; omega)] at hc
      rw [arr_get _ (k + 1) (by rw [HPL.out]; omega)] at hc'
      rw [pad_get hl16 (by omega)] at hc hc'
      have hx := HNN.out k
      have hy := HNN.out (k + 1)
      have hg : L.getD k 0 = L[k] := getD_lt (by omega)
      have hg' : L.getD (k + 1) 0 = L[k + 1] := getD_lt (by omega)
      rw [hg] at hx
      rw [hg'] at hy
      have HG := Lib.hid hg
      have HG' := Lib.hid hg'
      clear hg hg' c0
      generalize L[k] = x at hc hx HG
      generalize L[k + 1] = y at hc' hy HG'
      obtain ⟨q, hq⟩ : ∃ q, x % 3 = q := ⟨_, rfl⟩
      have hq0 : x.tmod 3 = q := by rw [Int.tmod_eq_emod_of_nonneg hx.1]; exact hq
      have HQ := Lib.hid hq
      by_cases e1 : q = 0
      · have b1 : (q == 0) = true := by simp [e1]
        have HT : Hid ((if x % 3 = 0 then t else s) = t) := Lib.hid (by rw [hq, if_pos e1])
        clear e1
        by_cases e2 : x - y < t
        · have HF : Hid (kFall s t L = false) := Lib.hid (allTo_no hlt (by rw [HG.out, HG'.out, HT.out]; simpa using e2))
          go_wp2_with fail
          go_quiet (fail)
          go_wp2
          go_ret
          exact ⟨ret_bool HF.out.symm, hbel.trans ((hdr.trans (Dr.n _ _)).below _)⟩
        · have e3 : t ≤ x - y := by omega
          clear e2
          go_wp2_with fail
          go_quiet (fail)
          go_wp2
          go_roundw
          case rel => exact ⟨k + 1, by omega, by go_num, hdr.drewN _, Lib.hid (upto HP.out (by show decide (_ ≤ _) = true; rw [HG.out, HG'.out, HT.out]; simpa using e3))⟩
          case measure => simp [intOf]; omega
      · have b1 : (q == 0) = false := by simpa using e1
        have HT : Hid ((if x % 3 = 0 then t else s) = s) := Lib.hid (by rw [hq, if_neg e1])
        clear e1
        by_cases e2 : x - y < s
        · have HF : Hid (kFall s t L = false) := Lib.hid (allTo_no hlt (by rw [HG.out, HG'.out, HT.out]; simpa using e2))
          go_wp2_with fail
          go_quiet (fail)
          go_wp2
          go_ret
          exact ⟨ret_bool HF.out.symm, hbel.trans ((hdr.trans (Dr.n _ _)).below _)⟩
        · have e3 : s ≤ x - y := by omega
          clear e2
          go_wp2_with fail
          go_quiet (fail)
          go_wp2
          go_roundw
          case rel => exact ⟨k + 1, by omega, by go_num, hdr.drewN _, Lib.hid (upto HP.out (by show decide (_ ≤ _) = true; rw [HG.out, HG'.out, HT.out]; simpa using e3))⟩
          case measure => simp [intOf]; omega
    · have hge : ¬ (k : Int) < (L.length : Int) - 1 := by omega
      obtain rfl : k = L.length - 1 := by omega
      have HF : Hid (kFall s t L = true) := Lib.hid (allTo_yes HP.out)
      clear hlt
      go_wp2
      go_ret
      exact ⟨ret_bool HF.out.symm, hbel.trans (hdr.below _)⟩

set_option maxHeartbeats 1000000 in
theorem noOneK_any (L : List Int) (hv : valid L = true) (w : World) :
    Calls Try.prog 65 #[.agg (arr (pad L))] w fun e w' => e = .returned (.bool (kNoOne L)) ∧ Below w.heap.size w w' := by
  have hl16 := (valid_bd hv).2.2.2
  have HPL := Lib.hid (pad_len hl16)
  have HNN := Lib.hid (getD_nn hv)
  clear hv
  have hB0 := Blk.new w 58 (arr (pad L))
  have hiL : (Try.prog.info? 58).map (·.size) = some (arr (pad L)).size := by rw [arr_size, pad_len hl16]; exact T_info35
  go_enter Try.func65, Try.ntmps65
  go_wp2_with (refine wpList_load_row rfl 58 (.tmp 1) rfl w.heap.size rfl 58 (arr (pad L)) (0, 0) _ hB0 Try.underlying58 rfl hiL ?_)
  go_loop [4, 6] (fun _ vi => ∃ k : Nat, k ≤ 16 ∧ vi = .int .i64 k ∧ Hid (∀ j, j < k → (fun j => decide (L.getD j 0 ≠ 1)) j = true)) (fun _ vi => 16 - (intOf vi).toNat)
  case atStart => exact ⟨0, Nat.zero_le _, rfl, Lib.hid fun j hj => by omega⟩
  case round =>
    obtain ⟨k, hk, rfl, HP⟩ := hrel
    by_cases hlt : k < 16
    · have hlt' : (k : Int) < 16 := by omega
      have hkp : k < (pad L).length := by rw [HPL.out]; exact hlt
      have hidx := T_index (pad L) k hkp hlt
      have hg : (pad L)[k] = L.getD k 0 := by rw [← getD_lt hkp, pad_getD hl16]
      rw [hg] at hidx
      have hx := HNN.out k
      obtain ⟨x, hxx⟩ : ∃ x, x = L.getD k 0 := ⟨_, rfl⟩
      rw [← hxx] at hidx hx
      have HX := Lib.hid hxx
      clear hxx hg
      by_cases e1 : x = 1
      · have b1 : (x == 1) = true := by simp [e1]
        have hkl : k < L.length := by
          rcases Nat.lt_or_ge k L.length with h | h
          · exact h
          · rw [HX.out, getD_ge h] at e1; omega
        have HF : Hid (kNoOne L = false) := Lib.hid (allTo_no hkl (by rw [← HX.out, e1]; rfl))
        clear e1
        go_wp2
        go_ret
        exact ⟨ret_bool HF.out.symm, (Below.refl _ _).alloc (Nat.le_refl _) _⟩
      · have b1 : (x == 1) = false := by simpa using e1
        go_wp2
        go_round
        case rel => exact ⟨k + 1, by omega, by go_num, Lib.hid (upto HP.out (by show decide (_ ≠ _) = true; rw [← HX.out]; simpa using e1))⟩
        case measure => simp [intOf]; omega
    · obtain rfl : k = 16 := by omega
      have HF : Hid (kNoOne L = true) := Lib.hid (allTo_yes fun j hj => HP.out j (by omega))
      go_wp2
      go_ret
      exact ⟨ret_bool HF.out.symm, (Below.refl _ _).alloc (Nat.le_refl _) _⟩

theorem T_eqd (D E : List Int) (hD : D.length = 16) (hE : E.length = 16) (w : World) : (Op.equalIn 10000 58 (.agg (arr D)) (.agg (arr E))).run Try.prog w = .ok (decide (D = E)) w := by
  obtain ⟨i, hi⟩ := info_of_underlying Try.underlying3
  exact run_equal_arr Try.underlying58 Try.underlying3 (by kernel_rfl) hi (by kernel_rfl) D E hD hE w
theorem pad_inj {L M : List Int} (hL : valid L = true) (hM : valid M = true) (h : pad L = pad M) : L = M := by
  have h1 := cnt_pad hL
  have h2 := cnt_pad hM
  rw [h] at h1
  have e1 := pad_take (L := L)
  have e2 := pad_take (L := M)
  rw [h, ← h1, h2, e2] at e1
  exact e1.symm
set_option maxHeartbeats 2000000 in
theorem selfK_any (L : List Int) (hv : valid L = true) (w : World) :
    Calls Try.prog 62 #[.agg (arr (pad L))] w fun e w' => e = .returned (.bool (kSelf L)) ∧ Below w.heap.size w w' := by
  have hl16 := (valid_bd hv).2.2.2
  have HPL := Lib.hid (pad_len hl16)
  have HNP := Lib.hid (pad_nonneg hv)
  have hcv := valid_conj hv
  have hcl := (valid_bd hcv).2.2.2
  have hq : decide (pad L = pad (conj L)) = kSelf L := by
    unfold kSelf
    rw [decide_eq_decide]
    constructor
    · intro h; exact (pad_inj hv hcv h)
    · intro h; rw [← h]
  have HQ := Lib.hid hq
  have hca := (acc_end (pad L) (pad_len hl16)).trans (conj_pad hv)
  have HCA := Lib.hid hca
  have heq : ∀ w : World, (Op.equalIn 10000 58 (.agg (ints (pad L)).toArray) (.agg (arr (pad (conj L))))).run Try.prog w = .ok (decide (pad L = pad (conj L))) w := T_eqd (pad L) (pad (conj L)) (pad_len hl16) (pad_len hcl)
  have hgt : Try.prog.eqGuardType Try.prog.depth 58 = false := by kernel_rfl
  have hB0 := Blk.new w 58 (arr (pad L))
  have hiL : (Try.prog.info? 58).map (·.size) = some (arr (pad L)).size := by rw [arr_size, pad_len hl16]; exact T_info35
  have hbel0 : Below w.heap.size w (w.alloc (.cells (arr (pad L)) 58)) := (Below.refl _ _).alloc (Nat.le_refl _) _
  have hr0 : (w.alloc (.cells (arr (pad L)) 58)).rangeAt w.heap.size 0 (ints (pad L)) := Blk.range (vs := ints (pad L)) hB0
  have hu := Try.underlying58
  have hiL' : (Try.prog.info? 58).map (·.size) = some (ints (pad L)).length := by rw [List.length_map, pad_len hl16]; exact T_info35
  clear hv hq hca
  go_enter Try.func62, Try.ntmps62
  go_wp2_with fail
  refine wp_region_held_drew (S := fun w' => w'.rangeAt w.heap.size 0 (ints (pad L)) ∧ Below w.heap.size w w') (by kernel_rfl) ⟨hr0, hbel0.trans ((Dr.n _ 1).below _)⟩ (fun hHeld => ?_)
  refine wpAnyH_take (i := 0) (v := _) (by simp only [List.getElem?_toArray, List.getElem?_cons_succ, List.getElem?_cons_zero]; exact rfl) (by kernel_rfl) (by kernel_rfl) (by kernel_rfl) (by intro _ _ _ h; exact h) (yieldsIf_load_mid (by kernel_rfl) _ _ rfl w.heap.size 0 rfl (ints (pad L)) _ (fun _ hw => hw.1) hu rfl hiL') (by assumption) ?_
  simp only [Act.put, List.setIfInBounds_toArray, List.set_cons_zero, List.set_cons_succ, List.toList_toArray]
  refine wpAnyH_take (i := 1) (v := _) (by simp only [List.getElem?_toArray, List.getElem?_cons_succ, List.getElem?_cons_zero]; exact rfl) (by kernel_rfl) (by kernel_rfl) (by kernel_rfl) (by intro _ _ _ h; exact h) (yieldsIf_load_mid (by kernel_rfl) _ _ rfl w.heap.size 0 rfl (ints (pad L)) _ (fun _ hw => hw.1) hu rfl hiL') (by assumption) ?_
  simp only [Act.put, List.setIfInBounds_toArray, List.set_cons_zero, List.set_cons_succ, List.toList_toArray]
  refine wpAnyH_ready (rs := [2]) (by kernel_rfl) (by simp) ?_
  refine AllReadyH.cons (o := _) (by simp only [List.getElem?_toArray, List.getElem?_cons_succ, List.getElem?_cons_zero]; exact rfl) (fun K hK => ?_) AllReadyH.nil
  rw [if_pos (by rfl)]
  go_simp
  go_at_call 77
  refine (conjugate_any (pad L) HPL.out HNP.out _).mono ?_
  rintro e w1 ⟨rfl, hb1⟩
  rw [HCA.out]
  refine hK.out _ _ ⟨range_below hHeld.1 hb1, hHeld.2.trans (hb1.mono hHeld.2.size)⟩ (fun hH2 => ?_)
  clear hK K
  try simp only [Act.put, List.setIfInBounds_toArray, List.set_cons_zero, List.set_cons_succ, List.toList_toArray]
  refine wpAnyH_take (i := 3) (v := .bool (decide (pad L = pad (conj L)))) (by simp only [List.getElem?_toArray, List.getElem?_cons_succ, List.getElem?_cons_zero]; exact rfl) (by kernel_rfl) (by kernel_rfl) (by kernel_rfl) (by intro _ _ _ h; exact h) (Or.inl ⟨by kernel_rfl, by intro w hSw; go_simp⟩) (by assumption) ?_
  simp only [Act.put, List.setIfInBounds_toArray, List.set_cons_zero, List.set_cons_succ, List.toList_toArray]
  refine wpAnyH_take (i := 4) (v := .bool (decide (pad L = pad (conj L)))) (by simp only [List.getElem?_toArray, List.getElem?_cons_succ, List.getElem?_cons_zero]; exact rfl) (by kernel_rfl) (by kernel_rfl) (by kernel_rfl) (by intro _ _ _ h; exact h) (Or.inl ⟨by kernel_rfl, by intro w hSw; go_simp⟩) (by assumption) ?_
  simp only [Act.put, List.setIfInBounds_toArray, List.set_cons_zero, List.set_cons_succ, List.toList_toArray]
  refine wpAnyH_done (by kernel_rfl) ?_ _
  try simp only [Act.put, List.setIfInBounds_toArray, List.set_cons_zero, List.set_cons_succ]
  go_wp2_with fail
  go_ret
  exact ⟨ret_bool HQ.out, hH2.2⟩
end Go.Proofs.Ytfcmfjhlmjnjiaa
