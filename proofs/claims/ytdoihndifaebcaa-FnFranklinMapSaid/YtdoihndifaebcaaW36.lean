/-
  Walks of the model: hooks of own conjugates.
-/
import Derived.Test.YtdoihndifaebcaaW34
import Derived.Test.YtdoihndifaebcaaW35
import Derived.Test.YtdoihndifaebcaaW17
namespace Go.Proofs.Ytdoihndifaebcaa
open Go.RowKit NP
set_option linter.unusedVariables false
set_option linter.unusedSimpArgs false
def h2oT (L : List Int) (k : Nat) : List Int := (List.range k).map fun (i : Nat) => 2 * L.getD i 0 - 2 * (i : Int) - 1
theorem h2oT_succ (L : List Int) (k : Nat) : h2oT L (k + 1) = h2oT L k ++ [2 * L.getD k 0 - 2 * (k : Int) - 1] := by unfold h2oT; rw [List.range_succ, List.map_append]; rfl
theorem h2oT_len (L : List Int) (k : Nat) : (h2oT L k).length = k := by simp [h2oT]
theorem h2oT_end (L : List Int) : h2oT L (durS L) = h2o L := by
  unfold h2oT h2o froA armsTo
  rw [List.map_map]
  apply List.map_congr_left
  intro i _
  simp only [Function.comp]
  omega
def halvesT (L : List Int) (k : Nat) : List Int := halves (L.take k)
theorem halvesT_succ (L : List Int) (k : Nat) (h : k < L.length) : halvesT L (k + 1) = halvesT L k ++ [L[k] / 2] := by unfold halvesT halves; rw [List.take_succ_eq_append_getElem h, List.map_append]; rfl
theorem remIn_two (L : List Int) : remIn 2 [1] L = kRem 2 1 L := by
  unfold remIn kRem
  congr 1
  funext j
  simp [hasI]
  try rw [Bool.eq_iff_iff]
  try simp
  try omega

set_option maxHeartbeats 2000000 in
theorem sHooksToOdd_any (a : Option Addr) (c B : Nat) (L : List Int) (w : World) (h : Rd w B a (ints L)) (hB : B ≤ w.heap.size) (hl : L.length ≤ 4611686018427387904) :
    Calls Try.prog 34 #[.slice a L.length c] w fun e w' => ∃ a' c', e = .returned (.tuple #[.slice a' (h2oF L).length c', .bool (slf L)]) ∧ Own w' w.heap.size w'.heap.size 3 (.slice a' (h2oF L).length c') (ints (h2oF L)) ∧ Below w.heap.size w w' := by
  obtain ⟨i0, hi, hz0, hz1, hz2⟩ := T_int'
  cases hv : valid L with
  | false =>
    have HV := Lib.hid hv
    have hd : slf L = false := by simp [slf, hv]
    rw [h2oF_no hd, hd]
    clear hv hd
    go_enter Try.func34, Try.ntmps34
    go_wp2_with (go_at_call 47; refine (validParts_any _ _ B L _ h hl).mono ?_; rintro e wv ⟨rfl, n1, rfl⟩; rw [HV.out])
    go_ret2
    exact ⟨none, 0, rfl, own_nil0 _ _ _, (Dr.n w n1).below _⟩
  | true =>
    have HV := Lib.hid hv
    have hl16 := (valid_bd hv).2.2.2
    have hcl := (valid_bd (valid_conj hv)).2.2.2
    cases hk : kSelf L with
    | false =>
      have HK : Hid (decide (L = conj L) = false) := Lib.hid hk
      have hd : slf L = false := by simp [slf, hk]
      rw [h2oF_no hd, hd]
      clear hv hd hk
      go_enter Try.func34, Try.ntmps34
      go_wp2_with (first
        | (go_at_call 67; refine (same_any _ _ _ _ _ _ L (conj L) (by omega) _ (((h.more hB).dr (Dr.n w n1)).below hb2) ho2.rd (by omega)).mono ?_; rintro e wv ⟨rfl, n3, rfl⟩; rw [HK.out])
        | (go_at_call 68; refine (sconjugate_any _ _ B L _ (h.dr (Dr.n w n1)) hB HV.out).mono ?_; rintro e w2 ⟨a2, c2, rfl, ho2, hb2⟩)
        | (go_at_call 47; refine (validParts_any _ _ B L _ h hl).mono ?_; rintro e wv ⟨rfl, n1, rfl⟩; rw [HV.out]))
      go_ret2
      exact ⟨none, 0, rfl, own_nil0 _ _ _, (((Dr.n w n1).below _).trans hb2).trans ((Dr.n w2 n3).below _)⟩
    | true =>
      have HK : Hid (decide (L = conj L) = true) := Lib.hid hk
      have hd : slf L = true := by simp [slf, hv, hk]
      have HNN := Lib.hid (getD_nn hv)
      have hds := durS_spec L
      have hdl : durS L ≤ L.length := hds.1
      have HE := Lib.hid (h2oT_end L)
      rw [h2oF_yes hd, hd]
      obtain ⟨d, hdd⟩ : ∃ d, d = durS L := ⟨_, rfl⟩
      rw [← hdd] at hdl HE
      have HD := Lib.hid hdd
      clear hv hd hk hds hdd
      go_enter Try.func34, Try.ntmps34
      go_wp2_with (first
        | (go_at_call 67; refine (same_any _ _ _ _ _ _ L (conj L) (by omega) _ (((h.more hB).dr (Dr.n w n1)).below hb2) ho2.rd (by omega)).mono ?_; rintro e wv ⟨rfl, n3, rfl⟩; rw [HK.out]; have hbel0 : Below w.heap.size w (w2.drewN n3) := (((Dr.n w n1).below _).trans hb2).trans ((Dr.n w2 n3).below _))
        | (go_at_call 68; refine (sconjugate_any _ _ B L _ (h.dr (Dr.n w n1)) hB HV.out).mono ?_; rintro e w2 ⟨a2, c2, rfl, ho2, hb2⟩)
        | (go_at_call 47; refine (validParts_any _ _ B L _ h hl).mono ?_; rintro e wv ⟨rfl, n1, rfl⟩; rw [HV.out]))
      go_loopw [4, 5] (fun v vi wr => ∃ k : Nat, k ≤ d ∧ vi = .int .i64 (k : Int) ∧ Below w.heap.size w wr ∧ Own wr w.heap.size wr.heap.size 3 v (ints (h2oT L k))) (fun _ vi _ => 20 - (intOf vi).toNat)
      case atStart => exact ⟨0, Nat.zero_le _, rfl, hbel0.alloc hbel0.size _, ((Own.empty (w2.drewN n3) 3).lower hbel0.size).more⟩
      case round =>
        obtain ⟨k, hk, rfl, hbel, hown⟩ := hrel
        clear hbel0 hb2 ho2
        have hRr := (h.more hB).below hbel
        have hlr := h2oT_len L k
        by_cases hlt : k < d
        · have hlt' : (k : Int) < (d : Int) := by omega
          have hkL : k < L.length := by omega
          have hS := Lib.hid (h2oT_succ L k)
          have hx := HNN.out k
          rw [getD_lt hkL] at hx hS
          obtain ⟨b1, o1, rfl, _, hc1⟩ := hRr.at_ hkL
          obtain ⟨vs, hvs⟩ : ∃ vs, vs = ints (h2oT L k) := ⟨_, rfl⟩
          have hlv : vs.length ≤ 16 := by rw [hvs, List.length_map]; omega
          rw [← hvs] at hown
          have HVS := Lib.hid hvs
          have HO := Lib.hid hown
          clear hvs hown hlr
          generalize L[k] = x at *
          obtain ⟨z, hz⟩ : ∃ z, 2 * x - 2 * (k : Int) - 1 = z := ⟨_, rfl⟩
          have hzb : -100 ≤ z ∧ z ≤ 100 := by omega
          have HZ := Lib.hid hz
          go_wp2_with (first
            | (at_builtin; refine wpList_append_o _ rfl (.tmp 23) (.tmp 33) 22 rfl w.heap.size wr.heap.size 3 i0 (.int .i64 0) 8 Try.underlying22 hi hz0 hz1 hz2 rfl _ vs rfl (HO.out.alloc _) (wr.heap.size + 1) (some ⟨wr.heap.size, 0, none⟩) 1 1 [.int .i64 (z)] rfl (Rd.one _ _ _) rfl (by simp; rfl) (by unfold maxLen; omega) (by omega) (by have := hbel.size; simp; omega) ?_; intro v' w1 ho1 hg1 hat1)
            | (go_at_call 69; refine (sdurfee_any _ _ _ L _ hRr hl).mono ?_; rintro e w' ⟨rfl, rfl⟩; rw [← HD.out]))
          go_roundw
          case rel =>
            refine ⟨k + 1, by omega, by go_num, below_push hbel (Nat.le_refl _) hg1 HO.out.base, ?_⟩
            rw [HVS.out] at ho1
            rw [hS.out, HZ.out]
            simpa [ints] using ho1
          case measure => simp [intOf]; omega
        · obtain rfl : k = d := by omega
          rw [HE.out] at hown
          obtain ⟨a', c', rfl⟩ := hown.form
          have hl4 : (ints (h2o L)).length = (h2o L).length := by simp
          rw [hl4] at hown ⊢
          have HO := Lib.hid hown
          clear hown hl4 hlt hk hlr
          go_wp2_with (go_at_call 69; refine (sdurfee_any _ _ _ L _ hRr hl).mono ?_; rintro e w' ⟨rfl, rfl⟩; rw [← HD.out])
          go_ret2
          exact ⟨a', c', rfl, HO.out, hbel⟩

set_option maxHeartbeats 2000000 in
theorem sOddToHooks_any (a : Option Addr) (c B : Nat) (L : List Int) (w : World) (h : Rd w B a (ints L)) (hB : B ≤ w.heap.size) (hl : L.length ≤ 4611686018427387904) :
    Calls Try.prog 39 #[.slice a L.length c] w fun e w' => ∃ a' c', e = .returned (.tuple #[.slice a' (o2hF L).length c', .bool (dod L)]) ∧ Own w' w.heap.size w'.heap.size 3 (.slice a' (o2hF L).length c') (ints (o2hF L)) ∧ Below w.heap.size w w' := by
  obtain ⟨i0, hi, hz0, hz1, hz2⟩ := T_int'
  cases hv : valid L with
  | false =>
    have HV := Lib.hid hv
    have hd : dod L = false := by simp [dod, hv]
    rw [o2hF_no hd, hd]
    clear hv hd
    go_enter Try.func39, Try.ntmps39
    go_wp2_with (go_at_call 47; refine (validParts_any _ _ B L _ h hl).mono ?_; rintro e wv ⟨rfl, n1, rfl⟩; rw [HV.out])
    go_ret2
    exact ⟨none, 0, rfl, own_nil0 _ _ _, (Dr.n w n1).below _⟩
  | true =>
    have HV := Lib.hid hv
    have hl16 := (valid_bd hv).2.2.2
    cases hk : kFall 1 1 L with
    | false =>
      have HK := Lib.hid hk
      have hd : dod L = false := by simp [dod, hk]
      rw [o2hF_no hd, hd]
      clear hv hd hk
      go_enter Try.func39, Try.ntmps39
      go_wp2_with (first
        | (go_at_call 48; refine (gaps_any _ _ B L 1 (by omega) HV.out _ (h.dr (Dr.n w n1))).mono ?_; rintro e wv ⟨rfl, n2, rfl⟩; rw [HK.out])
        | (go_at_call 47; refine (validParts_any _ _ B L _ h hl).mono ?_; rintro e wv ⟨rfl, n1, rfl⟩; rw [HV.out]))
      go_ret2
      exact ⟨none, 0, rfl, own_nil0 _ _ _, (Dr.n w (n1 + n2)).below _⟩
    | true =>
      have HK := Lib.hid hk
      cases hr : kRem 2 1 L with
      | false =>
        have HR : Hid (remIn 2 [1] L = false) := Lib.hid (by rw [remIn_two, hr])
        have hd : dod L = false := by simp [dod, hr]
        rw [o2hF_no hd, hd]
        clear hv hd hk hr
        go_enter Try.func39, Try.ntmps39
        go_wp2_with (first
          | (go_at_call 73; refine (allRemain_any _ _ _ _ _ B L [1] 2 (by omega) HV.out _ ((h.dr (Dr.n w (n1 + n2))).below ((Below.refl B (w.drewN (n1 + n2))).alloc hB _)) hr1 (by simp)).mono ?_; rintro e wv ⟨rfl, rfl⟩; rw [HR.out])
          | (go_at_call 48; refine (gaps_any _ _ B L 1 (by omega) HV.out _ (h.dr (Dr.n w n1))).mono ?_; rintro e wv ⟨rfl, n2, rfl⟩; rw [HK.out]; have hr1 : Rd ((w.drewN (n1 + n2)).alloc (.cells #[.int .i64 1] 3)) (w.heap.size + 1) (some ⟨w.heap.size, 0, none⟩) (ints [1]) := rd_new (w.drewN (n1 + n2)) #[.int .i64 1] 3)
          | (go_at_call 47; refine (validParts_any _ _ B L _ h hl).mono ?_; rintro e wv ⟨rfl, n1, rfl⟩; rw [HV.out]))
        go_ret2
        exact ⟨none, 0, rfl, own_nil0 _ _ _, ((Dr.n w (n1 + n2)).below _).alloc (by simp) _⟩
      | true =>
        have HR : Hid (remIn 2 [1] L = true) := Lib.hid (by rw [remIn_two, hr])
        have hd : dod L = true := by simp [dod, hv, hk, hr]
        have HNN := Lib.hid (getD_nn hv)
        obtain ⟨hok, -, -⟩ := o2h_facts hd
        have HOK := Lib.hid hok
        rw [o2hF_yes hd, hd]
        clear hv hd hk hr hok
        go_enter Try.func39, Try.ntmps39
        go_wp2_with (first
          | (go_at_call 73; refine (allRemain_any _ _ _ _ _ B L [1] 2 (by omega) HV.out _ ((h.dr (Dr.n w (n1 + n2))).below ((Below.refl B (w.drewN (n1 + n2))).alloc hB _)) hr1 (by simp)).mono ?_; rintro e wv ⟨rfl, rfl⟩; rw [HR.out])
          | (go_at_call 48; refine (gaps_any _ _ B L 1 (by omega) HV.out _ (h.dr (Dr.n w n1))).mono ?_; rintro e wv ⟨rfl, n2, rfl⟩; rw [HK.out]; have hr1 : Rd ((w.drewN (n1 + n2)).alloc (.cells #[.int .i64 1] 3)) (w.heap.size + 1) (some ⟨w.heap.size, 0, none⟩) (ints [1]) := rd_new (w.drewN (n1 + n2)) #[.int .i64 1] 3; have hbel0 := ((Dr.n w (n1 + n2)).below w.heap.size).alloc (by simp) (.cells #[.int .i64 1] 3))
          | (go_at_call 47; refine (validParts_any _ _ B L _ h hl).mono ?_; rintro e wv ⟨rfl, n1, rfl⟩; rw [HV.out]))
        go_loopw [4, 5] (fun v vi wr => ∃ k : Nat, k ≤ L.length ∧ vi = .int .i64 (k : Int) ∧ Below w.heap.size w wr ∧ Own wr w.heap.size wr.heap.size 3 v (ints (halvesT L k))) (fun _ vi _ => 20 - (intOf vi).toNat)
        case atStart => exact ⟨0, Nat.zero_le _, rfl, hbel0.alloc hbel0.size _, by
          have e := ((Own.empty ((w.drewN (n1 + n2)).alloc (.cells #[.int .i64 1] 3)) 3).lower hbel0.size).more
          have hs : ((w.drewN (n1 + n2)).alloc (.cells #[.int .i64 1] 3)).heap.size = w.heap.size + 1 := by simp
          rw [hs] at e
          exact e⟩
        case round =>
          obtain ⟨k, hk, rfl, hbel, hown⟩ := hrel
          clear hbel0
          by_cases hlt : k < L.length
          · have hlt' : (k : Int) < (L.length : Int) := by omega
            have hS := Lib.hid (halvesT_succ L k hlt)
            have hx := HNN.out k
            rw [getD_lt hlt] at hx
            obtain ⟨b1, o1, rfl, _, hc1⟩ := ((h.more hB).below hbel).at_ hlt
            obtain ⟨vs, hvs⟩ : ∃ vs, vs = ints (halvesT L k) := ⟨_, rfl⟩
            have hlv : vs.length ≤ 16 := by rw [hvs, List.length_map]; simp [halvesT, halves]; omega
            rw [← hvs] at hown
            have HVS := Lib.hid hvs
            have HO := Lib.hid hown
            clear hvs hown
            generalize L[k] = x at *
            obtain ⟨z, hz⟩ : ∃ z, x / 2 = z := ⟨_, rfl⟩
            have hz' : x.tdiv 2 = z := by rw [Int.tdiv_eq_ediv_of_nonneg hx.1]; exact hz
            have HZ := Lib.hid hz
            go_wp2_with (at_builtin; refine wpList_append_o _ rfl (.tmp 27) (.tmp 33) 22 rfl w.heap.size wr.heap.size 3 i0 (.int .i64 0) 8 Try.underlying22 hi hz0 hz1 hz2 rfl _ vs rfl (HO.out.alloc _) (wr.heap.size + 1) (some ⟨wr.heap.size, 0, none⟩) 1 1 [.int .i64 (z)] rfl (Rd.one _ _ _) rfl (by simp; rfl) (by unfold maxLen; omega) (by omega) (by have := hbel.size; simp; omega) ?_; intro v' w1 ho1 hg1 hat1)
            go_roundw
            case rel =>
              refine ⟨k + 1, by omega, by go_num, below_push hbel (Nat.le_refl _) hg1 HO.out.base, ?_⟩
              rw [HVS.out] at ho1
              rw [hS.out, HZ.out]
              simpa [ints] using ho1
            case measure => simp [intOf]; omega
          · obtain rfl : k = L.length := by omega
            have HT : Hid (halvesT L L.length = halves L) := Lib.hid (by unfold halvesT; rw [List.take_of_length_le (Nat.le_refl _)])
            rw [HT.out] at hown
            obtain ⟨a', c', rfl⟩ := hown.form
            have hl4 : (ints (halves L)).length = (halves L).length := by simp
            rw [hl4] at hown ⊢
            have HO := Lib.hid hown
            clear hown hl4 hlt hk
            go_wp2_with (go_at_call 74; refine (ofFrobenius_any _ _ _ _ _ _ (halves L) (halves L) _ HO.out.rd HO.out.rd (Nat.le_refl _) (Nat.le_refl _) HOK.out).mono ?_; rintro e w3 ⟨a3, c3, rfl, ho3, hb3⟩)
            go_ret2
            exact ⟨a3, c3, rfl, ho3.lower hbel.size, hbel.trans (hb3.mono hbel.size)⟩
end Go.Proofs.Ytdoihndifaebcaa
