/-
  Walks of the model: Franklin's map.
-/
import Derived.Test.YtdoihndifaebcaaW34
import Derived.Test.YtdoihndifaebcaaW36
import Derived.Test.YtdoihndifaebcaaM27
namespace Go.Proofs.Ytdoihndifaebcaa
open Go.RowKit NP
set_option linter.unusedVariables false
set_option linter.unusedSimpArgs false
theorem Own.capB {w : World} {lo hi : Nat} {e : TypeId} {a : Option Addr} {n c : Nat} {vs : List Value} (h : Own w lo hi e (.slice a n c) vs) : n ≤ c := by
  rcases h.row.2 with ⟨h1, h2⟩ | ⟨g, cap, cur, hv, _, _, hle, _⟩
  · injection h1 with _ h3 h4; omega
  · injection hv with _ h3 h4; omega
theorem ints_take (L : List Int) (k : Nat) : ints (L.take k) = (ints L).take k := by simp [ints, List.map_take]
theorem ints_getE (L : List Int) (i : Nat) (h : i < (ints L).length) : (ints L)[i] = .int .i64 (L[i]'(by simpa using h)) := by simp [ints]
def frAk (L : List Int) (k : Nat) : List Int := (List.range (L.length - 1)).map fun (j : Nat) => L.getD j 0 + if j < k then 1 else 0
def frBk (L : List Int) (k : Nat) : List Int := (List.range L.length).map fun (j : Nat) => L.getD j 0 - if j < k then 1 else 0
theorem frAk_len (L : List Int) (k : Nat) : (frAk L k).length = L.length - 1 := by simp [frAk]
theorem frBk_len (L : List Int) (k : Nat) : (frBk L k).length = L.length := by simp [frBk]
theorem frAk_zero (L : List Int) : frAk L 0 = L.take (L.length - 1) := by
  apply List.ext_getElem
  · rw [frAk_len, List.length_take]; omega
  · intro j h1 h2
    rw [frAk_len] at h1
    have hj : j < L.length := by omega
    simp only [frAk, List.getElem_map, List.getElem_range, List.getElem_take]
    rw [getD_lt hj, if_neg (Nat.not_lt_zero j), Int.add_zero]
theorem frBk_zero (L : List Int) : frBk L 0 = L := by
  apply List.ext_getElem
  · rw [frBk_len]
  · intro j h1 h2
    simp only [frBk, List.getElem_map, List.getElem_range]
    rw [getD_lt h2, if_neg (Nat.not_lt_zero j), Int.sub_zero]
theorem frAk_get (L : List Int) {i : Nat} (hi : i < L.length - 1) (h : i < (frAk L i).length) : (frAk L i)[i] = L.getD i 0 := by simp [frAk]
theorem frBk_get (L : List Int) {i : Nat} (hi : i < L.length) (h : i < (frBk L i).length) : (frBk L i)[i] = L.getD i 0 := by simp [frBk]
theorem frAk_set (L : List Int) {i : Nat} (hi : i < L.length - 1) : (frAk L i).set i (L.getD i 0 + 1) = frAk L (i + 1) := by
  apply List.ext_getElem
  · simp [frAk]
  · intro j h1 h2
    rw [List.getElem_set]
    simp only [frAk, List.getElem_map, List.getElem_range]
    by_cases hj : i = j
    · subst hj
      rw [if_pos rfl, if_pos (Nat.lt_succ_self i)]
    · rw [if_neg hj]
      by_cases hk : j < i
      · rw [if_pos hk, if_pos (by omega)]
      · rw [if_neg hk, if_neg (by omega)]
theorem frBk_set (L : List Int) {i : Nat} (hi : i < L.length) : (frBk L i).set i (L.getD i 0 - 1) = frBk L (i + 1) := by
  apply List.ext_getElem
  · simp [frBk]
  · intro j h1 h2
    rw [List.getElem_set]
    simp only [frBk, List.getElem_map, List.getElem_range]
    by_cases hj : i = j
    · subst hj
      rw [if_pos rfl, if_pos (Nat.lt_succ_self i)]
    · rw [if_neg hj]
      by_cases hk : j < i
      · rw [if_pos hk, if_pos (by omega)]
      · rw [if_neg hk, if_neg (by omega)]
theorem frA_k {L : List Int} {m : Nat} (h : lastP L = (m : Int)) : frA L = frAk L m := by
  unfold frA frAk
  rw [h]
  apply List.map_congr_left
  intro j _
  by_cases hj : j < m <;> simp [hj]
theorem frB_k (L : List Int) : frB L = frBk L (slp L) ++ [(slp L : Int)] := rfl

theorem slp_eqM {L : List Int} {k : Nat} (h : ∀ j, j < k → (fun n : Nat => decide (L.getD n 0 = L.getD 0 0 - (n : Int))) j = true) (h2 : k ≤ L.length) (h3 : k = L.length ∨ (fun n : Nat => decide (L.getD n 0 = L.getD 0 0 - (n : Int))) k = false) : slp L = k := ff_eq h h2 h3

set_option maxHeartbeats 2000000 in
theorem sslope_any (a : Option Addr) (c B : Nat) (L : List Int) (hv : valid L = true) (w : World) (h : Rd w B a (ints L)) :
    Calls Try.prog 62 #[.slice a L.length c] w fun e w' => e = .returned (.int .i64 (slp L : Int)) ∧ ∃ n, w' = w.drewN n := by
  have hl16 := (valid_bd hv).2.2.2
  have HNN := Lib.hid (getD_nn hv)
  clear hv
  go_enter Try.func62, Try.ntmps62
  go_wp2_with fail
  go_loopw [3] (fun vi wr => ∃ k : Nat, k ≤ L.length ∧ vi = .int .i64 (k : Int) ∧ Dr w wr ∧ Hid (∀ j, j < k → (fun n : Nat => decide (L.getD n 0 = L.getD 0 0 - (n : Int))) j = true)) (fun vi _ => L.length - (intOf vi).toNat)
  case atStart => exact ⟨0, Nat.zero_le _, rfl, Dr.refl _, Lib.hid fun j hj => by omega⟩
  case round =>
    obtain ⟨k, hk, rfl, hdr, HJ⟩ := hrel
    by_cases hlt : k < L.length
    · have hlt' : (k : Int) < (L.length : Int) := by omega
      have hk0 : 0 < L.length := by omega
      obtain ⟨b1, o1, rfl, _, hc⟩ := (h.dr hdr).at_ hlt
      obtain ⟨b2, o2, e', -, hc'⟩ := (h.dr hdr).at_ hk0
      injection e' with e'; injection e' with e2 e3; subst e2 e3
      rw [Nat.add_zero] at hc'
      have hx := HNN.out k
      have hy := HNN.out 0
      have hg : L.getD k 0 = L[k] := getD_lt hlt
      have hg' : L.getD 0 0 = L[0] := getD_lt hk0
      rw [hg] at hx
      rw [hg'] at hy
      have HG := Lib.hid hg
      have HG' := Lib.hid hg'
      clear hg hg'
      generalize L[k] = x at hc hx HG
      generalize L[0] = y at hc' hy HG'
      have hk16 : k ≤ 16 := by omega
      have hw1 : IntKind.i64.wrap (y - (k : Int)) = y - (k : Int) := IntWalk.i64_in _ (by omega)
      by_cases e2 : x = y - (k : Int)
      · have hq : (x == y - (k : Int)) = true := beq_iff_eq.2 e2
        have HE := Lib.hid e2
        clear e2
        go_wp2_with fail
        go_quiet (fail)
        go_wp2
        go_roundw
        case rel => exact ⟨k + 1, by omega, by go_num, hdr.drewN _, Lib.hid (upto HJ.out (by show decide _ = true; rw [HG.out, HG'.out]; exact decide_eq_true HE.out))⟩
        case measure => simp [intOf]; omega
      · have hq : (x == y - (k : Int)) = false := beq_eq_false_iff_ne.2 e2
        have HE := Lib.hid e2
        clear e2
        go_wp2_with fail
        go_quiet (fail)
        go_wp2
        go_ret
        exact ⟨ret_i64 (by rw [slp_eqM HJ.out hk (.inr (by show decide _ = false; rw [HG.out, HG'.out]; exact decide_eq_false HE.out))]), hdr.trans (Dr.n _ _)⟩
    · obtain rfl : k = L.length := by omega
      have HF : Hid (slp L = L.length) := Lib.hid (slp_eqM HJ.out (Nat.le_refl _) (.inl rfl))
      clear hlt
      go_wp2_with fail
      go_quiet (fail)
      go_wp2
      go_ret
      exact ⟨ret_i64 (by rw [HF.out]), hdr.trans (Dr.n _ _)⟩

set_option maxHeartbeats 8000000 in
theorem sFranklinMap_any (a : Option Addr) (c B : Nat) (L : List Int) (w : World) (h : Rd w B a (ints L)) (hB : B ≤ w.heap.size) (hl : L.length ≤ 4611686018427387904) (hcap : L.length ≤ c) :
    Calls Try.prog 30 #[.slice a L.length c] w fun e w' => ∃ a' c', e = .returned (.tuple #[.slice a' (frF L).length c', .bool (frOk L)]) ∧ Own w' w.heap.size w'.heap.size 3 (.slice a' (frF L).length c') (ints (frF L)) ∧ Below w.heap.size w w' := by
  obtain ⟨i0, hi, hz0, hz1, hz2⟩ := T_int'
  cases hv : valid L with
  | false =>
    have HV := Lib.hid hv
    have hd : frOk L = false := by simp [frOk, hv]
    rw [frF_no hd, hd]
    clear hv hd
    go_enter Try.func30, Try.ntmps30
    go_wp2_with (go_at_call 47; refine (validParts_any _ _ B L _ h hl).mono ?_; rintro e wv ⟨rfl, n1, rfl⟩; rw [HV.out])
    go_ret2
    exact ⟨none, 0, rfl, own_nil0 _ _ _, (Dr.n w n1).below _⟩
  | true =>
    have HV := Lib.hid hv
    have hl16 := (valid_bd hv).2.2.2
    cases hk : kFall 1 1 L with
    | false =>
      have HK := Lib.hid hk
      have hd : frOk L = false := by simp [frOk, hk]
      rw [frF_no hd, hd]
      clear hv hd hk
      go_enter Try.func30, Try.ntmps30
      go_wp2_with (first
        | (go_at_call 48; refine (gaps_any _ _ B L 1 (by omega) HV.out _ (h.dr (Dr.n w n1))).mono ?_; rintro e wv ⟨rfl, n2, rfl⟩; rw [HK.out])
        | (go_at_call 47; refine (validParts_any _ _ B L _ h hl).mono ?_; rintro e wv ⟨rfl, n1, rfl⟩; rw [HV.out]))
      go_ret2
      exact ⟨none, 0, rfl, own_nil0 _ _ _, (Dr.n w (n1 + n2)).below _⟩
    | true =>
      have HK := Lib.hid hk
      have HNN := Lib.hid (getD_nn hv)
      by_cases h0 : L.length = 0
      · have hd : frOk L = false := by unfold frOk mayS; rw [show decide (0 < L.length) = false from decide_eq_false (by omega)]; simp
        rw [frF_no hd, hd]
        have hq0 : ((L.length : Int) == 0) = true := beq_iff_eq.2 (by omega)
        clear hv hd hk h0
        go_enter Try.func30, Try.ntmps30
        go_wp2_with (first
          | (go_at_call 48; refine (gaps_any _ _ B L 1 (by omega) HV.out _ (h.dr (Dr.n w n1))).mono ?_; rintro e wv ⟨rfl, n2, rfl⟩; rw [HK.out])
          | (go_at_call 47; refine (validParts_any _ _ B L _ h hl).mono ?_; rintro e wv ⟨rfl, n1, rfl⟩; rw [HV.out]))
        go_ret2
        exact ⟨none, 0, rfl, own_nil0 _ _ _, (Dr.n w (n1 + n2)).below _⟩
      · have hq0 : ((L.length : Int) == 0) = false := beq_eq_false_iff_ne.2 (by omega)
        have hlp := getD_nn hv (L.length - 1)
        obtain ⟨m, hm⟩ := Int.eq_ofNat_of_zero_le (show 0 ≤ lastP L from hlp.1)
        obtain ⟨t, ht⟩ : ∃ t, t = slp L := ⟨_, rfl⟩
        have hm16 : m ≤ 16 := by have : lastP L ≤ 16 := hlp.2; omega
        have htl : t ≤ L.length := by rw [ht]; exact (ff_spec _ _).1
        have HLP : Hid (lastP L = (m : Int)) := Lib.hid hm
        have HT : Hid (slp L = t) := Lib.hid ht.symm
        have HMS : Hid (frOk L = (decide (t < L.length) || (decide (m ≠ L.length) && decide (m ≠ L.length + 1)))) := Lib.hid (by
          unfold frOk mayS
          rw [hv, hk, hm, ← ht, decide_eq_true (show 0 < L.length by omega)]
          have e1 : decide ((m : Int) ≠ (L.length : Int)) = decide (m ≠ L.length) := by by_cases e : m = L.length <;> simp [e]; omega
          have e2 : decide ((m : Int) ≠ (L.length : Int) + 1) = decide (m ≠ L.length + 1) := by by_cases e : m = L.length + 1 <;> simp [e]; omega
          rw [e1, e2]; simp)
        have HML : Hid (frOk L = true → m ≤ t → m + 1 ≤ L.length) := Lib.hid (fun hd hmt => by
          have := (fr_facts hd).2.2.2.2.2.2.2 (by rw [hm, ← ht]; omega)
          rw [hm] at this; omega)
        have HLL : Hid (L[L.length - 1]'(by omega) = (m : Int)) := Lib.hid (by rw [← hm]; unfold lastP; rw [getD_lt (show L.length - 1 < L.length by omega)])
        have HFB : Hid (frB L = frBk L t ++ [(t : Int)]) := Lib.hid (by rw [ht]; rfl)
        have h0i : (1 : Int) ≤ (L.length : Int) := by omega
        have h0n : ¬ (L.length : Int) < 1 := by omega
        have h1n : 1 ≤ L.length := by omega
        clear hlp hm ht hv hk
        by_cases hle : m ≤ t
        · by_cases hmt2 : m = t
          · by_cases hml : L.length = t
            · have hmt := hmt2
              have hle' : (m : Int) ≤ (t : Int) := by omega
              have hgt' : ¬ (t : Int) < (m : Int) := by omega
              have q1 : ((m : Int) == ((t : Int))) = true := beq_iff_eq.2 (by omega)
              have q2 : ((L.length : Int) == ((t : Int))) = true := beq_iff_eq.2 (by omega)
              have hM : frOk L = false := by rw [HMS.out]; simp; omega
              rw [frF_no hM, hM]
              clear hM hmt hml hmt2
              go_enter Try.func30, Try.ntmps30
              go_wp2_with (first
                | (go_at_call 62; refine (sslope_any _ _ B L HV.out _ hRL).mono ?_; rintro e wv ⟨rfl, n3, rfl⟩; rw [HT.out]; have hR3 := h.dr (Dr.n w (n1 + n2 + n3)); have hd3 := Dr.n w (n1 + n2 + n3))
                | (go_at_call 48; refine (gaps_any _ _ B L 1 (by omega) HV.out _ (h.dr (Dr.n w n1))).mono ?_; rintro e wv ⟨rfl, n2, rfl⟩; rw [HK.out]; have hRL := h.dr (Dr.n w (n1 + n2)); obtain ⟨b0, o0, rfl, hb0, hcl⟩ := hRL.at_ (k := L.length - 1) (by omega); rw [HLL.out] at hcl)
                | (go_at_call 47; refine (validParts_any _ _ B L _ h hl).mono ?_; rintro e wv ⟨rfl, n1, rfl⟩; rw [HV.out]))
              go_ret2
              exact ⟨none, 0, rfl, own_nil0 _ _ _, hd3.below _⟩

            · have hmt := hmt2
              have hle' : (m : Int) ≤ (t : Int) := by omega
              have hgt' : ¬ (t : Int) < (m : Int) := by omega
              have q1 : ((m : Int) == ((t : Int))) = true := beq_iff_eq.2 (by omega)
              have q2 : ((L.length : Int) == ((t : Int))) = false := beq_eq_false_iff_ne.2 (by omega)
              have hM : frOk L = true := by rw [HMS.out]; simp; omega
              have hmL : m + 1 ≤ L.length := HML.out hM hle
              rw [frF_yes hM, hM, show fr L = frA L from by unfold fr; rw [HLP.out, HT.out, if_pos (by omega)], frA_k HLP.out, frAk_len]
              clear hM hmt hml hmt2
              go_enter Try.func30, Try.ntmps30
              go_wp2_with (first
                | (at_builtin; refine wpList_append_o _ rfl (.tmp 46) (.tmp 51) 22 rfl w.heap.size (w.heap.size + 1) 3 i0 (.int .i64 0) 8 Try.underlying22 hi hz0 hz1 hz2 rfl _ [] rfl (Own.empty (w.drewN (n1 + n2 + n3)) 3) B (some ⟨b0, o0, none⟩) (L.length - 1) c (ints (L.take (L.length - 1))) rfl ((hR3.take (L.length - 1)).alloc (by simpa using hB) _ |> fun x => by rw [ints_take]; exact x) (by simp) (ints_one _) (by simp; unfold maxLen; omega) (by simp; omega) (by simp) ?_; intro v' w4 ho4 hg4 hat4; rw [List.nil_append] at ho4; clear hat4; have hb4 : Below w.heap.size w w4 := below_push (hd3.below _) (Nat.le_refl _) hg4 (fun g hg => by cases hg; exact Nat.le_refl _); clear hg4; obtain ⟨a4, c4, rfl⟩ := ho4.form; rw [← frAk_zero] at ho4 ⊢; rw [List.length_map, frAk_len] at ho4 ⊢; have HO4 := Lib.hid ho4; clear ho4)
                | (go_at_call 62; refine (sslope_any _ _ B L HV.out _ hRL).mono ?_; rintro e wv ⟨rfl, n3, rfl⟩; rw [HT.out]; have hR3 := h.dr (Dr.n w (n1 + n2 + n3)); have hd3 := Dr.n w (n1 + n2 + n3))
                | (go_at_call 48; refine (gaps_any _ _ B L 1 (by omega) HV.out _ (h.dr (Dr.n w n1))).mono ?_; rintro e wv ⟨rfl, n2, rfl⟩; rw [HK.out]; have hRL := h.dr (Dr.n w (n1 + n2)); obtain ⟨b0, o0, rfl, hb0, hcl⟩ := hRL.at_ (k := L.length - 1) (by omega); rw [HLL.out] at hcl)
                | (go_at_call 47; refine (validParts_any _ _ B L _ h hl).mono ?_; rintro e wv ⟨rfl, n1, rfl⟩; rw [HV.out]))
              clear hcl hRL hR3 hd3
              go_loopw [7] (fun vi wr => ∃ i : Nat, i ≤ m ∧ vi = .int .i64 (i : Int) ∧ Below w.heap.size w wr ∧ Own wr w.heap.size wr.heap.size 3 (.slice a4 (L.length - 1) c4) (ints (frAk L i))) (fun vi _ => 20 - (intOf vi).toNat)
              case atStart => exact ⟨0, Nat.zero_le _, rfl, hb4, HO4.out⟩
              case round =>
                obtain ⟨i, hi', rfl, hbel, hown⟩ := hrel
                clear hb4 HO4
                by_cases hlt : i < m
                · have hlt' : (i : Int) < (m : Int) := by omega
                  have hil : i < (L.length - 1) := by omega
                  have hx := HNN.out i
                  obtain ⟨g4, c4', e4, hlo4, hhi4, hc4, hf4⟩ := hown.at_ (k := i) (by rw [List.length_map, frAk_len]; exact hil)
                  injection e4 with e4 e5 e6
                  subst e4
                  rw [ints_getE, frAk_get L hil] at hc4
                  have HS := Lib.hid (frAk_set L hil)
                  have HO := Lib.hid hown
                  clear hown hil e5 e6
                  generalize L.getD i 0 = z at *
                  go_wp2
                  go_roundw
                  case rel =>
                    refine ⟨i + 1, by omega, by go_num, hbel.setCell (by exact hlo4) _, ?_⟩
                    have e := (HO.out.set i (.int .i64 (z + 1))).more
                    rw [show (ints (frAk L i)).set i (.int .i64 (z + 1)) = ints (frAk L (i + 1)) from by rw [← HS.out]; simp [ints, List.map_set]] at e
                    exact e
                  case measure => simp [intOf]; omega
                · obtain rfl : i = m := by omega
                  have HO := Lib.hid hown
                  clear hown
                  go_wp2_with fail
                  go_ret2
                  exact ⟨a4, c4, rfl, HO.out, hbel⟩

          · have hmt := hmt2
            have hml : True := trivial
            have hle' : (m : Int) ≤ (t : Int) := by omega
            have hgt' : ¬ (t : Int) < (m : Int) := by omega
            have q1 : ((m : Int) == ((t : Int))) = false := beq_eq_false_iff_ne.2 (by omega)
            have hM : frOk L = true := by rw [HMS.out]; simp; omega
            have hmL : m + 1 ≤ L.length := HML.out hM hle
            rw [frF_yes hM, hM, show fr L = frA L from by unfold fr; rw [HLP.out, HT.out, if_pos (by omega)], frA_k HLP.out, frAk_len]
            clear hM hmt hml hmt2
            go_enter Try.func30, Try.ntmps30
            go_wp2_with (first
              | (at_builtin; refine wpList_append_o _ rfl (.tmp 46) (.tmp 51) 22 rfl w.heap.size (w.heap.size + 1) 3 i0 (.int .i64 0) 8 Try.underlying22 hi hz0 hz1 hz2 rfl _ [] rfl (Own.empty (w.drewN (n1 + n2 + n3)) 3) B (some ⟨b0, o0, none⟩) (L.length - 1) c (ints (L.take (L.length - 1))) rfl ((hR3.take (L.length - 1)).alloc (by simpa using hB) _ |> fun x => by rw [ints_take]; exact x) (by simp) (ints_one _) (by simp; unfold maxLen; omega) (by simp; omega) (by simp) ?_; intro v' w4 ho4 hg4 hat4; rw [List.nil_append] at ho4; clear hat4; have hb4 : Below w.heap.size w w4 := below_push (hd3.below _) (Nat.le_refl _) hg4 (fun g hg => by cases hg; exact Nat.le_refl _); clear hg4; obtain ⟨a4, c4, rfl⟩ := ho4.form; rw [← frAk_zero] at ho4 ⊢; rw [List.length_map, frAk_len] at ho4 ⊢; have HO4 := Lib.hid ho4; clear ho4)
              | (go_at_call 62; refine (sslope_any _ _ B L HV.out _ hRL).mono ?_; rintro e wv ⟨rfl, n3, rfl⟩; rw [HT.out]; have hR3 := h.dr (Dr.n w (n1 + n2 + n3)); have hd3 := Dr.n w (n1 + n2 + n3))
              | (go_at_call 48; refine (gaps_any _ _ B L 1 (by omega) HV.out _ (h.dr (Dr.n w n1))).mono ?_; rintro e wv ⟨rfl, n2, rfl⟩; rw [HK.out]; have hRL := h.dr (Dr.n w (n1 + n2)); obtain ⟨b0, o0, rfl, hb0, hcl⟩ := hRL.at_ (k := L.length - 1) (by omega); rw [HLL.out] at hcl)
              | (go_at_call 47; refine (validParts_any _ _ B L _ h hl).mono ?_; rintro e wv ⟨rfl, n1, rfl⟩; rw [HV.out]))
            clear hcl hRL hR3 hd3
            go_loopw [7] (fun vi wr => ∃ i : Nat, i ≤ m ∧ vi = .int .i64 (i : Int) ∧ Below w.heap.size w wr ∧ Own wr w.heap.size wr.heap.size 3 (.slice a4 (L.length - 1) c4) (ints (frAk L i))) (fun vi _ => 20 - (intOf vi).toNat)
            case atStart => exact ⟨0, Nat.zero_le _, rfl, hb4, HO4.out⟩
            case round =>
              obtain ⟨i, hi', rfl, hbel, hown⟩ := hrel
              clear hb4 HO4
              by_cases hlt : i < m
              · have hlt' : (i : Int) < (m : Int) := by omega
                have hil : i < (L.length - 1) := by omega
                have hx := HNN.out i
                obtain ⟨g4, c4', e4, hlo4, hhi4, hc4, hf4⟩ := hown.at_ (k := i) (by rw [List.length_map, frAk_len]; exact hil)
                injection e4 with e4 e5 e6
                subst e4
                rw [ints_getE, frAk_get L hil] at hc4
                have HS := Lib.hid (frAk_set L hil)
                have HO := Lib.hid hown
                clear hown hil e5 e6
                generalize L.getD i 0 = z at *
                go_wp2
                go_roundw
                case rel =>
                  refine ⟨i + 1, by omega, by go_num, hbel.setCell (by exact hlo4) _, ?_⟩
                  have e := (HO.out.set i (.int .i64 (z + 1))).more
                  rw [show (ints (frAk L i)).set i (.int .i64 (z + 1)) = ints (frAk L (i + 1)) from by rw [← HS.out]; simp [ints, List.map_set]] at e
                  exact e
                case measure => simp [intOf]; omega
              · obtain rfl : i = m := by omega
                have HO := Lib.hid hown
                clear hown
                go_wp2_with fail
                go_ret2
                exact ⟨a4, c4, rfl, HO.out, hbel⟩

        · by_cases hmt2 : m = t + 1
          · by_cases hml : L.length = t
            · have hmt := hmt2
              have hle' : ¬ (m : Int) ≤ (t : Int) := by omega
              have hgt' : (t : Int) < (m : Int) := by omega
              have q1 : ((m : Int) == ((t : Int) + 1)) = true := beq_iff_eq.2 (by omega)
              have q2 : ((L.length : Int) == ((t : Int))) = true := beq_iff_eq.2 (by omega)
              have hM : frOk L = false := by rw [HMS.out]; simp; omega
              rw [frF_no hM, hM]
              clear hM hmt hml hmt2
              go_enter Try.func30, Try.ntmps30
              go_wp2_with (first
                | (go_at_call 62; refine (sslope_any _ _ B L HV.out _ hRL).mono ?_; rintro e wv ⟨rfl, n3, rfl⟩; rw [HT.out]; have hR3 := h.dr (Dr.n w (n1 + n2 + n3)); have hd3 := Dr.n w (n1 + n2 + n3))
                | (go_at_call 48; refine (gaps_any _ _ B L 1 (by omega) HV.out _ (h.dr (Dr.n w n1))).mono ?_; rintro e wv ⟨rfl, n2, rfl⟩; rw [HK.out]; have hRL := h.dr (Dr.n w (n1 + n2)); obtain ⟨b0, o0, rfl, hb0, hcl⟩ := hRL.at_ (k := L.length - 1) (by omega); rw [HLL.out] at hcl)
                | (go_at_call 47; refine (validParts_any _ _ B L _ h hl).mono ?_; rintro e wv ⟨rfl, n1, rfl⟩; rw [HV.out]))
              go_ret2
              exact ⟨none, 0, rfl, own_nil0 _ _ _, hd3.below _⟩

            · have hmt := hmt2
              have hle' : ¬ (m : Int) ≤ (t : Int) := by omega
              have hgt' : (t : Int) < (m : Int) := by omega
              have q1 : ((m : Int) == ((t : Int) + 1)) = true := beq_iff_eq.2 (by omega)
              have q2 : ((L.length : Int) == ((t : Int))) = false := beq_eq_false_iff_ne.2 (by omega)
              have hM : frOk L = true := by rw [HMS.out]; simp; omega
              rw [frF_yes hM, hM, show fr L = frB L from by unfold fr; rw [HLP.out, HT.out, if_neg (by omega)]]
              clear hM hmt hml hmt2
              go_enter Try.func30, Try.ntmps30
              go_wp2_with (first
                | (at_builtin; refine wpList_append_o _ rfl (.tmp 83) (.tmp 84) 22 rfl w.heap.size (w.heap.size + 1) 3 i0 (.int .i64 0) 8 Try.underlying22 hi hz0 hz1 hz2 rfl _ [] rfl (Own.empty (w.drewN (n1 + n2 + n3)) 3) B (some ⟨b0, o0, none⟩) L.length c (ints L) rfl (hR3.alloc (by simpa using hB) _) (by simp) (ints_one _) (by simp; unfold maxLen; omega) (by simp; omega) (by simp) ?_; intro v' w4 ho4 hg4 hat4; rw [List.nil_append] at ho4; clear hat4; have hb4 : Below w.heap.size w w4 := below_push (hd3.below _) (Nat.le_refl _) hg4 (fun g hg => by cases hg; exact Nat.le_refl _); clear hg4; obtain ⟨a4, c4, rfl⟩ := ho4.form; rw [List.length_map] at ho4 ⊢; rw [show ints L = ints (frBk L 0) from by rw [frBk_zero]] at ho4; have HO4 := Lib.hid ho4; clear ho4)
                | (go_at_call 62; refine (sslope_any _ _ B L HV.out _ hRL).mono ?_; rintro e wv ⟨rfl, n3, rfl⟩; rw [HT.out]; have hR3 := h.dr (Dr.n w (n1 + n2 + n3)); have hd3 := Dr.n w (n1 + n2 + n3))
                | (go_at_call 48; refine (gaps_any _ _ B L 1 (by omega) HV.out _ (h.dr (Dr.n w n1))).mono ?_; rintro e wv ⟨rfl, n2, rfl⟩; rw [HK.out]; have hRL := h.dr (Dr.n w (n1 + n2)); obtain ⟨b0, o0, rfl, hb0, hcl⟩ := hRL.at_ (k := L.length - 1) (by omega); rw [HLL.out] at hcl)
                | (go_at_call 47; refine (validParts_any _ _ B L _ h hl).mono ?_; rintro e wv ⟨rfl, n1, rfl⟩; rw [HV.out]))
              clear hcl hRL hR3 hd3
              go_loopw [9] (fun vi wr => ∃ i : Nat, i ≤ t ∧ vi = .int .i64 (i : Int) ∧ Below w.heap.size w wr ∧ Own wr w.heap.size wr.heap.size 3 (.slice a4 L.length c4) (ints (frBk L i))) (fun vi _ => 20 - (intOf vi).toNat)
              case atStart => exact ⟨0, Nat.zero_le _, rfl, hb4, HO4.out⟩
              case round =>
                obtain ⟨i, hi', rfl, hbel, hown⟩ := hrel
                clear hb4 HO4
                by_cases hlt : i < t
                · have hlt' : (i : Int) < (t : Int) := by omega
                  have hil : i < L.length := by omega
                  have hx := HNN.out i
                  obtain ⟨g4, c4', e4, hlo4, hhi4, hc4, hf4⟩ := hown.at_ (k := i) (by rw [List.length_map, frBk_len]; exact hil)
                  injection e4 with e4 e5 e6
                  subst e4
                  rw [ints_getE, frBk_get L hil] at hc4
                  have HS := Lib.hid (frBk_set L hil)
                  have HO := Lib.hid hown
                  clear hown hil e5 e6
                  generalize L.getD i 0 = z at *
                  go_wp2
                  go_roundw
                  case rel =>
                    refine ⟨i + 1, by omega, by go_num, hbel.setCell (by exact hlo4) _, ?_⟩
                    have e := (HO.out.set i (.int .i64 (z - 1))).more
                    rw [show (ints (frBk L i)).set i (.int .i64 (z - 1)) = ints (frBk L (i + 1)) from by rw [← HS.out]; simp [ints, List.map_set]] at e
                    exact e
                  case measure => simp [intOf]; omega
                · obtain rfl : i = t := by omega
                  have HO := Lib.hid hown
                  clear hown
                  go_wp2_with (at_builtin; refine wpList_append_o _ rfl (.tmp 99) (.tmp 101) 22 rfl w.heap.size wr.heap.size 3 i0 (.int .i64 0) 8 Try.underlying22 hi hz0 hz1 hz2 rfl _ (ints (frBk L i)) rfl (HO.out.alloc _) (wr.heap.size + 1) (some ⟨wr.heap.size, 0, none⟩) 1 1 [.int .i64 (i : Int)] rfl (Rd.one _ _ _) rfl (by simp; rfl) (by rw [List.length_map, frBk_len]; unfold maxLen; omega) (by rw [List.length_map, frBk_len]; omega) (by have := hbel.size; simp; omega) ?_; intro v' w5 ho5 hg5 hat5; clear hat5; have hb5 : Below w.heap.size w w5 := below_push hbel (Nat.le_refl _) hg5 HO.out.base; clear hg5; rw [show ints (frBk L i) ++ [Value.int .i64 (i : Int)] = ints (frB L) from by rw [HFB.out]; simp [ints]] at ho5; obtain ⟨a5, c5, rfl⟩ := ho5.form; rw [List.length_map] at ho5 ⊢; have HO5 := Lib.hid ho5; clear ho5)
                  go_ret2
                  exact ⟨a5, c5, rfl, HO5.out, hb5⟩

          · have hmt := hmt2
            have hml : True := trivial
            have hle' : ¬ (m : Int) ≤ (t : Int) := by omega
            have hgt' : (t : Int) < (m : Int) := by omega
            have q1 : ((m : Int) == ((t : Int) + 1)) = false := beq_eq_false_iff_ne.2 (by omega)
            have hM : frOk L = true := by rw [HMS.out]; simp; omega
            rw [frF_yes hM, hM, show fr L = frB L from by unfold fr; rw [HLP.out, HT.out, if_neg (by omega)]]
            clear hM hmt hml hmt2
            go_enter Try.func30, Try.ntmps30
            go_wp2_with (first
              | (at_builtin; refine wpList_append_o _ rfl (.tmp 83) (.tmp 84) 22 rfl w.heap.size (w.heap.size + 1) 3 i0 (.int .i64 0) 8 Try.underlying22 hi hz0 hz1 hz2 rfl _ [] rfl (Own.empty (w.drewN (n1 + n2 + n3)) 3) B (some ⟨b0, o0, none⟩) L.length c (ints L) rfl (hR3.alloc (by simpa using hB) _) (by simp) (ints_one _) (by simp; unfold maxLen; omega) (by simp; omega) (by simp) ?_; intro v' w4 ho4 hg4 hat4; rw [List.nil_append] at ho4; clear hat4; have hb4 : Below w.heap.size w w4 := below_push (hd3.below _) (Nat.le_refl _) hg4 (fun g hg => by cases hg; exact Nat.le_refl _); clear hg4; obtain ⟨a4, c4, rfl⟩ := ho4.form; rw [List.length_map] at ho4 ⊢; rw [show ints L = ints (frBk L 0) from by rw [frBk_zero]] at ho4; have HO4 := Lib.hid ho4; clear ho4)
              | (go_at_call 62; refine (sslope_any _ _ B L HV.out _ hRL).mono ?_; rintro e wv ⟨rfl, n3, rfl⟩; rw [HT.out]; have hR3 := h.dr (Dr.n w (n1 + n2 + n3)); have hd3 := Dr.n w (n1 + n2 + n3))
              | (go_at_call 48; refine (gaps_any _ _ B L 1 (by omega) HV.out _ (h.dr (Dr.n w n1))).mono ?_; rintro e wv ⟨rfl, n2, rfl⟩; rw [HK.out]; have hRL := h.dr (Dr.n w (n1 + n2)); obtain ⟨b0, o0, rfl, hb0, hcl⟩ := hRL.at_ (k := L.length - 1) (by omega); rw [HLL.out] at hcl)
              | (go_at_call 47; refine (validParts_any _ _ B L _ h hl).mono ?_; rintro e wv ⟨rfl, n1, rfl⟩; rw [HV.out]))
            clear hcl hRL hR3 hd3
            go_loopw [9] (fun vi wr => ∃ i : Nat, i ≤ t ∧ vi = .int .i64 (i : Int) ∧ Below w.heap.size w wr ∧ Own wr w.heap.size wr.heap.size 3 (.slice a4 L.length c4) (ints (frBk L i))) (fun vi _ => 20 - (intOf vi).toNat)
            case atStart => exact ⟨0, Nat.zero_le _, rfl, hb4, HO4.out⟩
            case round =>
              obtain ⟨i, hi', rfl, hbel, hown⟩ := hrel
              clear hb4 HO4
              by_cases hlt : i < t
              · have hlt' : (i : Int) < (t : Int) := by omega
                have hil : i < L.length := by omega
                have hx := HNN.out i
                obtain ⟨g4, c4', e4, hlo4, hhi4, hc4, hf4⟩ := hown.at_ (k := i) (by rw [List.length_map, frBk_len]; exact hil)
                injection e4 with e4 e5 e6
                subst e4
                rw [ints_getE, frBk_get L hil] at hc4
                have HS := Lib.hid (frBk_set L hil)
                have HO := Lib.hid hown
                clear hown hil e5 e6
                generalize L.getD i 0 = z at *
                go_wp2
                go_roundw
                case rel =>
                  refine ⟨i + 1, by omega, by go_num, hbel.setCell (by exact hlo4) _, ?_⟩
                  have e := (HO.out.set i (.int .i64 (z - 1))).more
                  rw [show (ints (frBk L i)).set i (.int .i64 (z - 1)) = ints (frBk L (i + 1)) from by rw [← HS.out]; simp [ints, List.map_set]] at e
                  exact e
                case measure => simp [intOf]; omega
              · obtain rfl : i = t := by omega
                have HO := Lib.hid hown
                clear hown
                go_wp2_with (at_builtin; refine wpList_append_o _ rfl (.tmp 99) (.tmp 101) 22 rfl w.heap.size wr.heap.size 3 i0 (.int .i64 0) 8 Try.underlying22 hi hz0 hz1 hz2 rfl _ (ints (frBk L i)) rfl (HO.out.alloc _) (wr.heap.size + 1) (some ⟨wr.heap.size, 0, none⟩) 1 1 [.int .i64 (i : Int)] rfl (Rd.one _ _ _) rfl (by simp; rfl) (by rw [List.length_map, frBk_len]; unfold maxLen; omega) (by rw [List.length_map, frBk_len]; omega) (by have := hbel.size; simp; omega) ?_; intro v' w5 ho5 hg5 hat5; clear hat5; have hb5 : Below w.heap.size w w5 := below_push hbel (Nat.le_refl _) hg5 HO.out.base; clear hg5; rw [show ints (frBk L i) ++ [Value.int .i64 (i : Int)] = ints (frB L) from by rw [HFB.out]; simp [ints]] at ho5; obtain ⟨a5, c5, rfl⟩ := ho5.form; rw [List.length_map] at ho5 ⊢; have HO5 := Lib.hid ho5; clear ho5)
                go_ret2
                exact ⟨a5, c5, rfl, HO5.out, hb5⟩

end Go.Proofs.Ytdoihndifaebcaa
