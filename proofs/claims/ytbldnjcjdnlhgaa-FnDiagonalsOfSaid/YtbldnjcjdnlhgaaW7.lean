/-
  Walks: diagonals of the model and of the program.
-/
import Derived.Test.YtbldnjcjdnlhgaaW4
import Derived.Test.YtbldnjcjdnlhgaaM4
namespace Go.Proofs.Ytbldnjcjdnlhgaa
open Go.RowKit NP
set_option linter.unusedVariables false

theorem sDiagonalsOf_any (a : Option Addr) (c B : Nat) (L : List Int) (w : World) (h : Rd w B a (ints L)) (hB : B ≤ w.heap.size) (hl : L.length ≤ 4611686018427387904) :
    Calls Try.prog 28 #[.slice a L.length c] w fun e w' => ∃ a' c', e = .returned (.slice a' (diaF L).length c') ∧ Own w' w.heap.size w'.heap.size 3 (.slice a' (diaF L).length c') (ints (diaF L)) ∧ Below w.heap.size w w' := by
  cases hv : valid L with
  | true =>
    have HDF := Lib.hid (diaF_yes hv)
    have hbd := valid_bd hv
    have hhd := headD_bd hv
    obtain ⟨i0, hi, hz0, hz1, hz2⟩ := T_int'
    have HV := Lib.hid hv
    clear hv
    generalize hH : (L.headD 0).toNat = H
    have hHc : (H : Int) = L.headD 0 := by omega
    have hH16 : H ≤ 16 := by omega
    have HH := Lib.hid hH
    clear hH
    have H0 : Hid (∀ h0 : 0 < L.length, L[0] = (H : Int)) := Lib.hid fun h0 => by rw [hHc]; cases L <;> simp at h0 ⊢
    clear hHc hhd
    have hR16 : L.length ≤ 16 := hbd.2.2.2
    clear hbd
    have HT : Hid (dia L = (List.range (L.length - 1 + H)).map fun (t : Nat) => dc L ((t : Int) + 1 - L.length) L.length) := Lib.hid (by unfold dia; rw [HH.out])
    by_cases h0 : 0 < L.length
    · have h0' : (0 : Int) < (L.length : Int) := by omega
      go_enter Try.func28, Try.ntmps28
      go_wp2_with (go_at_call 38; refine (validParts_any _ _ B L _ h hl).mono ?_; rintro e w1 ⟨rfl, n, rfl⟩; rw [HV.out])
      go_loopw [3, 4] (fun v i wr => ∃ t : Nat, t ≤ L.length - 1 + H ∧ i = .int .i64 ((t : Int) + 1 - L.length) ∧ Below w.heap.size w wr ∧ Own wr w.heap.size wr.heap.size 3 v (ints ((List.range t).map fun (t : Nat) => dc L ((t : Int) + 1 - L.length) L.length))) (fun _ i _ => (16 - intOf i).toNat)
      case atStart => exact ⟨0, Nat.zero_le _, by go_num, ((Dr.n w _).below _).alloc (Nat.le_refl _) _, (Own.empty (w.drewN n) 3).more⟩
      case round =>
        obtain ⟨t, ht, rfl, hbel, hown⟩ := hrel
        have hR := (h.more hB).below hbel
        obtain ⟨b, o, rfl, _, hc0⟩ := hR.at_ h0
        have hc0' : wr.cell? ⟨b, o, none⟩ = some (.int .i64 H) := by rw [← H0.out h0]; exact hc0
        clear hc0
        obtain ⟨d, hd⟩ : ∃ d : Int, d = (t : Int) + 1 - L.length := ⟨_, rfl⟩
        have hd1 : -16 ≤ d ∧ d ≤ H := by omega
        rw [← hd]
        have HDD := Lib.hid hd
        have HO := Lib.hid hown
        clear hown
        by_cases hlt : t < L.length - 1 + H
        · have hlt' : d < (H : Int) := by omega
          clear hd
          go_wp2
          go_loop [5, 6] (fun n i => ∃ j : Nat, j ≤ L.length ∧ i = .int .i64 j ∧ n = .int .i64 (dc L d j)) (fun _ i => L.length - (intOf i).toNat)
          case atStart => exact ⟨0, Nat.zero_le _, rfl, rfl⟩
          case round =>
            obtain ⟨j, hj, rfl, rfl⟩ := hrel
            have hbj := dc_bd L d j
            by_cases hltj : j < L.length
            · obtain ⟨b2, o2, e2, _, hcj⟩ := hR.at_ hltj
              injection e2 with e2; injection e2 with e2 e3; subst e2 e3
              have HS := Lib.hid (dc_succ L d j)
              have HG : Hid (L.getD j 0 = L[j]) := Lib.hid (by rw [List.getD_eq_getElem?_getD, List.getElem?_eq_getElem hltj, Option.getD_some])
              have hp16 : 1 ≤ L[j] ∧ L[j] ≤ 16 := by have := preS_of_valid HV.out j hltj hltj; omega
              by_cases hin : 0 ≤ d + j ∧ d + j < L[j]
              · have hin1 : 0 ≤ d + (j : Int) := hin.1
                have hin2 : d + (j : Int) ≤ L[j] - 1 := by omega
                have HI := Lib.hid hin
                clear hin
                go_wp2_with (go_at_call 45; refine (inRange_yes _ _ _ _ hin1 hin2).mono ?_; rintro e w2 ⟨rfl, rfl⟩)
                go_round
                case rel => exact ⟨j + 1, by omega, by go_num, by rw [HS.out, HG.out, if_pos HI.out]⟩
                case measure => simp [intOf]; omega
              · have HI := Lib.hid hin
                have hin' : d + (j : Int) < 0 ∨ L[j] - 1 < d + (j : Int) := by omega
                have HI2 := Lib.hid hin'
                clear hin hin'
                go_wp2_with (go_at_call 45; refine (inRange_no _ _ _ _ HI2.out).mono ?_; rintro e w2 ⟨rfl, rfl⟩)
                go_round
                case rel => exact ⟨j + 1, by omega, by go_num, by rw [HS.out, HG.out, if_neg HI.out, Int.add_zero]⟩
                case measure => simp [intOf]; omega
            · obtain rfl : j = L.length := by omega
              obtain ⟨vs, hvs⟩ : ∃ vs, vs = ints ((List.range t).map fun (t : Nat) => dc L ((t : Int) + 1 - L.length) L.length) := ⟨_, rfl⟩
              have hlen2 : vs.length = t := by rw [hvs]; simp
              rw [← hvs] at HO
              have HVS := Lib.hid hvs
              clear hvs
              go_wp2_with (at_builtin; refine wpList_append_o _ rfl (.tmp 43) (.tmp 45) 23 rfl w.heap.size wr.heap.size 3 i0 (.int .i64 0) 8 Try.underlying23 hi hz0 hz1 hz2 rfl _ vs rfl (HO.out.alloc _) (wr.heap.size + 1) (some ⟨wr.heap.size, 0, none⟩) 1 1 [.int .i64 (dc L d L.length)] rfl (Rd.one wr _ _) rfl (by simp; rfl) (by rw [hlen2]; unfold maxLen; omega) (by rw [hlen2]; omega) (by have := hbel.size; simp; omega) ?_; intro v' w3 ho1 hg1 hat1)
              go_roundw
              case rel =>
                have hd2 := HDD.out
                refine ⟨t + 1, by omega, by rw [hd2]; go_num, below_push hbel (Nat.le_refl _) hg1 HO.out.base, ?_⟩
                rw [HVS.out, hd2] at ho1
                simpa [ints, List.range_succ] using ho1
              case measure => have hd2 := HDD.out; simp [intOf]; omega
        · obtain rfl : t = L.length - 1 + H := by omega
          obtain ⟨a', c', rfl⟩ := HO.out.form
          have hlt' : (H : Int) ≤ d := by omega
          clear hd
          go_wp2
          go_ret
          rw [HDF.out]
          have hl1 : (dia L).length = (ints ((List.range (L.length - 1 + H)).map fun (t : Nat) => dc L ((t : Int) + 1 - L.length) L.length)).length := by rw [HT.out]; simp
          refine ⟨a', c', by rw [hl1]; rfl, ?_, hbel⟩
          rw [hl1, HT.out]
          exact HO.out
    · have h0' : decide (0 < L.length) = false := decide_eq_false h0
      have h0'' : (L.length : Int) ≤ 0 := by omega
      have HL0 : Hid (L = []) := Lib.hid (List.eq_nil_of_length_eq_zero (by omega))
      go_enter Try.func28, Try.ntmps28
      go_wp2_with (go_at_call 38; refine (validParts_any _ _ B L _ h hl).mono ?_; rintro e w1 ⟨rfl, n, rfl⟩; rw [HV.out])
      go_loopw [3, 4] (fun v i wr => i = .int .i64 (1 - L.length) ∧ Below w.heap.size w wr ∧ Own wr w.heap.size wr.heap.size 3 v []) (fun _ i _ => 1)
      case atStart => exact ⟨by go_num, ((Dr.n w _).below _).alloc (Nat.le_refl _) _, (Own.empty (w.drewN n) 3).more⟩
      case round =>
        obtain ⟨rfl, hbel, hown⟩ := hrel
        obtain ⟨a', c', rfl⟩ := hown.form
        have HO := Lib.hid hown
        clear hown
        go_wp2
        go_ret
        rw [HDF.out, HL0.out]
        exact ⟨a', c', rfl, HO.out, hbel⟩
  | false =>
    rw [diaF_no hv]
    go_enter Try.func28, Try.ntmps28
    go_wp2_with (go_at_call 38; refine (validParts_any _ _ B L _ h hl).mono ?_; rintro e w1 ⟨rfl, n, rfl⟩)
    go_ret
    exact ⟨none, 0, rfl, Own.nil _ _ _, (Dr.n w _).below _⟩

theorem cntD_pad {M : List Int} (hM : valid M = true) : cntD (pad M) = M.length := by
  have hlen := (valid_bd hM).2.2.2
  unfold cntD
  refine ff_eq (fun j hj => ?_) hlen ?_
  · have h1 := getD_pos hM hj
    rw [pad_getD hlen]
    exact decide_eq_true (by omega)
  · rcases Nat.lt_or_ge M.length 16 with h | h
    · right
      rw [pad_getD hlen, getD_out (Nat.le_refl _)]
      rfl
    · left; omega

theorem diagonals_any (L : List Int) (hv : valid L = true) (w : World) :
    Calls Try.prog 44 #[.agg (arr (pad L))] w fun e w' => ∃ a' c', e = .returned (.slice a' (dia L).length c') ∧ Own w' w.heap.size w'.heap.size 3 (.slice a' (dia L).length c') (ints (dia L)) ∧ Below w.heap.size w w' := by
  have hbd := valid_bd hv
  have hR16 : L.length ≤ 16 := hbd.2.2.2
  have hhd := headD_bd hv
  clear hbd
  have HC := Lib.hid (cntD_pad hv)
  have hpl := pad_len hR16
  have HPL := Lib.hid hpl
  have hi16 : (Try.prog.info? 40).map (·.size) = some (arr (pad L)).size := by rw [arr_size, hpl]; exact T_info35
  have hb0 := Blk.new w 40 (arr (pad L))
  have HV := Lib.hid hv
  clear hv
  by_cases h0 : 0 < L.length
  · have e0 : ((L.length : Int) == 0) = false := beq_eq_false_iff_ne.2 (by omega)
    obtain ⟨i0, hi, hz0, hz1, hz2⟩ := T_int'
    generalize hH : (L.headD 0).toNat = H
    have hHc : (H : Int) = L.headD 0 := by omega
    have hH16 : H ≤ 16 := by omega
    have HH := Lib.hid hH
    clear hH
    obtain ⟨T, hT⟩ : ∃ T : Nat, T = L.length - 1 + H := ⟨_, rfl⟩
    have hT' : (L.length : Int) - 1 + (H : Int) = (T : Int) := by omega
    have hT32 : T ≤ 32 := by omega
    have hmk := run_make_ints 23 3 i0 Try.underlying23 hi hz0 hz1 hz2 T (by omega)
    have HE : Hid (dac L T 16 0 = dia L) := Lib.hid (by rw [hT, ← HH.out]; exact dac_end hR16)
    have hg0 : (pad L).getD 0 0 = (H : Int) := by rw [pad_getD hR16, hHc]; cases L <;> simp at h0 ⊢
    have hc0 := box_cell w (pad L) 0 (by omega)
    have hp0 : (pad L)[0] = (H : Int) := by rw [← hg0, List.getD_eq_getElem?_getD, List.getElem?_eq_getElem (by omega), Option.getD_some]
    rw [hp0] at hc0
    have HPG : Hid (∀ i, i < 16 → 0 ≤ (pad L).getD i 0 ∧ (pad L).getD i 0 ≤ H ∧ (L.length ≤ i → (pad L).getD i 0 = 0)) := Lib.hid fun i _ => by
      rw [pad_getD hR16]
      rcases Nat.lt_or_ge i L.length with h1 | h1
      · have := getD_pos HV.out h1
        have h2 := head_ge HV.out L[i] (List.getElem_mem h1)
        have e : L.getD i 0 = L[i] := by rw [List.getD_eq_getElem?_getD, List.getElem?_eq_getElem h1, Option.getD_some]
        omega
      · rw [getD_out h1]; omega
    clear hHc hhd hp0 hg0
    have hTT := hT
    clear hT
    have HTT := Lib.hid hTT
    clear hTT
    go_enter Try.func44, Try.ntmps44
    go_wp2_with (first
      | (refine wpList_load_row rfl 40 (.tmp 1) rfl w.heap.size rfl 40 (arr (pad L)) (0, 0) _ hb0 Try.underlying40 rfl hi16 ?_)
      | (go_at_call 56; refine (count_any (pad L) HPL.out _).mono ?_; rintro e w1 ⟨rfl, hb1⟩; rw [HC.out]; have hb2 : Blk w1 w.heap.size 40 (arr (pad L)) := hb0.below hb1 hb0.lt; have hc2 : w1.cell? ⟨w.heap.size, 0, none⟩ = some (.int .i64 (H : Int)) := by rw [← hc0]; exact hb1.cell (by simp))
      | (refine wpList_load_row rfl 40 (.tmp 1) rfl w.heap.size rfl 40 (arr (pad L)) (0, 0) _ (hb2.alloc _) Try.underlying40 rfl hi16 ?_))
    have hz1' := hb1.size
    rw [World.size_alloc] at hz1'
    have hbw1 : Below w.heap.size w w1 := ((Below.refl _ _).alloc (Nat.le_refl _) _).trans (hb1.mono (by simp))
    clear hb0 hc0 hc2 hb2 hb1 hmk
    go_loopw [19] (fun i wr => ∃ k : Nat, k ≤ 16 ∧ i = .int .i64 k ∧ Below w.heap.size w wr ∧ Blk wr w1.heap.size 3 (arr (dac L T k 0))) (fun i _ => 16 - (intOf i).toNat)
    case atStart => exact ⟨0, Nat.zero_le _, rfl, hbw1.alloc (by omega) _, by rw [dac_zero]; exact Blk.new w1 _ _⟩
    case round =>
      obtain ⟨k, hk, rfl, hbel, hblk⟩ := hrel
      by_cases hlt : k < 16
      · have hkD : k < (pad L).length := by rw [HPL.out]; exact hlt
        have hc := T_index (pad L) k hkD hlt
        have hgd : (pad L).getD k 0 = (pad L)[k] := by rw [List.getD_eq_getElem?_getD, List.getElem?_eq_getElem hkD, Option.getD_some]
        have h1 := HPG.out k hlt
        rw [hgd] at h1
        obtain ⟨h11, h12, h13⟩ := h1
        have HGD := Lib.hid hgd
        clear hgd
        have H13 := Lib.hid h13
        clear h13
        go_wp2
        go_loopw [24] (fun i wr => ∃ j : Nat, (j : Int) ≤ (pad L)[k] ∧ i = .int .i64 j ∧ Below w.heap.size w wr ∧ Blk wr w1.heap.size 3 (arr (dac L T k j))) (fun i _ => 16 - (intOf i).toNat)
        case atStart => exact ⟨0, h11, rfl, hbel, hblk⟩
        case round =>
          obtain ⟨j, hj, rfl, hbel', hblk'⟩ := hrel
          clear hbel hblk
          by_cases hltj : (j : Int) < (pad L)[k]
          · have hkR : k < L.length := by
              rcases Nat.lt_or_ge k L.length with h | h
              · exact h
              · have := H13.out h; omega
            have hTT := HTT.out
            obtain ⟨m, hm⟩ : ∃ m : Nat, m + k + 1 = L.length + j := ⟨L.length + j - 1 - k, by omega⟩
            have hmT : m < T := by omega
            have hm' : (L.length : Int) - 1 + (j : Int) - (k : Int) = (m : Int) := by omega
            have hdb := dc_bd (pad L) ((m : Int) + 1 - L.length) k
            have HS := Lib.hid (dac_set L T k j m hmT hm)
            have hcm : ∀ wx : World, Blk wx w1.heap.size 3 (arr (dac L T k j)) → wx.cell? ⟨w1.heap.size, m, none⟩ = some (.int .i64 (dc (pad L) ((m : Int) + 1 - L.length) k)) := fun wx hx => by rw [hx.cell m, arr_get _ m (by rw [dac_len]; exact hmT), dac_get L T k j m _ hm]
            have hc1 := hcm _ hblk'
            have hfm : _ := hblk'.free m
            clear hcm hm hTT
            generalize dc (pad L) ((m : Int) + 1 - L.length) k = x at hdb HS hc1
            go_wp2
            go_roundw
            case rel =>
              refine ⟨j + 1, by omega, by go_num, hbel'.setCell (by show w.heap.size ≤ w1.heap.size; omega) _, ?_⟩
              have e := hblk'.set m (.int .i64 (x + 1))
              rw [arr_set, HS.out] at e
              exact e
            case measure => simp [intOf]; omega
          · have hje : (j : Int) = (pad L).getD k 0 := by rw [HGD.out]; omega
            have HN := Lib.hid (dac_next L T k j hje)
            clear hje
            go_wp2
            go_roundw
            case rel => exact ⟨k + 1, by omega, by go_num, hbel', by rw [← HN.out]; exact hblk'⟩
            case measure => simp [intOf]; omega
      · obtain rfl : k = 16 := by omega
        go_wp2
        go_ret
        rw [HE.out] at hblk
        have hlen : (dia L).length = T := by rw [← HE.out, dac_len]
        have hl2 : (ints (dia L)).length = T := by simp [ints, hlen]
        have ho := Blk.own (lo := w.heap.size) hblk (by omega) (by rw [hl2]; unfold maxLen; omega)
        rw [hl2] at ho
        rw [hlen]
        exact ⟨some ⟨w1.heap.size, 0, none⟩, T, rfl, ho, hbel⟩
  · have e0 : ((L.length : Int) == 0) = true := beq_iff_eq.2 (by omega)
    have HL0 : Hid (L = []) := Lib.hid (List.eq_nil_of_length_eq_zero (by omega))
    go_enter Try.func44, Try.ntmps44
    go_wp2_with (first
      | (refine wpList_load_row rfl 40 (.tmp 1) rfl w.heap.size rfl 40 (arr (pad L)) (0, 0) _ hb0 Try.underlying40 rfl hi16 ?_)
      | (go_at_call 56; refine (count_any (pad L) HPL.out _).mono ?_; rintro e w1 ⟨rfl, hb1⟩; rw [HC.out]))
    go_ret
    rw [HL0.out]
    exact ⟨none, 0, rfl, Own.nil _ _ _, ((Below.refl _ _).alloc (Nat.le_refl _) _).trans (hb1.mono (by simp))⟩
theorem iDiagonalsOf_any (a : Option Addr) (c B : Nat) (L : List Int) (w : World) (h : Rd w B a (ints L)) (hB : B ≤ w.heap.size) (hl : L.length ≤ 4611686018427387904) :
    Calls Try.prog 27 #[.slice a L.length c] w fun e w' => ∃ a' c', e = .returned (.slice a' (diaF L).length c') ∧ Own w' w.heap.size w'.heap.size 3 (.slice a' (diaF L).length c') (ints (diaF L)) ∧ Below w.heap.size w w' := by
  have hi16 : (Try.prog.info? 40).map (·.size) = some (arr (dg L)).size := by rw [arr_size, dg_len]; exact T_info35
  have hsz : (arr (dg L)).size = (arr (List.replicate 16 0)).size := by rw [arr_size, arr_size, dg_len]; rfl
  cases hv : valid L with
  | true =>
    have HE := Lib.hid (diaF_yes hv)
    have HD := Lib.hid (dg_yes hv)
    have HV := Lib.hid hv
    go_enter Try.func27, Try.ntmps27
    go_wp2_with (first | (go_at_call 37; refine (diagramOf_any _ _ B L _ h hB hl).mono ?_; rintro e w1 ⟨rfl, hb1⟩) | (refine wpList_store_row rfl 40 (.tmp 3) (.tmp 8) rfl w1.heap.size rfl (arr (dg L)) rfl 40 (arr (List.replicate 16 0)) (Blk.new w1 _ _) hi16 hsz (arr_one _) ?_) | (refine wpList_load_row rfl 40 (.tmp 3) rfl w1.heap.size rfl 40 (arr (dg L)) (0, 0) _ (Blk.new w1 _ _).row Try.underlying40 rfl hi16 ?_) | (go_at_call 44; rw [HD.out]; refine (diagonals_any L HV.out _).mono ?_; rintro e w2 ⟨a', c', rfl, ho2, hb2⟩))
    go_ret
    rw [HE.out]
    refine ⟨a', c', rfl, ho2.lower (by have := hb1.size; simp; omega), ?_⟩
    exact (below_setRow' (hb1.alloc hb1.size _) (by exact hb1.size) _).trans (hb2.mono (by have := hb1.size; simp; omega))
  | false =>
    have HE := Lib.hid (diaF_no hv)
    go_enter Try.func27, Try.ntmps27
    go_wp2_with (first | (go_at_call 37; refine (diagramOf_any _ _ B L _ h hB hl).mono ?_; rintro e w1 ⟨rfl, hb1⟩) | (refine wpList_store_row rfl 40 (.tmp 3) (.tmp 8) rfl w1.heap.size rfl (arr (dg L)) rfl 40 (arr (List.replicate 16 0)) (Blk.new w1 _ _) hi16 hsz (arr_one _) ?_))
    go_ret
    rw [HE.out]
    exact ⟨none, 0, rfl, Own.nil _ _ _, below_setRow' (hb1.alloc hb1.size _) (by exact hb1.size) _⟩
end Go.Proofs.Ytbldnjcjdnlhgaa
