/-
  Walks of the model: piles in layers, even piles.
-/
import Derived.Test.YtnheolhgdinjgaaW91
namespace Go.Proofs.Ytnheolhgdinjgaa
open Go.RowKit NP
set_option maxRecDepth 100000
set_option linter.unusedVariables false
set_option linter.unusedSimpArgs false
theorem cnt_tk {L : List Int} {m : Nat} (h : m < L.length) (q : Int) : cnt q (L.take (m + 1)) = cnt q (L.take m) + if q ≤ L[m] then 1 else 0 := cnt_take_succ q L m h
set_option maxHeartbeats 4000000 in
theorem sLayersOf_any (a : Option Addr) (c B : Nat) (LL : List (List Int)) (w : World) (h : RdLL w B a LL) (hB : B ≤ w.heap.size) (hn : LL.length ≤ 1099511627776) (hil : ∀ L ∈ LL, L.length ≤ 4611686018427387904) :
    Calls Try.prog 29 #[.slice a LL.length c] w fun e w' => ∃ a' c' us, e = .returned (.slice a' (lpF LL).length c') ∧ OwnLL w' w.heap.size w'.heap.size 31 3 (.slice a' (lpF LL).length c') us (lpF LL) ∧ Below w.heap.size w w' := by
  have HIL := Lib.hid hil
  clear hil
  have HPO := Lib.hid (fun w h => validPile_any a c B LL w h hn HIL.out)
  obtain ⟨i0, hi, hx0, hx1, hx2⟩ := T_int'
  obtain ⟨i1, hj, hy0, hy1, hy2⟩ := info_parts T_intsM
  obtain ⟨v, hv⟩ : ∃ v, v = vpl LL := ⟨_, rfl⟩
  rw [← hv] at HPO
  cases v with
  | false =>
    have HF := Lib.hid (lpF_no hv.symm)
    clear hv
    go_enter Try.func29, Try.ntmps29
    go_wp2_with (go_at_call 36; refine (HPO.out _ h).mono ?_; rintro e w1 ⟨rfl, hd1⟩)
    go_ret
    rw [HF.out]
    exact ⟨none, 0, [], rfl, OwnLL.nil _ _ _ _, hd1.below _⟩
  | true =>
    have HV := Lib.hid hv.symm
    have HY : Hid (lpF LL = layS LL) := Lib.hid (by rw [lpF_yes hv.symm, layS_eq hv.symm])
    have hlen := vpl_len hv.symm
    clear hv
    go_enter Try.func29, Try.ntmps29
    go_wp2_with (go_at_call 36; refine (HPO.out _ h).mono ?_; rintro e w1 ⟨rfl, hd1⟩)
    have hw1 := hd1.size
    have hA1 := hd1.below w.heap.size
    obtain ⟨n0, hn0⟩ : ∃ n, n = (gr LL 0 0).toNat := ⟨_, rfl⟩
    have hg0 : (n0 : Int) = gr LL 0 0 := by
      have := (fal_of_valid (vpl_valid HV.out 0)).nn 0
      show (n0 : Int) = (LL.getD 0 []).getD 0 0
      rw [hn0]
      show (((LL.getD 0 []).getD 0 0).toNat : Int) = _
      omega
    have HTS : Hid (layS LL = (List.range n0).map (layR LL)) := Lib.hid (by rw [hn0]; rfl)
    have hn16 : n0 ≤ 16 := by
      have h1 := headD_bd (vpl_valid HV.out 0)
      have h2 : (LL.getD 0 []).headD 0 = gr LL 0 0 := by unfold gr; cases LL.getD 0 [] <;> rfl
      omega
    have HG0 := Lib.hid hg0
    clear hn0 hg0
    go_loopw [3, 4] (fun v i wr => ∃ k : Nat, k ≤ n0 ∧ i = .int .i64 ((k : Int) + 1) ∧ Below w.heap.size w wr ∧ ∃ vs, OwnLL wr w.heap.size wr.heap.size 31 3 v vs ((List.range k).map (layR LL))) (fun _ i _ => 20 - (intOf i).toNat)
    case atStart => exact ⟨0, Nat.zero_le _, rfl, hA1.alloc (by omega) _, [], (OwnLL.empty w1 31 3).more.lower (by omega)⟩
    case round =>
      obtain ⟨k, hk, rfl, hbel, vs, hLL⟩ := hrel
      obtain ⟨wo, rfl⟩ : ∃ wo : World, wo = wr := ⟨_, rfl⟩
      clear hA1 hw1
      have hvl := hLL.len
      rw [List.length_map, List.length_range] at hvl
      have hvs : vs.length ≤ 16 := by omega
      have hbs := hbel.size
      clear hvl
      by_cases hz : LL.length = 0
      · have hz' : decide (0 < LL.length) = false := decide_eq_false (by omega)
        have hn00 : n0 = 0 := by
          have h1 : gr LL 0 0 = 0 := by unfold gr; rw [gl_ge (by omega)]; rfl
          have := HG0.out
          omega
        have hk0 : k = 0 := by omega
        subst hk0
        have HE : Hid (lpF LL = (List.range 0).map (layR LL)) := Lib.hid (by rw [HY.out, HTS.out, hn00])
        obtain ⟨a', c', rfl⟩ := hLL.form
        have HO := Lib.hid hLL
        clear hLL hz hn00
        go_wp2_with fail
        go_ret
        rw [HE.out]
        exact ⟨a', c', vs, rfl, HO.out, hbel⟩
      · have hz' : decide (0 < LL.length) = true := decide_eq_true (by omega)
        have hz0 : 0 < LL.length := by omega
        obtain ⟨b0, o0, a0, c0, rfl, -, hc0, hr0, -⟩ := ((h.more hB).below hbel).at_ hz0
        have hne0 : 0 < LL[0].length := by
          have h1 := ((vpl_iff.1 HV.out).1 0 hz0).2.1
          rw [gl_lt hz0] at h1
          exact List.length_pos_iff.2 h1
        obtain ⟨b9, o9, rfl, -, hc9⟩ := hr0.at_ hne0
        have hxx : LL[0][0] = (n0 : Int) := by
          rw [HG0.out]
          unfold gr
          rw [gl_lt hz0, getD_lt hne0]
        rw [hxx, Nat.add_zero] at hc9
        rw [Nat.add_zero] at hc0
        have hne0' : (0 : Int) < (LL[0].length : Int) := by omega
        clear hxx hz hr0
        have hzi : (0 : Int) < (LL.length : Int) := by omega
        obtain ⟨m0, hm0⟩ : ∃ m, m = LL[0].length := ⟨_, rfl⟩
        rw [← hm0] at hc0 hne0 hne0'
        clear hm0
        by_cases hkn : k < n0
        · have hkn' : (k : Int) + 1 ≤ (n0 : Int) := by omega
          have HO := Lib.hid hLL
          clear hLL
          have HX := Lib.hid (layS_take LL k)
          go_wp2_with fail
          go_loopw [5, 6] (fun v i wr => ∃ q : Nat, q ≤ LL.length ∧ i = .int .i64 q ∧ Below wo.heap.size wo wr ∧ Own wr wo.heap.size wr.heap.size 3 v (ints (layR (LL.take q) k))) (fun _ i _ => 20 - (intOf i).toNat)
          case atStart => exact ⟨0, Nat.zero_le _, rfl, (Below.refl _ _).alloc (Nat.le_refl _) _, by rw [layR_zero]; exact (Own.empty wo 3).more⟩
          case round =>
            obtain ⟨q, hq, rfl, hbq, hown⟩ := hrel
            by_cases hql : q < LL.length
            · have hql' : (q : Int) < (LL.length : Int) := by omega
              obtain ⟨b1, o1, a1, c1, e1, -, hc1, hr1, -⟩ := ((h.more hB).below (hbel.trans (hbq.mono hbs))).at_ hql
              injection e1 with e1; injection e1 with e2 e3; subst e2 e3
              have HCS := Lib.hid (layR_succ hql k)
              have hl16 := vpl_l16 HV.out _ (List.getElem_mem hql)
              obtain ⟨L, hL⟩ : ∃ L, L = LL[q] := ⟨_, rfl⟩
              rw [← hL] at hc1 hr1 HCS hl16
              clear hL hc0 hc9
              obtain ⟨ws, hws⟩ : ∃ ws, ws = ints (layR (LL.take q) k) := ⟨_, rfl⟩
              have hlv : ws.length ≤ 16 := by rw [hws, List.length_map]; have := layR_len (LL.take q) k; rw [List.length_take] at this; omega
              rw [← hws] at hown
              have HVS := Lib.hid hws
              have HOW := Lib.hid hown
              clear hws hown
              have hqs := hbq.size
              go_wp2_with fail
              go_loop [7, 8] (fun vn vi => ∃ m : Nat, m ≤ L.length ∧ vi = .int .i64 m ∧ vn = .int .i64 (cnt ((k : Int) + 1) (L.take m))) (fun _ vi => 20 - (intOf vi).toNat)
              case atStart => exact ⟨0, Nat.zero_le _, rfl, rfl⟩
              case round =>
                obtain ⟨m, hm, rfl, rfl⟩ := hrel
                have hcb := cnt_bd ((k : Int) + 1) (L.take m)
                have hcl : (L.take m).length ≤ 16 := by rw [List.length_take]; omega
                by_cases hml : m < L.length
                · have hml' : (m : Int) < (L.length : Int) := by omega
                  obtain ⟨b2, o2, rfl, -, hc2⟩ := hr1.at_ hml
                  have HCT := Lib.hid (cnt_tk hml ((k : Int) + 1))
                  generalize L[m] = x at *
                  by_cases hkx : (k : Int) + 1 ≤ x
                  · go_wp2_with fail
                    go_round
                    case rel => exact ⟨m + 1, by omega, by go_num, by rw [HCT.out, if_pos hkx]⟩
                    case measure => simp [intOf]; omega
                  · have hkx' : decide ((k : Int) + 1 ≤ x) = false := decide_eq_false hkx
                    go_wp2_with fail
                    go_round
                    case rel => exact ⟨m + 1, by omega, by go_num, by rw [HCT.out, if_neg hkx, Int.add_zero]⟩
                    case measure => simp [intOf]; omega
                · obtain rfl : m = L.length := by omega
                  rw [List.take_of_length_le (Nat.le_refl _)] at hcb ⊢
                  obtain ⟨x, hx⟩ : ∃ x, x = cnt ((k : Int) + 1) L := ⟨_, rfl⟩
                  rw [← hx] at HCS hcb ⊢
                  clear hx hcl
                  by_cases hxp : 0 < x
                  · go_wp2_with (at_builtin; refine wpList_append_o _ rfl (.tmp 56) (.tmp 58) 31 rfl wo.heap.size wr.heap.size 3 i0 (.int .i64 0) 8 Try.underlying31 hi hx0 hx1 hx2 rfl _ ws rfl (HOW.out.alloc _) (wr.heap.size + 1) (some ⟨wr.heap.size, 0, none⟩) 1 1 [.int .i64 x] rfl (Rd.one wr _ _) rfl (by simp; rfl) (by unfold maxLen; omega) (by omega) (by simp; omega) ?_; intro v' w2 ho1 hg1 hat1)
                    go_roundw
                    case rel =>
                      refine ⟨q + 1, by omega, by go_num, below_push hbq (Nat.le_refl _) hg1 HOW.out.base, ?_⟩
                      rw [HVS.out] at ho1
                      rw [HCS.out, if_pos hxp, ints, List.map_append]
                      simpa [ints] using ho1
                    case measure => simp [intOf] <;> omega
                  · have hxp' : decide (0 < x) = false := decide_eq_false hxp
                    go_wp2_with fail
                    go_roundw
                    case rel => exact ⟨q + 1, by omega, by go_num, hbq, by rw [HCS.out, if_neg hxp, List.append_nil, ← HVS.out]; exact HOW.out⟩
                    case measure => simp [intOf]; omega
            · obtain rfl : q = LL.length := by omega
              rw [List.take_of_length_le (Nat.le_refl _)] at hown
              obtain ⟨a5, c5, rfl⟩ := hown.form
              rw [List.length_map] at hown ⊢
              have hL2 := Lib.hid (HO.out.below hbq)
              have HU := Lib.hid hown
              have hqs := hbq.size
              clear hown
              obtain ⟨C, hC⟩ : ∃ C, C = layR LL k := ⟨_, rfl⟩
              rw [← hC] at HU HX ⊢
              clear hC hc0 hc9
              go_wp2_with (at_builtin; refine wpList_append_o _ rfl (.tmp 60) (.tmp 62) 22 rfl w.heap.size wr.heap.size 31 i1 (.slice none 0 0) 24 Try.underlying22 hj hy0 hy1 hy2 rfl _ vs rfl (hL2.out.more.outer.alloc _) (wr.heap.size + 1) (some ⟨wr.heap.size, 0, none⟩) 1 1 [.slice a5 C.length c5] rfl (Rd.one wr _ _) rfl (by intro u hu; rw [List.mem_singleton.1 hu]; rfl) (by unfold maxLen; omega) (by omega) (by rw [World.size_alloc]; omega) ?_; intro v' w6 ho6 hg6 hat6)
              go_roundw
              case rel =>
                refine ⟨k + 1, by omega, by go_num, below_push (hbel.trans (hbq.mono hbs)) (Nat.le_refl _) hg6 HO.out.outer.base, vs ++ [.slice a5 C.length c5], ?_⟩
                rw [HX.out]
                have e1 := (hL2.out.below ((Below.refl _ _).alloc (by omega) (.cells #[.slice a5 C.length c5] 31)))
                exact e1.append (HU.out.alloc (.cells #[.slice a5 C.length c5] 31)) (Nat.le_refl _) hbs (by simpa using ho6) hg6 hat6
              case measure => simp [intOf] <;> omega
        · have hk0 : k = n0 := by omega
          have hkn' : decide ((k : Int) + 1 ≤ (n0 : Int)) = false := decide_eq_false (by omega)
          have HE : Hid (lpF LL = (List.range k).map (layR LL)) := Lib.hid (by rw [HY.out, HTS.out, hk0])
          obtain ⟨a', c', rfl⟩ := hLL.form
          have HO := Lib.hid hLL
          clear hLL hkn hk0
          go_wp2_with fail
          go_ret
          rw [HE.out]
          exact ⟨a', c', vs, rfl, HO.out, hbel⟩
set_option maxHeartbeats 4000000 in
theorem sIsEvenPile_any (a : Option Addr) (c B : Nat) (LL : List (List Int)) (w : World) (h : RdLL w B a LL) (hB : B ≤ w.heap.size) (hn : LL.length ≤ 1099511627776) (hil : ∀ L ∈ LL, L.length ≤ 4611686018427387904) :
    Calls Try.prog 32 #[.slice a LL.length c] w fun e w' => e = .returned (.bool (evF LL)) ∧ Below w.heap.size w w' := by
  have HIL := Lib.hid hil
  clear hil
  have HPO := Lib.hid (fun w h => validPile_any a c B LL w h hn HIL.out)
  have HST := Lib.hid (fun w h hB => sTurnPile_any a c B LL w h hB hn HIL.out)
  obtain ⟨v, hv⟩ : ∃ v, v = vpl LL := ⟨_, rfl⟩
  rw [← hv] at HPO
  cases v with
  | false =>
    have HF := Lib.hid (evF_no hv.symm)
    clear hv
    go_enter Try.func32, Try.ntmps32
    go_wp2_with (go_at_call 36; refine (HPO.out _ h).mono ?_; rintro e w1 ⟨rfl, hd1⟩)
    go_ret
    exact ⟨ret_bool HF.out.symm, hd1.below _⟩
  | true =>
    have HV := Lib.hid hv.symm
    have hlen := vpl_len hv.symm
    have HTV := Lib.hid (vpl_turn hv.symm)
    have htl := vpl_len HTV.out
    have HEV : Hid (evF LL = decide (turnP LL = LL)) := Lib.hid (by unfold evF; rw [hv.symm, Bool.true_and])
    have hTF := tpF_yes hv.symm
    rw [hTF] at HST
    clear hv hTF
    have HL1 := Lib.hid (vpl_l16 HV.out)
    have HL2 := Lib.hid (vpl_l16 HTV.out)
    obtain ⟨T, hT⟩ : ∃ T, T = turnP LL := ⟨_, rfl⟩
    rw [← hT] at HST HTV htl HEV HL2
    clear hT
    go_enter Try.func32, Try.ntmps32
    go_wp2_with (first
      | (go_at_call 36; refine (HPO.out _ h).mono ?_; rintro e w1 ⟨rfl, hd1⟩; have hw1 := hd1.size; have hBw : B ≤ w1.heap.size := by omega)
      | (go_at_call 24; refine (HST.out _ (h.dr hd1) hBw).mono ?_; rintro e w2 ⟨a2, c2, us, rfl, ho2, hb2⟩; have HO2 := Lib.hid ho2; clear ho2))
    have hbt : Below w.heap.size w w2 := (hd1.below _).trans (hb2.mono (by omega))
    have hR := (h.more hB).below hbt
    have hRT := HO2.out.rd
    go_loopw [4] (fun vi wr => ∃ k : Nat, k ≤ T.length ∧ k ≤ LL.length ∧ vi = .int .i64 k ∧ Dr w2 wr ∧ Hid (∀ j (h1 : j < T.length) (h2 : j < LL.length), j < k → T[j] = LL[j])) (fun vi _ => 20 - (intOf vi).toNat)
    case atStart => exact ⟨0, Nat.zero_le _, Nat.zero_le _, rfl, Dr.refl _, Lib.hid fun j h1 h2 hj => by omega⟩
    case round =>
      obtain ⟨k, hk1, hk2, rfl, hdr, HP⟩ := hrel
      by_cases hlt1 : k < T.length
      · have hlt1' : (k : Int) < (T.length : Int) := by omega
        by_cases hlt2 : k < LL.length
        · have hlt2' : (k : Int) < (LL.length : Int) := by omega
          obtain ⟨b1, o1, a1, c1, rfl, -, hc1, hr1, -⟩ := (hR.dr hdr).at_ hlt2
          obtain ⟨b3, o3, a3, c3, rfl, -, hc3, hr3, -⟩ := (hRT.dr hdr).at_ hlt1
          have hl1 := HL1.out _ (List.getElem_mem hlt2)
          have hl2 := HL2.out _ (List.getElem_mem hlt1)
          have HNE : Hid (T[k] ≠ LL[k] → decide (T = LL) = false) := Lib.hid (fun hne => decide_eq_false (fun e => hne (by simp only [e])))
          obtain ⟨L, hL⟩ : ∃ L, L = LL[k] := ⟨_, rfl⟩
          obtain ⟨M, hM⟩ : ∃ M, M = T[k] := ⟨_, rfl⟩
          rw [← hL] at hc1 hr1 hl1 HNE
          rw [← hM] at hc3 hr3 hl2 HNE
          have HSM : Hid (∀ n, Calls Try.prog 52 #[.slice a3 M.length c3, .slice a1 L.length c1] (wr.drewN n) fun e w'' => e = .returned (.bool (decide (M = L))) ∧ ∃ m, w'' = wr.drewN m) := Lib.hid (fun n => Calls.quiet_of (sameL_any a3 a1 c3 c1 _ _ M L (by omega) _ (hr3.dr (Dr.n _ n)) (hr1.dr (Dr.n _ n)) (by omega)))
          have HML : Hid (M = L → T[k] = LL[k]) := Lib.hid (fun e => by rw [← hL, ← hM, e])
          by_cases hML : M = L
          · rw [decide_eq_true hML] at HSM
            have HE := Lib.hid (HML.out hML)
            clear hL hM hML
            go_wp2_with fail
            go_quiet ((go_at_call 52; exact HSM.out _))
            go_wp2_with fail
            go_roundw
            case rel => exact ⟨k + 1, by omega, by omega, by go_num, hdr.drewN _, Lib.hid fun j h1 h2 hj => by
              rcases Nat.lt_or_ge j k with h | h
              · exact HP.out j h1 h2 h
              · obtain rfl : j = k := by omega
                exact HE.out⟩
            case measure => simp [intOf]; omega
          · rw [decide_eq_false hML] at HSM
            have HE := Lib.hid (HNE.out hML)
            clear hL hM hML
            go_wp2_with fail
            go_quiet ((go_at_call 52; exact HSM.out _))
            go_wp2_with fail
            go_ret
            exact ⟨ret_bool (by rw [HEV.out, HE.out]), hbt.trans ((hdr.drewN _).below _)⟩
        · have hlt2' : decide (k < LL.length) = false := decide_eq_false hlt2
          have HE : Hid (decide (T = LL) = false) := Lib.hid (decide_eq_false (fun e => by rw [e] at hlt1; exact hlt2 hlt1))
          have hne : ((T.length : Int) == (LL.length : Int)) = false := beq_eq_false_iff_ne.2 (by omega)
          go_wp2_with fail
          go_ret
          exact ⟨ret_bool (by rw [HEV.out, HE.out]), hbt.trans (hdr.below _)⟩
      · have hlt1' : decide (k < T.length) = false := decide_eq_false hlt1
        by_cases hll : T.length = LL.length
        · have HE : Hid (decide (T = LL) = true) := Lib.hid (decide_eq_true (List.ext_getElem hll (fun j h1 h2 => HP.out j h1 h2 (by omega))))
          have hne : ((T.length : Int) == (LL.length : Int)) = true := beq_iff_eq.2 (by omega)
          clear hll
          go_wp2_with fail
          go_ret
          exact ⟨ret_bool (by rw [HEV.out, HE.out]), hbt.trans (hdr.below _)⟩
        · have HE : Hid (decide (T = LL) = false) := Lib.hid (decide_eq_false (fun e => hll (by rw [e])))
          have hne : ((T.length : Int) == (LL.length : Int)) = false := beq_eq_false_iff_ne.2 (by omega)
          clear hll
          go_wp2_with fail
          go_ret
          exact ⟨ret_bool (by rw [HEV.out, HE.out]), hbt.trans (hdr.below _)⟩
end Go.Proofs.Ytnheolhgdinjgaa
