/-
  Walks of the model: piles: summed, turned, in layers, even.
-/
import Derived.Test.YtnheolhgdinjgaaW90
import Derived.Test.YtnheolhgdinjgaaSame
import Derived.Test.YtnheolhgdinjgaaL1
namespace Go.Proofs.Ytnheolhgdinjgaa
open Go.RowKit NP
set_option maxRecDepth 100000
set_option linter.unusedVariables false
set_option linter.unusedSimpArgs false
def psF (LL : List (List Int)) : Int := if vpl LL then sumLL LL else -1
def tpF (LL : List (List Int)) : List (List Int) := if vpl LL then turnP LL else []
def lpF (LL : List (List Int)) : List (List Int) := if vpl LL then layP LL else []
theorem psF_yes {LL : List (List Int)} (h : vpl LL = true) : psF LL = sumLL LL := by unfold psF; rw [h]; rfl
theorem psF_no {LL : List (List Int)} (h : vpl LL = false) : psF LL = -1 := by unfold psF; rw [h]; rfl
theorem tpF_yes {LL : List (List Int)} (h : vpl LL = true) : tpF LL = turnP LL := by unfold tpF; rw [h]; rfl
theorem tpF_no {LL : List (List Int)} (h : vpl LL = false) : tpF LL = [] := by unfold tpF; rw [h]; rfl
theorem lpF_yes {LL : List (List Int)} (h : vpl LL = true) : lpF LL = layP LL := by unfold lpF; rw [h]; rfl
theorem lpF_no {LL : List (List Int)} (h : vpl LL = false) : lpF LL = [] := by unfold lpF; rw [h]; rfl
theorem sValidPile_any (a : Option Addr) (c B : Nat) (LL : List (List Int)) (w : World) (h : RdLL w B a LL) (hn : LL.length ≤ 1099511627776) (hil : ∀ L ∈ LL, L.length ≤ 4611686018427387904) :
    Calls Try.prog 14 #[.slice a LL.length c] w fun e w' => e = .returned (.bool (vpl LL)) ∧ Dr w w' := by
  have HIL := Lib.hid hil
  clear hil
  go_enter Try.func14, Try.ntmps14
  go_wp2_with (go_at_call 36; refine (validPile_any a c B LL _ h hn HIL.out).mono ?_; rintro e w1 ⟨rfl, hd1⟩)
  go_ret
  exact ⟨rfl, hd1⟩
set_option maxHeartbeats 1000000 in
theorem sPileSum_any (a : Option Addr) (c B : Nat) (LL : List (List Int)) (w : World) (h : RdLL w B a LL) (hn : LL.length ≤ 1099511627776) (hil : ∀ L ∈ LL, L.length ≤ 4611686018427387904) :
    Calls Try.prog 20 #[.slice a LL.length c] w fun e w' => e = .returned (.int .i64 (psF LL)) ∧ Dr w w' := by
  have HIL := Lib.hid hil
  clear hil
  have HPO := Lib.hid (fun w h => validPile_any a c B LL w h hn HIL.out)
  obtain ⟨v, hv⟩ : ∃ v, v = vpl LL := ⟨_, rfl⟩
  rw [← hv] at HPO
  cases v with
  | false =>
    have HF := Lib.hid (psF_no hv.symm)
    clear hv
    go_enter Try.func20, Try.ntmps20
    go_wp2_with (go_at_call 36; refine (HPO.out _ h).mono ?_; rintro e w1 ⟨rfl, hd1⟩)
    go_ret
    exact ⟨ret_i64 HF.out.symm, hd1⟩
  | true =>
    have HV := Lib.hid hv.symm
    have HY := Lib.hid (psF_yes hv.symm)
    have hlen := vpl_len hv.symm
    clear hv
    go_enter Try.func20, Try.ntmps20
    go_wp2_with (go_at_call 36; refine (HPO.out _ h).mono ?_; rintro e w1 ⟨rfl, hd1⟩)
    go_loop [3, 4] (fun vn vi => ∃ k : Nat, k ≤ LL.length ∧ vi = .int .i64 k ∧ vn = .int .i64 (sumLL (LL.take k))) (fun _ vi => LL.length - (intOf vi).toNat)
    case atStart => exact ⟨0, Nat.zero_le _, rfl, rfl⟩
    case round =>
      obtain ⟨k, hk, rfl, rfl⟩ := hrel
      have hsb := sumLL_pbd hk (fun i hi => (vpl_iff.1 HV.out).1 i (by omega))
      by_cases hlt : k < LL.length
      · have hlt' : (k : Int) < (LL.length : Int) := by omega
        obtain ⟨b1, o1, a1, c1, rfl, -, hc1, hr1, -⟩ := (h.dr hd1).at_ hlt
        have hll := HIL.out _ (List.getElem_mem hlt)
        have HSS := Lib.hid (sumLL_succ hlt)
        have hvk := vpl_each HV.out _ (List.getElem_mem hlt)
        have hbd := valid_bd hvk
        have HVF := Lib.hid (vfits hvk)
        obtain ⟨L, hL⟩ : ∃ L, L = LL[k] := ⟨_, rfl⟩
        rw [← hL] at hc1 hr1 hll HSS HVF hbd
        clear hL hvk
        go_wp2_with (go_at_call 44; refine (sum_any a1 c1 _ L _ hr1 HVF.out hll).mono ?_; rintro e wv ⟨rfl, rfl⟩)
        go_round
        case rel => exact ⟨k + 1, by omega, by go_num, by rw [HSS.out]⟩
        case measure => simp [intOf]; omega
      · obtain rfl : k = LL.length := by omega
        have HTK : Hid (LL.take LL.length = LL) := Lib.hid (List.take_of_length_le (Nat.le_refl _))
        rw [HTK.out]
        go_wp2_with fail
        go_ret
        exact ⟨ret_i64 HY.out.symm, hd1⟩
theorem T_intsM : (Try.prog.info? 31).map (fun i => (i.zero, i.size, i.bytes)) = some (some (.slice none 0 0), 1, 24) := by kernel_rfl
set_option maxHeartbeats 4000000 in
theorem sTurnPile_any (a : Option Addr) (c B : Nat) (LL : List (List Int)) (w : World) (h : RdLL w B a LL) (hB : B ≤ w.heap.size) (hn : LL.length ≤ 1099511627776) (hil : ∀ L ∈ LL, L.length ≤ 4611686018427387904) :
    Calls Try.prog 24 #[.slice a LL.length c] w fun e w' => ∃ a' c' us, e = .returned (.slice a' (tpF LL).length c') ∧ OwnLL w' w.heap.size w'.heap.size 31 3 (.slice a' (tpF LL).length c') us (tpF LL) ∧ Below w.heap.size w w' := by
  have HIL := Lib.hid hil
  clear hil
  have HPO := Lib.hid (fun w h => validPile_any a c B LL w h hn HIL.out)
  obtain ⟨i0, hi, hx0, hx1, hx2⟩ := T_int'
  obtain ⟨i1, hj, hy0, hy1, hy2⟩ := info_parts T_intsM
  obtain ⟨v, hv⟩ : ∃ v, v = vpl LL := ⟨_, rfl⟩
  rw [← hv] at HPO
  cases v with
  | false =>
    have HF := Lib.hid (tpF_no hv.symm)
    clear hv
    go_enter Try.func24, Try.ntmps24
    go_wp2_with (go_at_call 36; refine (HPO.out _ h).mono ?_; rintro e w1 ⟨rfl, hd1⟩)
    go_ret
    rw [HF.out]
    exact ⟨none, 0, [], rfl, OwnLL.nil _ _ _ _, hd1.below _⟩
  | true =>
    have HV := Lib.hid hv.symm
    have HY : Hid (tpF LL = turnS LL) := Lib.hid (by rw [tpF_yes hv.symm, turnS_eq hv.symm])
    have hlen := vpl_len hv.symm
    clear hv
    go_enter Try.func24, Try.ntmps24
    go_wp2_with (go_at_call 36; refine (HPO.out _ h).mono ?_; rintro e w1 ⟨rfl, hd1⟩)
    have hw1 := hd1.size
    have hA1 := hd1.below w.heap.size
    obtain ⟨n0, hn0⟩ : ∃ n, n = (LL.getD 0 []).length := ⟨_, rfl⟩
    have HTS : Hid (turnS LL = (List.range n0).map (colS LL)) := Lib.hid (by rw [hn0]; rfl)
    have hn16 : n0 ≤ 16 := by rw [hn0]; exact (valid_bd (vpl_valid HV.out 0)).2.2.2
    have HN0 := Lib.hid hn0
    clear hn0
    go_loopw [3, 4] (fun v i wr => ∃ k : Nat, k ≤ n0 ∧ i = .int .i64 k ∧ Below w.heap.size w wr ∧ ∃ vs, OwnLL wr w.heap.size wr.heap.size 31 3 v vs ((List.range k).map (colS LL))) (fun _ i _ => 20 - (intOf i).toNat)
    case atStart => exact ⟨0, Nat.zero_le _, rfl, hA1.alloc (by omega) _, [], (OwnLL.empty w1 31 3).more.lower (by omega)⟩
    case round =>
      obtain ⟨k, hk, rfl, hbel, vs, hLL⟩ := hrel
      obtain ⟨wo, rfl⟩ : ∃ wo : World, wo = wr := ⟨_, rfl⟩
      clear hA1 hw1
      have hvl := hLL.len
      rw [List.length_map, List.length_range] at hvl
      have hvs : vs.length ≤ 16 := by omega
      have hbs := hbel.size
      clear hvl
      by_cases hz : LL.length = 0
      · have hz' : decide (0 < LL.length) = false := decide_eq_false (by omega)
        have hn00 : n0 = 0 := by rw [HN0.out, gl_ge (by omega)]; rfl
        have hk0 : k = 0 := by omega
        subst hk0
        have HE : Hid (tpF LL = (List.range 0).map (colS LL)) := Lib.hid (by rw [HY.out, HTS.out, hn00])
        obtain ⟨a', c', rfl⟩ := hLL.form
        have HO := Lib.hid hLL
        clear hLL hz hn00
        go_wp2_with fail
        go_ret
        rw [HE.out]
        exact ⟨a', c', vs, rfl, HO.out, hbel⟩
      · have hz' : decide (0 < LL.length) = true := decide_eq_true (by omega)
        have hz0 : 0 < LL.length := by omega
        obtain ⟨b0, o0, a0, c0, rfl, -, hc0, -, -⟩ := ((h.more hB).below hbel).at_ hz0
        have hll0 : LL[0].length = n0 := by rw [HN0.out, gl_lt hz0]
        rw [hll0, Nat.add_zero] at hc0
        clear hll0 hz
        have hzi : (0 : Int) < (LL.length : Int) := by omega
        by_cases hkn : k < n0
        · have hkn' : (k : Int) < (n0 : Int) := by omega
          have HO := Lib.hid hLL
          clear hLL
          have HX := Lib.hid (turnS_take LL k)
          go_wp2_with fail
          go_loopw [5, 6] (fun v i wr => ∃ q : Nat, q ≤ LL.length ∧ i = .int .i64 q ∧ Below wo.heap.size wo wr ∧ Own wr wo.heap.size wr.heap.size 3 v (ints (colS (LL.take q) k))) (fun _ i _ => 20 - (intOf i).toNat)
          case atStart => exact ⟨0, Nat.zero_le _, rfl, (Below.refl _ _).alloc (Nat.le_refl _) _, by rw [colS_zero]; exact (Own.empty wo 3).more⟩
          case round =>
            obtain ⟨q, hq, rfl, hbq, hown⟩ := hrel
            by_cases hql : q < LL.length
            · have hql' : (q : Int) < (LL.length : Int) := by omega
              obtain ⟨b1, o1, a1, c1, e1, -, hc1, hr1, -⟩ := ((h.more hB).below (hbel.trans (hbq.mono hbs))).at_ hql
              injection e1 with e1; injection e1 with e2 e3; subst e2 e3
              have HCS := Lib.hid (colS_succ hql k)
              have hl16 := vpl_l16 HV.out _ (List.getElem_mem hql)
              obtain ⟨L, hL⟩ : ∃ L, L = LL[q] := ⟨_, rfl⟩
              rw [← hL] at hc1 hr1 HCS hl16
              clear hL
              obtain ⟨ws, hws⟩ : ∃ ws, ws = ints (colS (LL.take q) k) := ⟨_, rfl⟩
              have hlv : ws.length ≤ 16 := by rw [hws, List.length_map]; have := colS_len (LL.take q) k; rw [List.length_take] at this; omega
              rw [← hws] at hown
              have HVS := Lib.hid hws
              have HOW := Lib.hid hown
              clear hws hown
              have hqs := hbq.size
              by_cases hkL : k < L.length
              · have hkL' : (k : Int) < (L.length : Int) := by omega
                obtain ⟨b2, o2, rfl, -, hc2⟩ := hr1.at_ hkL
                have HG : Hid (L.getD k 0 = L[k]) := Lib.hid (getD_lt hkL)
                generalize L[k] = x at *
                go_wp2_with (at_builtin; refine wpList_append_o _ rfl (.tmp 38) (.tmp 46) 31 rfl wo.heap.size wr.heap.size 3 i0 (.int .i64 0) 8 Try.underlying31 hi hx0 hx1 hx2 rfl _ ws rfl (HOW.out.alloc _) (wr.heap.size + 1) (some ⟨wr.heap.size, 0, none⟩) 1 1 [.int .i64 x] rfl (Rd.one wr _ _) rfl (by simp; rfl) (by unfold maxLen; omega) (by omega) (by simp; omega) ?_; intro v' w2 ho1 hg1 hat1)
                go_roundw
                case rel =>
                  refine ⟨q + 1, by omega, by go_num, below_push hbq (Nat.le_refl _) hg1 HOW.out.base, ?_⟩
                  rw [HVS.out] at ho1
                  rw [HCS.out, if_pos hkL, HG.out, ints, List.map_append]
                  simpa [ints] using ho1
                case measure => simp [intOf] <;> omega
              · have hkL' : decide (k < L.length) = false := decide_eq_false hkL
                go_wp2_with fail
                go_roundw
                case rel => exact ⟨q + 1, by omega, by go_num, hbq, by rw [HCS.out, if_neg hkL, List.append_nil, ← HVS.out]; exact HOW.out⟩
                case measure => simp [intOf]; omega
            · obtain rfl : q = LL.length := by omega
              rw [List.take_of_length_le (Nat.le_refl _)] at hown
              obtain ⟨a5, c5, rfl⟩ := hown.form
              rw [List.length_map] at hown ⊢
              have hL2 := Lib.hid (HO.out.below hbq)
              have HU := Lib.hid hown
              have hqs := hbq.size
              clear hown
              obtain ⟨C, hC⟩ : ∃ C, C = colS LL k := ⟨_, rfl⟩
              rw [← hC] at HU HX ⊢
              clear hC
              go_wp2_with (at_builtin; refine wpList_append_o _ rfl (.tmp 48) (.tmp 50) 22 rfl w.heap.size wr.heap.size 31 i1 (.slice none 0 0) 24 Try.underlying22 hj hy0 hy1 hy2 rfl _ vs rfl (hL2.out.more.outer.alloc _) (wr.heap.size + 1) (some ⟨wr.heap.size, 0, none⟩) 1 1 [.slice a5 C.length c5] rfl (Rd.one wr _ _) rfl (by intro u hu; rw [List.mem_singleton.1 hu]; rfl) (by unfold maxLen; omega) (by omega) (by rw [World.size_alloc]; omega) ?_; intro v' w6 ho6 hg6 hat6)
              go_roundw
              case rel =>
                refine ⟨k + 1, by omega, by go_num, below_push (hbel.trans (hbq.mono hbs)) (Nat.le_refl _) hg6 HO.out.outer.base, vs ++ [.slice a5 C.length c5], ?_⟩
                rw [HX.out]
                have e1 := (hL2.out.below ((Below.refl _ _).alloc (by omega) (.cells #[.slice a5 C.length c5] 31)))
                exact e1.append (HU.out.alloc (.cells #[.slice a5 C.length c5] 31)) (Nat.le_refl _) hbs (by simpa using ho6) hg6 hat6
              case measure => simp [intOf] <;> omega
        · have hk0 : k = n0 := by omega
          subst hk0
          have hkn' : decide (k < k) = false := decide_eq_false (by omega)
          have HE : Hid (tpF LL = (List.range k).map (colS LL)) := Lib.hid (by rw [HY.out, HTS.out])
          obtain ⟨a', c', rfl⟩ := hLL.form
          have HO := Lib.hid hLL
          clear hLL hkn
          go_wp2_with fail
          go_ret
          rw [HE.out]
          exact ⟨a', c', vs, rfl, HO.out, hbel⟩
end Go.Proofs.Ytnheolhgdinjgaa
