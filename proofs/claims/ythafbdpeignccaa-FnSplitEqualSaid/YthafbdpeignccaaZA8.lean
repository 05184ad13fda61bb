/-
  Walks: corners of the model and of the program. Walks: cells taken away and put, of the model and of the program. Walks of the model: kinds of parts; stairs. Walks: the model's kind at three names, its list of the parts of a kind. Walks of the program: IsKind. Walks: times of the model and of the program. Walks of the model: whether no number comes so often (apart of the kinds). Walks of the model: SplitEqual.
-/
import Derived.Test.YthafbdpeignccaaZA1
import Derived.Test.YthafbdpeignccaaZA2
import Derived.Test.YthafbdpeignccaaZA3
import Derived.Test.YthafbdpeignccaaZA4
import Derived.Test.YthafbdpeignccaaZA5
import Derived.Test.YthafbdpeignccaaZA6
import Derived.Test.YthafbdpeignccaaZA7
namespace Go.Proofs.Ythafbdpeignccaa
open Go.RowKit NP
set_option maxRecDepth 8000
set_option linter.unusedVariables false

theorem scorners_any (a : Option Addr) (c B : Nat) (L : List Int) (w : World) (h : Rd w B a (ints L)) (hB : B ≤ w.heap.size) (hl : L.length ≤ 1000) :
    Calls Try.prog 106 #[.slice a L.length c] w fun e w' => ∃ a' c', e = .returned (.slice a' (crn L).length c') ∧ Own w' w.heap.size w'.heap.size 3 (.slice a' (crn L).length c') (ints (crn L)) ∧ Below w.heap.size w w' := by
  obtain ⟨i0, hi, hz0, hz1, hz2⟩ := T_int'
  go_enter Try.func106, Try.ntmps106
  go_wp2_with fail
  go_loopw [3, 4] (fun v i wr => ∃ k : Nat, k ≤ L.length ∧ i = .int .i64 (k : Int) ∧ Below w.heap.size w wr ∧ Own wr w.heap.size wr.heap.size 3 v (ints (crnTo L k))) (fun _ i _ => L.length - (intOf i).toNat)
  case atStart => exact ⟨0, Nat.zero_le _, rfl, (Below.refl _ _).alloc (Nat.le_refl _) _, (Own.empty w 3).more⟩
  case round =>
    obtain ⟨k, hk, rfl, hbel, hown⟩ := hrel
    by_cases hlt : k < L.length
    · have hR := (h.more hB).below hbel
      obtain ⟨b, o, rfl, _, hc0⟩ := hR.at_ hlt
      have hlen2 : (crnTo L k).length ≤ k := crnTo_len L k
      have HS := Lib.hid (crnTo_succ L k)
      obtain ⟨vs, hvs⟩ : ∃ vs, vs = ints (crnTo L k) := ⟨_, rfl⟩
      have hlv : vs.length ≤ k := by rw [hvs]; simpa using hlen2
      rw [← hvs] at hown
      have HVS := Lib.hid hvs
      clear hvs hlen2
      have HO := Lib.hid hown
      clear hown
      by_cases h1 : k + 1 = L.length
      · have h1' : (k : Int) + 1 = (L.length : Int) := by omega
        have e1 : ((k : Int) + 1 == (L.length : Int)) = true := beq_iff_eq.2 h1'
        have HC : Hid (isC L k = true) := Lib.hid (by unfold isC; rw [decide_eq_true h1, Bool.true_or])
        clear h1 h1'
        go_wp2_with fail
        go_quiet (fail)
        go_wp2_with (at_builtin; go_loud (refine wpList_append_o _ rfl (.tmp 29) (.tmp 31) 22 rfl w.heap.size wr.heap.size 3 i0 (.int .i64 0) 8 Try.underlying22 hi hz0 hz1 hz2 rfl _ vs rfl ((HO.out.drewN _).alloc _) (wr.heap.size + 1) (some ⟨wr.heap.size, 0, none⟩) 1 1 [.int .i64 (k : Int)] rfl (Rd.one _ _ _) rfl (by simp; rfl) (by unfold maxLen; omega) (by omega) (by have := hbel.size; simp; omega) ?_); intro v' w1 ho1 hg1 hat1)
        go_roundw
        case rel =>
          refine ⟨k + 1, by omega, by go_num, below_push (hbel.trans ((Dr.n wr _).below _)) (Nat.le_refl _) hg1 HO.out.base, ?_⟩
          rw [HVS.out] at ho1
          rw [HS.out, if_pos HC.out]
          simpa [ints] using ho1
        case measure => simp [intOf]; omega
      · have hk1 : k + 1 < L.length := by omega
        have e1 : ((k : Int) + 1 == (L.length : Int)) = false := beq_eq_false_iff_ne.2 (by omega)
        obtain ⟨b', o', e', -, hc1⟩ := hR.at_ hk1
        injection e' with e'; injection e' with e2 e3; subst e2 e3
        by_cases hx : L[k + 1] < L[k]
        · have HC : Hid (isC L k = true) := Lib.hid (by unfold isC; rw [List.getD_eq_getElem?_getD, List.getD_eq_getElem?_getD, List.getElem?_eq_getElem hk1, List.getElem?_eq_getElem hlt, Option.getD_some, Option.getD_some, decide_eq_true hx, Bool.or_true])
          clear h1
          go_wp2_with fail
          go_quiet (fail)
          go_wp2_with (at_builtin; go_loud (refine wpList_append_o _ rfl (.tmp 29) (.tmp 31) 22 rfl w.heap.size wr.heap.size 3 i0 (.int .i64 0) 8 Try.underlying22 hi hz0 hz1 hz2 rfl _ vs rfl ((HO.out.drewN _).alloc _) (wr.heap.size + 1) (some ⟨wr.heap.size, 0, none⟩) 1 1 [.int .i64 (k : Int)] rfl (Rd.one _ _ _) rfl (by simp; rfl) (by unfold maxLen; omega) (by omega) (by have := hbel.size; simp; omega) ?_); intro v' w1 ho1 hg1 hat1)
          go_roundw
          case rel =>
            refine ⟨k + 1, by omega, by go_num, below_push (hbel.trans ((Dr.n wr _).below _)) (Nat.le_refl _) hg1 HO.out.base, ?_⟩
            rw [HVS.out] at ho1
            rw [HS.out, if_pos HC.out]
            simpa [ints] using ho1
          case measure => simp [intOf]; omega
        · have HC : Hid (isC L k = false) := Lib.hid (by unfold isC; rw [List.getD_eq_getElem?_getD, List.getD_eq_getElem?_getD, List.getElem?_eq_getElem hk1, List.getElem?_eq_getElem hlt, Option.getD_some, Option.getD_some, decide_eq_false hx, decide_eq_false h1]; rfl)
          clear h1
          have hx' : L[k] ≤ L[k + 1] := by omega
          clear hx
          go_wp2_with fail
          go_quiet (fail)
          go_wp2
          go_roundw
          case rel =>
            refine ⟨k + 1, by omega, by go_num, hbel.trans ((Dr.n wr _).below _), ?_⟩
            rw [HS.out, if_neg (by rw [HC.out]; decide), List.append_nil, ← HVS.out]
            exact HO.out.drewN _
          case measure => simp [intOf]; omega
    · obtain rfl : k = L.length := by omega
      obtain ⟨a', c', rfl⟩ := hown.form
      have HO := Lib.hid hown
      clear hown
      go_wp2
      go_ret
      have hlc : (crn L).length = (ints (crnTo L L.length)).length := by simp [crn]
      refine ⟨a', c', by rw [hlc]; rfl, ?_, hbel⟩
      rw [hlc]
      exact HO.out


theorem isCorner_any (D : List Int) (hD : D.length = 16) (i : Nat) (hi : i < 16) (w : World) :
    Calls Try.prog 75 #[.agg (arr D), .int .i64 i] w fun e w' => e = .returned (.bool (isCD D i)) ∧ Below w.heap.size w w' := by
  have hiD : i < D.length := by omega
  have hc := box_cell w D i hiD
  have hi' : (i : Int) < 16 := by omega
  have g0 : D.getD i 0 = D[i] := by rw [List.getD_eq_getElem?_getD, List.getElem?_eq_getElem hiD, Option.getD_some]
  by_cases h0 : 0 < D[i]
  · by_cases h15 : i = 15
    · have e1 : ((i : Int) == 15) = true := beq_iff_eq.2 (by omega)
      have HC : Hid (isCD D i = true) := Lib.hid (by unfold isCD; rw [g0, decide_eq_true h0, decide_eq_true h15]; rfl)
      clear h15 g0
      go_enter Try.func75, Try.ntmps75
      go_wp2_with fail
      go_quiet (fail)
      go_wp2
      go_ret
      exact ⟨ret_bool HC.out.symm, ((Below.refl _ _).alloc (Nat.le_refl _) _).trans ((Dr.n _ _).below _)⟩
    · have e1 : ((i : Int) == 15) = false := beq_eq_false_iff_ne.2 (by omega)
      have hi1 : i + 1 < D.length := by omega
      have hc1 := box_cell w D (i + 1) hi1
      have HC : Hid (isCD D i = decide (D[i + 1] < D[i])) := Lib.hid (by unfold isCD; rw [g0, List.getD_eq_getElem?_getD, List.getElem?_eq_getElem hi1, Option.getD_some, decide_eq_true h0, decide_eq_false h15]; rfl)
      clear h15 g0
      go_enter Try.func75, Try.ntmps75
      go_wp2_with fail
      go_quiet (fail)
      go_wp2
      go_ret
      exact ⟨ret_bool HC.out.symm, ((Below.refl _ _).alloc (Nat.le_refl _) _).trans ((Dr.n _ _).below _)⟩
  · have HC : Hid (isCD D i = false) := Lib.hid (by unfold isCD; rw [g0, decide_eq_false h0]; rfl)
    clear g0
    have h0' : decide (0 < D[i]) = false := decide_eq_false h0
    clear h0
    go_enter Try.func75, Try.ntmps75
    go_wp2_with fail
    go_quiet (fail)
    go_wp2
    go_ret
    exact ⟨ret_bool HC.out.symm, ((Below.refl _ _).alloc (Nat.le_refl _) _).trans ((Dr.n _ _).below _)⟩

theorem dcorners_any (D : List Int) (hD : D.length = 16) (w : World) :
    Calls Try.prog 74 #[.agg (arr D)] w fun e w' => ∃ a' c', e = .returned (.slice a' (fl (isCD D) 16).length c') ∧ Own w' w.heap.size w'.heap.size 3 (.slice a' (fl (isCD D) 16).length c') (ints (fl (isCD D) 16)) ∧ Below w.heap.size w w' := by
  obtain ⟨i0, hi, hz0, hz1, hz2⟩ := T_int'
  have HD := Lib.hid hD
  have hd16 : 16 ≤ D.length := by omega
  have hi16 : (Try.prog.info? 59).map (·.size) = some (arr D).size := by rw [arr_size, hD]; exact T_info35
  clear hD
  go_enter Try.func74, Try.ntmps74
  go_wp2
  go_loopw [3, 4, 5] (fun v u i wr => ∃ k : Nat, k ≤ 16 ∧ i = .int .i64 (k : Int) ∧ Below w.heap.size w wr ∧ Blk wr w.heap.size 59 (arr D) ∧ Own wr (w.heap.size + 1) wr.heap.size 3 v (ints (fl (isCD D) k))) (fun _ _ i _ => 20 - (intOf i).toNat)
  case atStart => exact ⟨0, Nat.zero_le _, rfl, (Below.refl _ _).alloc (Nat.le_refl _) _, Blk.new _ _ _, Own.nil _ _ _⟩
  case round =>
    obtain ⟨k, hk, rfl, hbel, hblk, hown⟩ := hrel
    by_cases hlt : k < 16
    · have hlen2 : (fl (isCD D) k).length ≤ k := fl_len _ k
      have HS := Lib.hid (fl_succ (isCD D) k)
      obtain ⟨vs, hvs⟩ : ∃ vs, vs = ints (fl (isCD D) k) := ⟨_, rfl⟩
      have hlv : vs.length ≤ k := by rw [hvs]; simpa using hlen2
      rw [← hvs] at hown
      have HVS := Lib.hid hvs
      clear hvs hlen2
      have HO := Lib.hid hown
      clear hown
      cases hcb : isCD D k with
      | true =>
        have HC := Lib.hid hcb
        clear hcb
        go_wp2_with (first | (refine wpList_load_row rfl 59 (.tmp 1) rfl w.heap.size rfl 59 (arr D) (0, 0) _ hblk Try.underlying59 rfl hi16 ?_) | (go_at_call 75; refine (isCorner_any D HD.out k hlt _).mono ?_; rintro e w2 ⟨rfl, hb2⟩; rw [HC.out]; have ho2 := (HO.out.below hb2).more) | (at_builtin; refine wpList_append_o _ rfl (.tmp 11) (.tmp 13) 22 rfl (w.heap.size + 1) w2.heap.size 3 i0 (.int .i64 0) 8 Try.underlying22 hi hz0 hz1 hz2 rfl _ vs rfl (ho2.alloc _) (w2.heap.size + 1) (some ⟨w2.heap.size, 0, none⟩) 1 1 [.int .i64 (k : Int)] rfl (Rd.one _ _ _) rfl (by simp; rfl) (by unfold maxLen; omega) (by omega) (by have := hbel.size; have := hb2.size; simp; omega) ?_; intro v' w3 ho3 hg3 hat3))
        go_roundw
        case rel =>
          have hz := hbel.size
          have hb12 : Below w.heap.size w w2 := hbel.trans (hb2.mono (by omega))
          have hblk2 : Blk w2 w.heap.size 59 (arr D) := hblk.below hb2 hblk.lt
          refine ⟨k + 1, by omega, by go_num, below_push hb12 (Nat.le_refl _) hg3 (fun g hg => by have := HO.out.base g hg; omega), (hblk2.alloc _).grown hg3 (fun e => by have := HO.out.base _ e.symm; omega), ?_⟩
          rw [HVS.out] at ho3
          rw [HS.out, if_pos HC.out]
          simpa [ints] using ho3
        case measure => simp [intOf]; omega
      | false =>
        have HC := Lib.hid hcb
        clear hcb
        go_wp2_with (first | (refine wpList_load_row rfl 59 (.tmp 1) rfl w.heap.size rfl 59 (arr D) (0, 0) _ hblk Try.underlying59 rfl hi16 ?_) | (go_at_call 75; refine (isCorner_any D HD.out k hlt _).mono ?_; rintro e w2 ⟨rfl, hb2⟩; rw [HC.out]))
        go_roundw
        case rel =>
          refine ⟨k + 1, by omega, by go_num, hbel.trans (hb2.mono (by have := hbel.size; omega)), hblk.below hb2 hblk.lt, ?_⟩
          rw [HS.out, if_neg (by rw [HC.out]; decide), List.append_nil, ← HVS.out]
          exact (HO.out.below hb2).more
        case measure => simp [intOf]; omega
    · obtain rfl : k = 16 := by omega
      obtain ⟨a', c', rfl⟩ := hown.form
      have HO := Lib.hid hown
      clear hown
      go_wp2
      go_ret
      have hlc : (fl (isCD D) 16).length = (ints (fl (isCD D) 16)).length := by simp
      refine ⟨a', c', by rw [hlc]; rfl, ?_, hbel⟩
      rw [hlc]
      exact HO.out.lower (by omega)

theorem iCornersOf_any (a : Option Addr) (c B : Nat) (L : List Int) (w : World) (h : Rd w B a (ints L)) (hB : B ≤ w.heap.size) (hl : L.length ≤ 4611686018427387904) :
    Calls Try.prog 29 #[.slice a L.length c] w fun e w' => ∃ a' c', e = .returned (.slice a' (crnF L).length c') ∧ Own w' w.heap.size w'.heap.size 3 (.slice a' (crnF L).length c') (ints (crnF L)) ∧ Below w.heap.size w w' := by
  have hi16 : (Try.prog.info? 59).map (·.size) = some (arr (dg L)).size := by rw [arr_size, dg_len]; exact T_info35
  have hsz : (arr (dg L)).size = (arr (List.replicate 16 0)).size := by rw [arr_size, arr_size, dg_len]; rfl
  cases hv : valid L with
  | true =>
    have HE := Lib.hid (crnF_yes hv)
    have HP := Lib.hid (crn_pad hv)
    have HD := Lib.hid (dg_yes hv)
    have HV := Lib.hid hv
    go_enter Try.func29, Try.ntmps29
    go_wp2_with (first | (go_at_call 64; refine (diagramOf_any _ _ B L _ h hB hl).mono ?_; rintro e w1 ⟨rfl, hb1⟩) | (refine wpList_store_row rfl 59 (.tmp 3) (.tmp 8) rfl w1.heap.size rfl (arr (dg L)) rfl 59 (arr (List.replicate 16 0)) (Blk.new w1 _ _) hi16 hsz (arr_one _) ?_) | (refine wpList_load_row rfl 59 (.tmp 3) rfl w1.heap.size rfl 59 (arr (dg L)) (0, 0) _ (Blk.new w1 _ _).row Try.underlying59 rfl hi16 ?_) | (go_at_call 74; rw [HD.out]; refine (dcorners_any (pad L) (pad_len (valid_bd HV.out).2.2.2) _).mono ?_; rintro e w2 ⟨a', c', rfl, ho2, hb2⟩))
    go_ret
    rw [HE.out]
    rw [HP.out] at ho2 ⊢
    refine ⟨a', c', rfl, ho2.lower (by have := hb1.size; simp; omega), ?_⟩
    exact (below_setRow' (hb1.alloc hb1.size _) (by exact hb1.size) _).trans (hb2.mono (by have := hb1.size; simp; omega))
  | false =>
    have HE := Lib.hid (crnF_no hv)
    go_enter Try.func29, Try.ntmps29
    go_wp2_with (first | (go_at_call 64; refine (diagramOf_any _ _ B L _ h hB hl).mono ?_; rintro e w1 ⟨rfl, hb1⟩) | (refine wpList_store_row rfl 59 (.tmp 3) (.tmp 8) rfl w1.heap.size rfl (arr (dg L)) rfl 59 (arr (List.replicate 16 0)) (Blk.new w1 _ _) hi16 hsz (arr_one _) ?_))
    go_ret
    rw [HE.out]
    exact ⟨none, 0, rfl, Own.nil _ _ _, below_setRow' (hb1.alloc hb1.size _) (by exact hb1.size) _⟩
end Go.Proofs.Ythafbdpeignccaa
namespace Go.Proofs.Ythafbdpeignccaa
open Go.RowKit NP
set_option maxRecDepth 8000
set_option linter.unusedVariables false

theorem Own.take {w : World} {lo hi : Nat} {e : TypeId} {a : Option Addr} {n c : Nat} {vs : List Value} (h : Own w lo hi e (.slice a n c) vs) (k : Nat) (hk : k ≤ vs.length) : Own w lo hi e (.slice a k c) (vs.take k) := by
  refine ⟨?_, fun g hg => h.lt g (by cases a with | none => cases hg | some b => exact hg), h.le⟩
  have hlen : (vs.take k).length = k := by simp; omega
  rw [hlen]
  refine ⟨by rw [hlen]; omega, ?_⟩
  rcases h.row.2 with ⟨e1, e2⟩ | ⟨g, cap, cur, e1, hb, hg, hc, hm, hs, ht⟩
  · injection e1 with e3 e4 e5
    subst e3; subst e5
    have : k = 0 := by omega
    subst this
    exact .inl ⟨rfl, rfl⟩
  · injection e1 with e3 e4 e5
    subst e3; subst e5
    refine .inr ⟨g, c, cur, rfl, hb, hg, by omega, hm, hs, ?_⟩
    rw [← ht, List.take_take]
    congr 1
    omega

theorem hasInt_any (a : Option Addr) (c B : Nat) (M : List Int) (n : Int) (w : World) (h : Rd w B a (ints M)) (hl : M.length ≤ 4611686018427387904) :
    Calls Try.prog 110 #[.slice a M.length c, .int .i64 n] w fun e w' => e = .returned (.bool (hasI M n)) ∧ w = w' := by
  go_enter Try.func110, Try.ntmps110
  go_wp2
  go_loop [5] (fun i => ∃ k : Nat, k ≤ M.length ∧ i = .int .i64 k ∧ Hid (∀ j (hj : j < M.length), j < k → M[j] ≠ n)) (fun i => M.length - (intOf i).toNat)
  case atStart => exact ⟨0, Nat.zero_le _, rfl, Lib.hid fun j _ hj => by omega⟩
  case round =>
    obtain ⟨k, hk, rfl, HP⟩ := hrel
    by_cases hlt : k < M.length
    · obtain ⟨b, o, rfl, _, hc⟩ := h.at_ hlt
      by_cases hx : M[k] = n
      · have hxb : (M[k] == n) = true := beq_iff_eq.2 hx
        have HX := Lib.hid hx
        clear hx
        go_wp2
        go_ret
        exact ⟨ret_bool (by unfold hasI; rw [eq_comm, decide_eq_true_eq, ← HX.out]; exact List.getElem_mem hlt), rfl⟩
      · have hxb : (M[k] == n) = false := beq_eq_false_iff_ne.2 hx
        have HX := Lib.hid hx
        clear hx
        go_wp2
        go_round
        case rel => exact ⟨k + 1, by omega, by go_num, Lib.hid fun j hj hjk => by
          rcases Nat.lt_or_ge j k with h | h
          · exact HP.out j hj h
          · obtain rfl : j = k := by omega
            exact HX.out⟩
        case measure => simp [intOf]; omega
    · obtain rfl : k = M.length := by omega
      go_wp2
      go_ret
      exact ⟨ret_bool (by
        unfold hasI
        rw [eq_comm, decide_eq_false_iff_not]
        intro hm
        obtain ⟨j, hj, e⟩ := List.mem_iff_getElem.1 hm
        exact HP.out j hj hj e), rfl⟩

theorem less_any (a : Option Addr) (c B : Nat) (L : List Int) (k : Nat) (w : World) (h : Rd w B a (ints L)) (hB : B ≤ w.heap.size) (hv : valid L = true) (hk : k < L.length) :
    Calls Try.prog 107 #[.slice a L.length c, .int .i64 k] w fun e w' => ∃ a' c', e = .returned (.slice a' (lessL L k).length c') ∧ Own w' w.heap.size w'.heap.size 3 (.slice a' (lessL L k).length c') (ints (lessL L k)) ∧ Below w.heap.size w w' := by
  obtain ⟨i0, hi, hz0, hz1, hz2⟩ := T_int'
  have hl := (valid_bd hv).2.2.2
  have hp := preS_of_valid hv k hk hk
  have hpk : 1 ≤ L[k] ∧ L[k] ≤ 16 := ⟨hp.1, hp.2.1⟩
  clear hp
  have hg : L.getD k 0 = L[k] := getD_lt hk
  have HG := Lib.hid hg
  clear hg
  have HV := Lib.hid hv
  clear hv
  by_cases h0 : L[k] - 1 = 0
  · have h0b : (L[k] - 1 == 0) = true := beq_iff_eq.2 h0
    have HL : Hid (lessL L k = (L.set k (L[k] - 1)).take k) := Lib.hid (by unfold lessL; rw [HG.out, if_pos h0])
    have hc1 : (k : Int) ≤ (k : Int) := Int.le_refl _
    clear h0 hc1
    go_enter Try.func107, Try.ntmps107
    go_wp2_with (at_builtin; refine wpList_append_o _ rfl (.tmp 6) (.tmp 7) 22 rfl w.heap.size (w.heap.size + 1) 3 i0 (.int .i64 0) 8 Try.underlying22 hi hz0 hz1 hz2 rfl _ [] rfl (Own.empty w 3) B a L.length c (ints L) rfl (h.alloc hB _) (by simp) (ints_one L) (by simp; unfold maxLen; omega) (by simp; omega) (by simp) ?_; intro v' w1 ho1 hg1 hat1; rw [List.nil_append] at ho1; obtain ⟨g, c1, hv', hlog, hghi, hcell, hfz⟩ := ho1.at_ (k := k) (by simpa using hk); have hcap : L.length ≤ c1 := (by obtain ⟨g', c', e', hc'⟩ := ho1.formN (by simp; omega); rw [hv'] at e'; injection e' with _ _ e5; simp at hc'; omega); subst hv'; clear hat1; have hcellk : w1.cell? ⟨g, k, none⟩ = some (.int .i64 L[k]) := by rw [hcell]; simp)
    go_ret
    have hset : (ints L).set k (.int .i64 (L[k] - 1)) = ints (L.set k (L[k] - 1)) := by simp [ints, List.map_set]
    have hb1 : Below w.heap.size w w1 := ((Below.refl _ _).alloc (Nat.le_refl _) _).grown hg1 (by simp) (fun x hx => by injection hx with hx; subst hx; exact Nat.le_refl _)
    have hl1 : (ints L).length = L.length := by simp
    rw [hl1] at ho1
    have e := (ho1.set k (.int .i64 (L[k] - 1))).more
    rw [hset] at e
    rw [HL.out]
    have hlt : ((L.set k (L[k] - 1)).take k).length = k := by simp; omega
    rw [hlt]
    have e2 := e.take k (by simp; omega)
    refine ⟨some ⟨g, 0, none⟩, c1, rfl, ?_, hb1.setCell (by show w.heap.size ≤ g; exact hlog) _⟩
    have e3 : (ints (L.set k (L[k] - 1))).take k = ints ((L.set k (L[k] - 1)).take k) := by simp [ints, List.map_take]
    rw [e3] at e2
    exact e2
  · have h0b : (L[k] - 1 == 0) = false := beq_eq_false_iff_ne.2 h0
    have HL : Hid (lessL L k = L.set k (L[k] - 1)) := Lib.hid (by unfold lessL; rw [HG.out, if_neg h0])
    clear h0
    go_enter Try.func107, Try.ntmps107
    go_wp2_with (at_builtin; refine wpList_append_o _ rfl (.tmp 6) (.tmp 7) 22 rfl w.heap.size (w.heap.size + 1) 3 i0 (.int .i64 0) 8 Try.underlying22 hi hz0 hz1 hz2 rfl _ [] rfl (Own.empty w 3) B a L.length c (ints L) rfl (h.alloc hB _) (by simp) (ints_one L) (by simp; unfold maxLen; omega) (by simp; omega) (by simp) ?_; intro v' w1 ho1 hg1 hat1; rw [List.nil_append] at ho1; obtain ⟨g, c1, hv', hlog, hghi, hcell, hfz⟩ := ho1.at_ (k := k) (by simpa using hk); have hcap : L.length ≤ c1 := (by obtain ⟨g', c', e', hc'⟩ := ho1.formN (by simp; omega); rw [hv'] at e'; injection e' with _ _ e5; simp at hc'; omega); subst hv'; clear hat1; have hcellk : w1.cell? ⟨g, k, none⟩ = some (.int .i64 L[k]) := by rw [hcell]; simp)
    go_ret
    have hset : (ints L).set k (.int .i64 (L[k] - 1)) = ints (L.set k (L[k] - 1)) := by simp [ints, List.map_set]
    have hb1 : Below w.heap.size w w1 := ((Below.refl _ _).alloc (Nat.le_refl _) _).grown hg1 (by simp) (fun x hx => by injection hx with hx; subst hx; exact Nat.le_refl _)
    have hl1 : (ints L).length = L.length := by simp
    rw [hl1] at ho1
    have e := (ho1.set k (.int .i64 (L[k] - 1))).more
    rw [hset] at e
    rw [HL.out]
    have hlt : (L.set k (L[k] - 1)).length = L.length := by simp
    rw [hlt]
    exact ⟨some ⟨g, 0, none⟩, c1, by simp, e, hb1.setCell (by show w.heap.size ≤ g; exact hlog) _⟩

theorem rmvOk_no {L : List Int} (h : valid L = false) (i : Int) : rmvOk L i = false := by simp [rmvOk, h]
theorem rmvOk_yes {L : List Int} (h : valid L = true) (i : Int) : rmvOk L i = hasI (crn L) i := by
  unfold rmvOk crn
  rw [h, Bool.true_and, crnTo_fl, hasI_fl]
theorem rmv_no {L : List Int} {i : Int} (h : rmvOk L i = false) : rmv L i = [] := by simp [rmv, h]
theorem rmv_yes {L : List Int} {i : Int} (h : rmvOk L i = true) : ∃ k : Nat, i = k ∧ k < L.length ∧ isC L k = true ∧ valid L = true ∧ rmv L i = lessL L k := by
  have h2 := h
  unfold rmvOk at h
  simp only [Bool.and_eq_true, decide_eq_true_eq] at h
  obtain ⟨hv, ⟨h0, hlt⟩, hc⟩ := h
  obtain ⟨k, rfl⟩ := Int.eq_ofNat_of_zero_le h0
  refine ⟨k, rfl, by omega, hc, hv, ?_⟩
  unfold rmv
  rw [if_pos h2]
  rfl
theorem own_nil0 (w : World) (lo : Nat) (e : TypeId) : Own w lo w.heap.size e (.slice none ([] : List Int).length 0) (ints []) := Own.nil w lo e

theorem iRemoveCell_any (a : Option Addr) (c B : Nat) (L : List Int) (i : Int) (w : World) (h : Rd w B a (ints L)) (hB : B ≤ w.heap.size) (hl : L.length ≤ 4611686018427387904) :
    Calls Try.prog 30 #[.slice a L.length c, .int .i64 i] w fun e w' => ∃ a' c', e = .returned (.tuple #[.slice a' (rmv L i).length c', .bool (rmvOk L i)]) ∧ Own w' w.heap.size w'.heap.size 3 (.slice a' (rmv L i).length c') (ints (rmv L i)) ∧ Below w.heap.size w w' := by
  cases hv : valid L with
  | true =>
    have hl16 := (valid_bd hv).2.2.2
    have hpl := pad_len hl16
    have hi16 : (Try.prog.info? 59).map (·.size) = some (arr (pad L)).size := by rw [arr_size, hpl]; exact T_info35
    have hsz : (arr (pad L)).size = (arr (List.replicate 16 0)).size := by rw [arr_size, arr_size, hpl]; rfl
    have HD := Lib.hid (dg_yes hv)
    have HV := Lib.hid hv
    have HPL := Lib.hid hpl
    clear hpl
    by_cases hin : 0 ≤ i ∧ i < L.length
    · obtain ⟨k, rfl⟩ := Int.eq_ofNat_of_zero_le hin.1
      have hk : k < L.length := by omega
      have hk16 : k < 16 := by omega
      have hg0 : decide ((k : Int) < 0) = false := decide_eq_false (by omega)
      have hg1 : decide (L.length ≤ k) = false := decide_eq_false (by omega)
      have hk' : (k : Int) < 16 := by omega
      clear hin
      have hIC : isCD (pad L) k = isC L k := by rw [isCD_pad hv, if_pos hk]
      have hOk : rmvOk L k = isC L k := by unfold rmvOk; rw [hv, decide_eq_true (by omega : (0 : Int) ≤ (k : Int)), decide_eq_true (by omega : (k : Int) < (L.length : Int))]; rfl
      have HOK := Lib.hid hOk
      clear hOk
      have hgk : (pad L).getD k 0 = L.getD k 0 := pad_getD hl16 k
      have hgl : L.getD k 0 = L[k] := getD_lt hk
      have hp := preS_of_valid hv k hk hk
      have hpk : 1 ≤ L[k] ∧ L[k] ≤ 16 := ⟨hp.1, hp.2.1⟩
      have hpc : (pad L)[k]'(by rw [HPL.out]; exact hk16) = L[k] := by rw [← hgl, ← hgk, getD_lt]
      have HPC := Lib.hid hpc
      have HGL := Lib.hid hgl
      clear hp hgk hgl hpc
      cases hcb : isC L k with
      | true =>
        rw [hcb] at hIC
        have hvl := valid_less hv hk hcb
        have hpll := pad_less hv hk hcb
        rw [HGL.out] at hpll
        have hil : (Try.prog.info? 59).map (·.size) = some (arr (pad (lessL L k))).size := by rw [arr_size, pad_len (valid_bd hvl).2.2.2]; exact T_info35
        have HVL := Lib.hid hvl
        have HPLL := Lib.hid hpll
        have HIC := Lib.hid hIC
        have HC := Lib.hid hcb
        clear hcb hvl hpll hIC hv
        go_enter Try.func30, Try.ntmps30
        go_wp2_with (first
        | (go_at_call 64; refine (diagramOf_any _ _ B L _ h hB hl).mono ?_; rintro e w1 ⟨rfl, hb1⟩; rw [HD.out, HV.out])
        | (refine wpList_store_row rfl 59 (.tmp 6) (.tmp 11) rfl w1.heap.size rfl (arr (pad L)) rfl 59 (arr (List.replicate 16 0)) (Blk.new w1 _ _) hi16 hsz (arr_one _) ?_; have hb2 := (Blk.new w1 59 (arr (List.replicate 16 0))).row (vs := arr (pad L)); have hbel2 : Below w.heap.size w ((w1.alloc (.cells (arr (List.replicate 16 0)) 59)).setRow w1.heap.size (arr (pad L))) := below_setRow' (hb1.alloc hb1.size _) (by exact hb1.size) _; obtain ⟨w2, hw2⟩ : ∃ w2, w2 = (w1.alloc (.cells (#[.int .i64 0, .int .i64 0, .int .i64 0, .int .i64 0, .int .i64 0, .int .i64 0, .int .i64 0, .int .i64 0, .int .i64 0, .int .i64 0, .int .i64 0, .int .i64 0, .int .i64 0, .int .i64 0, .int .i64 0, .int .i64 0]) 59)).setRow w1.heap.size (arr (pad L)) := ⟨_, rfl⟩; rw [← hw2]; replace hb2 : Blk w2 w1.heap.size 59 (arr (pad L)) := hw2 ▸ hb2; replace hbel2 : Below w.heap.size w w2 := hw2 ▸ hbel2; clear hw2)
        | (refine wpList_load_row_g rfl 59 (.tmp 6) rfl (w1.heap.size) rfl 59 (arr (pad L)) (0, 0) _ hb2 Try.underlying59 rfl hi16 ?_)
        | (go_at_call 75; refine (isCorner_any (pad L) HPL.out k hk16 _).mono ?_; rintro e w3 ⟨rfl, hb3⟩; rw [HIC.out]; have hb3' : Blk w3 w1.heap.size 59 (arr (pad L)) := hb2.below hb3 hb2.lt; have hc3 : w3.cell? ⟨w1.heap.size, k, none⟩ = some (.int .i64 L[k]) := (by rw [hb3'.cell k, arr_get _ k (by rw [HPL.out]; exact hk16), HPC.out]); have hf3 : w3.frozen? ⟨w1.heap.size, k, none⟩ = false := hb3'.free k; have hb4 : Blk (w3.setCell ⟨w1.heap.size, k, none⟩ (.int .i64 (L[k] - 1))) w1.heap.size 59 (arr (pad (lessL L k))) := (by have e := hb3'.set k (.int .i64 (L[k] - 1)); rw [arr_set, HPLL.out] at e; exact e); have hbel4 : Below w.heap.size w (w3.setCell ⟨w1.heap.size, k, none⟩ (.int .i64 (L[k] - 1))) := (hbel2.trans (hb3.mono hbel2.size)).setCell (by show w.heap.size ≤ w1.heap.size; exact hb1.size) _)
        | (refine wpList_load_row rfl 59 (.tmp 6) rfl (w1.heap.size) rfl 59 (arr (pad (lessL L k))) (0, 0) _ hb4 Try.underlying59 rfl hil ?_)
        | (go_at_call 76; refine (list_any (lessL L k) HVL.out _).mono ?_; rintro e w5 ⟨a', rfl, ho5, hb5⟩))
        go_ret2
        rw [HOK.out, HC.out]
        have hr : rmv L k = lessL L k := by unfold rmv; rw [HOK.out, HC.out]; rfl
        rw [hr]
        exact ⟨a', (lessL L k).length, rfl, ho5.lower hbel4.size, hbel4.trans (hb5.mono hbel4.size)⟩
      | false =>
        rw [hcb] at hIC
        have HIC := Lib.hid hIC
        have HC := Lib.hid hcb
        clear hcb hIC hv
        go_enter Try.func30, Try.ntmps30
        go_wp2_with (first
        | (go_at_call 64; refine (diagramOf_any _ _ B L _ h hB hl).mono ?_; rintro e w1 ⟨rfl, hb1⟩; rw [HD.out, HV.out])
        | (refine wpList_store_row rfl 59 (.tmp 6) (.tmp 11) rfl w1.heap.size rfl (arr (pad L)) rfl 59 (arr (List.replicate 16 0)) (Blk.new w1 _ _) hi16 hsz (arr_one _) ?_; have hb2 := (Blk.new w1 59 (arr (List.replicate 16 0))).row (vs := arr (pad L)); have hbel2 : Below w.heap.size w ((w1.alloc (.cells (arr (List.replicate 16 0)) 59)).setRow w1.heap.size (arr (pad L))) := below_setRow' (hb1.alloc hb1.size _) (by exact hb1.size) _; obtain ⟨w2, hw2⟩ : ∃ w2, w2 = (w1.alloc (.cells (#[.int .i64 0, .int .i64 0, .int .i64 0, .int .i64 0, .int .i64 0, .int .i64 0, .int .i64 0, .int .i64 0, .int .i64 0, .int .i64 0, .int .i64 0, .int .i64 0, .int .i64 0, .int .i64 0, .int .i64 0, .int .i64 0]) 59)).setRow w1.heap.size (arr (pad L)) := ⟨_, rfl⟩; rw [← hw2]; replace hb2 : Blk w2 w1.heap.size 59 (arr (pad L)) := hw2 ▸ hb2; replace hbel2 : Below w.heap.size w w2 := hw2 ▸ hbel2; clear hw2)
        | (refine wpList_load_row_g rfl 59 (.tmp 6) rfl (w1.heap.size) rfl 59 (arr (pad L)) (0, 0) _ hb2 Try.underlying59 rfl hi16 ?_)
        | (go_at_call 75; refine (isCorner_any (pad L) HPL.out k hk16 _).mono ?_; rintro e w3 ⟨rfl, hb3⟩; rw [HIC.out]))
        go_ret2
        rw [rmv_no (by rw [HOK.out, HC.out]), HOK.out, HC.out]
        exact ⟨none, 0, rfl, own_nil0 _ _ _, hbel2.trans (hb3.mono hbel2.size)⟩
    · have hOk : rmvOk L i = false := by
        unfold rmvOk
        rw [hv]
        rcases Int.lt_or_le i 0 with h0 | h0
        · rw [decide_eq_false (by omega : ¬ 0 ≤ i)]; rfl
        · rw [decide_eq_false (by omega : ¬ i < (L.length : Int))]; simp
      rw [rmv_no hOk, hOk]
      clear hOk
      by_cases h0 : i < 0
      · have hg0 : decide (i < 0) = true := decide_eq_true h0
        clear hin h0 hv
        go_enter Try.func30, Try.ntmps30
        go_wp2_with (first
        | (go_at_call 64; refine (diagramOf_any _ _ B L _ h hB hl).mono ?_; rintro e w1 ⟨rfl, hb1⟩; rw [HD.out, HV.out])
        | (refine wpList_store_row rfl 59 (.tmp 6) (.tmp 11) rfl w1.heap.size rfl (arr (pad L)) rfl 59 (arr (List.replicate 16 0)) (Blk.new w1 _ _) hi16 hsz (arr_one _) ?_; have hb2 := (Blk.new w1 59 (arr (List.replicate 16 0))).row (vs := arr (pad L)); have hbel2 : Below w.heap.size w ((w1.alloc (.cells (arr (List.replicate 16 0)) 59)).setRow w1.heap.size (arr (pad L))) := below_setRow' (hb1.alloc hb1.size _) (by exact hb1.size) _; obtain ⟨w2, hw2⟩ : ∃ w2, w2 = (w1.alloc (.cells (#[.int .i64 0, .int .i64 0, .int .i64 0, .int .i64 0, .int .i64 0, .int .i64 0, .int .i64 0, .int .i64 0, .int .i64 0, .int .i64 0, .int .i64 0, .int .i64 0, .int .i64 0, .int .i64 0, .int .i64 0, .int .i64 0]) 59)).setRow w1.heap.size (arr (pad L)) := ⟨_, rfl⟩; rw [← hw2]; replace hb2 : Blk w2 w1.heap.size 59 (arr (pad L)) := hw2 ▸ hb2; replace hbel2 : Below w.heap.size w w2 := hw2 ▸ hbel2; clear hw2))
        go_ret2
        exact ⟨none, 0, rfl, own_nil0 _ _ _, hbel2⟩
      · have hg0 : decide (i < 0) = false := decide_eq_false h0
        have hg1 : decide ((L.length : Int) ≤ i) = true := decide_eq_true (by omega)
        clear hin h0 hv
        go_enter Try.func30, Try.ntmps30
        go_wp2_with (first
        | (go_at_call 64; refine (diagramOf_any _ _ B L _ h hB hl).mono ?_; rintro e w1 ⟨rfl, hb1⟩; rw [HD.out, HV.out])
        | (refine wpList_store_row rfl 59 (.tmp 6) (.tmp 11) rfl w1.heap.size rfl (arr (pad L)) rfl 59 (arr (List.replicate 16 0)) (Blk.new w1 _ _) hi16 hsz (arr_one _) ?_; have hb2 := (Blk.new w1 59 (arr (List.replicate 16 0))).row (vs := arr (pad L)); have hbel2 : Below w.heap.size w ((w1.alloc (.cells (arr (List.replicate 16 0)) 59)).setRow w1.heap.size (arr (pad L))) := below_setRow' (hb1.alloc hb1.size _) (by exact hb1.size) _; obtain ⟨w2, hw2⟩ : ∃ w2, w2 = (w1.alloc (.cells (#[.int .i64 0, .int .i64 0, .int .i64 0, .int .i64 0, .int .i64 0, .int .i64 0, .int .i64 0, .int .i64 0, .int .i64 0, .int .i64 0, .int .i64 0, .int .i64 0, .int .i64 0, .int .i64 0, .int .i64 0, .int .i64 0]) 59)).setRow w1.heap.size (arr (pad L)) := ⟨_, rfl⟩; rw [← hw2]; replace hb2 : Blk w2 w1.heap.size 59 (arr (pad L)) := hw2 ▸ hb2; replace hbel2 : Below w.heap.size w w2 := hw2 ▸ hbel2; clear hw2))
        go_ret2
        exact ⟨none, 0, rfl, own_nil0 _ _ _, hbel2⟩
  | false =>
    have hh := rmvOk_no hv i
    rw [hh, rmv_no hh]
    have hi16 : (Try.prog.info? 59).map (·.size) = some (arr (dg L)).size := by rw [arr_size, dg_len]; exact T_info35
    have hsz : (arr (dg L)).size = (arr (List.replicate 16 0)).size := by rw [arr_size, arr_size, dg_len]; rfl
    have HV := Lib.hid hv
    clear hh hv
    go_enter Try.func30, Try.ntmps30
    go_wp2_with (first
        | (go_at_call 64; refine (diagramOf_any _ _ B L _ h hB hl).mono ?_; rintro e w1 ⟨rfl, hb1⟩; rw [HV.out])
        | (refine wpList_store_row rfl 59 (.tmp 6) (.tmp 11) rfl w1.heap.size rfl (arr (dg L)) rfl 59 (arr (List.replicate 16 0)) (Blk.new w1 _ _) hi16 hsz (arr_one _) ?_))
    go_ret2
    exact ⟨none, 0, rfl, own_nil0 _ _ _, below_setRow' (hb1.alloc hb1.size _) (by exact hb1.size) _⟩
theorem addOk_no {L : List Int} (h : valid L = false) (i : Int) : addOk L i = false := by simp [addOk, h]
theorem addC_no {L : List Int} {i : Int} (h : addOk L i = false) : addC L i = [] := by simp [addC, h]
theorem addC_yes {L : List Int} {i : Int} (h : addOk L i = true) : addC L i = addL L i.toNat := by simp [addC, h]
theorem addOk_at {L : List Int} (hv : valid L = true) {k : Nat} (hk : k ≤ L.length) : addOk L k = valid (addL L k) := by
  unfold addOk
  rw [hv, decide_eq_true (by omega : (0 : Int) ≤ (k : Int)), decide_eq_true (by omega : (k : Int) ≤ (L.length : Int))]
  rfl
theorem addOk_out {L : List Int} {i : Int} (h : ¬ (0 ≤ i ∧ i ≤ L.length)) : addOk L i = false := by
  unfold addOk
  rcases Int.lt_or_le i 0 with h0 | h0
  · rw [decide_eq_false (by omega : ¬ 0 ≤ i)]; simp
  · rw [decide_eq_false (by omega : ¬ i ≤ (L.length : Int))]; simp
theorem Blk.drs {w : World} {g : Nat} {t : TypeId} {cs : Array Value} (h : Blk w g t cs) (n : Nat) : Blk (w.drewN n) g t cs := h

end Go.Proofs.Ythafbdpeignccaa
namespace Go.Proofs.Ythafbdpeignccaa
open Go.RowKit NP
set_option maxRecDepth 8000
set_option linter.unusedVariables false
set_option linter.unusedSimpArgs false





end Go.Proofs.Ythafbdpeignccaa
namespace Go.Proofs.Ythafbdpeignccaa
open Go.RowKit NP
set_option maxRecDepth 8000
set_option linter.unusedVariables false
set_option linter.unusedSimpArgs false
theorem OwnLL.keep {w w' : World} {lo hi : Nat} {eo e : TypeId} {v : Value} {vs : List Value} {LL : List (List Int)} (h : OwnLL w lo hi eo e v vs LL) (hs : w.heap.size ≤ w'.heap.size) (hk : ∀ g, lo ≤ g → g < hi → w'.heap[g]? = w.heap[g]?) : OwnLL w' lo hi eo e v vs LL :=
  ⟨h.outer.keep hs fun g hg => hk g (h.outer.base g hg) (h.outer.lt g hg), h.len, fun k u L hu hL => (h.inner k u L hu hL).keep hs fun g hg => hk g ((h.inner k u L hu hL).base g hg) ((h.inner k u L hu hL).lt g hg), h.apartO, h.apart⟩
def okQ (L : List Int) : Bool := valid L && decide (L.length ≤ 16) && L.all fun x => decide (1 ≤ x) && decide (x ≤ 16)
def okTab : Bool := (List.range 13).all fun n => (allQ n n n).all okQ
set_option maxRecDepth 100000 in
theorem okTab_all : okTab = true := by decide +kernel
theorem allQ_ok {n : Nat} (hn : n ≤ 12) : ∀ L ∈ allQ n n n, valid L = true ∧ SmallParts L := by
  intro L hL
  have h := okTab_all
  unfold okTab at h
  have h1 := List.all_eq_true.1 h n (by simp; omega)
  have h2 := List.all_eq_true.1 h1 L hL
  unfold okQ at h2
  simp only [Bool.and_eq_true, decide_eq_true_eq, List.all_eq_true] at h2
  exact ⟨h2.1.1, h2.1.2, h2.2⟩

/-- what lies between lo and the end of w2 is the same in w' -/
def Kp (w2 w' : World) (lo : Nat) : Prop := w2.heap.size ≤ w'.heap.size ∧ ∀ g, lo ≤ g → g < w2.heap.size → w'.heap[g]? = w2.heap[g]?
theorem Kp.below {w2 w w' : World} {lo : Nat} (h : Kp w2 w lo) (hb : Below w.heap.size w w') : Kp w2 w' lo :=
  ⟨Nat.le_trans h.1 hb.size, fun g h1 h2 => (hb.block g (Nat.lt_of_lt_of_le h2 h.1)).trans (h.2 g h1 h2)⟩
theorem Kp.alloc {w2 w : World} {lo : Nat} (h : Kp w2 w lo) (o : Obj) : Kp w2 (w.alloc o) lo :=
  h.below ((Below.refl _ _).alloc (Nat.le_refl _) o)
theorem Kp.grown {w2 w w' : World} {lo : Nat} {row : Option Nat} (h : Kp w2 w lo) (hg : w.grownBy w' row) (hr : ∀ g, row = some g → g < lo ∨ w2.heap.size ≤ g) : Kp w2 w' lo :=
  ⟨Nat.le_trans h.1 hg.size, fun g h1 h2 => (hg.block g (Nat.lt_of_lt_of_le h2 h.1) (fun e => by have := hr g e.symm; omega)).trans (h.2 g h1 h2)⟩
end Go.Proofs.Ythafbdpeignccaa
namespace Go.Proofs.Ythafbdpeignccaa
open Go.RowKit NP
set_option maxRecDepth 8000
set_option linter.unusedVariables false
set_option linter.unusedSimpArgs false
/-- parts of the kind of this name -/
def kindF (s : List UInt8) (L : List Int) : Bool := valid L && (match kindOf s with | some K => K L | none => false)
theorem kindF_none {s : List UInt8} (h : kindOf s = none) (L : List Int) : kindF s L = false := by unfold kindF; rw [h]; simp
theorem kindF_some {s : List UInt8} {K : List Int → Bool} (h : kindOf s = some K) (L : List Int) : kindF s L = (valid L && K L) := by unfold kindF; rw [h]

set_option maxRecDepth 4000 in
set_option maxHeartbeats 2000000 in
theorem iIsKind_any (s : ByteArray) (hs : s.size ≤ maxLen) (a : Option Addr) (c B : Nat) (L : List Int) (w : World) (h : Rd w B a (ints L)) (hB : B ≤ w.heap.size) (hl : L.length ≤ 4611686018427387904) :
    Calls Try.prog 23 #[.string s, .slice a L.length c] w fun e w' => e = .returned (.bool (kindF s.data.toList L)) ∧ Below w.heap.size w w' := by
  have hiD : (Try.prog.info? 59).map (·.size) = some (arr (dg L)).size := by rw [arr_size, dg_len]; exact T_info35
  have hsD : (arr (dg L)).size = (arr (List.replicate 16 0)).size := by rw [arr_size, arr_size, dg_len]; rfl
  cases hk : kindOf s.data.toList with
  | none =>
    rw [kindF_none hk]
    cases hv : valid L with
    | false =>
      have HV := Lib.hid hv
      clear hv
      go_enter Try.func23, Try.ntmps23
      go_wp2_with (first
        | (refine wpList_store_row rfl 59 (.tmp 7) (.tmp 18) rfl w2.heap.size rfl (arr (dg L)) rfl 59 (arr (List.replicate 16 0)) (Blk.new w2 _ _) hiD hsD (arr_one _) ?_; have hB3 := (Blk.new w2 59 (arr (List.replicate 16 0))).row (vs := arr (dg L)); have hbel3 : Below w.heap.size w ((w2.alloc (.cells (arr (List.replicate 16 0)) 59)).setRow w2.heap.size (arr (dg L))) := below_setRow' (hbel2.alloc hbel2.size _) hbel2.size _; have hbl3 : Below w1.heap.size w1 ((w2.alloc (.cells (arr (List.replicate 16 0)) 59)).setRow w2.heap.size (arr (dg L))) := below_setRow' (hb2.alloc hb2.size _) hb2.size _; obtain ⟨w3, hw3⟩ : ∃ w3, w3 = (w2.alloc (.cells (#[.int .i64 0, .int .i64 0, .int .i64 0, .int .i64 0, .int .i64 0, .int .i64 0, .int .i64 0, .int .i64 0, .int .i64 0, .int .i64 0, .int .i64 0, .int .i64 0, .int .i64 0, .int .i64 0, .int .i64 0, .int .i64 0]) 59)).setRow w2.heap.size (arr (dg L)) := ⟨_, rfl⟩; rw [← hw3]; replace hB3 : Blk w3 w2.heap.size 59 (arr (dg L)) := hw3 ▸ hB3; replace hbel3 : Below w.heap.size w w3 := hw3 ▸ hbel3; replace hbl3 : Below w1.heap.size w1 w3 := hw3 ▸ hbl3; clear hw3)
        | (go_at_call 64; refine (diagramOf_any _ _ B L _ (h.below (hb1.mono hB)) (Nat.le_trans hB hb1.size) hl).mono ?_; rintro e w2 ⟨rfl, hb2⟩; rw [HV.out]; have hbel2 := hb1.trans (hb2.mono hb1.size))
        | (go_at_call 63; refine (kindsByName_any _).mono ?_; rintro e w1 ⟨b, n, f, rfl, km, kt, hb1⟩; have kt0 := kt s.data.toList; rw [hk] at kt0; have hlk := km.look_no s hs kt0))
      go_ret
      exact ⟨rfl, hbel3⟩
    | true =>
      have HV := Lib.hid hv
      have hl16 := (valid_bd hv).2.2.2
      rw [dg_yes hv] at hsD hiD
      have HDG := Lib.hid (dg_yes hv)
      clear hv
      go_enter Try.func23, Try.ntmps23
      go_wp2_with (first
        | (refine wpList_store_row rfl 59 (.tmp 7) (.tmp 18) rfl w2.heap.size rfl (arr (pad L)) rfl 59 (arr (List.replicate 16 0)) (Blk.new w2 _ _) hiD hsD (arr_one _) ?_; have hB3 := (Blk.new w2 59 (arr (List.replicate 16 0))).row (vs := arr (pad L)); have hbel3 : Below w.heap.size w ((w2.alloc (.cells (arr (List.replicate 16 0)) 59)).setRow w2.heap.size (arr (pad L))) := below_setRow' (hbel2.alloc hbel2.size _) hbel2.size _; have hbl3 : Below w1.heap.size w1 ((w2.alloc (.cells (arr (List.replicate 16 0)) 59)).setRow w2.heap.size (arr (pad L))) := below_setRow' (hb2.alloc hb2.size _) hb2.size _; obtain ⟨w3, hw3⟩ : ∃ w3, w3 = (w2.alloc (.cells (#[.int .i64 0, .int .i64 0, .int .i64 0, .int .i64 0, .int .i64 0, .int .i64 0, .int .i64 0, .int .i64 0, .int .i64 0, .int .i64 0, .int .i64 0, .int .i64 0, .int .i64 0, .int .i64 0, .int .i64 0, .int .i64 0]) 59)).setRow w2.heap.size (arr (pad L)) := ⟨_, rfl⟩; rw [← hw3]; replace hB3 : Blk w3 w2.heap.size 59 (arr (pad L)) := hw3 ▸ hB3; replace hbel3 : Below w.heap.size w w3 := hw3 ▸ hbel3; replace hbl3 : Below w1.heap.size w1 w3 := hw3 ▸ hbl3; clear hw3)
        | (go_at_call 64; refine (diagramOf_any _ _ B L _ (h.below (hb1.mono hB)) (Nat.le_trans hB hb1.size) hl).mono ?_; rintro e w2 ⟨rfl, hb2⟩; rw [HV.out, HDG.out]; have hbel2 := hb1.trans (hb2.mono hb1.size))
        | (go_at_call 63; refine (kindsByName_any _).mono ?_; rintro e w1 ⟨b, n, f, rfl, km, kt, hb1⟩; have kt0 := kt s.data.toList; rw [hk] at kt0; have hlk := km.look_no s hs kt0))
      go_ret
      exact ⟨rfl, hbel3⟩
  | some K =>
    rw [kindF_some hk]
    cases hv : valid L with
    | false =>
      have HV := Lib.hid hv
      clear hv
      go_enter Try.func23, Try.ntmps23
      go_wp2_with (first
        | (refine wpList_store_row rfl 59 (.tmp 7) (.tmp 18) rfl w2.heap.size rfl (arr (dg L)) rfl 59 (arr (List.replicate 16 0)) (Blk.new w2 _ _) hiD hsD (arr_one _) ?_; have hB3 := (Blk.new w2 59 (arr (List.replicate 16 0))).row (vs := arr (dg L)); have hbel3 : Below w.heap.size w ((w2.alloc (.cells (arr (List.replicate 16 0)) 59)).setRow w2.heap.size (arr (dg L))) := below_setRow' (hbel2.alloc hbel2.size _) hbel2.size _; have hbl3 : Below w1.heap.size w1 ((w2.alloc (.cells (arr (List.replicate 16 0)) 59)).setRow w2.heap.size (arr (dg L))) := below_setRow' (hb2.alloc hb2.size _) hb2.size _; obtain ⟨w3, hw3⟩ : ∃ w3, w3 = (w2.alloc (.cells (#[.int .i64 0, .int .i64 0, .int .i64 0, .int .i64 0, .int .i64 0, .int .i64 0, .int .i64 0, .int .i64 0, .int .i64 0, .int .i64 0, .int .i64 0, .int .i64 0, .int .i64 0, .int .i64 0, .int .i64 0, .int .i64 0]) 59)).setRow w2.heap.size (arr (dg L)) := ⟨_, rfl⟩; rw [← hw3]; replace hB3 : Blk w3 w2.heap.size 59 (arr (dg L)) := hw3 ▸ hB3; replace hbel3 : Below w.heap.size w w3 := hw3 ▸ hbel3; replace hbl3 : Below w1.heap.size w1 w3 := hw3 ▸ hbl3; clear hw3)
        | (go_at_call 64; refine (diagramOf_any _ _ B L _ (h.below (hb1.mono hB)) (Nat.le_trans hB hb1.size) hl).mono ?_; rintro e w2 ⟨rfl, hb2⟩; rw [HV.out]; have hbel2 := hb1.trans (hb2.mono hb1.size))
        | (go_at_call 63; refine (kindsByName_any _).mono ?_; rintro e w1 ⟨b, n, f, rfl, km, kt, hb1⟩; have kt0 := kt s.data.toList; rw [hk] at kt0; obtain ⟨v, hfv, hik⟩ := kt0; obtain ⟨f1, p1, c1, rfl, he1, hK1⟩ := hik.isK; have hlk := km.look_ok s hs hfv))
      go_ret
      exact ⟨rfl, hbel3⟩
    | true =>
      have HV := Lib.hid hv
      have hl16 := (valid_bd hv).2.2.2
      have hiL : (Try.prog.info? 59).map (·.size) = some (arr (pad L)).size := by rw [arr_size, pad_len hl16]; exact T_info35
      rw [dg_yes hv] at hsD hiD
      have HDG := Lib.hid (dg_yes hv)
      clear hv
      go_enter Try.func23, Try.ntmps23
      go_wp2_with (first
        | (refine wpList_store_row rfl 59 (.tmp 7) (.tmp 18) rfl w2.heap.size rfl (arr (pad L)) rfl 59 (arr (List.replicate 16 0)) (Blk.new w2 _ _) hiD hsD (arr_one _) ?_; have hB3 := (Blk.new w2 59 (arr (List.replicate 16 0))).row (vs := arr (pad L)); have hbel3 : Below w.heap.size w ((w2.alloc (.cells (arr (List.replicate 16 0)) 59)).setRow w2.heap.size (arr (pad L))) := below_setRow' (hbel2.alloc hbel2.size _) hbel2.size _; have hbl3 : Below w1.heap.size w1 ((w2.alloc (.cells (arr (List.replicate 16 0)) 59)).setRow w2.heap.size (arr (pad L))) := below_setRow' (hb2.alloc hb2.size _) hb2.size _; obtain ⟨w3, hw3⟩ : ∃ w3, w3 = (w2.alloc (.cells (#[.int .i64 0, .int .i64 0, .int .i64 0, .int .i64 0, .int .i64 0, .int .i64 0, .int .i64 0, .int .i64 0, .int .i64 0, .int .i64 0, .int .i64 0, .int .i64 0, .int .i64 0, .int .i64 0, .int .i64 0, .int .i64 0]) 59)).setRow w2.heap.size (arr (pad L)) := ⟨_, rfl⟩; rw [← hw3]; replace hB3 : Blk w3 w2.heap.size 59 (arr (pad L)) := hw3 ▸ hB3; replace hbel3 : Below w.heap.size w w3 := hw3 ▸ hbel3; replace hbl3 : Below w1.heap.size w1 w3 := hw3 ▸ hbl3; clear hw3)
        | (go_at_call 64; refine (diagramOf_any _ _ B L _ (h.below (hb1.mono hB)) (Nat.le_trans hB hb1.size) hl).mono ?_; rintro e w2 ⟨rfl, hb2⟩; rw [HV.out, HDG.out]; have hbel2 := hb1.trans (hb2.mono hb1.size))
        | (refine wpList_load_row_g rfl 59 (.tmp 7) rfl w2.heap.size rfl 59 (arr (pad L)) (0, 0) _ hB3 Try.underlying59 rfl hiL ?_)
        | (refine (hK1 _ hbl3 L HV.out).mono ?_; rintro e w4 ⟨rfl, hb4⟩)
        | (go_at_call 63; refine (kindsByName_any _).mono ?_; rintro e w1 ⟨b, n, f, rfl, km, kt, hb1⟩; have kt0 := kt s.data.toList; rw [hk] at kt0; obtain ⟨v, hfv, hik⟩ := kt0; obtain ⟨f1, p1, c1, rfl, he1, hK1⟩ := hik.isK; have hlk := km.look_ok s hs hfv))
      go_ret
      exact ⟨by simp, hbel3.trans (hb4.mono hbel3.size)⟩
end Go.Proofs.Ythafbdpeignccaa
namespace Go.Proofs.Ythafbdpeignccaa
open Go.RowKit NP
set_option maxRecDepth 8000
set_option linter.unusedVariables false

theorem stimes_any (a : Option Addr) (c B : Nat) (L : List Int) (w : World) (h : Rd w B a (ints L)) (hB : B ≤ w.heap.size) (hv : valid L = true) :
    Calls Try.prog 105 #[.slice a L.length c] w fun e w' => ∃ a' c', e = .returned (.slice a' (tim L).length c') ∧ Own w' w.heap.size w'.heap.size 3 (.slice a' (tim L).length c') (ints (tim L)) ∧ Below w.heap.size w w' := by
  have hbd := valid_bd hv
  have hhd := headD_bd hv
  obtain ⟨i0, hi, hz0, hz1, hz2⟩ := T_int'
  have HV := Lib.hid hv
  clear hv
  generalize hH : (L.headD 0).toNat = H
  have hHc : (H : Int) = L.headD 0 := by omega
  have hH16 : H ≤ 16 := by omega
  have HH := Lib.hid hH
  clear hH
  have H0 : Hid (∀ h0 : 0 < L.length, L[0] = (H : Int)) := Lib.hid fun h0 => by rw [hHc]; cases L <;> simp at h0 ⊢
  have H1 : Hid (¬ 0 < L.length → H = 0) := Lib.hid fun h0 => by cases L <;> simp at h0 hHc ⊢; omega
  clear hHc hhd
  have HE : Hid (tim L = (List.range H).map fun (j : Nat) => eqc ((j : Int) + 1) L) := Lib.hid (by unfold tim; rw [HH.out])
  go_enter Try.func105, Try.ntmps105
  go_wp2
  go_loopw [3, 4] (fun v i wr => ∃ k : Nat, k ≤ H ∧ i = .int .i64 ((k : Int) + 1) ∧ Below w.heap.size w wr ∧ Own wr w.heap.size wr.heap.size 3 v (ints ((List.range k).map fun (j : Nat) => eqc ((j : Int) + 1) L))) (fun _ i _ => 20 - (intOf i).toNat)
  case atStart => exact ⟨0, Nat.zero_le _, rfl, (Below.refl _ _).alloc (Nat.le_refl _) _, (Own.empty w 3).more⟩
  case round =>
    obtain ⟨k, hk, rfl, hbel, hown⟩ := hrel
    by_cases h0 : 0 < L.length
    · have hR := (h.more hB).below hbel
      obtain ⟨b, o, rfl, _, hc0⟩ := hR.at_ h0
      have hc0' : wr.cell? ⟨b, o, none⟩ = some (.int .i64 H) := by rw [← H0.out h0]; exact hc0
      have h0' : (0 : Int) < (L.length : Int) := by omega
      clear hc0
      by_cases hlt : k < H
      · have hlt' : (k : Int) + 1 ≤ (H : Int) := by omega
        have HO := Lib.hid hown
        clear hown
        go_wp2
        go_loop [5, 6] (fun n i => ∃ j : Nat, j ≤ L.length ∧ i = .int .i64 j ∧ n = .int .i64 (eqc ((k : Int) + 1) (L.take j))) (fun _ i => L.length - (intOf i).toNat)
        case atStart => exact ⟨0, Nat.zero_le _, rfl, rfl⟩
        case round =>
          obtain ⟨j, hj, rfl, rfl⟩ := hrel
          have hbj := eqc_bd ((k : Int) + 1) (L.take j)
          have hbl : (L.take j).length ≤ 16 := by simp; omega
          by_cases hltj : j < L.length
          · obtain ⟨b2, o2, e2, _, hcj⟩ := hR.at_ hltj
            injection e2 with e2; injection e2 with e2 e3; subst e2 e3
            have HS := Lib.hid (eqc_take_succ ((k : Int) + 1) L j hltj)
            by_cases hx : L[j] = (k : Int) + 1
            · have hxb : (L[j] == (k : Int) + 1) = true := beq_iff_eq.2 hx
              have HX := Lib.hid hx
              clear hx
              go_wp2
              go_round
              case rel => exact ⟨j + 1, by omega, by go_num, by rw [HS.out, if_pos HX.out]⟩
              case measure => simp [intOf]; omega
            · have hxb : (L[j] == (k : Int) + 1) = false := beq_eq_false_iff_ne.2 hx
              have HX := Lib.hid hx
              clear hx
              go_wp2
              go_round
              case rel => exact ⟨j + 1, by omega, by go_num, by rw [HS.out, if_neg HX.out]; simp⟩
              case measure => simp [intOf]; omega
          · obtain rfl : j = L.length := by omega
            have ht : L.take L.length = L := List.take_of_length_le (Nat.le_refl _)
            rw [ht]
            have hlen2 : (ints ((List.range k).map fun (j : Nat) => eqc ((j : Int) + 1) L)).length = k := by simp
            obtain ⟨vs, hvs⟩ : ∃ vs, vs = ints ((List.range k).map fun (j : Nat) => eqc ((j : Int) + 1) L) := ⟨_, rfl⟩
            have hown := HO.out
            rw [← hvs] at hown hlen2
            have HVS := Lib.hid hvs
            clear hvs
            go_wp2_with (at_builtin; refine wpList_append_o _ rfl (.tmp 34) (.tmp 36) 22 rfl w.heap.size wr.heap.size 3 i0 (.int .i64 0) 8 Try.underlying22 hi hz0 hz1 hz2 rfl _ vs rfl (hown.alloc _) (wr.heap.size + 1) (some ⟨wr.heap.size, 0, none⟩) 1 1 [.int .i64 (eqc ((k : Int) + 1) L)] rfl (Rd.one wr _ _) rfl (by simp; rfl) (by rw [hlen2]; unfold maxLen; omega) (by rw [hlen2]; omega) (by have := hbel.size; simp; omega) ?_; intro v' w1 ho1 hg1 hat1)
            go_roundw
            case rel =>
              refine ⟨k + 1, by omega, by go_num, below_push hbel (Nat.le_refl _) hg1 hown.base, ?_⟩
              rw [HVS.out] at ho1
              simpa [ints, List.range_succ] using ho1
            case measure => simp [intOf]; omega
      · obtain rfl : k = H := by omega
        have HO := Lib.hid hown
        clear hown
        obtain ⟨a', c', rfl⟩ := HO.out.form
        have hlt' : (k : Int) < (k : Int) + 1 := by omega
        go_wp2
        go_ret
        have hl1 : (tim L).length = (ints ((List.range k).map fun (j : Nat) => eqc ((j : Int) + 1) L)).length := by rw [HE.out]; simp
        refine ⟨a', c', by rw [hl1]; rfl, ?_, hbel⟩
        rw [hl1, HE.out]
        exact HO.out
    · have hk0 := H1.out h0
      obtain rfl : k = H := by omega
      have h0' : decide (0 < L.length) = false := decide_eq_false h0
      have h0'' : (L.length : Int) ≤ 0 := by omega
      have HO := Lib.hid hown
      clear hown hk0
      obtain ⟨a', c', rfl⟩ := HO.out.form
      go_wp2
      go_ret
      have hl1 : (tim L).length = (ints ((List.range k).map fun (j : Nat) => eqc ((j : Int) + 1) L)).length := by rw [HE.out]; simp
      refine ⟨a', c', by rw [hl1]; rfl, ?_, hbel⟩
      rw [hl1, HE.out]
      exact HO.out



theorem pad_head {L : List Int} (h : valid L = true) : (pad L)[0]'(by rw [pad_len (valid_bd h).2.2.2]; omega) = (((L.headD 0).toNat : Nat) : Int) := by
  have hd := headD_bd h
  rcases Nat.eq_zero_or_pos L.length with h0 | h0
  · obtain rfl := List.eq_nil_of_length_eq_zero h0
    rfl
  · rw [pad_get (valid_bd h).2.2.2 h0, ← headD_get L h0]
    omega

end Go.Proofs.Ythafbdpeignccaa
namespace Go.Proofs.Ythafbdpeignccaa
open Go.RowKit NP
set_option maxRecDepth 8000
set_option linter.unusedVariables false
set_option linter.unusedSimpArgs false
def fewB (m : Int) (M : List Int) : Bool := allTo (fun j => decide (M.getD j 0 < m)) M.length
def fewTab (N : List Nat) : Bool :=
  let L := N.map Int.ofNat
  (List.range 17).all fun m => decide (m < 2) || decide (fewB (m : Int) (tim L) = kNone m L)
set_option maxRecDepth 100000 in
theorem fewTab_all : all16.all fewTab = true := by decide +kernel
theorem few_none {L : List Int} (hv : valid L = true) {m : Nat} (h1 : 2 ≤ m) (h2 : m ≤ 16) : fewB (m : Int) (tim L) = kNone m L := by
  obtain ⟨N, hN, rfl⟩ := of_all fewTab_all hv
  have := List.all_eq_true.1 hN m (by simp; omega)
  simp only [Bool.or_eq_true, decide_eq_true_eq] at this
  exact this.resolve_left (by omega)
theorem fewer_any (a : Option Addr) (c B : Nat) (L : List Int) (m : Int) (hm : 0 ≤ m ∧ m ≤ 100) (hv : valid L = true) (w : World) (h : Rd w B a (ints L)) (hB : B ≤ w.heap.size) :
    Calls Try.prog 65 #[.slice a L.length c, .int .i64 m] w fun e w' => e = .returned (.bool (fewB m (tim L))) ∧ Below w.heap.size w w' := by
  have HV := Lib.hid hv
  have htl : (tim L).length ≤ 16 := by have := timF_len L; rwa [timF_yes hv] at this
  clear hv
  go_enter Try.func65, Try.ntmps65
  go_wp2_with (go_at_call 105; refine (stimes_any _ _ B L _ h hB HV.out).mono ?_; rintro e w1 ⟨a', c', rfl, ho, hb⟩)
  obtain ⟨M, hM⟩ : ∃ M, M = tim L := ⟨_, rfl⟩
  rw [← hM] at ho htl ⊢
  have hrd := ho.rd
  have HM := Lib.hid hM
  clear hM ho
  go_loopw [6] (fun vi wr => ∃ k : Nat, k ≤ M.length ∧ vi = .int .i64 (k : Int) ∧ wr = w1 ∧ Hid (∀ j, j < k → (fun j => decide (M.getD j 0 < m)) j = true)) (fun vi _ => 20 - (intOf vi).toNat)
  case atStart => exact ⟨0, Nat.zero_le _, rfl, rfl, Lib.hid fun j hj => by omega⟩
  case round =>
    obtain ⟨k, hk, rfl, rfl, HJ⟩ := hrel
    by_cases hlt : k < M.length
    · have hlt' : (k : Int) < (M.length : Int) := by omega
      obtain ⟨b1, o1, rfl, _, hc⟩ := hrd.at_ hlt
      have HG := Lib.hid (getD_lt hlt)
      generalize M[k] = x at hc HG
      by_cases hx : m ≤ x
      · have HF : Hid (fewB m M = false) := Lib.hid (allTo_no hlt (by rw [HG.out]; exact decide_eq_false (by omega)))
        go_wp2
        go_ret
        exact ⟨ret_bool (by rw [← HM.out, HF.out]), hb⟩
      · have HX : Hid (x < m) := Lib.hid (by omega)
        go_wp2
        go_roundw
        case rel => exact ⟨k + 1, by omega, by go_num, (by first | rfl | trivial), Lib.hid (upto HJ.out (by show decide _ = true; rw [HG.out]; exact decide_eq_true HX.out))⟩
        case measure => simp [intOf]; omega
    · obtain rfl : k = M.length := by omega
      have HF : Hid (fewB m M = true) := Lib.hid (allTo_yes HJ.out)
      clear hlt
      go_wp2
      go_ret
      exact ⟨ret_bool (by rw [← HM.out, HF.out]), hb⟩
end Go.Proofs.Ythafbdpeignccaa
namespace Go.Proofs.Ythafbdpeignccaa
open Go.RowKit NP
set_option maxRecDepth 8000
set_option linter.unusedVariables false
set_option linter.unusedSimpArgs false
set_option maxHeartbeats 1000000 in
theorem sSplitEqual_any (a : Option Addr) (c B : Nat) (P : List Int) (m : Int) (w : World) (h : Rd w B a (ints P)) (hB : B ≤ w.heap.size) (hl : P.length ≤ 4611686018427387904) :
    Calls Try.prog 24 #[.slice a P.length c, .int .i64 m] w fun e w' => ∃ a' c', e = .returned (.tuple #[.slice a' (mpF (kSp m) (soF m.toNat) P).length c', .bool (mpOk (kSp m) P)]) ∧ Own w' w.heap.size w'.heap.size 3 (.slice a' (mpF (kSp m) (soF m.toNat) P).length c') (ints (mpF (kSp m) (soF m.toNat) P)) ∧ Below w.heap.size w w' := by
  have no : mpOk (kSp m) P = false → mpF (kSp m) (soF m.toNat) P = [] := fun h => by unfold mpF; rw [h]; rfl
  have yes : mpOk (kSp m) P = true → mpF (kSp m) (soF m.toNat) P = soF m.toNat P := fun h => by unfold mpF; rw [h]; rfl
  cases hv : valid P with
  | false =>
    have hk : mpOk (kSp m) P = false := by unfold mpOk; rw [hv]; rfl
    rw [no hk, hk]
    have HV := Lib.hid hv
    clear hv hk no yes
    go_enter Try.func24, Try.ntmps24
    go_wp2_with fail
    refine (validParts_any _ _ _ P _ h (by omega)).mono ?_
    rintro e w1 ⟨rfl, hd1⟩
    rw [HV.out]
    go_wp2_with fail
    go_ret2
    exact ⟨none, 0, rfl, Own.nil _ _ _, Dr.below hd1 _⟩
  | true =>
    have HV := Lib.hid hv
    have hl16 := (valid_bd hv).2.2.2
    have HXB : Hid (∀ i (h : i < P.length), 1 ≤ P[i] ∧ P[i] ≤ 16) := Lib.hid (fun i h => by
      have h3 := pad_nonneg hv i (by rw [pad_len hl16]; omega)
      rw [pad_get hl16 h] at h3
      have h4 := preS_of_valid hv i h h
      omega)
    by_cases hm : 2 ≤ m ∧ m ≤ 16
    · obtain ⟨n, rfl⟩ := Int.eq_ofNat_of_zero_le (show 0 ≤ m by omega)
      have hn : 2 ≤ n ∧ n ≤ 16 := by omega
      have hk : mpOk (kSp (n : Int)) P = kNone n P := by unfold mpOk kSp inLim; rw [hv]; simp [hm.1, hm.2]
      rw [Int.toNat_natCast] at no yes ⊢
      obtain ⟨t, ht⟩ : ∃ t, kNone n P = t := ⟨_, rfl⟩
      rw [ht] at hk
      have HT := Lib.hid ht
      clear hv ht
      cases t with
      | false =>
        rw [no hk, hk]
        clear no yes hk
        go_enter Try.func24, Try.ntmps24
        go_wp2_with fail
        refine (validParts_any _ _ _ P _ h (by omega)).mono ?_
        rintro e w1 ⟨rfl, hd1⟩
        rw [HV.out]
        have h1 := h.dr hd1
        have hb1 : Below w.heap.size w w1 := Dr.below hd1 _
        have hz1 := hb1.size
        go_wp2_with fail
        refine (inRange_yes (n : Int) 2 16 _ hm.1 hm.2).mono ?_
        rintro e w2 ⟨rfl, rfl⟩
        go_wp2_with fail
        refine (fewer_any _ _ _ P (n : Int) (by omega) HV.out _ h1 (by omega)).mono ?_
        rintro e w3 ⟨rfl, hb3⟩
        rw [few_none HV.out hn.1 hn.2, HT.out]
        have hbT := hb1.trans (hb3.mono hz1)
        have hT := h1.below (hb3.mono (by omega))
        go_wp2_with fail
        go_ret2
        exact ⟨none, 0, rfl, Own.nil _ _ _, hbT⟩
      | true =>
        rw [yes hk, hk]
        clear no yes hk
        go_enter Try.func24, Try.ntmps24
        go_wp2_with fail
        refine (validParts_any _ _ _ P _ h (by omega)).mono ?_
        rintro e w1 ⟨rfl, hd1⟩
        rw [HV.out]
        have h1 := h.dr hd1
        have hb1 : Below w.heap.size w w1 := Dr.below hd1 _
        have hz1 := hb1.size
        go_wp2_with fail
        refine (inRange_yes (n : Int) 2 16 _ hm.1 hm.2).mono ?_
        rintro e w2 ⟨rfl, rfl⟩
        go_wp2_with fail
        refine (fewer_any _ _ _ P (n : Int) (by omega) HV.out _ h1 (by omega)).mono ?_
        rintro e w3 ⟨rfl, hb3⟩
        rw [few_none HV.out hn.1 hn.2, HT.out]
        have hbT := hb1.trans (hb3.mono hz1)
        have hT := h1.below (hb3.mono (by omega))
        have hzT := hbT.size
        go_wp2_with fail
        refine (splitOff_any n hn _ _ _ P _ hT (by omega) HXB.out (by omega)).mono ?_
        rintro e w6 ⟨a6, c6, rfl, ho6, hb6⟩
        go_wp2_with fail
        go_ret2
        exact ⟨a6, c6, rfl, ho6.lower hzT, hbT.trans (hb6.mono hzT)⟩
    · have hk : mpOk (kSp m) P = false := by
        unfold mpOk kSp inLim
        have : (decide (2 ≤ m) && decide (m ≤ 16)) = false := by
          rw [Bool.eq_false_iff]; intro e; simp at e; exact hm e
        rw [this]; simp
      rw [no hk, hk]
      clear no yes hk hv
      go_enter Try.func24, Try.ntmps24
      go_wp2_with fail
      refine (validParts_any _ _ _ P _ h (by omega)).mono ?_
      rintro e w1 ⟨rfl, hd1⟩
      rw [HV.out]
      go_wp2_with fail
      refine (inRange_no m 2 16 _ (by omega)).mono ?_
      rintro e w2 ⟨rfl, rfl⟩
      go_wp2_with fail
      go_ret2
      exact ⟨none, 0, rfl, Own.nil _ _ _, Dr.below hd1 _⟩
end Go.Proofs.Ythafbdpeignccaa
