/-
  Walks: corners of the model and of the program. A row loaded under a guard that holds. Walks: cells taken away and put, of the model and of the program. Walks of the model: kinds of parts; stairs. Walks: the model's kind at three names, its list of the parts of a kind. Plain mathematics: what is right below parts and right above them, for all parts of a sum up to 12; the order of places. Walks of the model: two lists the same. Walks: inRange, countTo of the model; withMany, countsUpTo of the program.
-/
import Derived.Test.YtmnlmahjgmhdiaaZcov1
import Derived.Test.YtmnlmahjgmhdiaaZcov2
import Derived.Test.YtmnlmahjgmhdiaaZcov3
import Derived.Test.YtmnlmahjgmhdiaaZcov4
import Derived.Test.YtmnlmahjgmhdiaaZcov5
import Derived.Deep.QuietTactic
import Derived.BigQuiet
import Derived.Test.YtmnlmahjgmhdiaaProg
import Derived.StillTailTactics
import Derived.IntWalk
import Derived.Lib.Hide
import Derived.Shelf.Abstract
namespace Go.Proofs.Ytmnlmahjgmhdiaa
open Go.RowKit NP
set_option maxRecDepth 8000
set_option linter.unusedVariables false

theorem scorners_any (a : Option Addr) (c B : Nat) (L : List Int) (w : World) (h : Rd w B a (ints L)) (hB : B ≤ w.heap.size) (hl : L.length ≤ 1000) :
    Calls Try.prog 71 #[.slice a L.length c] w fun e w' => ∃ a' c', e = .returned (.slice a' (crn L).length c') ∧ Own w' w.heap.size w'.heap.size 3 (.slice a' (crn L).length c') (ints (crn L)) ∧ Below w.heap.size w w' := by
  obtain ⟨i0, hi, hz0, hz1, hz2⟩ := T_int'
  go_enter Try.func71, Try.ntmps71
  go_wp2_with fail
  go_loopw [3, 4] (fun v i wr => ∃ k : Nat, k ≤ L.length ∧ i = .int .i64 (k : Int) ∧ Below w.heap.size w wr ∧ Own wr w.heap.size wr.heap.size 3 v (ints (crnTo L k))) (fun _ i _ => L.length - (intOf i).toNat)
  case atStart => exact ⟨0, Nat.zero_le _, rfl, (Below.refl _ _).alloc (Nat.le_refl _) _, (Own.empty w 3).more⟩
  case round =>
    obtain ⟨k, hk, rfl, hbel, hown⟩ := hrel
    by_cases hlt : k < L.length
    · have hR := (h.more hB).below hbel
      obtain ⟨b, o, rfl, _, hc0⟩ := hR.at_ hlt
      have hlen2 : (crnTo L k).length ≤ k := crnTo_len L k
      have HS := Lib.hid (crnTo_succ L k)
      obtain ⟨vs, hvs⟩ : ∃ vs, vs = ints (crnTo L k) := ⟨_, rfl⟩
      have hlv : vs.length ≤ k := by rw [hvs]; simpa using hlen2
      rw [← hvs] at hown
      have HVS := Lib.hid hvs
      clear hvs hlen2
      have HO := Lib.hid hown
      clear hown
      by_cases h1 : k + 1 = L.length
      · have h1' : (k : Int) + 1 = (L.length : Int) := by omega
        have e1 : ((k : Int) + 1 == (L.length : Int)) = true := beq_iff_eq.2 h1'
        have HC : Hid (isC L k = true) := Lib.hid (by unfold isC; rw [decide_eq_true h1, Bool.true_or])
        clear h1 h1'
        go_wp2_with fail
        go_quiet (fail)
        go_wp2_with (at_builtin; go_loud (refine wpList_append_o _ rfl (.tmp 29) (.tmp 31) 22 rfl w.heap.size wr.heap.size 3 i0 (.int .i64 0) 8 Try.underlying22 hi hz0 hz1 hz2 rfl _ vs rfl ((HO.out.drewN _).alloc _) (wr.heap.size + 1) (some ⟨wr.heap.size, 0, none⟩) 1 1 [.int .i64 (k : Int)] rfl (Rd.one _ _ _) rfl (by simp; rfl) (by unfold maxLen; omega) (by omega) (by have := hbel.size; simp; omega) ?_); intro v' w1 ho1 hg1 hat1)
        go_roundw
        case rel =>
          refine ⟨k + 1, by omega, by go_num, below_push (hbel.trans ((Dr.n wr _).below _)) (Nat.le_refl _) hg1 HO.out.base, ?_⟩
          rw [HVS.out] at ho1
          rw [HS.out, if_pos HC.out]
          simpa [ints] using ho1
        case measure => simp [intOf]; omega
      · have hk1 : k + 1 < L.length := by omega
        have e1 : ((k : Int) + 1 == (L.length : Int)) = false := beq_eq_false_iff_ne.2 (by omega)
        obtain ⟨b', o', e', -, hc1⟩ := hR.at_ hk1
        injection e' with e'; injection e' with e2 e3; subst e2 e3
        by_cases hx : L[k + 1] < L[k]
        · have HC : Hid (isC L k = true) := Lib.hid (by unfold isC; rw [List.getD_eq_getElem?_getD, List.getD_eq_getElem?_getD, List.getElem?_eq_getElem hk1, List.getElem?_eq_getElem hlt, Option.getD_some, Option.getD_some, decide_eq_true hx, Bool.or_true])
          clear h1
          go_wp2_with fail
          go_quiet (fail)
          go_wp2_with (at_builtin; go_loud (refine wpList_append_o _ rfl (.tmp 29) (.tmp 31) 22 rfl w.heap.size wr.heap.size 3 i0 (.int .i64 0) 8 Try.underlying22 hi hz0 hz1 hz2 rfl _ vs rfl ((HO.out.drewN _).alloc _) (wr.heap.size + 1) (some ⟨wr.heap.size, 0, none⟩) 1 1 [.int .i64 (k : Int)] rfl (Rd.one _ _ _) rfl (by simp; rfl) (by unfold maxLen; omega) (by omega) (by have := hbel.size; simp; omega) ?_); intro v' w1 ho1 hg1 hat1)
          go_roundw
          case rel =>
            refine ⟨k + 1, by omega, by go_num, below_push (hbel.trans ((Dr.n wr _).below _)) (Nat.le_refl _) hg1 HO.out.base, ?_⟩
            rw [HVS.out] at ho1
            rw [HS.out, if_pos HC.out]
            simpa [ints] using ho1
          case measure => simp [intOf]; omega
        · have HC : Hid (isC L k = false) := Lib.hid (by unfold isC; rw [List.getD_eq_getElem?_getD, List.getD_eq_getElem?_getD, List.getElem?_eq_getElem hk1, List.getElem?_eq_getElem hlt, Option.getD_some, Option.getD_some, decide_eq_false hx, decide_eq_false h1]; rfl)
          clear h1
          have hx' : L[k] ≤ L[k + 1] := by omega
          clear hx
          go_wp2_with fail
          go_quiet (fail)
          go_wp2
          go_roundw
          case rel =>
            refine ⟨k + 1, by omega, by go_num, hbel.trans ((Dr.n wr _).below _), ?_⟩
            rw [HS.out, if_neg (by rw [HC.out]; decide), List.append_nil, ← HVS.out]
            exact HO.out.drewN _
          case measure => simp [intOf]; omega
    · obtain rfl : k = L.length := by omega
      obtain ⟨a', c', rfl⟩ := hown.form
      have HO := Lib.hid hown
      clear hown
      go_wp2
      go_ret
      have hlc : (crn L).length = (ints (crnTo L L.length)).length := by simp [crn]
      refine ⟨a', c', by rw [hlc]; rfl, ?_, hbel⟩
      rw [hlc]
      exact HO.out


theorem isCorner_any (D : List Int) (hD : D.length = 16) (i : Nat) (hi : i < 16) (w : World) :
    Calls Try.prog 56 #[.agg (arr D), .int .i64 i] w fun e w' => e = .returned (.bool (isCD D i)) ∧ Below w.heap.size w w' := by
  have hiD : i < D.length := by omega
  have hc := box_cell w D i hiD
  have hi' : (i : Int) < 16 := by omega
  have g0 : D.getD i 0 = D[i] := by rw [List.getD_eq_getElem?_getD, List.getElem?_eq_getElem hiD, Option.getD_some]
  by_cases h0 : 0 < D[i]
  · by_cases h15 : i = 15
    · have e1 : ((i : Int) == 15) = true := beq_iff_eq.2 (by omega)
      have HC : Hid (isCD D i = true) := Lib.hid (by unfold isCD; rw [g0, decide_eq_true h0, decide_eq_true h15]; rfl)
      clear h15 g0
      go_enter Try.func56, Try.ntmps56
      go_wp2_with fail
      go_quiet (fail)
      go_wp2
      go_ret
      exact ⟨ret_bool HC.out.symm, ((Below.refl _ _).alloc (Nat.le_refl _) _).trans ((Dr.n _ _).below _)⟩
    · have e1 : ((i : Int) == 15) = false := beq_eq_false_iff_ne.2 (by omega)
      have hi1 : i + 1 < D.length := by omega
      have hc1 := box_cell w D (i + 1) hi1
      have HC : Hid (isCD D i = decide (D[i + 1] < D[i])) := Lib.hid (by unfold isCD; rw [g0, List.getD_eq_getElem?_getD, List.getElem?_eq_getElem hi1, Option.getD_some, decide_eq_true h0, decide_eq_false h15]; rfl)
      clear h15 g0
      go_enter Try.func56, Try.ntmps56
      go_wp2_with fail
      go_quiet (fail)
      go_wp2
      go_ret
      exact ⟨ret_bool HC.out.symm, ((Below.refl _ _).alloc (Nat.le_refl _) _).trans ((Dr.n _ _).below _)⟩
  · have HC : Hid (isCD D i = false) := Lib.hid (by unfold isCD; rw [g0, decide_eq_false h0]; rfl)
    clear g0
    have h0' : decide (0 < D[i]) = false := decide_eq_false h0
    clear h0
    go_enter Try.func56, Try.ntmps56
    go_wp2_with fail
    go_quiet (fail)
    go_wp2
    go_ret
    exact ⟨ret_bool HC.out.symm, ((Below.refl _ _).alloc (Nat.le_refl _) _).trans ((Dr.n _ _).below _)⟩

theorem dcorners_any (D : List Int) (hD : D.length = 16) (w : World) :
    Calls Try.prog 55 #[.agg (arr D)] w fun e w' => ∃ a' c', e = .returned (.slice a' (fl (isCD D) 16).length c') ∧ Own w' w.heap.size w'.heap.size 3 (.slice a' (fl (isCD D) 16).length c') (ints (fl (isCD D) 16)) ∧ Below w.heap.size w w' := by
  obtain ⟨i0, hi, hz0, hz1, hz2⟩ := T_int'
  have HD := Lib.hid hD
  have hd16 : 16 ≤ D.length := by omega
  have hi16 : (Try.prog.info? 41).map (·.size) = some (arr D).size := by rw [arr_size, hD]; exact T_info35
  clear hD
  go_enter Try.func55, Try.ntmps55
  go_wp2
  go_loopw [3, 4, 5] (fun v u i wr => ∃ k : Nat, k ≤ 16 ∧ i = .int .i64 (k : Int) ∧ Below w.heap.size w wr ∧ Blk wr w.heap.size 41 (arr D) ∧ Own wr (w.heap.size + 1) wr.heap.size 3 v (ints (fl (isCD D) k))) (fun _ _ i _ => 20 - (intOf i).toNat)
  case atStart => exact ⟨0, Nat.zero_le _, rfl, (Below.refl _ _).alloc (Nat.le_refl _) _, Blk.new _ _ _, Own.nil _ _ _⟩
  case round =>
    obtain ⟨k, hk, rfl, hbel, hblk, hown⟩ := hrel
    by_cases hlt : k < 16
    · have hlen2 : (fl (isCD D) k).length ≤ k := fl_len _ k
      have HS := Lib.hid (fl_succ (isCD D) k)
      obtain ⟨vs, hvs⟩ : ∃ vs, vs = ints (fl (isCD D) k) := ⟨_, rfl⟩
      have hlv : vs.length ≤ k := by rw [hvs]; simpa using hlen2
      rw [← hvs] at hown
      have HVS := Lib.hid hvs
      clear hvs hlen2
      have HO := Lib.hid hown
      clear hown
      cases hcb : isCD D k with
      | true =>
        have HC := Lib.hid hcb
        clear hcb
        go_wp2_with (first | (refine wpList_load_row rfl 41 (.tmp 1) rfl w.heap.size rfl 41 (arr D) (0, 0) _ hblk Try.underlying41 rfl hi16 ?_) | (go_at_call 56; refine (isCorner_any D HD.out k hlt _).mono ?_; rintro e w2 ⟨rfl, hb2⟩; rw [HC.out]; have ho2 := (HO.out.below hb2).more) | (at_builtin; refine wpList_append_o _ rfl (.tmp 11) (.tmp 13) 22 rfl (w.heap.size + 1) w2.heap.size 3 i0 (.int .i64 0) 8 Try.underlying22 hi hz0 hz1 hz2 rfl _ vs rfl (ho2.alloc _) (w2.heap.size + 1) (some ⟨w2.heap.size, 0, none⟩) 1 1 [.int .i64 (k : Int)] rfl (Rd.one _ _ _) rfl (by simp; rfl) (by unfold maxLen; omega) (by omega) (by have := hbel.size; have := hb2.size; simp; omega) ?_; intro v' w3 ho3 hg3 hat3))
        go_roundw
        case rel =>
          have hz := hbel.size
          have hb12 : Below w.heap.size w w2 := hbel.trans (hb2.mono (by omega))
          have hblk2 : Blk w2 w.heap.size 41 (arr D) := hblk.below hb2 hblk.lt
          refine ⟨k + 1, by omega, by go_num, below_push hb12 (Nat.le_refl _) hg3 (fun g hg => by have := HO.out.base g hg; omega), (hblk2.alloc _).grown hg3 (fun e => by have := HO.out.base _ e.symm; omega), ?_⟩
          rw [HVS.out] at ho3
          rw [HS.out, if_pos HC.out]
          simpa [ints] using ho3
        case measure => simp [intOf]; omega
      | false =>
        have HC := Lib.hid hcb
        clear hcb
        go_wp2_with (first | (refine wpList_load_row rfl 41 (.tmp 1) rfl w.heap.size rfl 41 (arr D) (0, 0) _ hblk Try.underlying41 rfl hi16 ?_) | (go_at_call 56; refine (isCorner_any D HD.out k hlt _).mono ?_; rintro e w2 ⟨rfl, hb2⟩; rw [HC.out]))
        go_roundw
        case rel =>
          refine ⟨k + 1, by omega, by go_num, hbel.trans (hb2.mono (by have := hbel.size; omega)), hblk.below hb2 hblk.lt, ?_⟩
          rw [HS.out, if_neg (by rw [HC.out]; decide), List.append_nil, ← HVS.out]
          exact (HO.out.below hb2).more
        case measure => simp [intOf]; omega
    · obtain rfl : k = 16 := by omega
      obtain ⟨a', c', rfl⟩ := hown.form
      have HO := Lib.hid hown
      clear hown
      go_wp2
      go_ret
      have hlc : (fl (isCD D) 16).length = (ints (fl (isCD D) 16)).length := by simp
      refine ⟨a', c', by rw [hlc]; rfl, ?_, hbel⟩
      rw [hlc]
      exact HO.out.lower (by omega)

theorem iCornersOf_any (a : Option Addr) (c B : Nat) (L : List Int) (w : World) (h : Rd w B a (ints L)) (hB : B ≤ w.heap.size) (hl : L.length ≤ 4611686018427387904) :
    Calls Try.prog 27 #[.slice a L.length c] w fun e w' => ∃ a' c', e = .returned (.slice a' (crnF L).length c') ∧ Own w' w.heap.size w'.heap.size 3 (.slice a' (crnF L).length c') (ints (crnF L)) ∧ Below w.heap.size w w' := by
  have hi16 : (Try.prog.info? 41).map (·.size) = some (arr (dg L)).size := by rw [arr_size, dg_len]; exact T_info35
  have hsz : (arr (dg L)).size = (arr (List.replicate 16 0)).size := by rw [arr_size, arr_size, dg_len]; rfl
  cases hv : valid L with
  | true =>
    have HE := Lib.hid (crnF_yes hv)
    have HP := Lib.hid (crn_pad hv)
    have HD := Lib.hid (dg_yes hv)
    have HV := Lib.hid hv
    go_enter Try.func27, Try.ntmps27
    go_wp2_with (first | (go_at_call 43; refine (diagramOf_any _ _ B L _ h hB hl).mono ?_; rintro e w1 ⟨rfl, hb1⟩) | (refine wpList_store_row rfl 41 (.tmp 3) (.tmp 8) rfl w1.heap.size rfl (arr (dg L)) rfl 41 (arr (List.replicate 16 0)) (Blk.new w1 _ _) hi16 hsz (arr_one _) ?_) | (refine wpList_load_row rfl 41 (.tmp 3) rfl w1.heap.size rfl 41 (arr (dg L)) (0, 0) _ (Blk.new w1 _ _).row Try.underlying41 rfl hi16 ?_) | (go_at_call 55; rw [HD.out]; refine (dcorners_any (pad L) (pad_len (valid_bd HV.out).2.2.2) _).mono ?_; rintro e w2 ⟨a', c', rfl, ho2, hb2⟩))
    go_ret
    rw [HE.out]
    rw [HP.out] at ho2 ⊢
    refine ⟨a', c', rfl, ho2.lower (by have := hb1.size; simp; omega), ?_⟩
    exact (below_setRow' (hb1.alloc hb1.size _) (by exact hb1.size) _).trans (hb2.mono (by have := hb1.size; simp; omega))
  | false =>
    have HE := Lib.hid (crnF_no hv)
    go_enter Try.func27, Try.ntmps27
    go_wp2_with (first | (go_at_call 43; refine (diagramOf_any _ _ B L _ h hB hl).mono ?_; rintro e w1 ⟨rfl, hb1⟩) | (refine wpList_store_row rfl 41 (.tmp 3) (.tmp 8) rfl w1.heap.size rfl (arr (dg L)) rfl 41 (arr (List.replicate 16 0)) (Blk.new w1 _ _) hi16 hsz (arr_one _) ?_))
    go_ret
    rw [HE.out]
    exact ⟨none, 0, rfl, Own.nil _ _ _, below_setRow' (hb1.alloc hb1.size _) (by exact hb1.size) _⟩
end Go.Proofs.Ytmnlmahjgmhdiaa
namespace Go.Proofs.Ytmnlmahjgmhdiaa
open Go.RowKit
theorem wpList_load_row_g {P : Program} {ops : Array Oper} {rest : List Oper} {o : Oper} {a : Act} {w : World} {Q : Exit → Act → World → Prop} (hgd : Region.wanted o (yielded ops a.tmps) = true) (ty : TypeId) (x : Operand) (ho : o.op = .load ty x)
    (g : Nat) (hx : a.eval x = .pointer (some ⟨g, 0, none⟩)) (t : TypeId) (cs : Array Value) (fr : Nat × Nat) (d : TypeDesc) (hg : w.heap[g]? = some (.cells cs t fr))
    (hu : P.underlying ty = some d) (hd : (match d with | .struct _ | .array _ _ => true | _ => false) = true) (hi : (P.info? ty).map (·.size) = some cs.size)
    (h : wpList P ops Q rest (a.put o.dst (.agg cs)) w) : wpList P ops Q (o :: rest) a w :=
  wpList_step fun K hK => by
    rw [if_pos hgd]
    exact wp_load_row ty x ho g hx t cs fr d hg hu hd hi (hK _ _ h)
end Go.Proofs.Ytmnlmahjgmhdiaa
namespace Go.Proofs.Ytmnlmahjgmhdiaa
open Go.RowKit NP
set_option maxRecDepth 8000
set_option linter.unusedVariables false

theorem Own.take {w : World} {lo hi : Nat} {e : TypeId} {a : Option Addr} {n c : Nat} {vs : List Value} (h : Own w lo hi e (.slice a n c) vs) (k : Nat) (hk : k ≤ vs.length) : Own w lo hi e (.slice a k c) (vs.take k) := by
  refine ⟨?_, fun g hg => h.lt g (by cases a with | none => cases hg | some b => exact hg), h.le⟩
  have hlen : (vs.take k).length = k := by simp; omega
  rw [hlen]
  refine ⟨by rw [hlen]; omega, ?_⟩
  rcases h.row.2 with ⟨e1, e2⟩ | ⟨g, cap, cur, e1, hb, hg, hc, hm, hs, ht⟩
  · injection e1 with e3 e4 e5
    subst e3; subst e5
    have : k = 0 := by omega
    subst this
    exact .inl ⟨rfl, rfl⟩
  · injection e1 with e3 e4 e5
    subst e3; subst e5
    refine .inr ⟨g, c, cur, rfl, hb, hg, by omega, hm, hs, ?_⟩
    rw [← ht, List.take_take]
    congr 1
    omega


theorem less_any (a : Option Addr) (c B : Nat) (L : List Int) (k : Nat) (w : World) (h : Rd w B a (ints L)) (hB : B ≤ w.heap.size) (hv : valid L = true) (hk : k < L.length) :
    Calls Try.prog 72 #[.slice a L.length c, .int .i64 k] w fun e w' => ∃ a' c', e = .returned (.slice a' (lessL L k).length c') ∧ Own w' w.heap.size w'.heap.size 3 (.slice a' (lessL L k).length c') (ints (lessL L k)) ∧ Below w.heap.size w w' := by
  obtain ⟨i0, hi, hz0, hz1, hz2⟩ := T_int'
  have hl := (valid_bd hv).2.2.2
  have hp := preS_of_valid hv k hk hk
  have hpk : 1 ≤ L[k] ∧ L[k] ≤ 16 := ⟨hp.1, hp.2.1⟩
  clear hp
  have hg : L.getD k 0 = L[k] := getD_lt hk
  have HG := Lib.hid hg
  clear hg
  have HV := Lib.hid hv
  clear hv
  by_cases h0 : L[k] - 1 = 0
  · have h0b : (L[k] - 1 == 0) = true := beq_iff_eq.2 h0
    have HL : Hid (lessL L k = (L.set k (L[k] - 1)).take k) := Lib.hid (by unfold lessL; rw [HG.out, if_pos h0])
    have hc1 : (k : Int) ≤ (k : Int) := Int.le_refl _
    clear h0 hc1
    go_enter Try.func72, Try.ntmps72
    go_wp2_with (at_builtin; refine wpList_append_o _ rfl (.tmp 6) (.tmp 7) 22 rfl w.heap.size (w.heap.size + 1) 3 i0 (.int .i64 0) 8 Try.underlying22 hi hz0 hz1 hz2 rfl _ [] rfl (Own.empty w 3) B a L.length c (ints L) rfl (h.alloc hB _) (by simp) (ints_one L) (by simp; unfold maxLen; omega) (by simp; omega) (by simp) ?_; intro v' w1 ho1 hg1 hat1; rw [List.nil_append] at ho1; obtain ⟨g, c1, hv', hlog, hghi, hcell, hfz⟩ := ho1.at_ (k := k) (by simpa using hk); have hcap : L.length ≤ c1 := (by obtain ⟨g', c', e', hc'⟩ := ho1.formN (by simp; omega); rw [hv'] at e'; injection e' with _ _ e5; simp at hc'; omega); subst hv'; clear hat1; have hcellk : w1.cell? ⟨g, k, none⟩ = some (.int .i64 L[k]) := by rw [hcell]; simp)
    go_ret
    have hset : (ints L).set k (.int .i64 (L[k] - 1)) = ints (L.set k (L[k] - 1)) := by simp [ints, List.map_set]
    have hb1 : Below w.heap.size w w1 := ((Below.refl _ _).alloc (Nat.le_refl _) _).grown hg1 (by simp) (fun x hx => by injection hx with hx; subst hx; exact Nat.le_refl _)
    have hl1 : (ints L).length = L.length := by simp
    rw [hl1] at ho1
    have e := (ho1.set k (.int .i64 (L[k] - 1))).more
    rw [hset] at e
    rw [HL.out]
    have hlt : ((L.set k (L[k] - 1)).take k).length = k := by simp; omega
    rw [hlt]
    have e2 := e.take k (by simp; omega)
    refine ⟨some ⟨g, 0, none⟩, c1, rfl, ?_, hb1.setCell (by show w.heap.size ≤ g; exact hlog) _⟩
    have e3 : (ints (L.set k (L[k] - 1))).take k = ints ((L.set k (L[k] - 1)).take k) := by simp [ints, List.map_take]
    rw [e3] at e2
    exact e2
  · have h0b : (L[k] - 1 == 0) = false := beq_eq_false_iff_ne.2 h0
    have HL : Hid (lessL L k = L.set k (L[k] - 1)) := Lib.hid (by unfold lessL; rw [HG.out, if_neg h0])
    clear h0
    go_enter Try.func72, Try.ntmps72
    go_wp2_with (at_builtin; refine wpList_append_o _ rfl (.tmp 6) (.tmp 7) 22 rfl w.heap.size (w.heap.size + 1) 3 i0 (.int .i64 0) 8 Try.underlying22 hi hz0 hz1 hz2 rfl _ [] rfl (Own.empty w 3) B a L.length c (ints L) rfl (h.alloc hB _) (by simp) (ints_one L) (by simp; unfold maxLen; omega) (by simp; omega) (by simp) ?_; intro v' w1 ho1 hg1 hat1; rw [List.nil_append] at ho1; obtain ⟨g, c1, hv', hlog, hghi, hcell, hfz⟩ := ho1.at_ (k := k) (by simpa using hk); have hcap : L.length ≤ c1 := (by obtain ⟨g', c', e', hc'⟩ := ho1.formN (by simp; omega); rw [hv'] at e'; injection e' with _ _ e5; simp at hc'; omega); subst hv'; clear hat1; have hcellk : w1.cell? ⟨g, k, none⟩ = some (.int .i64 L[k]) := by rw [hcell]; simp)
    go_ret
    have hset : (ints L).set k (.int .i64 (L[k] - 1)) = ints (L.set k (L[k] - 1)) := by simp [ints, List.map_set]
    have hb1 : Below w.heap.size w w1 := ((Below.refl _ _).alloc (Nat.le_refl _) _).grown hg1 (by simp) (fun x hx => by injection hx with hx; subst hx; exact Nat.le_refl _)
    have hl1 : (ints L).length = L.length := by simp
    rw [hl1] at ho1
    have e := (ho1.set k (.int .i64 (L[k] - 1))).more
    rw [hset] at e
    rw [HL.out]
    have hlt : (L.set k (L[k] - 1)).length = L.length := by simp
    rw [hlt]
    exact ⟨some ⟨g, 0, none⟩, c1, by simp, e, hb1.setCell (by show w.heap.size ≤ g; exact hlog) _⟩

theorem rmvOk_no {L : List Int} (h : valid L = false) (i : Int) : rmvOk L i = false := by simp [rmvOk, h]
theorem rmvOk_yes {L : List Int} (h : valid L = true) (i : Int) : rmvOk L i = hasI (crn L) i := by
  unfold rmvOk crn
  rw [h, Bool.true_and, crnTo_fl, hasI_fl]
theorem rmv_no {L : List Int} {i : Int} (h : rmvOk L i = false) : rmv L i = [] := by simp [rmv, h]
theorem rmv_yes {L : List Int} {i : Int} (h : rmvOk L i = true) : ∃ k : Nat, i = k ∧ k < L.length ∧ isC L k = true ∧ valid L = true ∧ rmv L i = lessL L k := by
  have h2 := h
  unfold rmvOk at h
  simp only [Bool.and_eq_true, decide_eq_true_eq] at h
  obtain ⟨hv, ⟨h0, hlt⟩, hc⟩ := h
  obtain ⟨k, rfl⟩ := Int.eq_ofNat_of_zero_le h0
  refine ⟨k, rfl, by omega, hc, hv, ?_⟩
  unfold rmv
  rw [if_pos h2]
  rfl
theorem own_nil0 (w : World) (lo : Nat) (e : TypeId) : Own w lo w.heap.size e (.slice none ([] : List Int).length 0) (ints []) := Own.nil w lo e

theorem iRemoveCell_any (a : Option Addr) (c B : Nat) (L : List Int) (i : Int) (w : World) (h : Rd w B a (ints L)) (hB : B ≤ w.heap.size) (hl : L.length ≤ 4611686018427387904) :
    Calls Try.prog 28 #[.slice a L.length c, .int .i64 i] w fun e w' => ∃ a' c', e = .returned (.tuple #[.slice a' (rmv L i).length c', .bool (rmvOk L i)]) ∧ Own w' w.heap.size w'.heap.size 3 (.slice a' (rmv L i).length c') (ints (rmv L i)) ∧ Below w.heap.size w w' := by
  cases hv : valid L with
  | true =>
    have hl16 := (valid_bd hv).2.2.2
    have hpl := pad_len hl16
    have hi16 : (Try.prog.info? 41).map (·.size) = some (arr (pad L)).size := by rw [arr_size, hpl]; exact T_info35
    have hsz : (arr (pad L)).size = (arr (List.replicate 16 0)).size := by rw [arr_size, arr_size, hpl]; rfl
    have HD := Lib.hid (dg_yes hv)
    have HV := Lib.hid hv
    have HPL := Lib.hid hpl
    clear hpl
    by_cases hin : 0 ≤ i ∧ i < L.length
    · obtain ⟨k, rfl⟩ := Int.eq_ofNat_of_zero_le hin.1
      have hk : k < L.length := by omega
      have hk16 : k < 16 := by omega
      have hg0 : decide ((k : Int) < 0) = false := decide_eq_false (by omega)
      have hg1 : decide (L.length ≤ k) = false := decide_eq_false (by omega)
      have hk' : (k : Int) < 16 := by omega
      clear hin
      have hIC : isCD (pad L) k = isC L k := by rw [isCD_pad hv, if_pos hk]
      have hOk : rmvOk L k = isC L k := by unfold rmvOk; rw [hv, decide_eq_true (by omega : (0 : Int) ≤ (k : Int)), decide_eq_true (by omega : (k : Int) < (L.length : Int))]; rfl
      have HOK := Lib.hid hOk
      clear hOk
      have hgk : (pad L).getD k 0 = L.getD k 0 := pad_getD hl16 k
      have hgl : L.getD k 0 = L[k] := getD_lt hk
      have hp := preS_of_valid hv k hk hk
      have hpk : 1 ≤ L[k] ∧ L[k] ≤ 16 := ⟨hp.1, hp.2.1⟩
      have hpc : (pad L)[k]'(by rw [HPL.out]; exact hk16) = L[k] := by rw [← hgl, ← hgk, getD_lt]
      have HPC := Lib.hid hpc
      have HGL := Lib.hid hgl
      clear hp hgk hgl hpc
      cases hcb : isC L k with
      | true =>
        rw [hcb] at hIC
        have hvl := valid_less hv hk hcb
        have hpll := pad_less hv hk hcb
        rw [HGL.out] at hpll
        have hil : (Try.prog.info? 41).map (·.size) = some (arr (pad (lessL L k))).size := by rw [arr_size, pad_len (valid_bd hvl).2.2.2]; exact T_info35
        have HVL := Lib.hid hvl
        have HPLL := Lib.hid hpll
        have HIC := Lib.hid hIC
        have HC := Lib.hid hcb
        clear hcb hvl hpll hIC hv
        go_enter Try.func28, Try.ntmps28
        go_wp2_with (first
        | (go_at_call 43; refine (diagramOf_any _ _ B L _ h hB hl).mono ?_; rintro e w1 ⟨rfl, hb1⟩; rw [HD.out, HV.out])
        | (refine wpList_store_row rfl 41 (.tmp 6) (.tmp 11) rfl w1.heap.size rfl (arr (pad L)) rfl 41 (arr (List.replicate 16 0)) (Blk.new w1 _ _) hi16 hsz (arr_one _) ?_; have hb2 := (Blk.new w1 41 (arr (List.replicate 16 0))).row (vs := arr (pad L)); have hbel2 : Below w.heap.size w ((w1.alloc (.cells (arr (List.replicate 16 0)) 41)).setRow w1.heap.size (arr (pad L))) := below_setRow' (hb1.alloc hb1.size _) (by exact hb1.size) _; obtain ⟨w2, hw2⟩ : ∃ w2, w2 = (w1.alloc (.cells (#[.int .i64 0, .int .i64 0, .int .i64 0, .int .i64 0, .int .i64 0, .int .i64 0, .int .i64 0, .int .i64 0, .int .i64 0, .int .i64 0, .int .i64 0, .int .i64 0, .int .i64 0, .int .i64 0, .int .i64 0, .int .i64 0]) 41)).setRow w1.heap.size (arr (pad L)) := ⟨_, rfl⟩; rw [← hw2]; replace hb2 : Blk w2 w1.heap.size 41 (arr (pad L)) := hw2 ▸ hb2; replace hbel2 : Below w.heap.size w w2 := hw2 ▸ hbel2; clear hw2)
        | (refine wpList_load_row_g rfl 41 (.tmp 6) rfl (w1.heap.size) rfl 41 (arr (pad L)) (0, 0) _ hb2 Try.underlying41 rfl hi16 ?_)
        | (go_at_call 56; refine (isCorner_any (pad L) HPL.out k hk16 _).mono ?_; rintro e w3 ⟨rfl, hb3⟩; rw [HIC.out]; have hb3' : Blk w3 w1.heap.size 41 (arr (pad L)) := hb2.below hb3 hb2.lt; have hc3 : w3.cell? ⟨w1.heap.size, k, none⟩ = some (.int .i64 L[k]) := (by rw [hb3'.cell k, arr_get _ k (by rw [HPL.out]; exact hk16), HPC.out]); have hf3 : w3.frozen? ⟨w1.heap.size, k, none⟩ = false := hb3'.free k; have hb4 : Blk (w3.setCell ⟨w1.heap.size, k, none⟩ (.int .i64 (L[k] - 1))) w1.heap.size 41 (arr (pad (lessL L k))) := (by have e := hb3'.set k (.int .i64 (L[k] - 1)); rw [arr_set, HPLL.out] at e; exact e); have hbel4 : Below w.heap.size w (w3.setCell ⟨w1.heap.size, k, none⟩ (.int .i64 (L[k] - 1))) := (hbel2.trans (hb3.mono hbel2.size)).setCell (by show w.heap.size ≤ w1.heap.size; exact hb1.size) _)
        | (refine wpList_load_row rfl 41 (.tmp 6) rfl (w1.heap.size) rfl 41 (arr (pad (lessL L k))) (0, 0) _ hb4 Try.underlying41 rfl hil ?_)
        | (go_at_call 57; refine (list_any (lessL L k) HVL.out _).mono ?_; rintro e w5 ⟨a', rfl, ho5, hb5⟩))
        go_ret2
        rw [HOK.out, HC.out]
        have hr : rmv L k = lessL L k := by unfold rmv; rw [HOK.out, HC.out]; rfl
        rw [hr]
        exact ⟨a', (lessL L k).length, rfl, ho5.lower hbel4.size, hbel4.trans (hb5.mono hbel4.size)⟩
      | false =>
        rw [hcb] at hIC
        have HIC := Lib.hid hIC
        have HC := Lib.hid hcb
        clear hcb hIC hv
        go_enter Try.func28, Try.ntmps28
        go_wp2_with (first
        | (go_at_call 43; refine (diagramOf_any _ _ B L _ h hB hl).mono ?_; rintro e w1 ⟨rfl, hb1⟩; rw [HD.out, HV.out])
        | (refine wpList_store_row rfl 41 (.tmp 6) (.tmp 11) rfl w1.heap.size rfl (arr (pad L)) rfl 41 (arr (List.replicate 16 0)) (Blk.new w1 _ _) hi16 hsz (arr_one _) ?_; have hb2 := (Blk.new w1 41 (arr (List.replicate 16 0))).row (vs := arr (pad L)); have hbel2 : Below w.heap.size w ((w1.alloc (.cells (arr (List.replicate 16 0)) 41)).setRow w1.heap.size (arr (pad L))) := below_setRow' (hb1.alloc hb1.size _) (by exact hb1.size) _; obtain ⟨w2, hw2⟩ : ∃ w2, w2 = (w1.alloc (.cells (#[.int .i64 0, .int .i64 0, .int .i64 0, .int .i64 0, .int .i64 0, .int .i64 0, .int .i64 0, .int .i64 0, .int .i64 0, .int .i64 0, .int .i64 0, .int .i64 0, .int .i64 0, .int .i64 0, .int .i64 0, .int .i64 0]) 41)).setRow w1.heap.size (arr (pad L)) := ⟨_, rfl⟩; rw [← hw2]; replace hb2 : Blk w2 w1.heap.size 41 (arr (pad L)) := hw2 ▸ hb2; replace hbel2 : Below w.heap.size w w2 := hw2 ▸ hbel2; clear hw2)
        | (refine wpList_load_row_g rfl 41 (.tmp 6) rfl (w1.heap.size) rfl 41 (arr (pad L)) (0, 0) _ hb2 Try.underlying41 rfl hi16 ?_)
        | (go_at_call 56; refine (isCorner_any (pad L) HPL.out k hk16 _).mono ?_; rintro e w3 ⟨rfl, hb3⟩; rw [HIC.out]))
        go_ret2
        rw [rmv_no (by rw [HOK.out, HC.out]), HOK.out, HC.out]
        exact ⟨none, 0, rfl, own_nil0 _ _ _, hbel2.trans (hb3.mono hbel2.size)⟩
    · have hOk : rmvOk L i = false := by
        unfold rmvOk
        rw [hv]
        rcases Int.lt_or_le i 0 with h0 | h0
        · rw [decide_eq_false (by omega : ¬ 0 ≤ i)]; rfl
        · rw [decide_eq_false (by omega : ¬ i < (L.length : Int))]; simp
      rw [rmv_no hOk, hOk]
      clear hOk
      by_cases h0 : i < 0
      · have hg0 : decide (i < 0) = true := decide_eq_true h0
        clear hin h0 hv
        go_enter Try.func28, Try.ntmps28
        go_wp2_with (first
        | (go_at_call 43; refine (diagramOf_any _ _ B L _ h hB hl).mono ?_; rintro e w1 ⟨rfl, hb1⟩; rw [HD.out, HV.out])
        | (refine wpList_store_row rfl 41 (.tmp 6) (.tmp 11) rfl w1.heap.size rfl (arr (pad L)) rfl 41 (arr (List.replicate 16 0)) (Blk.new w1 _ _) hi16 hsz (arr_one _) ?_; have hb2 := (Blk.new w1 41 (arr (List.replicate 16 0))).row (vs := arr (pad L)); have hbel2 : Below w.heap.size w ((w1.alloc (.cells (arr (List.replicate 16 0)) 41)).setRow w1.heap.size (arr (pad L))) := below_setRow' (hb1.alloc hb1.size _) (by exact hb1.size) _; obtain ⟨w2, hw2⟩ : ∃ w2, w2 = (w1.alloc (.cells (#[.int .i64 0, .int .i64 0, .int .i64 0, .int .i64 0, .int .i64 0, .int .i64 0, .int .i64 0, .int .i64 0, .int .i64 0, .int .i64 0, .int .i64 0, .int .i64 0, .int .i64 0, .int .i64 0, .int .i64 0, .int .i64 0]) 41)).setRow w1.heap.size (arr (pad L)) := ⟨_, rfl⟩; rw [← hw2]; replace hb2 : Blk w2 w1.heap.size 41 (arr (pad L)) := hw2 ▸ hb2; replace hbel2 : Below w.heap.size w w2 := hw2 ▸ hbel2; clear hw2))
        go_ret2
        exact ⟨none, 0, rfl, own_nil0 _ _ _, hbel2⟩
      · have hg0 : decide (i < 0) = false := decide_eq_false h0
        have hg1 : decide ((L.length : Int) ≤ i) = true := decide_eq_true (by omega)
        clear hin h0 hv
        go_enter Try.func28, Try.ntmps28
        go_wp2_with (first
        | (go_at_call 43; refine (diagramOf_any _ _ B L _ h hB hl).mono ?_; rintro e w1 ⟨rfl, hb1⟩; rw [HD.out, HV.out])
        | (refine wpList_store_row rfl 41 (.tmp 6) (.tmp 11) rfl w1.heap.size rfl (arr (pad L)) rfl 41 (arr (List.replicate 16 0)) (Blk.new w1 _ _) hi16 hsz (arr_one _) ?_; have hb2 := (Blk.new w1 41 (arr (List.replicate 16 0))).row (vs := arr (pad L)); have hbel2 : Below w.heap.size w ((w1.alloc (.cells (arr (List.replicate 16 0)) 41)).setRow w1.heap.size (arr (pad L))) := below_setRow' (hb1.alloc hb1.size _) (by exact hb1.size) _; obtain ⟨w2, hw2⟩ : ∃ w2, w2 = (w1.alloc (.cells (#[.int .i64 0, .int .i64 0, .int .i64 0, .int .i64 0, .int .i64 0, .int .i64 0, .int .i64 0, .int .i64 0, .int .i64 0, .int .i64 0, .int .i64 0, .int .i64 0, .int .i64 0, .int .i64 0, .int .i64 0, .int .i64 0]) 41)).setRow w1.heap.size (arr (pad L)) := ⟨_, rfl⟩; rw [← hw2]; replace hb2 : Blk w2 w1.heap.size 41 (arr (pad L)) := hw2 ▸ hb2; replace hbel2 : Below w.heap.size w w2 := hw2 ▸ hbel2; clear hw2))
        go_ret2
        exact ⟨none, 0, rfl, own_nil0 _ _ _, hbel2⟩
  | false =>
    have hh := rmvOk_no hv i
    rw [hh, rmv_no hh]
    have hi16 : (Try.prog.info? 41).map (·.size) = some (arr (dg L)).size := by rw [arr_size, dg_len]; exact T_info35
    have hsz : (arr (dg L)).size = (arr (List.replicate 16 0)).size := by rw [arr_size, arr_size, dg_len]; rfl
    have HV := Lib.hid hv
    clear hh hv
    go_enter Try.func28, Try.ntmps28
    go_wp2_with (first
        | (go_at_call 43; refine (diagramOf_any _ _ B L _ h hB hl).mono ?_; rintro e w1 ⟨rfl, hb1⟩; rw [HV.out])
        | (refine wpList_store_row rfl 41 (.tmp 6) (.tmp 11) rfl w1.heap.size rfl (arr (dg L)) rfl 41 (arr (List.replicate 16 0)) (Blk.new w1 _ _) hi16 hsz (arr_one _) ?_))
    go_ret2
    exact ⟨none, 0, rfl, own_nil0 _ _ _, below_setRow' (hb1.alloc hb1.size _) (by exact hb1.size) _⟩
theorem addOk_no {L : List Int} (h : valid L = false) (i : Int) : addOk L i = false := by simp [addOk, h]
theorem addC_no {L : List Int} {i : Int} (h : addOk L i = false) : addC L i = [] := by simp [addC, h]
theorem addC_yes {L : List Int} {i : Int} (h : addOk L i = true) : addC L i = addL L i.toNat := by simp [addC, h]
theorem addOk_at {L : List Int} (hv : valid L = true) {k : Nat} (hk : k ≤ L.length) : addOk L k = valid (addL L k) := by
  unfold addOk
  rw [hv, decide_eq_true (by omega : (0 : Int) ≤ (k : Int)), decide_eq_true (by omega : (k : Int) ≤ (L.length : Int))]
  rfl
theorem addOk_out {L : List Int} {i : Int} (h : ¬ (0 ≤ i ∧ i ≤ L.length)) : addOk L i = false := by
  unfold addOk
  rcases Int.lt_or_le i 0 with h0 | h0
  · rw [decide_eq_false (by omega : ¬ 0 ≤ i)]; simp
  · rw [decide_eq_false (by omega : ¬ i ≤ (L.length : Int))]; simp
theorem Blk.drs {w : World} {g : Nat} {t : TypeId} {cs : Array Value} (h : Blk w g t cs) (n : Nat) : Blk (w.drewN n) g t cs := h

end Go.Proofs.Ytmnlmahjgmhdiaa
namespace Go.Proofs.Ytmnlmahjgmhdiaa
open Go.RowKit NP
set_option maxRecDepth 8000
set_option linter.unusedVariables false
set_option linter.unusedSimpArgs false


set_option maxHeartbeats 1000000 in
theorem same_any (a b : Option Addr) (ca cb Ba Bb : Nat) (L M : List Int) (hl : L.length ≤ 1000) (w : World) (h : Rd w Ba a (ints L)) (hm : Rd w Bb b (ints M)) (hml : M.length ≤ 1000) :
    Calls Try.prog 76 #[.slice a L.length ca, .slice b M.length cb] w fun e w' => e = .returned (.bool (decide (L = M))) ∧ ∃ n, w' = w.drewN n := by
  by_cases hlen : L.length = M.length
  · have b0 : ((L.length : Int) != (M.length : Int)) = false := by simp [hlen]
    go_enter Try.func76, Try.ntmps76
    go_wp2_with fail
    clear b0
    go_loopw [5] (fun vi wr => ∃ k : Nat, k ≤ L.length ∧ vi = .int .i64 k ∧ Dr w wr ∧ Hid (∀ j, j < k → L.getD j 0 = M.getD j 0)) (fun vi _ => L.length - (intOf vi).toNat)
    case atStart => exact ⟨0, Nat.zero_le _, rfl, Dr.refl _, Lib.hid fun j hj => by omega⟩
    case round =>
      obtain ⟨k, hk, rfl, hdr, HP⟩ := hrel
      by_cases hlt : k < L.length
      · have hlt' : (k : Int) < (L.length : Int) := by omega
        have hltm : k < M.length := by omega
        have hlt'm : (k : Int) < (M.length : Int) := by omega
        obtain ⟨b1, o1, rfl, _, hc⟩ := (h.dr hdr).at_ hlt
        obtain ⟨b2, o2, rfl, _, hc'⟩ := (hm.dr hdr).at_ hltm
        have HG : Hid (L.getD k 0 = L[k]) := Lib.hid (getD_lt hlt)
        have HG' : Hid (M.getD k 0 = M[k]) := Lib.hid (getD_lt hltm)
        by_cases e1 : L[k] = M[k]
        · have HE : Hid (L.getD k 0 = M.getD k 0) := Lib.hid (by rw [HG.out, HG'.out, e1])
          have b1 : (L[k] != M[k]) = false := by simp [e1]
          clear e1 hlen
          generalize L[k] = x at hc HG b1
          generalize M[k] = y at hc' HG' b1
          go_wp2_with fail
          go_quiet (fail)
          go_wp2
          go_roundw
          case rel => exact ⟨k + 1, by omega, by go_num, hdr.drewN _, Lib.hid fun j hj => by
            rcases Nat.lt_or_ge j k with h1 | h1
            · exact HP.out j h1
            · obtain rfl : j = k := by omega
              exact HE.out⟩
          case measure => simp [intOf]; omega
        · have HF : Hid (decide (L = M) = false) := Lib.hid (decide_eq_false fun hc => e1 (by subst hc; rfl))
          have b1 : (L[k] != M[k]) = true := by simpa using e1
          clear e1 hlen
          generalize L[k] = x at hc HG b1
          generalize M[k] = y at hc' HG' b1
          go_wp2_with fail
          go_quiet (fail)
          go_wp2
          go_ret
          exact ⟨ret_bool HF.out.symm, hdr.trans (Dr.n _ _)⟩
      · obtain rfl : k = L.length := by omega
        have HF : Hid (decide (L = M) = true) := Lib.hid (decide_eq_true (List.ext_getElem hlen fun j h1 h2 => by
          have := HP.out j h1
          rwa [getD_lt h1, getD_lt h2] at this))
        clear hlen
        go_wp2
        go_ret
        exact ⟨ret_bool HF.out.symm, hdr⟩
  · have b0 : ((L.length : Int) != (M.length : Int)) = true := by simp; omega
    have HF : Hid (decide (L = M) = false) := Lib.hid (decide_eq_false fun hc => hlen (by rw [hc]))
    clear hlen
    go_enter Try.func76, Try.ntmps76
    go_wp2_with fail
    go_ret
    exact ⟨ret_bool HF.out.symm, 0, rfl⟩



end Go.Proofs.Ytmnlmahjgmhdiaa
namespace Go.Proofs.Ytmnlmahjgmhdiaa
open Go.RowKit NP
set_option maxRecDepth 8000
set_option linter.unusedVariables false
set_option linter.unusedSimpArgs false
theorem OwnLL.keep {w w' : World} {lo hi : Nat} {eo e : TypeId} {v : Value} {vs : List Value} {LL : List (List Int)} (h : OwnLL w lo hi eo e v vs LL) (hs : w.heap.size ≤ w'.heap.size) (hk : ∀ g, lo ≤ g → g < hi → w'.heap[g]? = w.heap[g]?) : OwnLL w' lo hi eo e v vs LL :=
  ⟨h.outer.keep hs fun g hg => hk g (h.outer.base g hg) (h.outer.lt g hg), h.len, fun k u L hu hL => (h.inner k u L hu hL).keep hs fun g hg => hk g ((h.inner k u L hu hL).base g hg) ((h.inner k u L hu hL).lt g hg), h.apartO, h.apart⟩
def okQ (L : List Int) : Bool := valid L && decide (L.length ≤ 16) && L.all fun x => decide (1 ≤ x) && decide (x ≤ 16)
def okTab : Bool := (List.range 13).all fun n => (allQ n n n).all okQ
set_option maxRecDepth 100000 in
theorem okTab_all : okTab = true := by decide +kernel
theorem allQ_ok {n : Nat} (hn : n ≤ 12) : ∀ L ∈ allQ n n n, valid L = true ∧ SmallParts L := by
  intro L hL
  have h := okTab_all
  unfold okTab at h
  have h1 := List.all_eq_true.1 h n (by simp; omega)
  have h2 := List.all_eq_true.1 h1 L hL
  unfold okQ at h2
  simp only [Bool.and_eq_true, decide_eq_true_eq, List.all_eq_true] at h2
  exact ⟨h2.1.1, h2.1.2, h2.2⟩

/-- what lies between lo and the end of w2 is the same in w' -/
def Kp (w2 w' : World) (lo : Nat) : Prop := w2.heap.size ≤ w'.heap.size ∧ ∀ g, lo ≤ g → g < w2.heap.size → w'.heap[g]? = w2.heap[g]?
theorem Kp.below {w2 w w' : World} {lo : Nat} (h : Kp w2 w lo) (hb : Below w.heap.size w w') : Kp w2 w' lo :=
  ⟨Nat.le_trans h.1 hb.size, fun g h1 h2 => (hb.block g (Nat.lt_of_lt_of_le h2 h.1)).trans (h.2 g h1 h2)⟩
theorem Kp.alloc {w2 w : World} {lo : Nat} (h : Kp w2 w lo) (o : Obj) : Kp w2 (w.alloc o) lo :=
  h.below ((Below.refl _ _).alloc (Nat.le_refl _) o)
theorem Kp.grown {w2 w w' : World} {lo : Nat} {row : Option Nat} (h : Kp w2 w lo) (hg : w.grownBy w' row) (hr : ∀ g, row = some g → g < lo ∨ w2.heap.size ≤ g) : Kp w2 w' lo :=
  ⟨Nat.le_trans h.1 hg.size, fun g h1 h2 => (hg.block g (Nat.lt_of_lt_of_le h2 h.1) (fun e => by have := hr g e.symm; omega)).trans (h.2 g h1 h2)⟩
end Go.Proofs.Ytmnlmahjgmhdiaa
namespace Go.Proofs.Ytmnlmahjgmhdiaa
open Go.RowKit NP
set_option linter.unusedVariables false
set_option linter.unusedSimpArgs false
theorem beqL_iff : ∀ A B : List Int, beqL A B = decide (A = B) := by
  intro A
  induction A with
  | nil => intro B; cases B <;> simp [beqL]
  | cons x r ih =>
    intro B
    cases B with
    | nil => simp [beqL]
    | cons y q =>
      rw [beqL]
      by_cases h : x = y
      · rw [if_pos h, ih]; subst h; simp
      · rw [if_neg h]; simp [h]
theorem raise_drop (D : List Int) (i : Nat) (h : i + 1 < D.length) : raiseL (dropL D i) i = D := by
  unfold raiseL dropL
  apply List.ext_getElem (by simp)
  intro k h1 h2
  by_cases e1 : i + 1 = k
  · subst e1
    simp [List.getD_eq_getElem?_getD, h2]
  · by_cases e2 : i = k
    · subst e2
      simp [List.getElem_set, List.getElem?_set, List.getD_eq_getElem?_getD, h2, h, Nat.lt_of_succ_lt h]
    · simp [List.getElem_set, e1, e2]
theorem drop_raise (D : List Int) (i : Nat) (h : i + 1 < D.length) : dropL (raiseL D i) i = D := by
  unfold raiseL dropL
  apply List.ext_getElem (by simp)
  intro k h1 h2
  by_cases e1 : i + 1 = k
  · subst e1
    simp [List.getD_eq_getElem?_getD, h2]
  · by_cases e2 : i = k
    · subst e2
      simp [List.getElem_set, List.getElem?_set, List.getD_eq_getElem?_getD, h2, h, Nat.lt_of_succ_lt h]
    · simp [List.getElem_set, e1, e2]
theorem raise_len (D : List Int) (i : Nat) : (raiseL D i).length = D.length := by simp [raiseL]
theorem drop_any (D E : List Int) : dropB D E = ((List.range 15).map (dropL D)).any (beqL E) := by
  unfold dropB
  rw [List.any_map]
  congr 1
  funext i
  simp only [Function.comp_apply, beqL_iff]
  by_cases h : dropL D i = E
  · simp [h]
  · have h' : ¬ E = dropL D i := fun e => h e.symm
    simp [h, h']
theorem drop_raised (D E : List Int) (hD : D.length = 16) (hE : E.length = 16) : dropB D E = ((List.range 15).map (raiseL E)).any (beqL D) := by
  unfold dropB
  rw [List.any_map, Bool.eq_iff_iff, List.any_eq_true, List.any_eq_true]
  constructor
  · rintro ⟨i, hi, h⟩
    have hi' := List.mem_range.1 hi
    refine ⟨i, hi, ?_⟩
    simp only [Function.comp_apply, beqL_iff]
    rw [← of_decide_eq_true h, raise_drop D i (by omega)]
    simp
  · rintro ⟨i, hi, h⟩
    have hi' := List.mem_range.1 hi
    refine ⟨i, hi, ?_⟩
    simp only [Function.comp_apply, beqL_iff] at h
    rw [of_decide_eq_true h, drop_raise E i (by omega)]
    simp
theorem covB_cand (P Q : List Int) (hp : valid P = true) (hq : valid Q = true) : covB P Q = ((candP P).any (beqL (pad Q)) || (candC P).any (beqL (pad (conj Q)))) := by
  unfold covB candP candC
  rw [drop_any, drop_raised _ _ (pad_len (valid_bd (valid_conj hq)).2.2.2) (pad_len (valid_bd (valid_conj hp)).2.2.2)]
theorem covB_candU (P E : List Int) (hp : valid P = true) (hq : valid E = true) : covB E P = ((candUP P).any (beqL (pad E)) || (candUC P).any (beqL (pad (conj E)))) := by
  unfold covB candUP candUC
  rw [drop_any (pad (conj P)), drop_raised _ _ (pad_len (valid_bd hq).2.2.2) (pad_len (valid_bd hp).2.2.2)]
theorem tb_all {n : Nat} (hn : n ≤ 12) : tb n = true := by
  obtain rfl | rfl | rfl | rfl | rfl | rfl | rfl | rfl | rfl | rfl | rfl | rfl | rfl : n = 0 ∨ n = 1 ∨ n = 2 ∨ n = 3 ∨ n = 4 ∨ n = 5 ∨ n = 6 ∨ n = 7 ∨ n = 8 ∨ n = 9 ∨ n = 10 ∨ n = 11 ∨ n = 12 := by omega
  · exact tb0
  · exact tb1
  · exact tb2
  · exact tb3
  · exact tb4
  · exact tb5
  · exact tb6
  · exact tb7
  · exact tb8
  · exact tb9
  · exact tb10
  · exact tb11
  · exact tb12
theorem tu_all {n : Nat} (hn : n ≤ 12) : tu n = true := by
  obtain rfl | rfl | rfl | rfl | rfl | rfl | rfl | rfl | rfl | rfl | rfl | rfl | rfl : n = 0 ∨ n = 1 ∨ n = 2 ∨ n = 3 ∨ n = 4 ∨ n = 5 ∨ n = 6 ∨ n = 7 ∨ n = 8 ∨ n = 9 ∨ n = 10 ∨ n = 11 ∨ n = 12 := by omega
  · exact tu0
  · exact tu1
  · exact tu2
  · exact tu3
  · exact tu4
  · exact tu5
  · exact tu6
  · exact tu7
  · exact tu8
  · exact tu9
  · exact tu10
  · exact tu11
  · exact tu12
/-- the model's steps give what the program finds -/
theorem cov_eq {P : List Int} (h : valid P = true) (h12 : sumL P ≤ 12) : srtF (covL P) = cvF P := by
  have hs := valid_bd h
  have h0 : sumL P = ((sumL P).toNat : Int) := (Int.toNat_of_nonneg hs.1).symm
  have ht := tb_all (n := (sumL P).toNat) (by omega)
  unfold tb at ht
  rw [List.all_eq_true] at ht
  have h1 := eq_of_beq (ht P (mem_allQn h h0))
  unfold cvF
  rw [if_pos (by simp [h, h12]), h1]
  refine List.filter_congr fun Q hQ => ?_
  rw [covB_cand P Q h (allQ_ok (by omega) Q hQ).1]
theorem covU_eq {P : List Int} (h : valid P = true) (h12 : sumL P ≤ 12) : srtF ((srtF (covL (conj P))).map conj) = cuF P := by
  have hs := valid_bd h
  have h0 : sumL P = ((sumL P).toNat : Int) := (Int.toNat_of_nonneg hs.1).symm
  have ht := tu_all (n := (sumL P).toNat) (by omega)
  unfold tu at ht
  rw [List.all_eq_true] at ht
  have h1 := eq_of_beq (ht P (mem_allQn h h0))
  unfold cuF
  rw [if_pos (by simp [h, h12]), h1]
  refine List.filter_congr fun Q hQ => ?_
  rw [covB_candU P Q h (allQ_ok (by omega) Q hQ).1]
def tv (n : Nat) : Bool := (allQ n n n).all fun P => (covL P).all fun L => valid L && sumL L == (n : Int)
set_option maxRecDepth 100000 in
theorem tv_tab : (List.range 13).all tv = true := by decide +kernel
theorem covL_ok {P : List Int} (h : valid P = true) (h12 : sumL P ≤ 12) : ∀ L ∈ covL P, valid L = true ∧ sumL L = sumL P := by
  have hs := valid_bd h
  have h0 : sumL P = ((sumL P).toNat : Int) := (Int.toNat_of_nonneg hs.1).symm
  have ht := tv_tab
  rw [List.all_eq_true] at ht
  have h1 := ht (sumL P).toNat (List.mem_range.2 (by omega))
  unfold tv at h1
  rw [List.all_eq_true] at h1
  have h2 := h1 P (mem_allQn h h0)
  rw [List.all_eq_true] at h2
  intro L hL
  have h3 := h2 L hL
  rw [Bool.and_eq_true, beq_iff_eq] at h3
  exact ⟨h3.1, by rw [h3.2]; exact h0.symm⟩
/-- places of parts of one sum are in the order of lists -/
theorem plc_lex : ∀ (A B : List Int) (n m : Int), n ≤ 40 → 0 ≤ m → ex n m A → ex n m B → decide (plc n m A < plc n m B) = lexB A B := by
  intro A
  induction A with
  | nil =>
    intro B n m hn hm hA hB
    obtain rfl := ex_nil hA
    cases B with
    | nil => simp [lexB]
    | cons y q => have := ex_cons hB; omega
  | cons x r ih =>
    intro B n m hn hm hA hB
    cases B with
    | nil => have := ex_nil hB; have := ex_cons hA; omega
    | cons y q =>
      obtain ⟨a1, a2, a3, a4⟩ := ex_cons hA
      obtain ⟨b1, b2, b3, b4⟩ := ex_cons hB
      rw [plc, plc, lexB]
      by_cases h : x = y
      · subst h
        rw [if_pos rfl, ← ih q (n - x) x (by omega) (by omega) a4 b4]
        exact decide_eq_decide.2 (by omega)
      · rw [if_neg h]
        have pa := plc_bd (by omega) (by omega) a4
        have pb := plc_bd (by omega) (by omega) b4
        have ra := ctZ_rec n x (by omega) a1
        have rb := ctZ_rec n y (by omega) b1
        refine decide_eq_decide.2 ?_
        rcases Int.lt_or_lt_of_ne h with hl | hl
        · have l1 := ctZ_le (n := n) hn (by omega) (show x ≤ y - 1 by omega)
          omega
        · have l1 := ctZ_le (n := n) hn (by omega) (show y ≤ x - 1 by omega)
          omega
theorem plc_lexV {A B : List Int} (ha : valid A = true) (hb : valid B = true) (he : sumL A = sumL B) : decide (plc (sumL A) (sumL A) A < plc (sumL B) (sumL B) B) = lexB A B := by
  have hs := valid_bd ha
  have := ex_valid hb
  rw [← he] at this ⊢
  exact plc_lex A B _ _ (by omega) (by omega) (ex_valid ha) this
end Go.Proofs.Ytmnlmahjgmhdiaa
namespace Go.Proofs.Ytmnlmahjgmhdiaa
open Go.RowKit NP
set_option maxRecDepth 8000
set_option linter.unusedVariables false
set_option linter.unusedSimpArgs false
set_option maxHeartbeats 1000000 in
theorem sameL_any (a b : Option Addr) (ca cb Ba Bb : Nat) (L M : List Int) (hl : L.length ≤ 1000) (w : World) (h : Rd w Ba a (ints L)) (hm : Rd w Bb b (ints M)) (hml : M.length ≤ 1000) :
    Calls Try.prog 76 #[.slice a L.length ca, .slice b M.length cb] w fun e w' => e = .returned (.bool (decide (L = M))) ∧ ∃ n, w' = w.drewN n := by
  by_cases hlen : L.length = M.length
  · have b0 : ((L.length : Int) != (M.length : Int)) = false := by simp [hlen]
    go_enter Try.func76, Try.ntmps76
    go_wp2_with fail
    clear b0
    go_loopw [5] (fun vi wr => ∃ k : Nat, k ≤ L.length ∧ vi = .int .i64 k ∧ Dr w wr ∧ Hid (∀ j, j < k → L.getD j 0 = M.getD j 0)) (fun vi _ => L.length - (intOf vi).toNat)
    case atStart => exact ⟨0, Nat.zero_le _, rfl, Dr.refl _, Lib.hid fun j hj => by omega⟩
    case round =>
      obtain ⟨k, hk, rfl, hdr, HP⟩ := hrel
      by_cases hlt : k < L.length
      · have hlt' : (k : Int) < (L.length : Int) := by omega
        have hltm : k < M.length := by omega
        have hlt'm : (k : Int) < (M.length : Int) := by omega
        obtain ⟨b1, o1, rfl, _, hc⟩ := (h.dr hdr).at_ hlt
        obtain ⟨b2, o2, rfl, _, hc'⟩ := (hm.dr hdr).at_ hltm
        have HG : Hid (L.getD k 0 = L[k]) := Lib.hid (getD_lt hlt)
        have HG' : Hid (M.getD k 0 = M[k]) := Lib.hid (getD_lt hltm)
        by_cases e1 : L[k] = M[k]
        · have HE : Hid (L.getD k 0 = M.getD k 0) := Lib.hid (by rw [HG.out, HG'.out, e1])
          have b1 : (L[k] != M[k]) = false := by simp [e1]
          clear e1 hlen
          generalize L[k] = x at hc HG b1
          generalize M[k] = y at hc' HG' b1
          go_wp2_with fail
          go_quiet (fail)
          go_wp2
          go_roundw
          case rel => exact ⟨k + 1, by omega, by go_num, hdr.drewN _, Lib.hid fun j hj => by
            rcases Nat.lt_or_ge j k with h1 | h1
            · exact HP.out j h1
            · obtain rfl : j = k := by omega
              exact HE.out⟩
          case measure => simp [intOf]; omega
        · have HF : Hid (decide (L = M) = false) := Lib.hid (decide_eq_false fun hc => e1 (by subst hc; rfl))
          have b1 : (L[k] != M[k]) = true := by simpa using e1
          clear e1 hlen
          generalize L[k] = x at hc HG b1
          generalize M[k] = y at hc' HG' b1
          go_wp2_with fail
          go_quiet (fail)
          go_wp2
          go_ret
          exact ⟨ret_bool HF.out.symm, hdr.trans (Dr.n _ _)⟩
      · obtain rfl : k = L.length := by omega
        have HF : Hid (decide (L = M) = true) := Lib.hid (decide_eq_true (List.ext_getElem hlen fun j h1 h2 => by
          have := HP.out j h1
          rwa [getD_lt h1, getD_lt h2] at this))
        clear hlen
        go_wp2
        go_ret
        exact ⟨ret_bool HF.out.symm, hdr⟩
  · have b0 : ((L.length : Int) != (M.length : Int)) = true := by simp; omega
    have HF : Hid (decide (L = M) = false) := Lib.hid (decide_eq_false fun hc => hlen (by rw [hc]))
    clear hlen
    go_enter Try.func76, Try.ntmps76
    go_wp2_with fail
    go_ret
    exact ⟨ret_bool HF.out.symm, 0, rfl⟩
end Go.Proofs.Ytmnlmahjgmhdiaa
namespace Go.Proofs.Ytmnlmahjgmhdiaa
open Go.RowKit NP
set_option maxRecDepth 8000
set_option linter.unusedVariables false

theorem rngYes (n lo hi : Int) (w : World) (h1 : lo ≤ n) (h2 : n ≤ hi) : Calls Try.prog 67 #[.int .i64 n, .int .i64 lo, .int .i64 hi] w fun e w' => e = .returned (.bool true) ∧ w' = w := by
  go_enter Try.func67, Try.ntmps67
  go_wp2
  go_ret
  exact ⟨rfl, rfl⟩
theorem rngNo (n lo hi : Int) (w : World) (h : n < lo ∨ hi < n) : Calls Try.prog 67 #[.int .i64 n, .int .i64 lo, .int .i64 hi] w fun e w' => e = .returned (.bool false) ∧ w' = w := by
  by_cases h1 : lo ≤ n
  · have h2 : hi < n := by omega
    clear h
    go_enter Try.func67, Try.ntmps67
    go_wp2
    go_ret
    exact ⟨ret_bool (by simp; omega), rfl⟩
  · clear h
    go_enter Try.func67, Try.ntmps67
    go_wp2
    go_ret
    exact ⟨rfl, rfl⟩
def inR (n lo hi : Int) : Bool := decide (lo ≤ n) && decide (n ≤ hi)
theorem inRange_any (n lo hi : Int) (w : World) : Calls Try.prog 67 #[.int .i64 n, .int .i64 lo, .int .i64 hi] w fun e w' => e = .returned (.bool (inR n lo hi)) ∧ w = w' := by
  by_cases h : lo ≤ n ∧ n ≤ hi
  · refine (rngYes n lo hi w h.1 h.2).mono ?_
    rintro e w' ⟨rfl, rfl⟩
    exact ⟨ret_bool (by unfold inR; rw [decide_eq_true h.1, decide_eq_true h.2]; rfl), rfl⟩
  · refine (rngNo n lo hi w (by omega)).mono ?_
    rintro e w' ⟨rfl, rfl⟩
    refine ⟨ret_bool ?_, rfl⟩
    unfold inR
    rcases Int.lt_or_le n lo with h1 | h1
    · rw [decide_eq_false (by omega : ¬ lo ≤ n)]; rfl
    · rw [decide_eq_false (by omega : ¬ n ≤ hi)]; simp

theorem countTo_any (m : Nat) : ∀ (n k : Int) (w : World), n.toNat + k.toNat = m → -1000 ≤ n → n ≤ 40 → 0 ≤ k → k ≤ 40 →
    Calls Try.prog 83 #[.int .i64 n, .int .i64 k] w fun e w' => e = .returned (.int .i64 (ctZ n k)) ∧ w = w' := by
  induction m using Nat.strongRecOn with
  | _ m ih =>
    intro n k w hm hn0 hn hk0 hk
    by_cases h0 : n = 0
    · subst h0
      have HZ := Lib.hid (ctZ_zero k)
      clear ih
      go_enter Try.func83, Try.ntmps83
      go_wp2
      go_ret
      exact ⟨ret_i64 HZ.out.symm, rfl⟩
    · have e0 : (n == 0) = false := beq_eq_false_iff_ne.2 h0
      by_cases h1 : n < 0
      · have HZ := Lib.hid (ctZ_neg n k h1)
        clear ih h0
        go_enter Try.func83, Try.ntmps83
        go_wp2
        go_ret
        exact ⟨ret_i64 HZ.out.symm, rfl⟩
      · by_cases h2 : k = 0
        · subst h2
          have HZ := Lib.hid (ctZ_none n (by omega))
          have h1' : 0 ≤ n := by omega
          clear ih h0 h1
          go_enter Try.func83, Try.ntmps83
          go_wp2
          go_ret
          exact ⟨ret_i64 HZ.out.symm, rfl⟩
        · have e2 : (k == 0) = false := beq_eq_false_iff_ne.2 h2
          have h1' : 0 ≤ n := by omega
          have h3 := ctZ_rec n k (by omega) (by omega)
          have b1 := ctZ_bd n (k - 1) hn
          have b2 := ctZ_bd (n - k) k (by omega)
          have HZ := Lib.hid h3
          have i1 := fun w => ih (n.toNat + (k - 1).toNat) (by omega) n (k - 1) w rfl (by omega) hn (by omega) (by omega)
          have i2 := fun w => ih ((n - k).toNat + k.toNat) (by omega) (n - k) k w rfl (by omega) (by omega) hk0 hk
          have hk1 : 1 ≤ k := by omega
          have hn1 : 1 ≤ n := by omega
          clear ih h0 h1 h2 h3 hm
          have I1 := Lib.hid i1
          have I2 := Lib.hid i2
          clear i1 i2
          generalize ctZ n (k - 1) = x at *
          generalize ctZ (n - k) k = y at *
          go_enter Try.func83, Try.ntmps83
          go_wp2_with fail
          refine (I1.out _).mono ?_
          rintro e w1 ⟨rfl, rfl⟩
          go_wp2_with fail
          refine (I2.out _).mono ?_
          rintro e w1 ⟨rfl, rfl⟩
          go_wp2_with fail
          go_ret
          exact ⟨ret_i64 HZ.out.symm, rfl⟩
theorem countTo_at (n k : Int) (w : World) (hn0 : -1000 ≤ n) (hn : n ≤ 40) (hk0 : 0 ≤ k) (hk : k ≤ 40) :
    Calls Try.prog 83 #[.int .i64 n, .int .i64 k] w fun e w' => e = .returned (.int .i64 (ctZ n k)) ∧ w = w' := countTo_any _ n k w rfl hn0 hn hk0 hk

theorem T_info41 : (Try.prog.info? 78).map (·.size) = some 41 := by kernel_rfl
theorem T_index41 (D : List Int) (k : Nat) (hk : k < D.length) (h16 : k < 41) (w : World) : (Instr.index 78 (.agg (arr D)) (.int .i64 k)).run Try.prog w = .ok (.int .i64 D[k]) w :=
  run_index_row 78 3 _ 41 Try.underlying78 Try.underlying3 rfl (by kernel_rfl) (arr D) k _ h16 (arr_get D k hk) .i64 w

theorem withMany_any (D : List Int) (hD : D.length = 41) (p : Nat) (hp : 1 ≤ p) (hp40 : p ≤ 40) (hb : ∀ s, s < 41 → (0 ≤ D.getD s 0 ∧ D.getD s 0 ≤ 1099511627776) ∧ 0 ≤ wv D p s ∧ wv D p s ≤ 1099511627776) (w : World) :
    Calls Try.prog 91 #[.agg (arr D), .int .i64 p] w fun e w' => e = .returned (.agg (arr (wrow D p))) ∧ Below w.heap.size w w' := by
  have HD := Lib.hid hD
  have hi41 : (Try.prog.info? 78).map (·.size) = some (arr D).size := by rw [arr_size, hD]; exact T_info41
  have HB := Lib.hid hb
  clear hD hb
  have hrange : (41 : Int) - (p : Int) = ((41 - p : Nat) : Int) := by omega
  have hb0 := (Blk.new w 78 (arr D)).alloc (.cells (arr (List.replicate 41 0)) 78)
  go_enter Try.func91, Try.ntmps91
  go_wp2
  go_loopw [8] (fun i wr => ∃ l : Nat, l ≤ 41 - p ∧ i = .int .i64 l ∧ Below w.heap.size w wr ∧ Blk wr (w.heap.size + 1) 78 (arr (List.replicate 41 0)) ∧ Blk wr w.heap.size 78 (arr (wmid D p l))) (fun i _ => 41 - (intOf i).toNat)
  case atStart =>
    refine ⟨0, Nat.zero_le _, rfl, ((Below.refl _ _).alloc (Nat.le_refl _) _).alloc (by simp) _, ?_, by rw [wmid_zero HD.out]; exact hb0⟩
    have e := Blk.new (w.alloc (.cells (arr D) 78)) 78 (arr (List.replicate 41 0))
    rw [World.size_alloc] at e
    exact e
  case round =>
    obtain ⟨l, hl, rfl, hbel, hb2, hb3⟩ := hrel
    by_cases hlt : l < 41 - p
    · have hlp : l + p < 41 := by omega
      have hl41 : l < 41 := by omega
      have b1 := (HB.out (l + p) hlp).1
      have b2 := (HB.out l hl41).2
      have hs : D.getD (l + p) 0 + wv D p l = wv D p (l + p) := by rw [wv_high D p (l + p) hp (by omega), Nat.add_sub_cancel]
      have b3 := (HB.out (l + p) hlp).2
      rw [← hs] at b3
      have HSET := Lib.hid (wmid_set D p l hp hlp)
      have hc1 : wr.cell? ⟨w.heap.size, l, none⟩ = some (.int .i64 (wv D p l)) := by rw [hb3.cell l, arr_get _ l (by rw [wmid_len]; exact hl41), wmid_lo D p l hp hl41]
      have hc2 : wr.cell? ⟨w.heap.size, l + p, none⟩ = some (.int .i64 (D.getD (l + p) 0)) := by rw [hb3.cell (l + p), arr_get _ (l + p) (by rw [wmid_len]; exact hlp), wmid_hi D p l hlp]
      have hf2 : wr.frozen? ⟨w.heap.size, l + p, none⟩ = false := hb3.free (l + p)
      have hl41' : (l : Int) < 41 := by omega
      clear hs
      obtain ⟨q, hq⟩ : ∃ q : Nat, q = l + p := ⟨_, rfl⟩
      rw [← hq] at hf2 b1 b3
      have hc2' : wr.cell? ⟨w.heap.size, q, none⟩ = some (.int .i64 (D.getD q 0)) := by rw [hq]; exact hc2
      have HSET' : Hid ((wmid D p l).set q (D.getD q 0 + wv D p l) = wmid D p (l + 1)) := Lib.hid (by rw [hq]; exact HSET.out)
      clear hc2 HSET
      have hw : IntKind.i64.wrap ((l : Int) + (p : Int)) = (q : Int) := by rw [IntWalk.i64_in _ (by omega)]; omega
      have hq41 : (q : Int) < 41 := by omega
      have hq41' : q < 41 := by omega
      clear hq
      generalize D.getD q 0 = x at *
      generalize wv D p l = y at *
      have hw2 : IntKind.i64.wrap (x + y) = x + y := IntWalk.i64_in _ (by omega)
      go_wp2
      go_still_tail 10, (by kernel_rfl)
      change wpList _ _ _ _ _ wr.drew
      have hbel' : Below w.heap.size w wr.drew := hbel.trans ((Dr.n wr 1).below _)
      have hb2' : Blk wr.drew (w.heap.size + 1) 78 (arr (List.replicate 41 0)) := hb2
      have hb3' : Blk wr.drew w.heap.size 78 (arr (wmid D p l)) := hb3
      have hf3 : wr.drew.frozen? ⟨w.heap.size, q, none⟩ = false := hf2
      have hc3 : wr.drew.cell? ⟨w.heap.size, q, none⟩ = some (.int .i64 x) := hc2'
      generalize wr.drew = w2 at *
      clear hbel hb2 hb3
      go_wp2
      go_roundw
      case rel =>
        refine ⟨l + 1, by omega, by go_num, hbel'.setCell (by show w.heap.size ≤ w.heap.size; omega) _, hb2'.off (by show w.heap.size + 1 ≠ w.heap.size; omega) _, ?_⟩
        have e := hb3'.set q (.int .i64 (x + y))
        rw [arr_set, HSET'.out] at e
        exact e
      case measure => simp [intOf]; omega
    · obtain rfl : l = 41 - p := by omega
      have HE := Lib.hid (wmid_end D p (41 - p) (by omega))
      have hi2 : (Try.prog.info? 78).map (·.size) = some (arr (wmid D p (41 - p))).size := by rw [arr_size, wmid_len]; exact T_info41
      have hsz : (arr (wmid D p (41 - p))).size = (arr (List.replicate 41 0)).size := by rw [arr_size, arr_size, wmid_len]; rfl
      go_wp2_with (first | (refine wpList_load_row rfl 78 (.tmp 2) rfl w.heap.size rfl 78 (arr (wmid D p (41 - p))) (0, 0) _ hb3 Try.underlying78 rfl hi2 ?_) | (refine wpList_store_row rfl 78 (.tmp 4) (.tmp 22) rfl (w.heap.size + 1) rfl (arr (wmid D p (41 - p))) rfl 78 _ hb2 hi2 hsz (arr_one _) ?_))
      refine bodyPost_ret (results_cell_row rfl _ _ (w.heap.size + 1) 78 (arr (wmid D p (41 - p))) (0, 0) _ rfl hb2.row Try.underlying78 rfl hi2) rfl ?_
      exact ⟨by rw [HE.out], below_setRow' hbel (by omega) _⟩

theorem crow_bd (k : Nat) : ∀ s, s < 41 → (0 ≤ (crow k).getD s 0 ∧ (crow k).getD s 0 ≤ 1099511627776) ∧ 0 ≤ wv (crow k) (k + 1) s ∧ wv (crow k) (k + 1) s ≤ 1099511627776 := fun s hs => by
  rw [crow_getD k s hs, wv_crow k s hs]
  have := ct_le s k (by omega)
  have := ct_le s (k + 1) (by omega)
  omega

theorem countsBy_any (ff : Nat) (he : ∀ (args : Array Value) (w : World), (callFunc ff args).run Try.prog w = .ok (.enter ff args) w) (R : Nat → List Int) (h0 : R 0 = 1 :: List.replicate 40 0) (hl : ∀ j, (R j).length = 41)
    (k : Nat) (hk : k ≤ 40) (hc : ∀ j : Nat, j < k → ∀ w1 : World, Calls Try.prog ff #[.agg (arr (R j)), .int .i64 ((j : Int) + 1)] w1 fun e w2 => e = .returned (.agg (arr (R (j + 1)))) ∧ Below w1.heap.size w1 w2) (w : World) :
    Calls Try.prog 90 #[.int .i64 k, .func (.func ff) #[] #[]] w fun e w' => e = .returned (.agg (arr (R k))) ∧ Below w.heap.size w w' := by
  have hi0 : (Try.prog.info? 78).map (·.size) = some (arr (1 :: List.replicate 40 0)).size := T_info41
  have hsz0 : (arr (1 :: List.replicate 40 0)).size = (arr (List.replicate 41 0)).size := rfl
  have hb1 : Blk ((w.alloc (.cells (arr (List.replicate 41 0)) 78)).alloc (.cells (arr (List.replicate 41 0)) 78)) (w.heap.size + 1) 78 (arr (List.replicate 41 0)) := by
    have e := Blk.new (w.alloc (.cells (arr (List.replicate 41 0)) 78)) 78 (arr (List.replicate 41 0))
    rw [World.size_alloc] at e
    exact e
  have HC := Lib.hid hc
  have HL := Lib.hid hl
  clear hc hl
  go_enter Try.func90, Try.ntmps90
  go_wp2_with (refine wpList_store_row rfl 78 (.tmp 5) (.tmp 7) rfl (w.heap.size + 1) rfl (arr (1 :: List.replicate 40 0)) rfl 78 _ hb1 hi0 hsz0 (arr_one _) ?_)
  go_loopw [6] (fun i wr => ∃ j : Nat, j ≤ k ∧ i = .int .i64 ((j : Int) + 1) ∧ Below w.heap.size w wr ∧ Blk wr w.heap.size 78 (arr (List.replicate 41 0)) ∧ Blk wr (w.heap.size + 1) 78 (arr (R j))) (fun i _ => 50 - (intOf i).toNat)
  case atStart =>
    refine ⟨0, Nat.zero_le _, rfl, below_setRow' (((Below.refl _ _).alloc (Nat.le_refl _) _).alloc (by simp) _) (by omega) _, ?_, ?_⟩
    · exact ((Blk.new w 78 (arr (List.replicate 41 0))).alloc _).rowOff (by omega)
    · rw [h0]; exact hb1.row
  case round =>
    obtain ⟨j, hj, rfl, hbel, hb2, hb3⟩ := hrel
    have hi2 : (Try.prog.info? 78).map (·.size) = some (arr (R j)).size := by rw [arr_size, HL.out]; exact T_info41
    by_cases hlt : j < k
    · have hlt' : (j : Int) + 1 ≤ (k : Int) := by omega
      have hi3 : (Try.prog.info? 78).map (·.size) = some (arr (R (j + 1))).size := by rw [arr_size, HL.out]; exact T_info41
      have hsz : (arr (R (j + 1))).size = (arr (R j)).size := by rw [arr_size, arr_size, HL.out, HL.out]
      have HCj := Lib.hid (HC.out j hlt)
      go_wp2_with (first
        | (refine wpList_load_row rfl 78 (.tmp 5) rfl (w.heap.size + 1) rfl 78 (arr (R j)) (0, 0) _ hb3 Try.underlying78 rfl hi2 ?_)
        | (with_reducible refine (HCj.out _).mono ?_; rintro e w1 ⟨rfl, hbw⟩; have hb3' : Blk w1 (w.heap.size + 1) 78 (arr (R j)) := hb3.below hbw hb3.lt; have hb2' : Blk w1 w.heap.size 78 (arr (List.replicate 41 0)) := hb2.below hbw hb2.lt; have hbel' : Below w.heap.size w w1 := hbel.trans (hbw.mono hbel.size))
        | (refine wpList_store_row rfl 78 (.tmp 5) (.tmp 16) rfl (w.heap.size + 1) rfl (arr (R (j + 1))) rfl 78 _ hb3' hi3 hsz (arr_one _) ?_))
      go_roundw
      case rel => exact ⟨j + 1, by omega, by go_num, below_setRow' hbel' (by omega) _, hb2'.rowOff (by omega), hb3'.row (vs := arr (R (j + 1)))⟩
      case measure => simp [intOf]; omega
    · obtain rfl : j = k := by omega
      have hlt' : (j : Int) < (j : Int) + 1 := by omega
      have hsz : (arr (R j)).size = (arr (List.replicate 41 0)).size := by rw [arr_size, arr_size, HL.out]; rfl
      go_wp2_with (first
        | (refine wpList_load_row rfl 78 (.tmp 5) rfl (w.heap.size + 1) rfl 78 (arr (R j)) (0, 0) _ hb3 Try.underlying78 rfl hi2 ?_)
        | (refine wpList_store_row rfl 78 (.tmp 4) (.tmp 17) rfl w.heap.size rfl (arr (R j)) rfl 78 _ hb2 hi2 hsz (arr_one _) ?_))
      refine bodyPost_ret (results_cell_row rfl _ _ w.heap.size 78 (arr (R j)) (0, 0) _ rfl hb2.row Try.underlying78 rfl hi2) rfl ?_
      exact ⟨rfl, below_setRow' hbel (Nat.le_refl _) _⟩

theorem countsUpTo_any (k : Nat) (hk : k ≤ 40) (w : World) :
    Calls Try.prog 86 #[.int .i64 k] w fun e w' => e = .returned (.agg (arr (crow k))) ∧ Below w.heap.size w w' := by
  have H := Lib.hid (countsBy_any 91 (enters_of Try.func91 (by kernel_rfl) rfl) crow crow_zero crow_len k hk (fun j hj w1 => by
    have h := withMany_any (crow j) (crow_len j) (j + 1) (by omega) (by omega) (crow_bd j) w1
    rw [wrow_crow] at h
    exact h))
  have hic : (Try.prog.info? 78).map (·.size) = some (arr (crow k)).size := by rw [arr_size, crow_len]; exact T_info41
  have hsz : (arr (crow k)).size = (arr (List.replicate 41 0)).size := by rw [arr_size, arr_size, crow_len]; rfl
  have hb0 := Blk.new w 78 (arr (List.replicate 41 0))
  have hbel0 : Below w.heap.size w (w.alloc (.cells (arr (List.replicate 41 0)) 78)) := (Below.refl _ _).alloc (Nat.le_refl _) _
  go_enter Try.func86, Try.ntmps86
  go_wp2_with (first
    | (go_at_call 90; refine (H.out _).mono ?_; rintro e w1 ⟨rfl, hb⟩; have hb0' := hb0.below hb hb0.lt; have hbel1 := hbel0.trans (hb.mono hbel0.size))
    | (refine wpList_store_row rfl 78 (.tmp 2) (.tmp 4) rfl w.heap.size rfl (arr (crow k)) rfl 78 _ hb0' hic hsz (arr_one _) ?_))
  refine bodyPost_ret (results_cell_row rfl _ _ w.heap.size 78 (arr (crow k)) (0, 0) _ rfl hb0'.row Try.underlying78 rfl hic) rfl ?_
  exact ⟨rfl, below_setRow' hbel1 (Nat.le_refl _) _⟩
end Go.Proofs.Ytmnlmahjgmhdiaa
