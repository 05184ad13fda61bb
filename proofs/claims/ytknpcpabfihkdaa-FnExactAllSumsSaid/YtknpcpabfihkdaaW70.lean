/-
  Walks: the model's LinkSums.
-/
import Derived.Test.YtknpcpabfihkdaaW69
import Derived.StillTailTactics
namespace Go.Proofs.Ytknpcpabfihkdaa
open Go.RowKit NP
set_option linter.unusedVariables false
theorem same_belowS {P : Program} {f : FuncId} {args : Array Value} {w : World} {v : Value} (h : Calls P f args w fun e w' => e = .returned v ∧ w = w') : Calls P f args w fun e w' => e = .returned v ∧ Below w.heap.size w w' := h.mono fun _ _ ⟨a, b⟩ => ⟨a, b ▸ Below.refl _ _⟩
theorem lnk_snoc (c d : List Int) (x : Int) (near : Bool) (h : d ≠ []) : lnk c (d ++ [x]) near = lnk c d near ++ [x] := by
  unfold lnk
  by_cases hc : near = true ∧ c ≠ []
  · rw [if_pos ⟨hc.1, hc.2, by simp⟩, if_pos ⟨hc.1, hc.2, h⟩]
    cases d with
    | nil => exact absurd rfl h
    | cons y r => simp [addHd]
  · rw [if_neg (fun hh => hc ⟨hh.1, hh.2.1⟩), if_neg (fun hh => hc ⟨hh.1, hh.2.1⟩), List.append_assoc]
theorem lnk_far (c : List Int) (x : Int) (near : Bool) (h : ¬ (near = true ∧ c ≠ [])) : lnk c [x] near = c ++ [x] := by
  unfold lnk
  rw [if_neg (fun hh => h ⟨hh.1, hh.2.1⟩)]
theorem lnk_near (c : List Int) (x : Int) (h : 0 < c.length) : lnk c [x] true = c.set (c.length - 1) (c[c.length - 1]'(by omega) + x) := by
  have hne : c ≠ [] := List.length_pos_iff.1 h
  unfold lnk
  rw [if_pos ⟨rfl, hne, by simp⟩]
  have e := List.dropLast_concat_getLast hne
  have hl : c.getLastD 0 = c[c.length - 1]'(by omega) := by rw [List.getLastD_eq_getLast?, List.getLast?_eq_some_getLast hne, Option.getD_some, List.getLast_eq_getElem]
  have hl2 : c.getLast hne = c[c.length - 1]'(by omega) := List.getLast_eq_getElem _
  rw [hl]
  conv => rhs; rw [show c.set (c.length - 1) (c[c.length - 1]'(by omega) + x) = (c.dropLast ++ [c.getLast hne]).set (c.length - 1) (c[c.length - 1]'(by omega) + x) by rw [e]]
  rw [List.set_append_right _ _ (by simp)]
  simp [addHd]
theorem lnk_length (c d : List Int) (near : Bool) : (lnk c d near).length ≤ c.length + d.length := by
  unfold lnk
  split
  · rename_i h
    cases d with
    | nil => exact absurd rfl h.2.2
    | cons y r => simp [addHd] <;> omega
  · simp
set_option maxHeartbeats 1600000 in
theorem sLinkSums_any (a b : Option Addr) (ca cb Ba Bb : Nat) (L M : List Int) (near : Bool) (w : World) (h : Rd w Ba a (ints L)) (hm : Rd w Bb b (ints M)) (hB : Ba ≤ w.heap.size) (hB2 : Bb ≤ w.heap.size) (hl : L.length ≤ 4611686018427387904) (hl2 : M.length ≤ 4611686018427387904) :
    Calls Try.prog 36 #[.slice a L.length ca, .slice b M.length cb, .bool near] w fun e w' => ∃ a' c', e = .returned (.tuple #[.slice a' (lnkF L M near).length c', .bool (lnkOk L M)]) ∧ Own w' w.heap.size w'.heap.size 3 (.slice a' (lnkF L M near).length c') (ints (lnkF L M near)) ∧ Below w.heap.size w w' := by
  cases hv1 : vsm L with
  | true =>
    have HV1 := Lib.hid hv1
    cases hv2 : vsm M with
    | true =>
      have HV2 := Lib.hid hv2
      have hb1 := vsm_bd hv1
      have hb2 := vsm_bd hv2
      have HS1 := Lib.hid (fun w h => sum_any a ca Ba L w h (vsm_sumFits hv1) hl)
      have HS2 := Lib.hid (fun w h => sum_any b cb Bb M w h (vsm_sumFits hv2) hl2)
      by_cases hs : sumL L + sumL M ≤ 16
      · have hok : lnkOk L M = true := lnkOk_iff.2 ⟨hv1, hv2, hs⟩
        have HF := Lib.hid (lnkF_yes hok near)
        have HO := Lib.hid hok
        have hlL := hb1.2.2.2
        have hlM := hb2.2.2.2
        have s1 := hb1.1
        have s2 := hb2.1
        have s3 := hb1.2.1
        have s4 := hb2.2.1
        obtain ⟨i0, hi, hz0, hz1, hz2⟩ := T_int'
        clear hok hv1 hv2 hb1 hb2
        go_enter Try.func36, Try.ntmps36
        go_wp2_with (first | (go_at_call 50; (with_reducible refine (validSums_any _ _ Ba L _ h hl).mono ?_); rintro e w' ⟨rfl, rfl⟩; rw [HV1.out]) | (go_at_call 50; (with_reducible refine (validSums_any _ _ Bb M _ hm hl2).mono ?_); rintro e w' ⟨rfl, rfl⟩; rw [HV2.out]) | (go_at_call 58; (with_reducible refine (HS1.out _ h).mono ?_); rintro e w' ⟨rfl, rfl⟩) | (go_at_call 58; (with_reducible refine (HS2.out _ hm).mono ?_); rintro e w' ⟨rfl, rfl⟩) | (at_builtin; go_loud (refine wpList_append_o _ rfl (.tmp 26) (.tmp 27) 22 rfl w.heap.size (w.heap.size + 1) 3 i0 (.int .i64 0) 8 Try.underlying22 hi hz0 hz1 hz2 rfl _ [] rfl (Own.empty w 3) Ba a L.length ca (ints L) rfl (h.alloc hB _) (by simp) (ints_one _) (by unfold maxLen; simp; omega) (by simp; omega) (by simp) ?_); intro v1 w1 ho1 hg1 hat1; go_loud (have hbe : Below w.heap.size w w1 := below_push (Below.refl _ _) (Nat.le_refl _) hg1 (Own.empty w 3).base); go_loud (clear hg1 hat1)))
        go_loopw [8, 9] (fun v i wr => ∃ k : Nat, k ≤ M.length ∧ i = .int .i64 k ∧ Below w.heap.size w wr ∧ ∃ out, Hid (out = lnk L (M.take k) near) ∧ Own wr w.heap.size wr.heap.size 3 v (ints out)) (fun _ i _ => M.length - (intOf i).toNat)
        case atStart => exact ⟨0, Nat.zero_le _, rfl, hbe, L, Lib.hid (lnk_nil_right L near).symm, by simpa using ho1⟩
        case round =>
          obtain ⟨k, hk, rfl, hbel, out, HOUT, hown⟩ := hrel
          clear ho1 hbe
          have hbs := hbel.size
          have hll := lnk_length L (M.take k) near
          rw [← HOUT.out] at hll
          have hol : out.length ≤ 32 := by have := List.length_take_le k M; omega
          obtain ⟨vs, hvs⟩ : ∃ vs, vs = ints out := ⟨_, rfl⟩
          have hlv : vs.length ≤ 32 := by rw [hvs]; simpa using hol
          have HVS := Lib.hid hvs
          rw [← hvs] at hown
          clear hvs hll
          by_cases hlt : k < M.length
          · have hR := (hm.more hB2).below hbel
            obtain ⟨b1, o1, rfl, hbB, hc0⟩ := hR.at_ hlt
            by_cases hA : k = 0 ∧ near = true ∧ 0 < L.length
            · obtain ⟨rfl, rfl, hL⟩ := hA
              have hc0' : wr.cell? ⟨b1, o1, none⟩ = some (.int .i64 M[0]) := hc0
              have e0 : out = L := by rw [HOUT.out]; exact lnk_nil_right L true
              subst e0
              have hx : vs = ints out := HVS.out
              rw [hx] at hown
              obtain ⟨g, cc, rfl, hlo, hhi, hcl, hfl⟩ := hown.at_ (k := out.length - 1) (by simp; omega)
              have hcl' : wr.cell? ⟨g, out.length - 1, none⟩ = some (.int .i64 (out[out.length - 1]'(by omega))) := by rw [hcl]; simp
              obtain ⟨j, hj⟩ : ∃ j, j = out.length - 1 := ⟨_, rfl⟩
              have hjo : out.length = j + 1 := by omega
              have HN : Hid (lnk out (M.take 1) true = out.set j (out[j]'(by omega) + M[0])) := Lib.hid (by
                have : M.take 1 = [M[0]] := by rw [List.take_succ_eq_append_getElem hlt]; rfl
                rw [this, lnk_near out _ hL]; simp only [hj])
              have hx1 := (vsm_iff.1 HV1.out).1 (out[j]'(by omega)) (List.getElem_mem _)
              have hx2 := (vsm_iff.1 HV2.out).1 M[0] (List.getElem_mem _)
              have hx3 := sumL_take_succ out j (by omega)
              have hx4 := vsm_bd (vsm_take HV1.out j)
              have hx5 := vsm_bd (vsm_take HV1.out (j + 1))
              have hx6 := vsm_bd (vsm_take HV2.out 1)
              rw [sumL_take_succ M 0 hlt] at hx6
              simp only [← hj] at hcl' hfl
              obtain ⟨x, hxe⟩ : ∃ x, x = out[j]'(by omega) := ⟨_, rfl⟩
              obtain ⟨y, hye⟩ : ∃ y, y = M[0] := ⟨_, rfl⟩
              rw [← hxe] at hcl' hx1 hx3 HN
              rw [← hye] at hc0' hx2 hx6 HN
              have hsb : 0 ≤ x + y ∧ x + y ≤ 32 := by simp [sumL] at hx6; omega
              obtain ⟨q, hq, e1⟩ : ∃ q : Int, x + y = q ∧ IntKind.i64.wrap (x + y) = q := ⟨_, rfl, IntWalk.i64_in _ (by omega)⟩
              rw [hq] at HN
              have hlj : (ints out).length = j + 1 := by simp [hjo]
              have hN1 : IntKind.i64.wrap (((out.length : Nat) : Int) - 1) = (j : Int) := by rw [IntWalk.i64_in _ (by omega)]; omega
              have HO1 := Lib.hid hown
              have hne : b1 ≠ g ∨ b1 = g := by omega
              have hjl : j < out.length := by omega
              have HJO := Lib.hid hjo
              have HLJ := Lib.hid hlj
              clear hx3 hx4 hx5 hx6 hx1 hx2 hxe hye hsb hq hown hc0 hcl hx hjo hlj hj hne hlv hol
              go_wp2_with fail
              go_still_tail 15, (by kernel_rfl)
              change wpList _ _ _ _ _ wr.drew
              have hbel' : Below w.heap.size w wr.drew := hbel.trans ((Dr.n wr 1).below _)
              have hO' : Hid (Own wr.drew w.heap.size wr.drew.heap.size 3 (.slice (some ⟨g, 0, none⟩) (ints out).length cc) (ints out)) := Lib.hid HO1.out.drew
              have hf3 : wr.drew.frozen? ⟨g, j, none⟩ = false := hfl
              have hc3 : wr.drew.cell? ⟨g, j, none⟩ = some (.int .i64 x) := hcl'
              generalize wr.drew = w2 at *
              clear hbel
              go_wp2
              go_roundw
              case rel =>
                refine ⟨0 + 1, by omega, by go_num, hbel'.setCell (by exact hlo) _, out.set j q, Lib.hid HN.out.symm, ?_⟩
                have e := (hO'.out.set j (.int .i64 q)).more
                have e2 : (ints out).set j (.int .i64 q) = ints (out.set j q) := by simp [ints, List.map_set]
                rw [e2] at e
                simpa using e
              case measure => simp [intOf] <;> omega
            · have HN : Hid (lnk L (M.take (k + 1)) near = lnk L (M.take k) near ++ [M[k]]) := Lib.hid (by
                rw [List.take_succ_eq_append_getElem hlt]
                by_cases h0 : k = 0
                · subst h0
                  rw [List.take_zero, List.nil_append, lnk_nil_right, lnk_far _ _ _ (fun hh => hA ⟨rfl, hh.1, List.length_pos_iff.2 hh.2⟩)]
                · exact lnk_snoc _ _ _ _ (by intro e; have := congrArg List.length e; rw [List.length_take, List.length_nil] at this; omega))
              have HO1 := Lib.hid hown
              clear hown
              have hcase : (((k : Int) == 0) = false) ∨ (((k : Int) == 0) = true ∧ near = false) ∨ (((k : Int) == 0) = true ∧ near = true ∧ L.length = 0) := by
                by_cases h0 : k = 0
                · right
                  subst h0
                  cases near with
                  | false => left; exact ⟨rfl, rfl⟩
                  | true => right; exact ⟨rfl, rfl, by have : ¬ 0 < L.length := fun hh => hA ⟨rfl, rfl, hh⟩; omega⟩
                · left; exact beq_eq_false_iff_ne.2 (by omega)
              clear hA
              rcases hcase with e1 | ⟨e1, rfl⟩ | ⟨e1, rfl, e2⟩
              · go_wp2_with (at_builtin; (refine wpList_append_o _ rfl (.tmp 60) (.tmp 65) 22 rfl w.heap.size wr.heap.size 3 i0 (.int .i64 0) 8 Try.underlying22 hi hz0 hz1 hz2 rfl _ vs rfl (HO1.out.alloc _) (wr.heap.size + 1) (some ⟨wr.heap.size, 0, none⟩) 1 1 [.int .i64 M[k]] rfl (Rd.one _ _ _) rfl (by simp; rfl) (by unfold maxLen; omega) (by omega) (by simp; omega) ?_); intro v' w2 ho2 hg2 hat2)
                go_roundw
                case rel =>
                  refine ⟨k + 1, by omega, by go_num, below_push hbel (Nat.le_refl _) hg2 HO1.out.base, lnk L (M.take (k + 1)) near, Lib.hid rfl, ?_⟩
                  rw [HVS.out, HOUT.out] at ho2
                  rw [HN.out]
                  simpa [ints] using ho2
                case measure => simp [intOf] <;> omega
              · go_wp2_with (at_builtin; (refine wpList_append_o _ rfl (.tmp 60) (.tmp 65) 22 rfl w.heap.size wr.heap.size 3 i0 (.int .i64 0) 8 Try.underlying22 hi hz0 hz1 hz2 rfl _ vs rfl (HO1.out.alloc _) (wr.heap.size + 1) (some ⟨wr.heap.size, 0, none⟩) 1 1 [.int .i64 M[k]] rfl (Rd.one _ _ _) rfl (by simp; rfl) (by unfold maxLen; omega) (by omega) (by simp; omega) ?_); intro v' w2 ho2 hg2 hat2)
                go_roundw
                case rel =>
                  refine ⟨k + 1, by omega, by go_num, below_push hbel (Nat.le_refl _) hg2 HO1.out.base, lnk L (M.take (k + 1)) false, Lib.hid rfl, ?_⟩
                  rw [HVS.out, HOUT.out] at ho2
                  rw [HN.out]
                  simpa [ints] using ho2
                case measure => simp [intOf] <;> omega
              · have e3 : ¬ 0 < L.length := by omega
                clear e2
                go_wp2_with (at_builtin; (refine wpList_append_o _ rfl (.tmp 60) (.tmp 65) 22 rfl w.heap.size wr.heap.size 3 i0 (.int .i64 0) 8 Try.underlying22 hi hz0 hz1 hz2 rfl _ vs rfl (HO1.out.alloc _) (wr.heap.size + 1) (some ⟨wr.heap.size, 0, none⟩) 1 1 [.int .i64 M[k]] rfl (Rd.one _ _ _) rfl (by simp; rfl) (by unfold maxLen; omega) (by omega) (by simp; omega) ?_); intro v' w2 ho2 hg2 hat2)
                go_roundw
                case rel =>
                  refine ⟨k + 1, by omega, by go_num, below_push hbel (Nat.le_refl _) hg2 HO1.out.base, lnk L (M.take (k + 1)) true, Lib.hid rfl, ?_⟩
                  rw [HVS.out, HOUT.out] at ho2
                  rw [HN.out]
                  simpa [ints] using ho2
                case measure => simp [intOf] <;> omega
          · obtain rfl : k = M.length := by omega
            obtain ⟨a', c', rfl⟩ := hown.form
            have HE : Hid (out = lnkF L M near) := Lib.hid (by rw [HOUT.out, HF.out, List.take_of_length_le (Nat.le_refl _)])
            have HO1 := Lib.hid hown
            clear hown
            go_wp2
            go_ret2
            have e : vs = ints (lnkF L M near) := by rw [HVS.out, HE.out]
            have el : vs.length = (lnkF L M near).length := by rw [e]; simp
            have h1 := HO1.out
            rw [e] at h1
            rw [HO.out]
            exact ⟨a', c', by rw [← el]; rfl, by simpa using h1, hbel⟩
      · have hno : lnkOk L M = false := by
          cases hh : lnkOk L M with
          | false => rfl
          | true => exact absurd (lnkOk_iff.1 hh).2.2 hs
        have HF := Lib.hid (lnkF_no hno near)
        have HO := Lib.hid hno
        have hs' : 16 < sumL L + sumL M := by omega
        have s3 := hb1.2.1
        have s4 := hb2.2.1
        clear hno hs hv1 hv2 hb1 hb2
        go_enter Try.func36, Try.ntmps36
        go_wp2_with (first | (go_at_call 50; (with_reducible refine (validSums_any _ _ Ba L _ h hl).mono ?_); rintro e w' ⟨rfl, rfl⟩; rw [HV1.out]) | (go_at_call 50; (with_reducible refine (validSums_any _ _ Bb M _ hm hl2).mono ?_); rintro e w' ⟨rfl, rfl⟩; rw [HV2.out]) | (go_at_call 58; (with_reducible refine (HS1.out _ h).mono ?_); rintro e w' ⟨rfl, rfl⟩) | (go_at_call 58; (with_reducible refine (HS2.out _ hm).mono ?_); rintro e w' ⟨rfl, rfl⟩))
        go_ret2
        rw [HF.out, HO.out]
        exact ⟨none, 0, rfl, Own.nil _ _ _, Below.refl _ _⟩
    | false =>
      have HV2 := Lib.hid hv2
      have hno : lnkOk L M = false := by unfold lnkOk; rw [hv1, hv2]; rfl
      have HF := Lib.hid (lnkF_no hno near)
      have HO := Lib.hid hno
      clear hno hv1 hv2
      go_enter Try.func36, Try.ntmps36
      go_wp2_with (first | (go_at_call 50; (with_reducible refine (validSums_any _ _ Ba L _ h hl).mono ?_); rintro e w' ⟨rfl, rfl⟩; rw [HV1.out]) | (go_at_call 50; (with_reducible refine (validSums_any _ _ Bb M _ hm hl2).mono ?_); rintro e w' ⟨rfl, rfl⟩; rw [HV2.out]))
      go_ret2
      rw [HF.out, HO.out]
      exact ⟨none, 0, rfl, Own.nil _ _ _, Below.refl _ _⟩
  | false =>
    have HV1 := Lib.hid hv1
    have hno : lnkOk L M = false := by unfold lnkOk; rw [hv1]; rfl
    have HF := Lib.hid (lnkF_no hno near)
    have HO := Lib.hid hno
    clear hno hv1
    go_enter Try.func36, Try.ntmps36
    go_wp2_with (first | (go_at_call 50; (with_reducible refine (validSums_any _ _ Ba L _ h hl).mono ?_); rintro e w' ⟨rfl, rfl⟩; rw [HV1.out]))
    go_ret2
    rw [HF.out, HO.out]
    exact ⟨none, 0, rfl, Own.nil _ _ _, Below.refl _ _⟩
end Go.Proofs.Ytknpcpabfihkdaa
