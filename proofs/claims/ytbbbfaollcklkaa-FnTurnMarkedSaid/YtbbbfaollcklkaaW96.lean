/-
  Walks of the model: marked parts: valid, split.
-/
import Derived.Test.YtbbbfaollcklkaaM47
import Derived.Test.YtbbbfaollcklkaaW1
import Derived.Test.YtbbbfaollcklkaaL1
import Derived.Test.YtbbbfaollcklkaaW8
import Derived.Deep.QuietTactic
import Derived.BigQuiet
namespace Go.Proofs.Ytbbbfaollcklkaa
open Go.RowKit NP
set_option maxRecDepth 100000
set_option linter.unusedVariables false
set_option linter.unusedSimpArgs false
theorem boolRe {w : World} {B : Nat} {a : Option Addr} {bs : List Bool} (h : Rd w B a (bls bs)) {k : Nat} (hk : k < bs.length) : ∃ b o, a = some ⟨b, o, none⟩ ∧ b < B ∧ w.cell? ⟨b, o + k, none⟩ = some (.bool bs[k]) := by
  obtain ⟨b, o, h1, h2, h3⟩ := h (fun e => by
    have h0 : bs.length = 0 := by simpa using congrArg List.length e
    omega)
  exact ⟨b, o, h1, h2, h3 k _ (by simp [hk])⟩
theorem isC_eq {L : List Int} (h : valid L = true) {k : Nat} (hk : k + 1 < L.length) : isC L k = !(L[k]'(by omega) == L[k + 1]) := by
  have h1 := (preS_of_valid h (k + 1) hk hk).2.2 (by omega)
  simp only [Nat.add_sub_cancel] at h1
  unfold isC
  rw [decide_eq_false (by omega), Bool.false_or, getD_lt hk, getD_lt (by omega)]
  by_cases e : L[k]'(by omega) = L[k + 1]
  · rw [decide_eq_false (by omega), beq_iff_eq.2 e]; rfl
  · rw [decide_eq_true (by omega), beq_eq_false_iff_ne.2 e]; rfl
theorem isC_end {L : List Int} {k : Nat} (hk : k + 1 = L.length) : isC L k = true := by unfold isC; rw [decide_eq_true hk]; rfl
set_option maxHeartbeats 4000000 in
theorem validMarked_any (a1 a2 : Option Addr) (c1 c2 B1 B2 : Nat) (L : List Int) (bs : List Bool) (w : World) (h1 : Rd w B1 a1 (ints L)) (h2 : Rd w B2 a2 (bls bs)) (hB1 : B1 ≤ w.heap.size) (hB2 : B2 ≤ w.heap.size) (hl1 : L.length ≤ 4611686018427387904) (hl2 : bs.length ≤ 4611686018427387904) :
    Calls Try.prog 38 #[.agg #[.slice a1 L.length c1, .slice a2 bs.length c2]] w fun e w' => e = .returned (.bool (vmk L bs)) ∧ Below w.heap.size w w' := by
  have hA0 : Below w.heap.size w (w.alloc (.cells #[.slice a1 L.length c1, .slice a2 bs.length c2] 28)) := (Below.refl _ _).alloc (Nat.le_refl _) _
  have hx0 := Blk.new w 28 #[.slice a1 L.length c1, .slice a2 bs.length c2]
  obtain ⟨W, hW⟩ : ∃ W, w.alloc (.cells #[.slice a1 L.length c1, .slice a2 bs.length c2] 28) = W := ⟨_, rfl⟩
  rw [hW] at hA0 hx0
  have m1' : ∀ n, (W.drewN n).cell? ⟨w.heap.size, 0, none⟩ = some (.slice a1 L.length c1) := fun n => hx0.cell 0
  have m2' : ∀ n, (W.drewN n).cell? ⟨w.heap.size, 1, none⟩ = some (.slice a2 bs.length c2) := fun n => hx0.cell 1
  have m10 : W.cell? ⟨w.heap.size, 0, none⟩ = some (.slice a1 L.length c1) := m1' 0
  have m20 : W.cell? ⟨w.heap.size, 1, none⟩ = some (.slice a2 bs.length c2) := m2' 0
  have M1 := Lib.hid m1'
  have M2 := Lib.hid m2'
  have H1 := Lib.hid ((h1.more hB1).below hA0)
  have H2 := Lib.hid ((h2.more hB2).below hA0)
  have HC := Lib.hid (validParts_any a1 c1 w.heap.size L W H1.out hl1)
  clear h1 h2 hx0
  obtain ⟨v, hv⟩ : ∃ v, v = valid L := ⟨_, rfl⟩
  rw [← hv] at HC
  cases v with
  | false =>
    have HF : Hid (vmk L bs = false) := Lib.hid (vmk_badL hv.symm)
    clear hv
    go_enter Try.func38, Try.ntmps38
    go_wp2_with (go_at_call 53; refine HC.out.mono ?_; rintro e w1 ⟨rfl, n1, rfl⟩)
    go_ret
    exact ⟨ret_bool HF.out.symm, hA0.trans ((Dr.n W n1).below _)⟩
  | true =>
    have HV := Lib.hid hv.symm
    have hl16 := (valid_bd hv.symm).2.2.2
    clear hv
    by_cases hlen : bs.length = L.length
    · have hne : ((bs.length : Int) != (L.length : Int)) = false := by simp [hlen]
      have HLEN := Lib.hid hlen
      have hb16 : bs.length ≤ 16 := by omega
      clear hlen
      go_enter Try.func38, Try.ntmps38
      go_wp2_with (go_at_call 53; refine HC.out.mono ?_; rintro e w1 ⟨rfl, n1, rfl⟩)
      clear hne m10 m20 m1' m2'
      go_loopw [3] (fun i wr => ∃ k : Nat, k ≤ L.length ∧ i = .int .i64 k ∧ Dr W wr ∧ Hid (∀ j, j < k → j + 1 < L.length → mkC L bs j = true)) (fun i _ => 20 - (intOf i).toNat)
      case atStart => exact ⟨0, Nat.zero_le _, rfl, Dr.n W n1, Lib.hid fun j hj => by omega⟩
      case round =>
        obtain ⟨k, hk, rfl, hdr, HP⟩ := hrel
        have q1 : wr.cell? ⟨w.heap.size, 0, none⟩ = some (.slice a1 L.length c1) := by obtain ⟨n, rfl⟩ := hdr; exact M1.out n
        have q2 : wr.cell? ⟨w.heap.size, 1, none⟩ = some (.slice a2 bs.length c2) := by obtain ⟨n, rfl⟩ := hdr; exact M2.out n
        by_cases hlt : k + 1 < L.length
        · have hlt' : (k : Int) + 1 < (L.length : Int) := by omega
          have hk1 : k < L.length := by omega
          have hk1i : (k : Int) < (L.length : Int) := by omega
          have hkb : k < bs.length := by have := HLEN.out; omega
          have hkbi : (k : Int) < (bs.length : Int) := by omega
          have hw1 : IntKind.i64.wrap ((k : Int) + 1) = (k : Int) + 1 := IntWalk.i64_in _ (by omega)
          have hk0 : (0 : Int) ≤ (k : Int) + 1 := by omega
          obtain ⟨b2, o2, rfl, -, hc2⟩ := boolRe (H2.out.dr hdr) hkb
          have HMK : Hid (mkC L bs k = (!bs[k] || isC L k)) := Lib.hid (by unfold mkC; rw [List.getD_eq_getElem?_getD, List.getElem?_eq_getElem hkb]; rfl)
          have HIE := Lib.hid (isC_eq HV.out hlt)
          have HPJ : Hid (mkC L bs k = true → ∀ j, j < k + 1 → j + 1 < L.length → mkC L bs j = true) := Lib.hid (fun h j hj hj2 => by
            rcases Nat.lt_or_ge j k with h1 | h1
            · exact HP.out j h1 hj2
            · rw [show j = k by omega]; exact h)
          obtain ⟨b1, o1, e1, -, hc1⟩ := (H1.out.dr hdr).at_ hk1
          obtain ⟨b3, o3, e3, -, hc3⟩ := (H1.out.dr hdr).at_ hlt
          subst e1
          injection e3 with e3; injection e3 with e4 e5; subst e4 e5
          have HB := Lib.hid (vmk_badC (L := L) (bs := bs) hk1)
          generalize L[k] = x at *
          generalize L[k + 1] = y at *
          obtain ⟨m, hm⟩ : ∃ m, m = bs[k] := ⟨_, rfl⟩
          rw [← hm] at hc2 HMK
          clear hm
          cases m with
          | false =>
            have HOK := Lib.hid (HPJ.out (by rw [HMK.out]; rfl))
            clear hc1 hc3
            go_wp2_with fail
            go_quiet (fail)
            go_wp2_with fail
            go_roundw
            case rel => exact ⟨k + 1, by omega, by go_num, hdr.drewN _, HOK⟩
            case measure => simp [intOf]; omega
          | true =>
            by_cases hxy : x = y
            · have hbe : (x == y) = true := beq_iff_eq.2 hxy
              have HF : Hid (vmk L bs = false) := Lib.hid (HB.out (by rw [HMK.out, HIE.out, hbe]; rfl))
              clear hxy
              go_wp2_with fail
              go_quiet (fail)
              go_wp2_with fail
              go_ret
              exact ⟨ret_bool HF.out.symm, hA0.trans ((hdr.drewN _).below _)⟩
            · have hbe : (x == y) = false := beq_eq_false_iff_ne.2 hxy
              have HOK := Lib.hid (HPJ.out (by rw [HMK.out, HIE.out, hbe]; rfl))
              clear hxy
              go_wp2_with fail
              go_quiet (fail)
              go_wp2_with fail
              go_roundw
              case rel => exact ⟨k + 1, by omega, by go_num, hdr.drewN _, HOK⟩
              case measure => simp [intOf]; omega
        · have hge : ¬ (k : Int) + 1 < (L.length : Int) := by omega
          have HF : Hid (vmk L bs = true) := Lib.hid (vmk_iff.2 ⟨HV.out, HLEN.out, fun i hi => by
            rcases Nat.lt_or_ge (i + 1) L.length with h9 | h9
            · exact HP.out i (by omega) h9
            · unfold mkC; rw [isC_end (by omega)]; simp⟩)
          clear hlt
          go_wp2_with fail
          go_ret
          exact ⟨ret_bool HF.out.symm, hA0.trans (hdr.below _)⟩
    · have hne : ((bs.length : Int) != (L.length : Int)) = true := by simpa using fun h => hlen (by omega)
      have HF : Hid (vmk L bs = false) := Lib.hid (vmk_badN hlen)
      clear hlen
      go_enter Try.func38, Try.ntmps38
      go_wp2_with (go_at_call 53; refine HC.out.mono ?_; rintro e w1 ⟨rfl, n1, rfl⟩)
      go_ret
      exact ⟨ret_bool HF.out.symm, hA0.trans ((Dr.n W n1).below _)⟩
theorem sValidMarked_any (a1 a2 : Option Addr) (c1 c2 B1 B2 : Nat) (L : List Int) (bs : List Bool) (w : World) (h1 : Rd w B1 a1 (ints L)) (h2 : Rd w B2 a2 (bls bs)) (hB1 : B1 ≤ w.heap.size) (hB2 : B2 ≤ w.heap.size) (hl1 : L.length ≤ 4611686018427387904) (hl2 : bs.length ≤ 4611686018427387904) :
    Calls Try.prog 12 #[.agg #[.slice a1 L.length c1, .slice a2 bs.length c2]] w fun e w' => e = .returned (.bool (vmk L bs)) ∧ Below w.heap.size w w' := by
  have hA0 : Below w.heap.size w (w.alloc (.cells #[.slice a1 L.length c1, .slice a2 bs.length c2] 28)) := (Below.refl _ _).alloc (Nat.le_refl _) _
  have HC := Lib.hid (validMarked_any a1 a2 c1 c2 w.heap.size w.heap.size L bs _ ((h1.more hB1).below hA0) ((h2.more hB2).below hA0) (by simp) (by simp) hl1 hl2)
  go_enter Try.func12, Try.ntmps12
  go_wp2_with (go_at_call 38; refine HC.out.mono ?_; rintro e w1 ⟨rfl, hb1⟩)
  go_ret
  exact ⟨rfl, hA0.trans (hb1.mono (by simp))⟩
set_option maxHeartbeats 4000000 in
theorem sSplitMarked_any (a1 a2 : Option Addr) (c1 c2 B1 B2 : Nat) (L : List Int) (bs : List Bool) (w : World) (h1 : Rd w B1 a1 (ints L)) (h2 : Rd w B2 a2 (bls bs)) (hB1 : B1 ≤ w.heap.size) (hB2 : B2 ≤ w.heap.size) (hl1 : L.length ≤ 4611686018427387904) (hl2 : bs.length ≤ 4611686018427387904) :
    Calls Try.prog 20 #[.agg #[.slice a1 L.length c1, .slice a2 bs.length c2]] w fun e w' => ∃ aT cT aF cF, e = .returned (.tuple #[.slice aT (selF true L bs).length cT, .slice aF (selF false L bs).length cF]) ∧ Own w' w.heap.size w'.heap.size 3 (.slice aT (selF true L bs).length cT) (ints (selF true L bs)) ∧ Own w' w.heap.size w'.heap.size 3 (.slice aF (selF false L bs).length cF) (ints (selF false L bs)) ∧ Below w.heap.size w w' := by
  have hA0 : Below w.heap.size w (w.alloc (.cells #[.slice a1 L.length c1, .slice a2 bs.length c2] 28)) := (Below.refl _ _).alloc (Nat.le_refl _) _
  have hx0 := Blk.new w 28 #[.slice a1 L.length c1, .slice a2 bs.length c2]
  have HC := Lib.hid (validMarked_any a1 a2 c1 c2 w.heap.size w.heap.size L bs _ ((h1.more hB1).below hA0) ((h2.more hB2).below hA0) (by simp) (by simp) hl1 hl2)
  obtain ⟨i0, hi, hy0, hy1, hy2⟩ := T_int'
  have h1b := h1.more hB1
  have h2b := h2.more hB2
  obtain ⟨v, hv⟩ : ∃ v, v = vmk L bs := ⟨_, rfl⟩
  rw [← hv] at HC
  cases v with
  | false =>
    have HN1 := Lib.hid (selF_no (b := true) hv.symm)
    have HN2 := Lib.hid (selF_no (b := false) hv.symm)
    clear hv
    go_enter Try.func20, Try.ntmps20
    go_wp2_with (go_at_call 38; refine HC.out.mono ?_; rintro e w1 ⟨rfl, hb1⟩)
    go_ret2
    rw [HN1.out, HN2.out]
    exact ⟨none, 0, none, 0, rfl, Own.nil _ _ _, Own.nil _ _ _, hA0.trans (hb1.mono (by simp))⟩
  | true =>
    have hvm := vmk_iff.1 hv.symm
    have HY1 := Lib.hid (selF_yes (b := true) hv.symm)
    have HY2 := Lib.hid (selF_yes (b := false) hv.symm)
    have HLEN := Lib.hid hvm.2.1
    have hl16 := (valid_bd hvm.1).2.2.2
    have hb16 : bs.length ≤ 16 := by omega
    clear hv hvm
    go_enter Try.func20, Try.ntmps20
    go_wp2_with (go_at_call 38; refine HC.out.mono ?_; rintro e w1 ⟨rfl, hb1⟩)
    have hbe1 := hA0.trans (hb1.mono (by simp))
    have hx1 := hx0.below hb1 hx0.lt
    have hz1 := hb1.size
    rw [World.size_alloc] at hz1
    have hb2 : Below w1.heap.size w1 ((w1.alloc (.cells #[] 3)).alloc (.cells #[] 3)) := ((Below.refl _ _).alloc (Nat.le_refl _) _).alloc (by simp) _
    obtain ⟨lo0, hlo⟩ : ∃ lo0, lo0 = w1.heap.size := ⟨_, rfl⟩
    have he1 := own_empty1 (lo := lo0) w1 3 (by omega)
    have he2 := own_empty2 (lo := lo0) w1 3 (.cells #[] 3) (by omega)
    have HE1 := Lib.hid ((he1.alloc (.cells #[] 3)).more)
    have HE2 := Lib.hid he2.more
    have HLO := Lib.hid hlo
    rw [← hlo] at hz1
    clear hlo he1 he2 hx0 hA0
    go_loopw [4, 5, 6] (fun vT vF i wr => ∃ k : Nat, k ≤ L.length ∧ i = .int .i64 k ∧ Below lo0 w1 wr ∧ Own wr lo0 wr.heap.size 3 vT (ints (sel true L bs k)) ∧ Own wr lo0 wr.heap.size 3 vF (ints (sel false L bs k)) ∧ (∀ g, vT.ownBlock = some g → vF.ownBlock = some g → False)) (fun _ _ i _ => 20 - (intOf i).toNat)
    case atStart => exact ⟨0, Nat.zero_le _, rfl, by rw [HLO.out]; exact hb2, HE1.out, HE2.out, fun g hg hg2 => by simp [Value.ownBlock] at hg hg2; omega⟩
    case round =>
      clear hb2
      obtain ⟨k, hk, rfl, hbel, hoT, hoF, hap⟩ := hrel
      have HAP := Lib.hid hap
      have hlo0 : lo0 ≤ w1.heap.size := by rw [HLO.out]; exact Nat.le_refl _
      have hbs : lo0 ≤ wr.heap.size := by have := hbel.size; omega
      have hxr : Blk wr w.heap.size 28 #[.slice a1 L.length c1, .slice a2 bs.length c2] := hx1.below hbel (by omega)
      have q1 : wr.cell? ⟨w.heap.size, 0, none⟩ = some (.slice a1 L.length c1) := hxr.cell 0
      have q2 : wr.cell? ⟨w.heap.size, 1, none⟩ = some (.slice a2 bs.length c2) := hxr.cell 1
      have hbw : Below w.heap.size w wr := hbe1.trans (hbel.mono (by omega))
      clear hap hxr
      by_cases hlt : k < L.length
      · have hlt' : (k : Int) < (L.length : Int) := by omega
        have hkb : k < bs.length := by have := HLEN.out; omega
        have hkbi : (k : Int) < (bs.length : Int) := by omega
        obtain ⟨b1, o1, rfl, -, hc1⟩ := (h1b.below hbw).at_ hlt
        obtain ⟨b2, o2, rfl, -, hc2⟩ := boolRe (h2b.below hbw) hkb
        have HX : Hid (L.getD k 0 = L[k]) := Lib.hid (getD_lt hlt)
        have HMK0 : Hid (bs.getD k false = bs[k]) := Lib.hid (by rw [List.getD_eq_getElem?_getD, List.getElem?_eq_getElem hkb]; rfl)
        generalize L[k] = x at hc1 HX
        generalize bs[k] = m at hc2 HMK0
        have HMK : Hid (bs.getD k false = m) := Lib.hid HMK0.out
        clear HMK0 hbw
        cases m with
          | true =>
            have HS1 : Hid (sel true L bs (k + 1) = sel true L bs k ++ [x]) := Lib.hid (by rw [sel_succ, if_pos HMK.out, HX.out])
            have HS2 : Hid (sel false L bs (k + 1) = sel false L bs k) := Lib.hid (by rw [sel_succ, if_neg (by rw [HMK.out]; simp), List.append_nil])
            have HOT := Lib.hid hoT
            have HOF := Lib.hid hoF
            have hlv : (ints (sel true L bs k)).length ≤ 16 := by rw [List.length_map]; have := sel_len true L bs k; omega
            clear hoT hoF
            generalize hgs : ints (sel true L bs k) = A at HOT hlv
            have HGS := Lib.hid hgs
            clear hgs
            go_wp2_with (at_builtin; refine wpList_append_o _ rfl (.tmp 24) (.tmp 30) 22 rfl lo0 wr.heap.size 3 i0 (.int .i64 0) 8 Try.underlying22 hi hy0 hy1 hy2 rfl _ (A) rfl (HOT.out.alloc _) (wr.heap.size + 1) (some ⟨wr.heap.size, 0, none⟩) 1 1 [.int .i64 x] rfl (Rd.one wr _ _) rfl (by simp; rfl) (by unfold maxLen; omega) (by omega) (by simp; omega) ?_; intro v' w2 ho1 hg1 hat1)
            go_roundw
            case rel =>
              have hg2 : (wr.alloc (.cells #[.int .i64 x] 3)).grownBy w2 u4.ownBlock := hg1
              have hat2 : v'.ownBlock = u4.ownBlock ∨ v'.ownBlock = some (wr.alloc (.cells #[.int .i64 x] 3)).heap.size := hat1
              have hof : Own w2 lo0 w2.heap.size 3 u5 (ints (sel false L bs (k + 1))) := by
                rw [HS2.out]
                exact ((HOF.out.alloc (.cells #[.int .i64 x] 3)).grown hg2 (by
                  cases hb : Value.ownBlock u5 with
                  | none => exact .inl rfl
                  | some g => exact .inr fun e => HAP.out g e.symm hb)).more
              have hot : Own w2 lo0 w2.heap.size 3 v' (ints (sel true L bs (k + 1))) := by
                rw [HS1.out, ints, List.map_append, ← ints, HGS.out]
                exact ho1
              refine ⟨k + 1, by omega, by go_num, below_push hbel hlo0 hg1 HOT.out.base, hot, hof, fun g hgT hgF => ?_⟩
              rcases hat2 with e | e
              · rw [e] at hgT
                exact HAP.out g hgT hgF
              · rw [e] at hgT
                have h5 := HOF.out.lt g hgF
                simp at hgT
                omega
            case measure => simp [intOf] <;> omega
          | false =>
            have HS1 : Hid (sel false L bs (k + 1) = sel false L bs k ++ [x]) := Lib.hid (by rw [sel_succ, if_pos HMK.out, HX.out])
            have HS2 : Hid (sel true L bs (k + 1) = sel true L bs k) := Lib.hid (by rw [sel_succ, if_neg (by rw [HMK.out]; simp), List.append_nil])
            have HOT := Lib.hid hoF
            have HOF := Lib.hid hoT
            have hlv : (ints (sel false L bs k)).length ≤ 16 := by rw [List.length_map]; have := sel_len false L bs k; omega
            clear hoT hoF
            generalize hgs : ints (sel false L bs k) = A at HOT hlv
            have HGS := Lib.hid hgs
            clear hgs
            go_wp2_with (at_builtin; refine wpList_append_o _ rfl (.tmp 32) (.tmp 38) 22 rfl lo0 wr.heap.size 3 i0 (.int .i64 0) 8 Try.underlying22 hi hy0 hy1 hy2 rfl _ (A) rfl (HOT.out.alloc _) (wr.heap.size + 1) (some ⟨wr.heap.size, 0, none⟩) 1 1 [.int .i64 x] rfl (Rd.one wr _ _) rfl (by simp; rfl) (by unfold maxLen; omega) (by omega) (by simp; omega) ?_; intro v' w2 ho1 hg1 hat1)
            go_roundw
            case rel =>
              have hg2 : (wr.alloc (.cells #[.int .i64 x] 3)).grownBy w2 u5.ownBlock := hg1
              have hat2 : v'.ownBlock = u5.ownBlock ∨ v'.ownBlock = some (wr.alloc (.cells #[.int .i64 x] 3)).heap.size := hat1
              have hof : Own w2 lo0 w2.heap.size 3 u4 (ints (sel true L bs (k + 1))) := by
                rw [HS2.out]
                exact ((HOF.out.alloc (.cells #[.int .i64 x] 3)).grown hg2 (by
                  cases hb : Value.ownBlock u4 with
                  | none => exact .inl rfl
                  | some g => exact .inr fun e => HAP.out g hb e.symm)).more
              have hot : Own w2 lo0 w2.heap.size 3 v' (ints (sel false L bs (k + 1))) := by
                rw [HS1.out, ints, List.map_append, ← ints, HGS.out]
                exact ho1
              refine ⟨k + 1, by omega, by go_num, below_push hbel hlo0 hg1 HOT.out.base, hof, hot, fun g hgT hgF => ?_⟩
              rcases hat2 with e | e
              · rw [e] at hgF
                exact HAP.out g hgT hgF
              · rw [e] at hgF
                have h5 := HOF.out.lt g hgT
                simp at hgF
                omega
            case measure => simp [intOf] <;> omega
      · obtain rfl : k = L.length := by omega
        obtain ⟨aT, cT, rfl⟩ := hoT.form
        obtain ⟨aF, cF, rfl⟩ := hoF.form
        rw [List.length_map] at hoT hoF
        rw [List.length_map, List.length_map] at HAP
        have HOT := Lib.hid hoT
        have HOF := Lib.hid hoF
        simp only [List.length_map]
        clear hoT hoF
        go_wp2_with fail
        go_ret2
        rw [HY1.out, HY2.out]
        exact ⟨aT, cT, aF, cF, rfl, HOT.out.lower (by omega), HOF.out.lower (by omega), hbw⟩
end Go.Proofs.Ytbbbfaollcklkaa
