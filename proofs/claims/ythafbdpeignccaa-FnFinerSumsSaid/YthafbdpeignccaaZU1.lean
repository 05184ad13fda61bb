/-
  Walks: the draws of chapter 4. Walks of the model: inside, dominance, meets, joins. Plain mathematics of orders: the promises of inside, dominance and joins. Plain mathematics of piles: rows of parts on each other, turned, and in layers. Walks: the draw of Refines. Walks: the draws of summands.
-/
import Derived.Test.YthafbdpeignccaaZR1
import Derived.Test.YthafbdpeignccaaZR2
import Derived.Test.YthafbdpeignccaaZR3
import Derived.Test.YthafbdpeignccaaZR4
import Derived.Test.YthafbdpeignccaaZR5
import Derived.Test.YthafbdpeignccaaZR6
import Derived.Test.YthafbdpeignccaaZR7
import Derived.Test.YthafbdpeignccaaZR8
import Derived.Test.YthafbdpeignccaaZR9
import Derived.Test.YthafbdpeignccaaZR10
namespace Go.Proofs.Ythafbdpeignccaa
open Go.RowKit NP
set_option maxRecDepth 8000
set_option linter.unusedVariables false
set_option linter.unusedSimpArgs false


set_option maxHeartbeats 400000 in
theorem partsOfV_any (g q : Nat) (n : Int) (bs : List Int) (w : World) (hn0 : 0 ≤ n) (hn : n ≤ 16) (hq : q ≤ 900000) (h : Rdr w g bs q) :
    Calls Try.prog 73 #[.pointer (some ⟨g, 0, none⟩), .int .i64 n] w fun e w' => ∃ a' c' M, e = .returned (.slice a' M.length c') ∧ Own w' w.heap.size w'.heap.size 3 (.slice a' M.length c') (ints M) ∧ valid M = true ∧ (∃ q', q' ≤ q + 32 ∧ Rdr w' g bs q') ∧ w.grownBy w' (some g) := by
  obtain ⟨i0, hi, hz0, hz1, hz2⟩ := T_int'
  have hlt := h.lt
  go_enter Try.func73, Try.ntmps73
  go_wp2_with fail
  go_loopw [1, 5] (fun nn v wr => ∃ (m : Nat) (q' : Nat) (M : List Int), nn = .int .i64 (m : Int) ∧ M.length + m ≤ 16 ∧ q' + 2 * m ≤ q + 32 ∧ Rdr wr g bs q' ∧ w.grownBy wr (some g) ∧ Own wr w.heap.size wr.heap.size 3 v (ints M) ∧ Hid ((∀ x ∈ M, 1 ≤ x ∧ x ≤ 16) ∧ sumL M + (m : Int) ≤ 16)) (fun nn _ _ => (intOf nn).toNat)
  case atStart =>
    obtain ⟨m, rfl⟩ := Int.eq_ofNat_of_zero_le hn0
    exact ⟨m, q, [], rfl, by simp; omega, by omega, h.below ((Below.refl _ _).alloc hlt _), World.grownBy_alloc w _ _, (Own.empty w 3).more, Lib.hid ⟨by simp, by simp [sumL]; omega⟩⟩
  case round =>
    obtain ⟨m, q', M, rfl, hMm, hqm, hr, hg, hown, HM⟩ := hrel
    by_cases hm : 0 < m
    · have hm' : (0 : Int) < (m : Int) := by omega
      have hltr := hr.lt
      have HO := Lib.hid hown
      clear hown
      go_wp2_with fail
      refine (one_any g q' _ _ _ [3, 5, 9, 2, 16] bs _ (by simp) (by simp) (by omega) (hr.below ((Below.refl _ _).alloc hltr _)) (rd_new wr _ _) (by intro b o e; injection e with e; injection e with e; omega)).mono ?_
      rintro e w1 ⟨k, hk, rfl, h1, hg1, -⟩
      have hx : ∀ x ∈ ([3, 5, 9, 2, 16] : List Int), 2 ≤ x ∧ x ≤ 16 := by decide
      have hx1 := hx _ (List.getElem_mem hk)
      obtain ⟨x, hxx⟩ : ∃ x, x = ([3, 5, 9, 2, 16] : List Int)[k] := ⟨_, rfl⟩
      rw [← hxx] at hx1 ⊢
      clear hx hxx hk
      have hzr := hg.size
      have HO1 := Lib.hid ((HO.out.alloc (.cells (ints [3, 5, 9, 2, 16]).toArray 3)).chg hg1 (by omega)).more
      have hgw1 := chg_trans (chg_alloc hg (.cells (ints [3, 5, 9, 2, 16]).toArray 3)) hg1
      clear hg1 HO
      go_wp2_with fail
      all_goals
        refine (pick_any g _ _ bs _ (by omega) (by omega) h1).mono ?_
        rintro e w2 ⟨y, rfl, hy0, hy1, h2, hg2, -⟩
        obtain ⟨y, rfl⟩ := Int.eq_ofNat_of_zero_le hy0
        have hym : y + 1 ≤ m := by have := hy1 (by omega); omega
        clear hy1
        have hown2 := (HO1.out.chg hg2 (by omega)).more
        have hgw2 := chg_trans hgw1 hg2
        have hzw2 := hgw2.size
        clear hgw1 hg2 HO1
        go_wp2_with (at_builtin; refine wpList_append_o _ rfl (.tmp 18) (.tmp 20) 22 rfl w.heap.size w2.heap.size 3 i0 (.int .i64 0) 8 Try.underlying22 hi hz0 hz1 hz2 rfl _ (ints M) rfl (hown2.alloc _) (w2.heap.size + 1) (some ⟨w2.heap.size, 0, none⟩) 1 1 [.int .i64 (1 + (y : Int))] rfl (Rd.one w2 _ _) rfl (by simp; rfl) (by simp; unfold maxLen; omega) (by simp; omega) (by simp; omega) ?_; intro v' w3 ho3 hg3 hat3)
        go_roundw
        case rel =>
          refine ⟨m - (1 + y), q' + 2, M ++ [1 + (y : Int)], by go_num, by simp; omega, by omega, (h2.row (World.grownBy_alloc w2 _ none) (by simp)).row hg3 (fun k hk => by have := hown2.base k hk; omega), chg_row (chg_alloc hgw2 _) hg3 hown2.base, by simpa [ints] using ho3, Lib.hid ⟨fun x hx => ?_, ?_⟩⟩
          · simp at hx
            rcases hx with hx | hx
            · exact HM.out.1 x hx
            · omega
          · have := HM.out.2
            rw [sumL_append]
            simp [sumL]
            omega
        case measure => simp [intOf]; omega
    · obtain rfl : m = 0 := by omega
      obtain ⟨a0, c0, rfl⟩ := hown.form
      have hs : SmallParts M := ⟨by omega, HM.out.1⟩
      have HS : Hid (valid (mrg M) = true) := Lib.hid (valid_mono (mrg_mono M) (fun x hx => (HM.out.1 x (mrg_mem hx)).1) (by rw [mrg_sum]; have := HM.out.2; omega))
      have hlM : (ints M).length = M.length := by simp
      rw [hlM] at hown ⊢
      have HO := Lib.hid hown
      clear hown hlM
      go_wp2_with fail
      refine (merge_any _ _ _ M _ HO.out.rd (by omega) (by have := hs.1; omega)).mono ?_
      rintro e w1 ⟨a', c', rfl, ho1, hb1⟩
      go_wp2_with fail
      go_ret
      exact ⟨a', c', mrg M, rfl, ho1.lower hg.size, HS.out, ⟨q', by omega, hr.below (hb1.mono hr.lt)⟩, chg_below hg (hb1.mono hg.size)⟩

theorem keep_offD {w w1 : World} {lo : Nat} {e : TypeId} {v : Value} {vs : List Value} {o : Obj} {n c : Nat} (h : Own w lo w.heap.size e v vs) (hg : (w.alloc o).grownBy w1 (Value.slice (some ⟨w.heap.size, 0, none⟩) n c).ownBlock) : Own w1 lo w1.heap.size e v vs :=
  ((h.alloc o).grown hg (by
    cases hb : v.ownBlock with
    | none => exact .inl rfl
    | some g => exact .inr fun e => by have := h.lt g hb; simp [Value.ownBlock] at e; omega)).more
theorem small_of_parts' {M : List Int} (h : SmallParts M) : Small M := ⟨by have := h.1; omega, fun x hx => by have := h.2 x hx; omega⟩
theorem small_of_valid {M : List Int} (h : valid M = true) : Small M := by
  have hb := valid_bd h
  refine ⟨by omega, fun x hx => ?_⟩
  obtain ⟨k, hk, rfl⟩ := List.getElem_of_mem hx
  have := preS_of_valid h k hk hk
  omega

set_option maxHeartbeats 2000000 in
theorem samePairs_any (g q : Nat) (bs : List Int) (w : World) (hq : q ≤ 600000) (h : Rdr w g bs q) :
    Calls Try.prog 83 #[.pointer (some ⟨g, 0, none⟩)] w fun e w' => ∃ a1 c1 M1 a2 c2 M2, e = .returned (.tuple #[.slice a1 M1.length c1, .slice a2 M2.length c2]) ∧ Own w' w.heap.size w'.heap.size 3 (.slice a1 M1.length c1) (ints M1) ∧ Own w' w.heap.size w'.heap.size 3 (.slice a2 M2.length c2) (ints M2) ∧ Small M1 ∧ Small M2 ∧ w.grownBy w' (some g) := by
  obtain ⟨i0, hi, hk0, hk1, hk2⟩ := T_int'
  have hlt := h.lt
  go_enter Try.func83, Try.ntmps83
  go_wp2_with fail
  refine (sumFor_any g q bs _ (by omega) h).mono ?_
  rintro e w1 ⟨n, rfl, hn, h1, hg1⟩
  have hz1 := hg1.size
  go_wp2_with fail
  refine (partsOfV_any g _ n bs _ hn.1 hn.2 (by omega) h1).mono ?_
  rintro e w2 ⟨a1, c1, M1, rfl, ho1, hv1, ⟨q2, hq2, h2⟩, hg2⟩
  have hG2 := chg_trans hg1 hg2
  replace ho1 := ho1.lower hz1
  have hs1 := small_of_valid hv1
  have HV := Lib.hid hv1
  clear hg1 hg2 h1 hv1
  have HO := Lib.hid ho1
  clear ho1
  go_wp2_with fail
  refine (pick_any g _ _ bs _ (by omega) (by omega) h2).mono ?_
  rintro e w3 ⟨z, rfl, hz0', -, h3, hg3, -⟩
  have ho1 := (HO.out.chg hg3 hlt).more
  have hG3 := chg_trans hG2 hg3
  have hz3 := hG3.size
  clear HO hG2 hg3 h2
  have HO := Lib.hid ho1
  clear ho1
  by_cases hz : z = 0
  · have b0 : (z == 0) = true := beq_iff_eq.2 hz
    clear hz
    go_wp2_with fail
    refine (someParts_grown g _ bs _ (by omega) h3).mono ?_
    rintro e w4 ⟨a2, c2, M2, rfl, ho2, hs2, -, hg4⟩
    have ho1 := (HO.out.chg hg4 hlt).more
    have hG4 := chg_trans hG3 hg4
    have HO2 := Lib.hid (ho2.lower hz3)
    have HO1 := Lib.hid ho1
    clear hg4 hG3 ho1 ho2 HO
    go_wp2_with fail
    go_ret2
    exact ⟨a1, c1, M1, a2, c2, M2, rfl, HO1.out, HO2.out, hs1, hs2, hG4⟩
  · have b0 : (z == 0) = false := beq_eq_false_iff_ne.2 hz
    clear hz
    by_cases hz : z = 1
    · have b1 : (z == 1) = true := beq_iff_eq.2 hz
      clear hz
      go_wp2_with fail
      refine (sconjugate_any _ _ _ M1 _ HO.out.rd HO.out.le HV.out).mono ?_
      rintro e w4 ⟨a2, c2, rfl, ho2, hb4⟩
      have ho1 := (HO.out.below (hb4.mono HO.out.le)).more
      have hG4 := chg_below hG3 (hb4.mono hz3)
      have HO2 := Lib.hid (ho2.lower hz3)
      have HO1 := Lib.hid ho1
      have hs2 := small_of_valid (valid_conj HV.out)
      clear hb4 hG3 ho1 ho2 HO
      go_wp2_with fail
      go_ret2
      exact ⟨a1, c1, M1, a2, c2, conj M1, rfl, HO1.out, HO2.out, hs1, hs2, hG4⟩
    · have b1 : (z == 1) = false := beq_eq_false_iff_ne.2 hz
      clear hz
      by_cases hz : z = 2
      · have b2 : (z == 2) = true := beq_iff_eq.2 hz
        have hM1l := hs1.1
        have HLM : Hid (M1.length = (ints M1).length) := Lib.hid (by simp)
        clear hz
        have e0 := (Own.empty w3 3).lower (lo' := w.heap.size) hz3
        go_wp2_with (at_builtin; refine wpList_append_o _ rfl (.tmp 26) (.tmp 27) 22 rfl w.heap.size (w3.heap.size + 1) 3 i0 (.int .i64 0) 8 Try.underlying22 hi hk0 hk1 hk2 rfl _ [] rfl e0 _ a1 M1.length c1 (ints M1) rfl ((HO.out.alloc _).rd) HLM.out (ints_one _) (by simp only [List.length_nil, Nat.zero_add]; unfold maxLen; omega) (by simp only [List.length_nil, Nat.zero_add]; omega) (by simp; omega) ?_; intro v' w4 ho4 hg4 hat4; rw [List.nil_append] at ho4; obtain ⟨a2, c2, rfl⟩ := ho4.form; rw [List.length_map] at ho4 ⊢)
        go_ret2
        exact ⟨a1, c1, M1, a2, c2, M1, rfl, keep_offD HO.out hg4, ho4, hs1, hs1, chg_row (chg_alloc hG3 _) hg4 e0.base⟩
      · have b2 : (z == 2) = false := beq_eq_false_iff_ne.2 hz
        clear hz
        go_wp2_with fail
        refine (partsOfV_any g _ n bs _ hn.1 hn.2 (by omega) h3).mono ?_
        rintro e w4 ⟨a2, c2, M2, rfl, ho2, hv2, -, hg4⟩
        have ho1 := (HO.out.chg hg4 hlt).more
        have hG4 := chg_trans hG3 hg4
        have HO2 := Lib.hid (ho2.lower hz3)
        have HO1 := Lib.hid ho1
        have hs2 := small_of_valid hv2
        clear hg4 hG3 ho1 ho2 HO
        go_wp2_with fail
        go_ret2
        exact ⟨a1, c1, M1, a2, c2, M2, rfl, HO1.out, HO2.out, hs1, hs2, hG4⟩




end Go.Proofs.Ythafbdpeignccaa
namespace Go.Proofs.Ythafbdpeignccaa
open Go.RowKit NP
set_option maxRecDepth 8000
set_option linter.unusedVariables false
set_option linter.unusedSimpArgs false
theorem ins_no {P Q : List Int} {k : Nat} (h : P.getD k 0 < Q.getD k 0) : ins P Q = false := by
  cases hh : ins P Q with
  | false => rfl
  | true => have := (ins_iff.1 hh).2.2 k; omega
theorem sumTo_bd {L : List Int} (hv : valid L = true) (k : Nat) : 0 ≤ sumTo L k ∧ sumTo L k ≤ 16 := by
  rw [sumTo_take]
  have := valid_bd (valid_take hv k)
  omega
theorem dom_no {P Q : List Int} {k : Nat} (hk : k ≤ 16) (h : sumTo P k < sumTo Q k) : dom P Q = false := by
  cases hh : dom P Q with
  | false => rfl
  | true => have := (dom_iff.1 hh).2.2.2 k hk; omega
theorem dom_yes {P Q : List Int} (hp : valid P = true) (hq : valid Q = true) {n : Nat} (h1 : P.length ≤ n) (h2 : Q.length ≤ n) (h : ∀ j, j ≤ n → sumTo Q j ≤ sumTo P j) : dom P Q = (sumL P == sumL Q) := by
  rw [Bool.eq_iff_iff, dom_iff, beq_iff_eq]
  constructor
  · rintro ⟨_, _, hs, _⟩; exact hs
  · intro hs
    refine ⟨hp, hq, hs, fun k _ => ?_⟩
    rcases Nat.lt_or_ge k n with hk | hk
    · exact h k (by omega)
    · rw [sumTo_all P k (by omega), sumTo_all Q k (by omega), hs]; exact Int.le_refl _
theorem mt_at {P Q : List Int} {n : Nat} (h1 : P.length ≤ n) (h2 : Q.length ≤ n) (hn : n ≤ 16) : tr (mi P Q) n = mt P Q := by
  unfold NP.mt
  refine (tr_more hn fun i hi => ?_).symm
  unfold mi mf
  simp only [sumTo]
  rw [getD_ge (by omega), getD_ge (by omega)]
  omega
def oneS' (P Q : List Int) : Bool := valid P && valid Q && (sumL P == sumL Q)
def mtF (P Q : List Int) : List Int := if oneS' P Q then mt P Q else []
def jnF (P Q : List Int) : List Int := if oneS' P Q then jn P Q else []
theorem oneS_out {P Q : List Int} (h : oneS' P Q = true) : valid P = true ∧ valid Q = true ∧ sumL P = sumL Q := by
  unfold oneS' at h
  simp only [Bool.and_eq_true, beq_iff_eq] at h
  exact ⟨h.1.1, h.1.2, h.2⟩
theorem mtF_yes {P Q : List Int} (h : oneS' P Q = true) : mtF P Q = mt P Q := by simp [mtF, h]
theorem mtF_no {P Q : List Int} (h : oneS' P Q = false) : mtF P Q = [] := by simp [mtF, h]
theorem jnF_yes {P Q : List Int} (h : oneS' P Q = true) : jnF P Q = jn P Q := by simp [jnF, h]
theorem jnF_no {P Q : List Int} (h : oneS' P Q = false) : jnF P Q = [] := by simp [jnF, h]
theorem mtF_len (P Q : List Int) : (mtF P Q).length ≤ 16 := by
  cases h : oneS' P Q with
  | true => rw [mtF_yes h]; obtain ⟨h1, h2, _⟩ := oneS_out h; exact (valid_bd (valid_mt h1 h2)).2.2.2
  | false => rw [mtF_no h]; simp
theorem jnF_len (P Q : List Int) : (jnF P Q).length ≤ 16 := by
  cases h : oneS' P Q with
  | true => rw [jnF_yes h]; obtain ⟨h1, h2, _⟩ := oneS_out h; exact (valid_bd (valid_jn h1 h2)).2.2.2
  | false => rw [jnF_no h]; simp



end Go.Proofs.Ythafbdpeignccaa
namespace Go.Proofs.Ythafbdpeignccaa
open NP
set_option linter.unusedVariables false
theorem ins_conj_le {P Q : List Int} (h : ins P Q = true) : ins (conj P) (conj Q) = true := by
  obtain ⟨hp, hq, hk⟩ := ins_iff.1 h
  refine ins_iff.2 ⟨valid_conj hp, valid_conj hq, fun j => ?_⟩
  rw [conj_getD hp, conj_getD hq]
  have hb := cnt_bd ((j : Int) + 1) Q
  have hb2 := cnt_bd ((j : Int) + 1) P
  obtain ⟨m, hm⟩ := Int.eq_ofNat_of_zero_le hb.1
  rw [hm]
  by_cases h0 : m = 0
  · subst h0; simpa using hb2.1
  · have hl : m - 1 < Q.length := by have := hb.2; omega
    have h1 := (cnt_ge_iff hq hl ((j : Int) + 1)).1 (by rw [hm]; omega)
    have h2 := hk (m - 1)
    rw [getD_lt hl] at h2
    have hlp : m - 1 < P.length := by
      rcases Nat.lt_or_ge (m - 1) P.length with h3 | h3
      · exact h3
      · rw [getD_ge h3] at h2; omega
    rw [getD_lt hlp] at h2
    have h3 := (cnt_ge_iff hp hlp ((j : Int) + 1)).2 (by omega)
    omega
theorem ins_conj {P Q : List Int} (hp : valid P = true) (hq : valid Q = true) : ins (conj P) (conj Q) = ins P Q := by
  rw [Bool.eq_iff_iff]
  refine ⟨fun h => ?_, ins_conj_le⟩
  have := ins_conj_le h
  rwa [conj_conj hp, conj_conj hq] at this
theorem ins_sum {P Q : List Int} (h : ins P Q = true) : sumL Q ≤ sumL P := by
  obtain ⟨hp, hq, hk⟩ := ins_iff.1 h
  have key : ∀ n, sumTo Q n ≤ sumTo P n := by
    intro n
    induction n with
    | zero => exact Int.le_refl _
    | succ n ih => have := hk n; rw [sumTo, sumTo]; omega
  have := key 16
  rwa [sumTo_all Q 16 (valid_bd hq).2.2.2, sumTo_all P 16 (valid_bd hp).2.2.2] at this
theorem dom_self {P : List Int} (hp : valid P = true) : dom P P = true := dom_iff.2 ⟨hp, hp, rfl, fun _ _ => Int.le_refl _⟩
theorem dom_anti {P Q : List Int} (h : dom P Q = true) : dom Q P = decide (P = Q) := by
  obtain ⟨hp, hq, hs, hk⟩ := dom_iff.1 h
  rw [Bool.eq_iff_iff, decide_eq_true_eq]
  constructor
  · intro h2
    have hk2 := (dom_iff.1 h2).2.2.2
    exact eq_of_sumTo hp hq fun k hk' => by have := hk k hk'; have := hk2 k hk'; omega
  · rintro rfl; exact dom_self hp
theorem dom_ne {P Q : List Int} (hp : valid P = true) (h : dom P Q = false) : decide (P = Q) = false := by
  rw [decide_eq_false_iff_not]
  rintro rfl
  rw [dom_self hp] at h
  cases h
theorem oneS_conj {P Q : List Int} (h : oneS' P Q = true) : oneS' (conj P) (conj Q) = true := by
  obtain ⟨hp, hq, hs⟩ := oneS_out h
  unfold oneS'
  rw [valid_conj hp, valid_conj hq, sumL_conj hp, sumL_conj hq, hs]
  simp
theorem dom_mt {P Q : List Int} (hp : valid P = true) (hq : valid Q = true) (hs : sumL P = sumL Q) : dom P (NP.mt P Q) = true := by
  refine dom_iff.2 ⟨hp, valid_mt hp hq, ?_, fun k hk => ?_⟩
  · rw [sum_mt hp hq]; omega
  · rw [sumTo_mt hp hq hk]; unfold mf; omega
theorem jn_facts {P Q : List Int} (h : oneS' P Q = true) : dom (jn P Q) P = true ∧ dom (jn P Q) Q = true ∧ oneS' P (jn P Q) = true ∧ mtF P (jn P Q) = P ∧ mtF (conj P) (conj Q) = conj (jn P Q) := by
  obtain ⟨hp, hq, hs⟩ := oneS_out h
  have hj := valid_jn hp hq
  have hcs : sumL (conj P) = sumL (conj Q) := by rw [sumL_conj hp, sumL_conj hq, hs]
  have hcj : conj (jn P Q) = NP.mt (conj P) (conj Q) := conj_conj (valid_mt (valid_conj hp) (valid_conj hq))
  have d1 : dom (jn P Q) P = true := by rw [← dom_conj hj hp, hcj]; exact dom_mt (valid_conj hp) (valid_conj hq) hcs
  have d2 : dom (jn P Q) Q = true := by rw [← dom_conj hj hq, hcj, mt_comm]; exact dom_mt (valid_conj hq) (valid_conj hp) hcs.symm
  have ho : oneS' P (jn P Q) = true := by
    unfold oneS'
    rw [hp, hj, (dom_iff.1 d1).2.2.1]
    simp
  refine ⟨d1, d2, ho, ?_, ?_⟩
  · rw [mtF_yes ho, mt_comm]
    exact (mt_right hj hp).2 (dom_iff.1 d1).2.2.2
  · rw [mtF_yes (oneS_conj h), hcj]
theorem oneS_comm (P Q : List Int) : oneS' P Q = oneS' Q P := by
  unfold oneS'
  rw [Bool.eq_iff_iff]
  simp only [Bool.and_eq_true, beq_iff_eq]
  constructor
  · rintro ⟨⟨a, b⟩, c⟩; exact ⟨⟨b, a⟩, c.symm⟩
  · rintro ⟨⟨a, b⟩, c⟩; exact ⟨⟨b, a⟩, c.symm⟩
end Go.Proofs.Ythafbdpeignccaa
namespace Go.Proofs.Ythafbdpeignccaa
namespace NP
set_option linter.unusedVariables false
set_option linter.unusedSimpArgs false
/-- the positive ones of the first 16 numbers -/
def lst (g : Nat → Int) : List Int := ((List.range 16).map g).filter fun x => decide (0 < x)
/-- numbers fall, none below 0, and are 0 from the place 16 on -/
structure Fal (g : Nat → Int) : Prop where
  nn : ∀ i, 0 ≤ g i
  le : ∀ i, g (i + 1) ≤ g i
  z : ∀ i, 16 ≤ i → g i = 0
theorem Fal.mono {g : Nat → Int} (h : Fal g) {i j : Nat} (hij : i ≤ j) : g j ≤ g i := by
  obtain ⟨d, rfl⟩ := Nat.exists_eq_add_of_le hij
  induction d with
  | zero => exact Int.le_refl _
  | succ d ih => have := h.le (i + d); have := ih (by omega); have e : i + (d + 1) = i + d + 1 := by omega
                 rw [e]; omega
/-- what is positive stands ahead: taking the rest away changes nothing -/
theorem filt_getD (M : List Int) (hn : ∀ x ∈ M, 0 ≤ x) (hm : ∀ i j, i ≤ j → j < M.length → M.getD j 0 ≤ M.getD i 0) (i : Nat) : (M.filter fun x => decide (0 < x)).getD i 0 = M.getD i 0 := by
  induction M generalizing i with
  | nil => rfl
  | cons x R ih =>
    have hR : ∀ i j, i ≤ j → j < R.length → R.getD j 0 ≤ R.getD i 0 := fun i j h1 h2 => by
      have := hm (i + 1) (j + 1) (by omega) (by simp; omega)
      simpa using this
    have hnR : ∀ y ∈ R, 0 ≤ y := fun y hy => hn y (List.mem_cons_of_mem _ hy)
    by_cases hx : 0 < x
    · rw [List.filter_cons_of_pos (by simpa using hx)]
      cases i with
      | zero => rfl
      | succ i =>
        have := ih hnR hR i
        simpa using this
    · have hx0 : x = 0 := by have := hn x (List.mem_cons_self ..); omega
      have hall : ∀ y ∈ R, y = 0 := fun y hy => by
        obtain ⟨j, hj, rfl⟩ := List.mem_iff_getElem.1 hy
        have h1 := hm 0 (j + 1) (by omega) (by simp; omega)
        have h2 := hn R[j] (List.mem_cons_of_mem _ hy)
        simp at h1
        rw [List.getElem?_eq_getElem hj] at h1
        simp at h1
        omega
      have hf : (x :: R).filter (fun x => decide (0 < x)) = [] := by
        rw [List.filter_eq_nil_iff]
        intro y hy
        rcases List.mem_cons.1 hy with rfl | hy
        · simp; omega
        · have := hall y hy; simp; omega
      rw [hf]
      cases i with
      | zero => simp [hx0]
      | succ i =>
        show (0 : Int) = (x :: R).getD (i + 1) 0
        rcases Nat.lt_or_ge i R.length with h | h
        · have := hall R[i] (List.getElem_mem h)
          simp [List.getElem?_eq_getElem h, this]
        · simp [List.getElem?_eq_none h]
theorem map16_getD (g : Nat → Int) (hz : ∀ i, 16 ≤ i → g i = 0) (i : Nat) : ((List.range 16).map g).getD i 0 = g i := by
  rcases Nat.lt_or_ge i 16 with h | h
  · rw [getD_lt (by simp; exact h)]; simp
  · rw [getD_ge (by simp; exact h), hz i h]
theorem lst_getD {g : Nat → Int} (h : Fal g) (i : Nat) : (lst g).getD i 0 = g i := by
  unfold lst
  rw [filt_getD _ (fun x hx => by
      obtain ⟨j, -, rfl⟩ := List.mem_map.1 hx
      exact h.nn j) (fun i j hij hj => by rw [map16_getD g h.z, map16_getD g h.z]; exact h.mono hij), map16_getD g h.z]
theorem lst_pos (g : Nat → Int) : ∀ x ∈ lst g, 0 < x := fun x hx => by
  have := (List.mem_filter.1 hx).2
  simpa using this
theorem lst_len (g : Nat → Int) : (lst g).length ≤ 16 := by
  have := List.length_filter_le (fun x => decide (0 < x)) ((List.range 16).map g)
  unfold lst
  simpa using this
/-- positive numbers with the same ones at each place are the same -/
theorem pos_ext {A B : List Int} (ha : ∀ x ∈ A, 0 < x) (hb : ∀ x ∈ B, 0 < x) (h : ∀ i, A.getD i 0 = B.getD i 0) : A = B := by
  induction A generalizing B with
  | nil =>
    cases B with
    | nil => rfl
    | cons y R => have := h 0; have := hb y (List.mem_cons_self ..); simp at *; omega
  | cons x R ih =>
    cases B with
    | nil => have := h 0; have := ha x (List.mem_cons_self ..); simp at *; omega
    | cons y S =>
      have h0 := h 0
      simp at h0
      rw [h0, ih (fun z hz => ha z (List.mem_cons_of_mem _ hz)) (fun z hz => hb z (List.mem_cons_of_mem _ hz)) (fun i => by simpa using h (i + 1))]
theorem pad_gD {L : List Int} (h : L.length ≤ 16) (i : Nat) : (pad L).getD i 0 = L.getD i 0 := by
  unfold pad
  rcases Nat.lt_or_ge i L.length with h1 | h1
  · rw [getD_lt (by simp; omega), getD_lt h1, List.getElem_append_left h1]
  · rw [getD_ge h1]
    rcases Nat.lt_or_ge i 16 with h2 | h2
    · rw [getD_lt (by simp; omega), List.getElem_append_right h1]; simp
    · rw [getD_ge (by simp; omega)]
theorem list_ext16 {A B : List Int} (ha : A.length = 16) (hb : B.length = 16) (h : ∀ i, i < 16 → A.getD i 0 = B.getD i 0) : A = B := by
  apply List.ext_getElem (by omega)
  intro i h1 h2
  have := h i (by omega)
  rwa [getD_lt h1, getD_lt h2] at this
theorem pad_lst {g : Nat → Int} (h : Fal g) : pad (lst g) = (List.range 16).map g :=
  list_ext16 (pad_len (lst_len g)) (by simp) fun i _ => by rw [pad_gD (lst_len g), lst_getD h, map16_getD g h.z]
theorem fal_of_valid {L : List Int} (h : valid L = true) : Fal fun i => L.getD i 0 := by
  have hn := valid_nonneg h
  refine ⟨fun i => ?_, fun i => ?_, fun i hi => getD_ge (by have := (valid_bd h).2.2.2; omega)⟩
  · rcases Nat.lt_or_ge i L.length with h1 | h1
    · show 0 ≤ L.getD i 0
      rw [getD_lt h1]; exact hn _ (List.getElem_mem h1)
    · show 0 ≤ L.getD i 0
      rw [getD_ge h1]; exact Int.le_refl _
  · show L.getD (i + 1) 0 ≤ L.getD i 0
    rcases Nat.lt_or_ge (i + 1) L.length with h1 | h1
    · rw [getD_lt h1, getD_lt (by omega)]
      exact falls_all h (i + 1) i h1 (by omega)
    · rw [getD_ge h1]
      rcases Nat.lt_or_ge i L.length with h2 | h2
      · rw [getD_lt h2]; exact hn _ (List.getElem_mem h2)
      · rw [getD_ge h2]; exact Int.le_refl _
theorem valid_pos {L : List Int} (h : valid L = true) : ∀ x ∈ L, 0 < x := fun x hx => by
  obtain ⟨j, hj, rfl⟩ := List.mem_iff_getElem.1 hx
  have := (preS_of_valid h j hj hj).1
  omega
theorem lst_valid {L : List Int} (h : valid L = true) : lst (fun i => L.getD i 0) = L :=
  pos_ext (lst_pos _) (valid_pos h) fun i => lst_getD (fal_of_valid h) i
theorem sumL_nn {M : List Int} (h : ∀ x ∈ M, 0 ≤ x) : 0 ≤ sumL M := by
  induction M with
  | nil => exact Int.le_refl _
  | cons x R ih => have := ih (fun y hy => h y (List.mem_cons_of_mem _ hy)); have := h x (List.mem_cons_self ..); simp only [sumL]; omega
theorem sumL_mem {M : List Int} (h : ∀ x ∈ M, 0 ≤ x) {x : Int} (hx : x ∈ M) : x ≤ sumL M := by
  induction M with
  | nil => cases hx
  | cons y R ih =>
    have h1 := h y (List.mem_cons_self ..)
    have h2 := sumL_nn (M := R) (fun z hz => h z (List.mem_cons_of_mem _ hz))
    simp only [sumL]
    rcases List.mem_cons.1 hx with rfl | hx
    · omega
    · have := ih (fun z hz => h z (List.mem_cons_of_mem _ hz)) hx; omega
def s16 (g : Nat → Int) : Int := sumL ((List.range 16).map g)
theorem sumL_filter (M : List Int) (h : ∀ x ∈ M, 0 ≤ x) : sumL (M.filter fun x => decide (0 < x)) = sumL M := by
  induction M with
  | nil => rfl
  | cons x R ih =>
    have hi := ih (fun y hy => h y (List.mem_cons_of_mem _ hy))
    by_cases hx : 0 < x
    · rw [List.filter_cons_of_pos (by simpa using hx)]
      simp only [sumL, hi]
    · rw [List.filter_cons_of_neg (by simpa using hx)]
      have := h x (List.mem_cons_self ..)
      simp only [sumL, hi]
      omega
theorem sum_lst {g : Nat → Int} (h : ∀ i, 0 ≤ g i) : sumL (lst g) = s16 g := sumL_filter _ fun x hx => by
  obtain ⟨j, -, rfl⟩ := List.mem_map.1 hx
  exact h j
theorem valid_lst {g : Nat → Int} (h : Fal g) (hs : s16 g ≤ 16) : valid (lst g) = true := by
  refine valid_of_preS (fun j hj _ => ?_) (by rw [sum_lst h.nn]; exact hs)
  have h0 := lst_pos g _ (List.getElem_mem hj)
  have e : ∀ i (hi : i < (lst g).length), (lst g)[i] = g i := fun i hi => by rw [← getD_lt hi, lst_getD h]
  refine ⟨by omega, ?_, fun h1 => ?_⟩
  · have hsum := sumL_mem (M := (List.range 16).map g) (fun x hx => by
      obtain ⟨j, -, rfl⟩ := List.mem_map.1 hx
      exact h.nn j) (x := (lst g)[j]) ((List.mem_filter.1 (List.getElem_mem hj)).1)
    have : sumL ((List.range 16).map g) ≤ 16 := hs
    omega
  · rw [e j hj, e (j - 1) (by omega)]
    have := h.le (j - 1)
    have e2 : j - 1 + 1 = j := by omega
    rwa [e2] at this
/-- the number at a place of rows -/
def gr (LL : List (List Int)) (i k : Nat) : Int := (LL.getD i []).getD k 0
def sumLL (LL : List (List Int)) : Int := sumL (LL.map sumL)
def pgd (LL : List (List Int)) (i : Nat) : Prop := valid (LL.getD i []) = true ∧ LL.getD i [] ≠ [] ∧ (0 < i → ins (LL.getD (i - 1) []) (LL.getD i []) = true)
instance (LL : List (List Int)) (i : Nat) : Decidable (pgd LL i) := by unfold pgd; infer_instance
/-- rows are a pile -/
def vpl (LL : List (List Int)) : Bool := decide (∀ i, i < LL.length → pgd LL i) && decide (sumLL LL ≤ 16)
theorem vpl_iff {LL : List (List Int)} : vpl LL = true ↔ (∀ i, i < LL.length → pgd LL i) ∧ sumLL LL ≤ 16 := by
  unfold vpl
  rw [Bool.and_eq_true, decide_eq_true_eq, decide_eq_true_eq]
theorem gl_lt {LL : List (List Int)} {i : Nat} (h : i < LL.length) : LL.getD i [] = LL[i] := by rw [List.getD_eq_getElem?_getD, List.getElem?_eq_getElem h]; rfl
theorem gl_ge {LL : List (List Int)} {i : Nat} (h : LL.length ≤ i) : LL.getD i [] = [] := by rw [List.getD_eq_getElem?_getD, List.getElem?_eq_none h]; rfl
theorem valid_ne_sum {L : List Int} (h : valid L = true) (hn : L ≠ []) : 1 ≤ sumL L := by
  have := (valid_bd h).2.2.1
  have : 0 < L.length := List.length_pos_iff.2 hn
  omega
theorem pgd_sum {LL : List (List Int)} (h : ∀ i, i < LL.length → pgd LL i) : (LL.length : Int) ≤ sumLL LL := by
  have : ∀ (M : List (List Int)), (∀ L ∈ M, 1 ≤ sumL L) → (M.length : Int) ≤ sumLL M := by
    intro M
    induction M with
    | nil => intro _; exact Int.le_refl _
    | cons x R ih =>
      intro h
      have h1 := ih (fun L hL => h L (List.mem_cons_of_mem _ hL))
      have h2 := h x (List.mem_cons_self ..)
      simp [sumLL, sumL] at h1 ⊢
      omega
  refine this LL fun L hL => ?_
  obtain ⟨j, hj, rfl⟩ := List.mem_iff_getElem.1 hL
  have := h j hj
  unfold pgd at this
  rw [gl_lt hj] at this
  exact valid_ne_sum this.1 this.2.1
theorem vpl_len {LL : List (List Int)} (h : vpl LL = true) : LL.length ≤ 16 := by
  have := vpl_iff.1 h
  have := pgd_sum this.1
  omega
theorem vpl_valid {LL : List (List Int)} (h : vpl LL = true) (i : Nat) : valid (LL.getD i []) = true := by
  rcases Nat.lt_or_ge i LL.length with h1 | h1
  · exact ((vpl_iff.1 h).1 i h1).1
  · rw [gl_ge h1]; rfl
/-- the numbers of a pile fall both ways -/
structure Pl (G : Nat → Nat → Int) : Prop where
  row : ∀ i, Fal (G i)
  col : ∀ k, Fal fun i => G i k
theorem pl_of {LL : List (List Int)} (h : vpl LL = true) : Pl (gr LL) := by
  refine ⟨fun i => fal_of_valid (vpl_valid h i), fun k => ⟨fun i => (fal_of_valid (vpl_valid h i)).nn k, fun i => ?_, fun i hi => ?_⟩⟩
  · show (LL.getD (i + 1) []).getD k 0 ≤ (LL.getD i []).getD k 0
    rcases Nat.lt_or_ge (i + 1) LL.length with h1 | h1
    · have := ((vpl_iff.1 h).1 (i + 1) h1).2.2 (by omega)
      rw [Nat.add_sub_cancel] at this
      exact (ins_iff.1 this).2.2 k
    · rw [gl_ge h1]
      exact (fal_of_valid (vpl_valid h i)).nn k
  · show (LL.getD i []).getD k 0 = 0
    rw [gl_ge (by have := vpl_len h; omega)]; rfl
/-- the rows of numbers that fall both ways -/
def pilG (G : Nat → Nat → Int) : List (List Int) := ((List.range 16).map fun i => lst (G i)).filter fun L => !L.isEmpty
theorem filtE_getD (R : List (List Int)) (hm : ∀ i j, i ≤ j → R.getD i [] = [] → R.getD j [] = []) (i : Nat) : (R.filter fun L => !L.isEmpty).getD i [] = R.getD i [] := by
  induction R generalizing i with
  | nil => rfl
  | cons x S ih =>
    have hS : ∀ i j, i ≤ j → S.getD i [] = [] → S.getD j [] = [] := fun i j h1 h2 => by
      have := hm (i + 1) (j + 1) (by omega) (by simpa using h2)
      simpa using this
    cases hx : x.isEmpty with
    | false =>
      rw [List.filter_cons_of_pos (by simp [hx])]
      cases i with
      | zero => rfl
      | succ i => simpa using ih hS i
    | true =>
      have hx0 : x = [] := List.isEmpty_iff.1 hx
      have hall : ∀ j, S.getD j [] = [] := fun j => by
        have := hm 0 (j + 1) (by omega) (by simp [hx0])
        simpa using this
      have hf : (x :: S).filter (fun L => !L.isEmpty) = [] := by
        rw [List.filter_eq_nil_iff]
        intro y hy
        rcases List.mem_cons.1 hy with rfl | hy
        · simp [hx]
        · obtain ⟨j, hj, rfl⟩ := List.mem_iff_getElem.1 hy
          have := hall j
          rw [gl_lt hj] at this
          simp [this]
      rw [hf]
      cases i with
      | zero => simp [hx0]
      | succ i => have := hall i; simp at this ⊢; rw [this]
theorem lst_nil {g : Nat → Int} (h : Fal g) : lst g = [] ↔ g 0 = 0 := by
  constructor
  · intro e
    have := lst_getD h 0
    rw [e] at this
    simpa using this.symm
  · intro e
    refine pos_ext (lst_pos g) (by simp) fun i => ?_
    rw [lst_getD h]
    have h1 := h.mono (Nat.zero_le i)
    have h2 := h.nn i
    simp
    omega
theorem rows_getD (G : Nat → Nat → Int) (hz : ∀ i, 16 ≤ i → lst (G i) = []) (i : Nat) : ((List.range 16).map fun i => lst (G i)).getD i [] = lst (G i) := by
  rcases Nat.lt_or_ge i 16 with h | h
  · rw [gl_lt (by simp; exact h)]; simp
  · rw [gl_ge (by simp; exact h), hz i h]
theorem pilG_getD {G : Nat → Nat → Int} (h : Pl G) (i : Nat) : (pilG G).getD i [] = lst (G i) := by
  have hz : ∀ i, 16 ≤ i → lst (G i) = [] := fun i hi => (lst_nil (h.row i)).2 ((h.col 0).z i hi)
  unfold pilG
  rw [filtE_getD _ (fun i j hij he => ?_), rows_getD G hz]
  rw [rows_getD G hz] at he ⊢
  rw [lst_nil (h.row _)] at he ⊢
  have h1 : G j 0 ≤ G i 0 := (h.col 0).mono hij
  have h2 : 0 ≤ G j 0 := (h.col 0).nn j
  omega
theorem gr_pof {G : Nat → Nat → Int} (h : Pl G) (i k : Nat) : gr (pilG G) i k = G i k := by
  unfold gr
  rw [pilG_getD h, lst_getD (h.row i)]
theorem pilG_len (G : Nat → Nat → Int) : (pilG G).length ≤ 16 := by
  have := List.length_filter_le (fun L : List Int => !L.isEmpty) ((List.range 16).map fun i => lst (G i))
  unfold pilG
  simpa using this
theorem pilG_ne (G : Nat → Nat → Int) : ∀ L ∈ pilG G, L ≠ [] := fun L hL => by
  have := (List.mem_filter.1 hL).2
  simpa using this
/-- rows that are never empty, with the same rows at each place, are the same -/
theorem ne_ext {A B : List (List Int)} (ha : ∀ L ∈ A, L ≠ []) (hb : ∀ L ∈ B, L ≠ []) (h : ∀ i, A.getD i [] = B.getD i []) : A = B := by
  induction A generalizing B with
  | nil =>
    cases B with
    | nil => rfl
    | cons y R => have := h 0; exact absurd (by simpa using this.symm) (hb y (List.mem_cons_self ..))
  | cons x R ih =>
    cases B with
    | nil => have := h 0; exact absurd (by simpa using this) (ha x (List.mem_cons_self ..))
    | cons y S =>
      have h0 := h 0
      simp at h0
      rw [h0, ih (fun z hz => ha z (List.mem_cons_of_mem _ hz)) (fun z hz => hb z (List.mem_cons_of_mem _ hz)) (fun i => by simpa using h (i + 1))]
theorem vpl_ne {LL : List (List Int)} (h : vpl LL = true) : ∀ L ∈ LL, L ≠ [] := fun L hL => by
  obtain ⟨j, hj, rfl⟩ := List.mem_iff_getElem.1 hL
  have := ((vpl_iff.1 h).1 j hj).2.1
  rwa [gl_lt hj] at this
theorem pilG_gr {LL : List (List Int)} (h : vpl LL = true) : pilG (gr LL) = LL :=
  ne_ext (pilG_ne _) (vpl_ne h) fun i => by rw [pilG_getD (pl_of h)]; exact lst_valid (vpl_valid h i)
def s256 (G : Nat → Nat → Int) : Int := s16 fun i => s16 (G i)
theorem sumLL_filter (R : List (List Int)) : sumLL (R.filter fun L => !L.isEmpty) = sumLL R := by
  induction R with
  | nil => rfl
  | cons x S ih =>
    cases hx : x.isEmpty with
    | false => rw [List.filter_cons_of_pos (by simp [hx])]; simp [sumLL, sumL] at ih ⊢; omega
    | true => rw [List.filter_cons_of_neg (by simp [hx]), List.isEmpty_iff.1 hx]; simp [sumLL, sumL] at ih ⊢; omega
theorem sumLL_pof {G : Nat → Nat → Int} (h : Pl G) : sumLL (pilG G) = s256 G := by
  unfold pilG
  rw [sumLL_filter]
  unfold sumLL s256
  rw [List.map_map]
  show sumL ((List.range 16).map fun i => sumL (lst (G i))) = sumL ((List.range 16).map fun i => s16 (G i))
  congr 1
  apply List.map_congr_left
  intro i _
  exact sum_lst (h.row i).nn
theorem s16_nn {g : Nat → Int} (h : ∀ i, 0 ≤ g i) : 0 ≤ s16 g := sumL_nn fun x hx => by
  obtain ⟨j, -, rfl⟩ := List.mem_map.1 hx
  exact h j
theorem s16_le {g : Nat → Int} (h : ∀ i, 0 ≤ g i) {i : Nat} (hi : i < 16) : g i ≤ s16 g := sumL_mem (fun x hx => by
  obtain ⟨j, -, rfl⟩ := List.mem_map.1 hx
  exact h j) (List.mem_map.2 ⟨i, List.mem_range.2 hi, rfl⟩)
theorem vpl_pof {G : Nat → Nat → Int} (h : Pl G) (hs : s256 G ≤ 16) : vpl (pilG G) = true := by
  have hrow : ∀ i, s16 (G i) ≤ 16 := fun i => by
    rcases Nat.lt_or_ge i 16 with hi | hi
    · have h1 : s16 (G i) ≤ s256 G := s16_le (g := fun i => s16 (G i)) (fun i => s16_nn (h.row i).nn) hi
      omega
    · have hz : ∀ k, G i k = 0 := fun k => (h.col k).z i hi
      have : s16 (G i) = 0 := by
        unfold s16
        rw [List.map_congr_left (g := fun _ => (0 : Int)) (fun k _ => hz k)]
        decide
      omega
  have hv : ∀ i, valid (lst (G i)) = true := fun i => valid_lst (h.row i) (hrow i)
  refine vpl_iff.2 ⟨fun i hi => ⟨by rw [pilG_getD h]; exact hv i, ?_, fun h0 => ?_⟩, by rw [sumLL_pof h]; exact hs⟩
  · rw [gl_lt hi]
    exact pilG_ne G _ (List.getElem_mem hi)
  · rw [pilG_getD h, pilG_getD h]
    refine ins_iff.2 ⟨hv _, hv _, fun k => ?_⟩
    rw [lst_getD (h.row _), lst_getD (h.row _)]
    have := (h.col k).le (i - 1)
    have e : i - 1 + 1 = i := by omega
    rw [e] at this
    exact this
/-- rows and columns exchanged -/
def turnP (LL : List (List Int)) : List (List Int) := pilG fun a i => gr LL i a
theorem Pl.turn {G : Nat → Nat → Int} (h : Pl G) : Pl fun a i => G i a := ⟨h.col, h.row⟩
theorem sumL_addF (n : Nat) (f g : Nat → Int) : sumL ((List.range n).map fun i => f i + g i) = sumL ((List.range n).map f) + sumL ((List.range n).map g) := by
  induction n with
  | zero => rfl
  | succ n ih =>
    rw [List.range_succ, List.map_append, List.map_append, List.map_append, sumL_append, sumL_append, sumL_append, ih]
    simp [sumL]
    omega
theorem sum_swap (n m : Nat) (F : Nat → Nat → Int) : sumL ((List.range n).map fun i => sumL ((List.range m).map fun k => F i k)) = sumL ((List.range m).map fun k => sumL ((List.range n).map fun i => F i k)) := by
  induction n with
  | zero =>
    simp only [List.range_zero, List.map_nil, sumL]
    have : ∀ m, sumL ((List.range m).map fun _ => (0 : Int)) = 0 := by
      intro m
      induction m with
      | zero => rfl
      | succ m ih => rw [List.range_succ, List.map_append, sumL_append, ih]; rfl
    exact (this m).symm
  | succ n ih =>
    rw [List.range_succ, List.map_append, sumL_append, ih]
    have e : (fun k => sumL ((List.range n ++ [n]).map fun i => F i k)) = fun k => sumL ((List.range n).map fun i => F i k) + F n k := by
      funext k
      rw [List.map_append, sumL_append]
      simp [sumL]
    rw [e, sumL_addF]
    simp [sumL]
theorem s256_turn (G : Nat → Nat → Int) : s256 (fun a i => G i a) = s256 G := sum_swap 16 16 fun a i => G i a
theorem sumLL_gr {LL : List (List Int)} (h : vpl LL = true) : sumLL LL = s256 (gr LL) := by
  have := sumLL_pof (pl_of h)
  rwa [pilG_gr h] at this
theorem vpl_turn {LL : List (List Int)} (h : vpl LL = true) : vpl (turnP LL) = true :=
  vpl_pof (pl_of h).turn (by rw [s256_turn, ← sumLL_gr h]; exact (vpl_iff.1 h).2)
theorem gr_turn {LL : List (List Int)} (h : vpl LL = true) (a i : Nat) : gr (turnP LL) a i = gr LL i a := gr_pof (pl_of h).turn a i
theorem sum_turn {LL : List (List Int)} (h : vpl LL = true) : sumLL (turnP LL) = sumLL LL := by
  rw [sumLL_gr (vpl_turn h), sumLL_gr h]
  show s256 (fun a i => gr (turnP LL) a i) = _
  simp only [gr_turn h]
  exact s256_turn _
/-- piles with the same numbers are the same -/
theorem vpl_ext {A B : List (List Int)} (ha : vpl A = true) (hb : vpl B = true) (h : ∀ i k, gr A i k = gr B i k) : A = B := by
  rw [← pilG_gr ha, ← pilG_gr hb]
  congr 1
  funext i k
  exact h i k
theorem turn_turn {LL : List (List Int)} (h : vpl LL = true) : turnP (turnP LL) = LL :=
  vpl_ext (vpl_turn (vpl_turn h)) h fun i k => by rw [gr_turn (vpl_turn h), gr_turn h]
/-- each row turned up -/
def upP (LL : List (List Int)) : List (List Int) := LL.map conj
theorem up_getD (LL : List (List Int)) (i : Nat) : (upP LL).getD i [] = conj (LL.getD i []) := by
  unfold upP
  rcases Nat.lt_or_ge i LL.length with h | h
  · rw [gl_lt (by simpa using h), gl_lt h]; simp
  · rw [gl_ge (by simpa using h), gl_ge h]; rfl
theorem vpl_up {LL : List (List Int)} (h : vpl LL = true) : vpl (upP LL) = true := by
  have hv := vpl_valid h
  refine vpl_iff.2 ⟨fun i hi => ?_, ?_⟩
  · have hi' : i < LL.length := by simpa [upP] using hi
    have h1 := (vpl_iff.1 h).1 i hi'
    refine ⟨by rw [up_getD]; exact valid_conj (hv i), ?_, fun h0 => ?_⟩
    · rw [up_getD]
      intro e
      have := (conj_nil_iff (hv i)).1 (by rw [e]; rfl)
      exact h1.2.1 (List.eq_nil_of_length_eq_zero this)
    · rw [up_getD, up_getD]
      exact ins_conj_le (h1.2.2 h0)
  · have e : sumLL (upP LL) = sumLL LL := by
      unfold sumLL upP
      rw [List.map_map]
      congr 1
      apply List.map_congr_left
      intro L hL
      obtain ⟨j, hj, rfl⟩ := List.mem_iff_getElem.1 hL
      have := hv j
      rw [gl_lt hj] at this
      exact sumL_conj this
    rw [e]
    exact (vpl_iff.1 h).2
theorem sum_up {LL : List (List Int)} (h : vpl LL = true) : sumLL (upP LL) = sumLL LL := by
  unfold sumLL upP
  rw [List.map_map]
  congr 1
  apply List.map_congr_left
  intro L hL
  obtain ⟨j, hj, rfl⟩ := List.mem_iff_getElem.1 hL
  have := vpl_valid h j
  rw [gl_lt hj] at this
  exact sumL_conj this
theorem conj_gD {L : List Int} (h : valid L = true) (j : Nat) : (conj L).getD j 0 = cnt ((j : Int) + 1) L := by
  rcases Nat.lt_or_ge j (conj L).length with h1 | h1
  · rw [getD_lt h1, conj_get]
  · rw [getD_ge h1, cnt_none]
    intro x hx
    rw [conj_len] at h1
    have h2 := head_ge h x hx
    have h3 := headD_bd h
    omega
/-- the layers of a pile -/
def layP (LL : List (List Int)) : List (List Int) := turnP (upP LL)
theorem vpl_lay {LL : List (List Int)} (h : vpl LL = true) : vpl (layP LL) = true := vpl_turn (vpl_up h)
theorem sum_lay {LL : List (List Int)} (h : vpl LL = true) : sumLL (layP LL) = sumLL LL := by unfold layP; rw [sum_turn (vpl_up h), sum_up h]
theorem gr_lay {LL : List (List Int)} (h : vpl LL = true) (a i : Nat) : gr (layP LL) a i = cnt ((a : Int) + 1) (LL.getD i []) := by
  unfold layP
  rw [gr_turn (vpl_up h)]
  unfold gr
  rw [up_getD, conj_gD (vpl_valid h i)]
/-- a cube of the pile is a cube of its layers, its places moved round -/
theorem cube_lay {LL : List (List Int)} (h : vpl LL = true) (i k a : Nat) : ((k : Int) + 1 ≤ gr (layP LL) a i) ↔ ((a : Int) + 1 ≤ gr LL i k) := by
  rw [gr_lay h]
  unfold gr
  have hv := vpl_valid h i
  rcases Nat.lt_or_ge k (LL.getD i []).length with hk | hk
  · rw [getD_lt hk]
    exact cnt_ge_iff hv hk _
  · rw [getD_ge hk]
    have := (cnt_bd ((a : Int) + 1) (LL.getD i [])).2
    omega
theorem lay3 {LL : List (List Int)} (h : vpl LL = true) : layP (layP (layP LL)) = LL := by
  have h1 := vpl_lay h
  have h2 := vpl_lay h1
  have h3 := vpl_lay h2
  refine vpl_ext h3 h fun i k => ?_
  have n1 := ((pl_of h3).row i).nn k
  have n2 := ((pl_of h).row i).nn k
  have key : ∀ a : Nat, ((a : Int) + 1 ≤ gr (layP (layP (layP LL))) i k) ↔ ((a : Int) + 1 ≤ gr LL i k) := fun a => by
    rw [cube_lay h2, cube_lay h1, cube_lay h]
  obtain ⟨x, hx⟩ := Int.eq_ofNat_of_zero_le n1
  obtain ⟨y, hy⟩ := Int.eq_ofNat_of_zero_le n2
  rw [hx, hy] at key ⊢
  rcases Nat.lt_trichotomy x y with h4 | h4 | h4
  · have := (key x).2 (by omega); omega
  · rw [h4]
  · have := (key y).1 (by omega); omega
theorem take_getD {LL : List (List Int)} {k i : Nat} (h : i < k) : (LL.take k).getD i [] = LL.getD i [] := by
  rw [List.getD_eq_getElem?_getD, List.getD_eq_getElem?_getD, List.getElem?_take, if_pos h]
theorem sumLL_append (A B : List (List Int)) : sumLL (A ++ B) = sumLL A + sumLL B := by unfold sumLL; rw [List.map_append, sumL_append]
theorem sumLL_succ {LL : List (List Int)} {k : Nat} (h : k < LL.length) : sumLL (LL.take (k + 1)) = sumLL (LL.take k) + sumL LL[k] := by
  rw [List.take_succ_eq_append_getElem h, sumLL_append]
  simp [sumLL, sumL]
theorem vpl_nil : vpl [] = true := by decide
theorem pgd_take {LL : List (List Int)} {k i : Nat} (h : i < k) : pgd (LL.take k) i ↔ pgd LL i := by
  unfold pgd
  rw [take_getD h]
  constructor
  · rintro ⟨h1, h2, h3⟩
    exact ⟨h1, h2, fun h0 => by have := h3 h0; rwa [take_getD (by omega)] at this⟩
  · rintro ⟨h1, h2, h3⟩
    exact ⟨h1, h2, fun h0 => by rw [take_getD (by omega)]; exact h3 h0⟩
theorem vpl_next {LL : List (List Int)} {k : Nat} (hk : k < LL.length) (h : vpl (LL.take k) = true) (h1 : valid LL[k] = true) (h2 : LL[k] ≠ []) (h3 : 0 < k → ins (LL.getD (k - 1) []) LL[k] = true) (h4 : sumL LL[k] ≤ 16 - sumLL (LL.take k)) : vpl (LL.take (k + 1)) = true := by
  refine vpl_iff.2 ⟨fun i hi => ?_, by rw [sumLL_succ hk]; omega⟩
  have hi' : i < k + 1 := by rw [List.length_take] at hi; omega
  rw [pgd_take hi']
  rcases Nat.lt_or_ge i k with h5 | h5
  · have := (vpl_iff.1 h).1 i (by rw [List.length_take]; omega)
    rwa [pgd_take h5] at this
  · obtain rfl : i = k := by omega
    unfold pgd
    rw [gl_lt hk]
    exact ⟨h1, h2, h3⟩
theorem pgd_nn {LL : List (List Int)} (h : ∀ i, i < LL.length → pgd LL i) : 0 ≤ sumLL LL := by have := pgd_sum h; omega
theorem vpl_take {LL : List (List Int)} (h : vpl LL = true) (k : Nat) : vpl (LL.take k) = true := by
  have h0 := vpl_iff.1 h
  refine vpl_iff.2 ⟨fun i hi => ?_, ?_⟩
  · rw [List.length_take] at hi
    rw [pgd_take (by omega)]
    exact h0.1 i (by omega)
  · have e : sumLL LL = sumLL (LL.take k) + sumLL (LL.drop k) := by rw [← sumLL_append, List.take_append_drop]
    have : 0 ≤ sumLL (LL.drop k) := sumL_nn fun x hx => by
      obtain ⟨L, hL, rfl⟩ := List.mem_map.1 hx
      obtain ⟨j, hj, rfl⟩ := List.mem_iff_getElem.1 (List.mem_of_mem_drop hL)
      have := vpl_valid h j
      rw [gl_lt hj] at this
      exact (valid_bd this).1
    omega
theorem vpl_stop {LL : List (List Int)} {k : Nat} (hk : k < LL.length) (hn : ¬ (valid LL[k] = true ∧ LL[k] ≠ [] ∧ sumL LL[k] ≤ 16 - sumLL (LL.take k) ∧ (0 < k → ins (LL.getD (k - 1) []) LL[k] = true))) : vpl LL = false := by
  cases h : vpl LL with
  | false => rfl
  | true =>
    exfalso
    apply hn
    have h1 := (vpl_iff.1 h).1 k hk
    unfold pgd at h1
    rw [gl_lt hk] at h1
    have h2 := (vpl_iff.1 (vpl_take h (k + 1))).2
    rw [sumLL_succ hk] at h2
    exact ⟨h1.1, h1.2.1, by omega, h1.2.2⟩
theorem vpl_sum {LL : List (List Int)} (h : vpl LL = true) : 0 ≤ sumLL LL ∧ sumLL LL ≤ 16 ∧ (LL.length : Int) ≤ sumLL LL := by
  have h0 := vpl_iff.1 h
  have := pgd_sum h0.1
  omega
/-- a pile's rows as sixteen rows of sixteen -/
def zsq : List (List Int) := List.replicate 16 (List.replicate 16 0)
def gridR (LL : List (List Int)) : List (List Int) := LL.map pad ++ List.replicate (16 - LL.length) (List.replicate 16 0)
def gridV (LL : List (List Int)) : List (List Int) := if vpl LL then gridR LL else zsq
theorem gridR_nil : gridR [] = zsq := rfl
theorem gridR_len {LL : List (List Int)} (h : LL.length ≤ 16) : (gridR LL).length = 16 := by unfold gridR; simp; omega
theorem gridR_rows {LL : List (List Int)} (h : ∀ L ∈ LL, L.length ≤ 16) : ∀ L ∈ gridR LL, L.length = 16 := fun L hL => by
  unfold gridR at hL
  rcases List.mem_append.1 hL with h1 | h1
  · obtain ⟨M, hM, rfl⟩ := List.mem_map.1 h1
    exact pad_len (h M hM)
  · rw [(List.mem_replicate.1 h1).2]; simp
theorem gridR_set {LL : List (List Int)} {k : Nat} (hk : k < LL.length) (h16 : k < 16) : (gridR (LL.take k)).set k (pad LL[k]) = gridR (LL.take (k + 1)) := by
  unfold gridR
  have e1 : (LL.take k).length = k := by rw [List.length_take]; omega
  have e2 : (LL.take (k + 1)).length = k + 1 := by rw [List.length_take]; omega
  rw [e1, e2, List.set_append_right _ _ (by rw [List.length_map, e1]; exact Nat.le_refl _), List.length_map, e1, Nat.sub_self, show 16 - k = (16 - (k + 1)) + 1 by omega, List.replicate_succ, List.set_cons_zero, List.take_succ_eq_append_getElem hk, List.map_append]
  simp
theorem gridR_get {LL : List (List Int)} {i : Nat} (hi : i < LL.length) (h : i < (gridR LL).length) : (gridR LL)[i] = pad LL[i] := by
  apply Option.some.inj
  rw [← List.getElem?_eq_getElem]
  unfold gridR
  rw [List.getElem?_append_left (by rw [List.length_map]; exact hi)]
  simp [hi]
theorem vpl_each {LL : List (List Int)} (h : vpl LL = true) : ∀ L ∈ LL, valid L = true := fun L hL => by
  obtain ⟨j, hj, rfl⟩ := List.mem_iff_getElem.1 hL
  have := vpl_valid h j
  rwa [gl_lt hj] at this
theorem vpl_l16 {LL : List (List Int)} (h : vpl LL = true) : ∀ L ∈ LL, L.length ≤ 16 := fun L hL => (valid_bd (vpl_each h L hL)).2.2.2
theorem gridV_len (LL : List (List Int)) : (gridV LL).length = 16 := by
  unfold gridV
  split
  · rename_i h; exact gridR_len (vpl_len h)
  · rfl
theorem gridV_rows (LL : List (List Int)) : ∀ L ∈ gridV LL, L.length = 16 := by
  unfold gridV
  split
  · rename_i h; exact gridR_rows (vpl_l16 h)
  · intro L hL; rw [(List.mem_replicate.1 hL).2]; simp
end NP
end Go.Proofs.Ythafbdpeignccaa
namespace Go.Proofs.Ythafbdpeignccaa
open Go.RowKit NP
set_option maxRecDepth 8000
set_option linter.unusedVariables false
set_option linter.unusedSimpArgs false
set_option maxHeartbeats 2000000 in
theorem samePairsR_any (g q : Nat) (bs : List Int) (w : World) (hq : q ≤ 600000) (h : Rdr w g bs q) :
    Calls Try.prog 83 #[.pointer (some ⟨g, 0, none⟩)] w fun e w' => ∃ a1 c1 M1 a2 c2 M2, e = .returned (.tuple #[.slice a1 M1.length c1, .slice a2 M2.length c2]) ∧ Own w' w.heap.size w'.heap.size 3 (.slice a1 M1.length c1) (ints M1) ∧ Own w' w.heap.size w'.heap.size 3 (.slice a2 M2.length c2) (ints M2) ∧ Small M1 ∧ Small M2 ∧ w.grownBy w' (some g) ∧ valid M1 = true ∧ ∃ q2, q2 ≤ 800000 ∧ Rdr w' g bs q2 := by
  obtain ⟨i0, hi, hk0, hk1, hk2⟩ := T_int'
  have hlt := h.lt
  go_enter Try.func83, Try.ntmps83
  go_wp2_with fail
  refine (sumFor_any g q bs _ (by omega) h).mono ?_
  rintro e w1 ⟨n, rfl, hn, h1, hg1⟩
  have hz1 := hg1.size
  go_wp2_with fail
  refine (partsOfV_any g _ n bs _ hn.1 hn.2 (by omega) h1).mono ?_
  rintro e w2 ⟨a1, c1, M1, rfl, ho1, hv1, ⟨q2, hq2, h2⟩, hg2⟩
  have hG2 := chg_trans hg1 hg2
  replace ho1 := ho1.lower hz1
  have hs1 := small_of_valid hv1
  have HV := Lib.hid hv1
  clear hg1 hg2 h1 hv1
  have HO := Lib.hid ho1
  clear ho1
  go_wp2_with fail
  refine (pick_any g _ _ bs _ (by omega) (by omega) h2).mono ?_
  rintro e w3 ⟨z, rfl, hz0', -, h3, hg3, -⟩
  have ho1 := (HO.out.chg hg3 hlt).more
  have hG3 := chg_trans hG2 hg3
  have hz3 := hG3.size
  clear HO hG2 hg3 h2
  have HO := Lib.hid ho1
  clear ho1
  by_cases hz : z = 0
  · have b0 : (z == 0) = true := beq_iff_eq.2 hz
    clear hz
    go_wp2_with fail
    refine (someParts_grown g _ bs _ (by omega) h3).mono ?_
    rintro e w4 ⟨a2, c2, M2, rfl, ho2, hs2, ⟨q4, hq4, h4⟩, hg4⟩
    have ho1 := (HO.out.chg hg4 hlt).more
    have hG4 := chg_trans hG3 hg4
    have HO2 := Lib.hid (ho2.lower hz3)
    have HO1 := Lib.hid ho1
    clear hg4 hG3 ho1 ho2 HO
    go_wp2_with fail
    go_ret2
    exact ⟨a1, c1, M1, a2, c2, M2, rfl, HO1.out, HO2.out, hs1, hs2, hG4, HV.out, _, by omega, h4⟩
  · have b0 : (z == 0) = false := beq_eq_false_iff_ne.2 hz
    clear hz
    by_cases hz : z = 1
    · have b1 : (z == 1) = true := beq_iff_eq.2 hz
      clear hz
      go_wp2_with fail
      refine (sconjugate_any _ _ _ M1 _ HO.out.rd HO.out.le HV.out).mono ?_
      rintro e w4 ⟨a2, c2, rfl, ho2, hb4⟩
      have h4 := h3.below (hb4.mono h3.lt)
      have ho1 := (HO.out.below (hb4.mono HO.out.le)).more
      have hG4 := chg_below hG3 (hb4.mono hz3)
      have HO2 := Lib.hid (ho2.lower hz3)
      have HO1 := Lib.hid ho1
      have hs2 := small_of_valid (valid_conj HV.out)
      clear hb4 hG3 ho1 ho2 HO
      go_wp2_with fail
      go_ret2
      exact ⟨a1, c1, M1, a2, c2, conj M1, rfl, HO1.out, HO2.out, hs1, hs2, hG4, HV.out, _, by omega, h4⟩
    · have b1 : (z == 1) = false := beq_eq_false_iff_ne.2 hz
      clear hz
      by_cases hz : z = 2
      · have b2 : (z == 2) = true := beq_iff_eq.2 hz
        have hM1l := hs1.1
        have HLM : Hid (M1.length = (ints M1).length) := Lib.hid (by simp)
        clear hz
        have e0 := (Own.empty w3 3).lower (lo' := w.heap.size) hz3
        go_wp2_with (at_builtin; refine wpList_append_o _ rfl (.tmp 26) (.tmp 27) 22 rfl w.heap.size (w3.heap.size + 1) 3 i0 (.int .i64 0) 8 Try.underlying22 hi hk0 hk1 hk2 rfl _ [] rfl e0 _ a1 M1.length c1 (ints M1) rfl ((HO.out.alloc _).rd) HLM.out (ints_one _) (by simp only [List.length_nil, Nat.zero_add]; unfold maxLen; omega) (by simp only [List.length_nil, Nat.zero_add]; omega) (by simp; omega) ?_; intro v' w4 ho4 hg4 hat4; rw [List.nil_append] at ho4; obtain ⟨a2, c2, rfl⟩ := ho4.form; rw [List.length_map] at ho4 ⊢)
        go_ret2
        exact ⟨a1, c1, M1, a2, c2, M1, rfl, keep_offD HO.out hg4, ho4, hs1, hs1, chg_row (chg_alloc hG3 _) hg4 e0.base, HV.out, _, by omega, (h3.row (World.grownBy_alloc w3 _ none) (by simp)).row hg4 (fun k hk => by have := e0.base k hk; omega)⟩
      · have b2 : (z == 2) = false := beq_eq_false_iff_ne.2 hz
        clear hz
        go_wp2_with fail
        refine (partsOfV_any g _ n bs _ hn.1 hn.2 (by omega) h3).mono ?_
        rintro e w4 ⟨a2, c2, M2, rfl, ho2, hv2, ⟨q4, hq4, h4⟩, hg4⟩
        have ho1 := (HO.out.chg hg4 hlt).more
        have hG4 := chg_trans hG3 hg4
        have HO2 := Lib.hid (ho2.lower hz3)
        have HO1 := Lib.hid ho1
        have hs2 := small_of_valid hv2
        clear hg4 hG3 ho1 ho2 HO
        go_wp2_with fail
        go_ret2
        exact ⟨a1, c1, M1, a2, c2, M2, rfl, HO1.out, HO2.out, hs1, hs2, hG4, HV.out, _, by omega, h4⟩
/-- what the draw keeps of the sums -/
def SmS (M P : List Int) (i : Nat) : Prop := (∀ y ∈ M, 1 ≤ y) ∧ sumL M = sumL (P.take i) ∧ M.length ≤ i
theorem le_sumL : ∀ {M : List Int}, (∀ y ∈ M, 1 ≤ y) → 0 ≤ sumL M ∧ ∀ y ∈ M, y ≤ sumL M
  | [], _ => ⟨Int.le_refl 0, fun y hy => by cases hy⟩
  | x :: r, h => by
    have ih := le_sumL (M := r) (fun y hy => h y (by simp [hy]))
    have hx := h x (by simp)
    simp only [sumL]
    refine ⟨by omega, fun y hy => ?_⟩
    rcases List.mem_cons.1 hy with e | e
    · omega
    · have := ih.2 y e; omega
theorem SmS.app {M P : List Int} {i : Nat} {x : Int} (h : SmS M P i) (ht : sumL (P.take (i + 1)) = sumL (P.take i) + x) (hx : 1 ≤ x) : SmS (M ++ [x]) P (i + 1) := by
  refine ⟨fun y hy => ?_, by rw [sumL_append, h.2.1, ht]; simp [sumL], by rw [List.length_append]; have := h.2.2; simp; omega⟩
  rcases List.mem_append.1 hy with e | e
  · exact h.1 y e
  · rw [List.mem_singleton.1 e]; exact hx
theorem SmS.put {M P : List Int} {i k : Nat} {x : Int} (h : SmS M P i) (ht : sumL (P.take (i + 1)) = sumL (P.take i) + x) (hx : 1 ≤ x) (hk : k < M.length) : SmS (M.set k (M[k] + x)) P (i + 1) := by
  have hs : ∀ (L : List Int) (j : Nat) (hj : j < L.length) (z : Int), sumL (L.set j z) + L[j] = sumL L + z := by
    intro L
    induction L with
    | nil => intro j hj; simp at hj
    | cons a r ih =>
      intro j hj z
      cases j with
      | zero => simp only [List.set_cons_zero, sumL, List.getElem_cons_zero]; omega
      | succ j => simp only [List.set_cons_succ, sumL, List.getElem_cons_succ]; have := ih j (by simpa using hj) z; omega
  refine ⟨fun y hy => ?_, by have := hs M k hk (M[k] + x); have := h.2.1; omega, by rw [List.length_set]; have := h.2.2; omega⟩
  rcases List.mem_or_eq_of_mem_set hy with e | e
  · exact h.1 y e
  · have := h.1 _ (List.getElem_mem hk); omega
set_option maxRecDepth 100000 in
set_option maxHeartbeats 4000000 in
theorem DrawRefines_any (a : Option Addr) (c B : Nat) (bs : List Int) (w : World) (h : Rd w B a (bs.map (Value.int .u8))) (hB : B ≤ w.heap.size) (hb : ∀ n ∈ bs, (Lit.int .u8 n).wf = true) (hl : bs.length ≤ 1048576) (hc : bs.length ≤ c) :
    Calls Try.prog 40 #[.slice a bs.length c] w fun e w' => ∃ a1 c1 M1 a2 c2 M2, e = .returned (.tuple #[.slice a1 M1.length c1, .slice a2 M2.length c2]) ∧ Own w' w.heap.size w'.heap.size 3 (.slice a1 M1.length c1) (ints M1) ∧ Own w' w.heap.size w'.heap.size 3 (.slice a2 M2.length c2) (ints M2) ∧ Small M1 ∧ Small M2 ∧ Below w.heap.size w w' := by
  obtain ⟨i0, hi, hk0, hk1, hk2⟩ := T_int'
  have hmx : Try.prog.follows .mixedOrders = true := by kernel_rfl
  go_enter Try.func40, Try.ntmps40
  go_wp2_with fail
  refine (newReader_any _ _ B bs _ h hB hb hl hc).mono ?_
  rintro e w1 ⟨rfl, h1, hb1, -⟩
  have hz := hb1.size
  have hlt1 := h1.lt
  obtain ⟨rs, hrs⟩ : ∃ rs, rs = bs.take 2000 := ⟨_, rfl⟩
  rw [← hrs] at h1
  clear hrs h hb hl hc
  go_wp2_with fail
  refine (samePairsR_any _ 0 _ _ (by omega) h1).mono ?_
  rintro e w2 ⟨a1, c1, P, a2, c2, Q, rfl, ho1, ho2, hs1, hs2, hg, hv, q2, hq2, h2⟩
  have hB2 : Below w.heap.size w w2 := hb1.grown hg hz (fun k hk => by injection hk with hk; omega)
  have hz12 := hg.size
  clear hg h1 hb1
  have hl16 := (valid_bd hv).2.2.2
  have HO1 := Lib.hid ho1
  have HO2 := Lib.hid ho2
  have HV := Lib.hid hv
  have HS1 := Lib.hid hs1
  have HS2 := Lib.hid hs2
  clear ho1 ho2 hv hs1 hs2
  go_wp2_with (go_at_call 48; refine (validParts_any _ _ _ P _ HO1.out.rd (by omega)).mono ?_; rintro e wv ⟨rfl, hd1⟩; replace hd1 : Dr w2 wv := hd1; rw [HV.out])
  refine (pick_any w.heap.size _ 2 rs _ (by omega) (by omega) (h2.dr hd1)).mono ?_
  rintro e w3 ⟨z, rfl, hz0, -, h3, hg3, -⟩
  have HP3 := Lib.hid ((HO1.out.dr hd1).chg hg3 hlt1).more
  have HQ3 := Lib.hid ((HO2.out.dr hd1).chg hg3 hlt1).more
  have hBv := hB2.trans (hd1.below _)
  have hB3 : Below w.heap.size w w3 := hBv.grown hg3 hBv.size (fun k hk => by injection hk with hk; omega)
  have hz23 := hg3.size
  have hz2v := hd1.size
  have hz13 : w1.heap.size ≤ w3.heap.size := by omega
  have hwz1 : w.heap.size < w1.heap.size := hlt1
  clear hBv hg3 hB2 h2 hz2v
  by_cases hz : z = 0
  · have b0 : (z == 0) = true := beq_iff_eq.2 hz
    clear hz
    have hE := Own.empty w3 3
    have hlt3 := h3.lt
    have HSP : Hid (∀ i, 0 ≤ sumL (P.take i) ∧ sumL (P.take i) ≤ 16) := Lib.hid (fun i => by
      have e : ∀ x ∈ P, 1 ≤ x := fun x hx => valid_pos HV.out x hx
      have h1 := (le_sumL (M := P.take i) (fun y hy => e y (List.mem_of_mem_take hy))).1
      have h2 := (le_sumL (M := P.drop i) (fun y hy => e y (List.mem_of_mem_drop hy))).1
      have h3 := congrArg sumL (List.take_append_drop i P)
      rw [sumL_append] at h3
      have h4 := (valid_bd HV.out).2.1
      omega)
    have HR0 := Lib.hid (h3.below ((Below.refl _ _).alloc hlt3 (.cells #[] 3)))
    have HP0 := Lib.hid (HP3.out.alloc (.cells #[] 3))
    have HQ0 := Lib.hid (HQ3.out.alloc (.cells #[] 3))
    have HB0 : Hid (Below w.heap.size w (w3.alloc (.cells #[] 3))) := Lib.hid (hB3.alloc hB3.size _)
    have HE := Lib.hid hE.more
    clear hE h3
    go_wp2_with fail
    go_loopw [7, 8] (fun v ii wr => ∃ (i q' : Nat) (M : List Int), ii = .int .i64 (i : Int) ∧ i ≤ P.length ∧ q' ≤ 810000 + 2 * i ∧ Rdr wr w.heap.size rs q' ∧ Own wr w1.heap.size w3.heap.size 3 (.slice a1 P.length c1) (ints P) ∧ Own wr w1.heap.size w3.heap.size 3 (.slice a2 Q.length c2) (ints Q) ∧ Own wr w3.heap.size wr.heap.size 3 v (ints M) ∧ Below w.heap.size w wr ∧ w3.heap.size ≤ wr.heap.size ∧ Hid (SmS M P i)) (fun _ ii _ => P.length - (intOf ii).toNat)
    case atStart => exact ⟨0, _, [], rfl, Nat.zero_le _, by omega, HR0.out, HP0.out, HQ0.out, HE.out, HB0.out, by simp, Lib.hid ⟨fun y hy => (by cases hy), by simp [sumL], Nat.le_refl _⟩⟩
    case round =>
      obtain ⟨i, q', M, rfl, hi', hq', hr, hp, hq, hs, hB, hzr, HM⟩ := hrel
      have HRwr := Lib.hid hr
      have HPwr := Lib.hid hp
      have HQwr := Lib.hid hq
      have HBwr := Lib.hid hB
      obtain ⟨a0, c0, rfl⟩ := hs.form
      have hlM : (ints M).length = M.length := by simp
      rw [hlM] at hs ⊢
      have HSwr := Lib.hid hs
      clear hr hp hq hs hB hlM
      by_cases hlt : i < P.length
      · have hlt' : (i : Int) < (P.length : Int) := by omega
        have hxv := valid_pos HV.out _ (List.getElem_mem hlt)
        have HTK : Hid (sumL (P.take (i + 1)) = sumL (P.take i) + P[i]) := Lib.hid (sumL_take_succ P i hlt)
        obtain ⟨gP, cP, hvv, hloP, hhiP, -, -⟩ := HPwr.out.at_ (k := i) (by simpa using hlt)
        injection hvv with hvv hvn hvc
        subst hvv
        clear hvn hvc
        have hcell0 : ∀ (wx : World), Own wx w1.heap.size w3.heap.size 3 (.slice (some ⟨gP, 0, none⟩) P.length c1) (ints P) → wx.cell? ⟨gP, i, none⟩ = some (.int .i64 P[i]) := fun wx ho => by
          obtain ⟨g', c', e1, _, _, hc, _⟩ := ho.at_ (k := i) (by simpa using hlt)
          injection e1 with e1
          injection e1 with e1
          injection e1 with e1
          subst e1
          rw [hc]; simp [ints]
        have hxs := (HSP.out (i + 1)).2
        have hxs0 := (HSP.out i).1
        have hxt := HTK.out
        obtain ⟨x, hxe⟩ : ∃ x, P[i] = x := ⟨_, rfl⟩
        rw [hxe] at hcell0 HTK hxv hxt
        have hx1 : 1 ≤ x ∧ x ≤ 16 := by omega
        have HC := Lib.hid hcell0
        have hML := HM.out.2.2
        have hcell := hcell0
        clear hxs hxs0 hxt hxe hcell0
        by_cases hm : M.length = 0
        · have d0 : ((M.length : Int) == 0) = true := by simp [hm]
          have d1 : (M.length == 0) = true := by simp [hm]
          have hcx := hcell _ HPwr.out
          have HSO := Lib.hid HSwr.out
          have hzW : w3.heap.size ≤ wr.heap.size := by omega
          go_wp2_with (at_builtin; refine wpList_append_o _ rfl (.tmp 39) (.tmp 44) 22 rfl w3.heap.size wr.heap.size 3 i0 (.int .i64 0) 8 Try.underlying22 hi hk0 hk1 hk2 rfl _ (ints M) rfl (HSwr.out.alloc _) (wr.heap.size + 1) (some ⟨wr.heap.size, 0, none⟩) 1 1 [.int .i64 x] rfl (Rd.one wr _ _) rfl (by simp; rfl) (by simp; unfold maxLen; omega) (by simp; omega) (by simp; omega) ?_; intro v' wA ho6 hg6 hat6)
          have hbA : Below w3.heap.size wr wA := ((Below.refl _ _).alloc hzW _).grown hg6 (by simp; omega) (fun k hk => HSwr.out.base k hk)
          have hszA := hbA.size
          go_roundw
          case rel => exact ⟨i + 1, _, M ++ [x], by go_num, by omega, by omega, HRwr.out.below (hbA.mono (by omega)), HPwr.out.below hbA, HQwr.out.below hbA, by simpa [ints] using ho6, HBwr.out.trans (hbA.mono (by omega)), by omega, Lib.hid (HM.out.app HTK.out hx1.1)⟩
          case measure => simp [intOf] <;> omega
        · have d0 : ((M.length : Int) == 0) = false := beq_eq_false_iff_ne.2 (by omega)
          go_wp2_with fail
          refine (pick_any w.heap.size _ 2 rs _ (by omega) (by omega) HRwr.out).mono ?_
          rintro e w5 ⟨y, rfl, hy0, -, h5, hg5, -⟩
          have HRw5 := Lib.hid h5
          have HPw5 := Lib.hid (HPwr.out.chg hg5 hlt1)
          have HQw5 := Lib.hid (HQwr.out.chg hg5 hlt1)
          have HSw5 := Lib.hid (HSwr.out.chg hg5 (by omega)).more
          have hbzw5 := hg5.size
          have HBw5 : Hid (Below w.heap.size w w5) := Lib.hid (HBwr.out.grown hg5 (by omega) (fun k hk => by injection hk with hk; omega))
          clear hg5 h5
          by_cases hyz : y = 0
          · have dy : (y == 0) = true := by simp [hyz]
            clear hyz
            have hcx := hcell _ HPw5.out
            have HSO := Lib.hid HSw5.out
            have hzW : w3.heap.size ≤ w5.heap.size := by omega
            go_wp2_with (at_builtin; refine wpList_append_o _ rfl (.tmp 39) (.tmp 44) 22 rfl w3.heap.size w5.heap.size 3 i0 (.int .i64 0) 8 Try.underlying22 hi hk0 hk1 hk2 rfl _ (ints M) rfl (HSw5.out.alloc _) (w5.heap.size + 1) (some ⟨w5.heap.size, 0, none⟩) 1 1 [.int .i64 x] rfl (Rd.one w5 _ _) rfl (by simp; rfl) (by simp; unfold maxLen; omega) (by simp; omega) (by simp; omega) ?_; intro v' wA ho6 hg6 hat6)
            have hbA : Below w3.heap.size w5 wA := ((Below.refl _ _).alloc hzW _).grown hg6 (by simp; omega) (fun k hk => HSw5.out.base k hk)
            have hszA := hbA.size
            go_roundw
            case rel => exact ⟨i + 1, _, M ++ [x], by go_num, by omega, by omega, HRw5.out.below (hbA.mono (by omega)), HPw5.out.below hbA, HQw5.out.below hbA, by simpa [ints] using ho6, HBw5.out.trans (hbA.mono (by omega)), by omega, Lib.hid (HM.out.app HTK.out hx1.1)⟩
            case measure => simp [intOf] <;> omega
          · have dy : (y == 0) = false := by simp [hyz]
            clear hyz
            go_wp2_with fail
            refine (pick_any w.heap.size _ _ rs _ (by omega) (by omega) HRw5.out).mono ?_
            rintro e w6 ⟨kk, rfl, hk0', hk1', h6, hg6, -⟩
            obtain ⟨k, rfl⟩ := Int.eq_ofNat_of_zero_le hk0'
            have hkl : k < M.length := by have := hk1' (by omega); omega
            clear hk1'
            have HRw6 := Lib.hid h6
            have HPw6 := Lib.hid (HPw5.out.chg hg6 hlt1)
            have HQw6 := Lib.hid (HQw5.out.chg hg6 hlt1)
            have HSw6 := Lib.hid (HSw5.out.chg hg6 (by omega)).more
            have hbzw6 := hg6.size
            have HBw6 : Hid (Below w.heap.size w w6) := Lib.hid (HBw5.out.grown hg6 (by omega) (fun k hk => by injection hk with hk; omega))
            clear hg6 h6
            have hcx := hcell _ HPw6.out
            obtain ⟨gS, cS, hvS, hloS, hhiS, hcS, hfS⟩ := HSw6.out.at_ (k := k) (by simpa using hkl)
            injection hvS with hvS hvn hvc
            subst hvS
            clear hvn hvc
            have hle := le_sumL HM.out.1
            have hyb := hle.2 _ (List.getElem_mem hkl)
            have hyb2 := HM.out.1 _ (List.getElem_mem hkl)
            have hsum := HM.out.2.1
            have hsP := HSP.out i
            obtain ⟨y, hy⟩ : ∃ y, M[k] = y := ⟨_, rfl⟩
            have hcy : w6.cell? ⟨gS, k, none⟩ = some (.int .i64 y) := by rw [hcS]; simp [ints, hy]
            rw [hy] at hyb hyb2
            have hws : IntKind.i64.wrap (y + x) = y + x := IntWalk.i64_in _ (by omega)
            have HPUT : Hid (SmS (M.set k (y + x)) P (i + 1)) := Lib.hid (by rw [← hy]; exact HM.out.put HTK.out hx1.1 hkl)
            have hzW : w3.heap.size ≤ w6.heap.size := by omega
            have hkl' : (k : Int) < (M.length : Int) := by omega
            clear hcS hle hy hsum hsP
            go_wp2_with fail
            refine wp_region_store [0, 1, 2, 3, 4, 5, 6, 7, 8, 9, 10, 11] [.slice (some ⟨gS, 0, none⟩) M.length c0, .int .i64 (k : Int), .slice (some ⟨gS, 0, none⟩) M.length c0, .int .i64 (k : Int), .pointer (some ⟨gS, k, none⟩), .int .i64 y, .slice (some ⟨gP, 0, none⟩) P.length c1, .int .i64 (i : Int), .pointer (some ⟨gP, i, none⟩), .int .i64 x, .int .i64 (y + x), .pointer (some ⟨gS, k, none⟩)] (fun w' => Dr w6 w') _ hmx (fun _ h => h) rfl (by kernel_rfl) (by kernel_rfl) rfl rfl (by kernel_rfl) (by kernel_rfl) _ rfl rfl rfl 3 _ _ rfl ⟨gS, k, none⟩ (.int .i64 (y + x)) ?hx ?hy ?run ?steps ?rest
            case hx => simp only [putsOfG, Act.put, List.getElem?_toArray, List.getElem?_cons_succ, List.getElem?_cons_zero, Option.bind_some, Nat.reduceAdd, List.setIfInBounds_toArray, List.set_cons_zero, List.set_cons_succ]; rfl
            case hy => simp only [putsOfG, Act.put, List.getElem?_toArray, List.getElem?_cons_succ, List.getElem?_cons_zero, Option.bind_some, Nat.reduceAdd, List.setIfInBounds_toArray, List.set_cons_zero, List.set_cons_succ]; rfl
            case run =>
              intro wp hS
              have s1 := cell_dr hS hcy
              have s3 := froz_dr hS hfS
              go_simp
            case steps =>
              simp only [putsOfG, Act.put, List.getElem?_toArray, List.getElem?_cons_succ, List.getElem?_cons_zero, Option.bind_some, Nat.reduceAdd, List.setIfInBounds_toArray, List.set_cons_zero, List.set_cons_succ]
              refine StepsG.cons rfl rfl (fun wq hS => ?_) ?_
              · go_simp
              refine StepsG.cons rfl rfl (fun wq hS => ?_) ?_
              · go_simp
              refine StepsG.cons rfl rfl (fun wq hS => ?_) ?_
              · go_simp
              refine StepsG.cons rfl rfl (fun wq hS => ?_) ?_
              · go_simp
              refine StepsG.cons rfl rfl (fun wq hS => ?_) ?_
              · go_simp
              refine StepsG.cons rfl rfl (fun wq hS => ?_) ?_
              · have s1 := cell_dr hS hcy
                go_simp
              refine StepsG.cons rfl rfl (fun wq hS => ?_) ?_
              · go_simp
              refine StepsG.cons rfl rfl (fun wq hS => ?_) ?_
              · go_simp
              refine StepsG.cons rfl rfl (fun wq hS => ?_) ?_
              · go_simp
              refine StepsG.cons rfl rfl (fun wq hS => ?_) ?_
              · have s1 := cell_dr hS hcx
                go_simp
              refine StepsG.cons rfl rfl (fun wq hS => ?_) ?_
              · go_simp
              refine StepsG.cons rfl rfl (fun wq hS => ?_) ?_
              · go_simp
              exact StepsG.nil
            case rest =>
              intro wp hS
              simp only [putsOfG, Act.put, List.getElem?_toArray, List.getElem?_cons_succ, List.getElem?_cons_zero, Option.bind_some, Nat.reduceAdd, List.setIfInBounds_toArray, List.set_cons_zero, List.set_cons_succ]
              have ho2 := ((HSw6.out.dr hS).set k (.int .i64 (y + x))).more
              have hln : M.length = (M.set k (y + x)).length := by rw [List.length_set]
              have HO2' : Hid (Own (wp.setCell ⟨gS, k, none⟩ (.int .i64 (y + x))) w3.heap.size (wp.setCell ⟨gS, k, none⟩ (.int .i64 (y + x))).heap.size 3 (.slice (some ⟨gS, 0, none⟩) M.length c0) (ints (M.set k (y + x)))) := Lib.hid (by
                rw [show ints (M.set k (y + x)) = (ints M).set k (.int .i64 (y + x)) by simp [ints, List.map_set]]; exact ho2)
              have hbs : Below w3.heap.size w6 (wp.setCell ⟨gS, k, none⟩ (.int .i64 (y + x))) := (hS.below _).setCell (by exact hloS) _
              obtain ⟨w7, hw7⟩ : ∃ w7, wp.setCell ⟨gS, k, none⟩ (.int .i64 (y + x)) = w7 := ⟨_, rfl⟩
              rw [hw7] at HO2' hbs ⊢
              have hsz7 := hbs.size
              clear ho2 hw7 hcx hcy hfS hS
              go_wp2_with fail
              go_roundw
              case rel => exact ⟨i + 1, _, M.set k (y + x), by go_num, by omega, by omega, HRw6.out.below (hbs.mono (by omega)), HPw6.out.below hbs, HQw6.out.below hbs, HO2'.out, HBw6.out.trans (hbs.mono (by omega)), by omega, HPUT⟩
              case measure => simp [intOf] <;> omega
      · obtain rfl : i = P.length := by omega
        clear hlt
        have HMG : Hid (valid (mrg M) = true) := Lib.hid (mrg_ok (vsm_iff.2 ⟨HM.out.1, by have h1 := HM.out.2.1; have h2 := (HSP.out P.length).2; omega⟩))
        have hML := HM.out.2.2
        go_wp2_with fail
        refine (merge_any _ _ _ M _ HSwr.out.rd HSwr.out.le (by omega)).mono ?_
        rintro e w5 ⟨a', c', rfl, hom, hb5⟩
        have HOM := Lib.hid (hom.lower (lo' := w.heap.size) (by omega))
        have hsz5 := hb5.size
        clear hom
        go_wp2_with fail
        go_ret2
        exact ⟨a1, c1, P, a', c', mrg M, rfl, ((HPwr.out.below (hb5.mono hzr)).more).lower (by omega), HOM.out, HS1.out, small_of_valid HMG.out, HBwr.out.trans (hb5.mono (by omega))⟩
  · have b0 : (z == 0) = false := beq_eq_false_iff_ne.2 hz
    clear hz
    go_wp2_with fail
    go_ret2
    exact ⟨a1, c1, P, a2, c2, Q, rfl, HP3.out.lower (by omega), HQ3.out.lower (by omega), HS1.out, HS2.out, hB3⟩
end Go.Proofs.Ythafbdpeignccaa
namespace Go.Proofs.Ythafbdpeignccaa
open Go.RowKit NP
set_option maxRecDepth 8000
set_option linter.unusedVariables false
set_option linter.unusedSimpArgs false
set_option maxHeartbeats 1600000 in
theorem sumsOf_any (g q : Nat) (bs : List Int) (w : World) (hq : q ≤ 900000) (h : Rdr w g bs q) :
    Calls Try.prog 85 #[.pointer (some ⟨g, 0, none⟩)] w fun e w' => ∃ a' c' M, e = .returned (.slice a' M.length c') ∧ Own w' w.heap.size w'.heap.size 3 (.slice a' M.length c') (ints M) ∧ Small M ∧ (∃ q', q' ≤ q + 40 ∧ Rdr w' g bs q') ∧ w.grownBy w' (some g) := by
  obtain ⟨i0, hi, hz0, hz1, hz2⟩ := T_int'
  have hlt := h.lt
  go_enter Try.func85, Try.ntmps85
  go_wp2_with fail
  refine (sumFor_any g q bs _ (by omega) (h.below ((Below.refl _ _).alloc hlt _))).mono ?_
  rintro e w1 ⟨n, rfl, hn, h1, hg1⟩
  obtain ⟨n, rfl⟩ := Int.eq_ofNat_of_zero_le hn.1
  have hE := ((Own.empty w 3).more.chg hg1 hlt).more
  have hg0 := chg_trans (chg_alloc (World.grownBy.refl w (some g)) (.cells #[] 3)) hg1
  have hz1' := hg1.size
  rw [World.size_alloc] at hz1'
  clear h hg1
  go_wp2_with fail
  go_loopw [3, 4, 5] (fun v nn _ wr => ∃ (m : Nat) (q' : Nat) (M : List Int), nn = .int .i64 (m : Int) ∧ M.length + m ≤ 16 ∧ q' + m ≤ q + 1 + 16 ∧ Rdr wr g bs q' ∧ w.grownBy wr (some g) ∧ Own wr w.heap.size wr.heap.size 3 v (ints M) ∧ Hid (∀ x ∈ M, 1 ≤ x ∧ x ≤ 16)) (fun _ nn _ _ => (intOf nn).toNat)
  case atStart => exact ⟨n, q + 1, [], rfl, by simp; omega, by omega, h1, hg0, hE, Lib.hid (by simp)⟩
  case round =>
    obtain ⟨m, q', M, rfl, hMm, hqm, hr, hg, hown, HM⟩ := hrel
    clear h1 hg0 hE hz1'
    have hltr := hr.lt
    have hzr := hg.size
    have hlo : w.heap.size ≤ wr.heap.size := hzr
    by_cases hm : 0 < m
    · have hm' : (0 : Int) < (m : Int) := by omega
      have HO := Lib.hid hown
      clear hown
      go_wp2_with fail
      all_goals
        refine (pick_any g _ _ bs _ (by omega) (by omega) hr).mono ?_
        rintro e w2 ⟨y, rfl, hy0, hy1, h2, hg2, -⟩
        obtain ⟨y, rfl⟩ := Int.eq_ofNat_of_zero_le hy0
        have hym : y + 1 ≤ m := by have := hy1 (by omega); omega
        clear hy1
        have hown2 := (HO.out.chg hg2 hlt).more
        have hgw2 := chg_trans hg hg2
        have hzw2 := hgw2.size
        clear hg2 HO
        go_wp2_with (at_builtin; refine wpList_append_o _ rfl (.tmp 16) (.tmp 18) 22 rfl w.heap.size w2.heap.size 3 i0 (.int .i64 0) 8 Try.underlying22 hi hz0 hz1 hz2 rfl _ (ints M) rfl (hown2.alloc _) (w2.heap.size + 1) (some ⟨w2.heap.size, 0, none⟩) 1 1 [.int .i64 (1 + (y : Int))] rfl (Rd.one w2 _ _) rfl (by simp; rfl) (by simp; unfold maxLen; omega) (by simp; omega) (by simp; omega) ?_; intro v' w3 ho3 hg3 hat3)
        go_roundw
        case rel =>
          refine ⟨m - (1 + y), q' + 1, M ++ [1 + (y : Int)], by go_num, by simp; omega, by omega, (h2.row (World.grownBy_alloc w2 _ none) (by simp)).row hg3 (fun k hk => by have := hown2.base k hk; omega), chg_row (chg_alloc hgw2 _) hg3 hown2.base, by simpa [ints] using ho3, Lib.hid fun x hx => ?_⟩
          simp at hx
          rcases hx with hx | hx
          · exact HM.out x hx
          · omega
        case measure => simp [intOf] <;> omega
    · obtain rfl : m = 0 := by omega
      have HSM : Hid (Small M) := Lib.hid ⟨by omega, fun x hx => by have := HM.out x hx; omega⟩
      have HO := Lib.hid hown
      clear hown
      go_wp2_with fail
      refine (pick_any g _ _ bs _ (by omega) (by omega) hr).mono ?_
      rintro e w2 ⟨y, rfl, hy0, hy1, h2, hg2, -⟩
      clear hy1
      have hown2 := (HO.out.chg hg2 hlt).more
      have hgw2 := chg_trans hg hg2
      have hzw2 := hgw2.size
      have hlt2 := h2.lt
      clear hg2 HO hr hg
      by_cases h0 : y = 0
      · subst h0
        have HO2 := Lib.hid hown2
        clear hown2
        go_wp2_with fail
        refine (one_any g _ _ _ _ [0, -1, 17] bs _ (by simp) (by simp) (by omega) (h2.below ((Below.refl _ _).alloc hlt2 _)) (rd_new w2 _ _) (by intro b o e; injection e with e; injection e with e; omega)).mono ?_
        rintro e w3 ⟨k, hk, rfl, h3, hg3, -⟩
        have hx : ∀ x ∈ ([0, -1, 17] : List Int), -1 ≤ x ∧ x ≤ 17 := by decide
        have hx1 := hx _ (List.getElem_mem hk)
        obtain ⟨x, hxx⟩ : ∃ x, x = ([0, -1, 17] : List Int)[k] := ⟨_, rfl⟩
        rw [← hxx] at hx1 ⊢
        clear hx hxx hk
        have hown3 := ((HO2.out.alloc (.cells (ints [0, -1, 17]).toArray 3)).chg hg3 hlt).more
        have hgw3 := chg_trans (chg_alloc hgw2 (.cells (ints [0, -1, 17]).toArray 3)) hg3
        have hzw3 := hgw3.size
        clear HO2 hg3
        go_wp2_with (at_builtin; refine wpList_append_o _ rfl (.tmp 27) (.tmp 31) 22 rfl w.heap.size w3.heap.size 3 i0 (.int .i64 0) 8 Try.underlying22 hi hz0 hz1 hz2 rfl _ (ints M) rfl (hown3.alloc _) (w3.heap.size + 1) (some ⟨w3.heap.size, 0, none⟩) 1 1 [.int .i64 x] rfl (Rd.one w3 _ _) rfl (by simp; rfl) (by simp; unfold maxLen; omega) (by simp; omega) (by simp; omega) ?_; intro v' w4 ho4 hg4 hat4)
        go_ret
        have e : ints M ++ [Value.int .i64 x] = ints (M ++ [x]) := by simp [ints]
        rw [e] at ho4
        obtain ⟨a', c', rfl⟩ := ho4.form
        have hl3 : (ints (M ++ [x])).length = (M ++ [x]).length := by simp
        rw [hl3] at ho4 ⊢
        refine ⟨a', c', M ++ [x], rfl, ho4, ⟨by have := HSM.out.1; simp; omega, fun z hz => ?_⟩, ⟨_, by omega, (h3.row (World.grownBy_alloc w3 _ none) (by simp)).row hg4 (fun k hk => by have := hown3.base k hk; omega)⟩, chg_row (chg_alloc hgw3 _) hg4 hown3.base⟩
        rcases List.mem_append.1 hz with hz | hz
        · exact HSM.out.2 z hz
        · simp at hz; omega
      · have e0 : (y == 0) = false := by simp; omega
        by_cases h1' : y = 1
        · subst h1'
          have hlen2 : (ints M).length = M.length := by simp
          have hM := HSM.out.1
          go_wp2_with (at_builtin; refine wpList_append_o _ rfl (.tmp 35) (.tmp 36) 22 rfl w.heap.size w2.heap.size 3 i0 (.int .i64 0) 8 Try.underlying22 hi hz0 hz1 hz2 rfl _ (ints M) rfl (hown2.alloc _) (w2.heap.size + 1) (some ⟨w2.heap.size, 0, none⟩) 2 2 (ints [9, 9]) rfl (rd_new w2 _ _) rfl (ints_one _) (by rw [hlen2]; unfold maxLen; omega) (by rw [hlen2]; omega) (by simp; omega) ?_; intro v' w4 ho4 hg4 hat4)
          go_ret
          have e : ints M ++ ints [9, 9] = ints (M ++ [9, 9]) := by simp [ints]
          rw [e] at ho4
          obtain ⟨a', c', rfl⟩ := ho4.form
          have hl3 : (ints (M ++ [9, 9])).length = (M ++ [9, 9]).length := by simp
          rw [hl3] at ho4 ⊢
          refine ⟨a', c', M ++ [9, 9], rfl, ho4, ⟨by simp; omega, fun x hx => ?_⟩, ⟨_, by omega, (h2.row (World.grownBy_alloc w2 _ none) (by simp)).row hg4 (fun k hk => by have := hown2.base k hk; omega)⟩, chg_row (chg_alloc hgw2 _) hg4 hown2.base⟩
          rcases List.mem_append.1 hx with hx | hx
          · exact HSM.out.2 x hx
          · simp at hx; omega
        · have e1 : (y == 1) = false := by simp; omega
          obtain ⟨a', c', hv⟩ := hown2.form
          have hl3 : (ints M).length = M.length := by simp
          rw [hl3] at hv
          subst hv
          have HO2 := Lib.hid hown2
          clear hown2
          go_wp2_with fail
          go_ret
          exact ⟨a', c', M, rfl, HO2.out, HSM.out, ⟨_, by omega, h2⟩, hgw2⟩
end Go.Proofs.Ythafbdpeignccaa
