/-
  Walks: a cell put, of the model; the draws of AddCell.
-/
import Derived.Test.YtpjlbmdpbjdkhaaW8
import Derived.Test.YtpjlbmdpbjdkhaaD4
namespace Go.Proofs.Ytpjlbmdpbjdkhaa
open Go.RowKit NP
set_option linter.unusedVariables false

set_option maxHeartbeats 1000000 in
theorem sAddCell_any (a : Option Addr) (c B : Nat) (L : List Int) (i : Int) (w : World) (h : Rd w B a (ints L)) (hB : B ≤ w.heap.size) (hl : L.length ≤ 4611686018427387904) :
    Calls Try.prog 13 #[.slice a L.length c, .int .i64 i] w fun e w' => ∃ a' c', e = .returned (.tuple #[.slice a' (addC L i).length c', .bool (addOk L i)]) ∧ Own w' w.heap.size w'.heap.size 3 (.slice a' (addC L i).length c') (ints (addC L i)) ∧ Below w.heap.size w w' := by
  obtain ⟨i0, hi, hz0, hz1, hz2⟩ := T_int'
  cases hv : valid L with
  | true =>
    have hl16 := (valid_bd hv).2.2.2
    have HV := Lib.hid hv
    by_cases hin : 0 ≤ i ∧ i ≤ L.length
    · obtain ⟨k, rfl⟩ := Int.eq_ofNat_of_zero_le hin.1
      have hk : k ≤ L.length := by omega
      have HOK := Lib.hid (addOk_at hv hk)
      have hi1 : (0 : Int) ≤ (k : Int) := by omega
      have hi2 : (k : Int) ≤ (L.length : Int) := by omega
      clear hin hv
      by_cases hkl : k = L.length
      · have b0 : ((k : Int) == (L.length : Int)) = true := beq_iff_eq.2 (by omega)
        have HA : Hid (addL L k = L ++ [1]) := Lib.hid (by unfold addL; rw [if_pos hkl])
        clear hkl
        cases hva : valid (addL L k) with
        | true =>
          have HVA := Lib.hid hva
          clear hva
          go_enter Try.func13, Try.ntmps13
          go_wp2_with (first
        | (go_at_call 41; refine (validParts_any _ _ _ (addL L k) _ ho4.rd (by have := addL_len L k; omega)).mono ?_; rintro e w5 ⟨rfl, n5, rfl⟩; rw [HVA.out])
        | (go_at_call 41; refine (validParts_any _ _ B L _ h hl).mono ?_; rintro e w1 ⟨rfl, n, rfl⟩; rw [HV.out])
        | (go_at_call 42; refine (inRange_yes _ _ _ _ hi1 hi2).mono ?_; rintro e w2 ⟨rfl, rfl⟩)
        | (at_builtin; refine wpList_append_o _ rfl (.tmp 17) (.tmp 18) 23 rfl w.heap.size (w.heap.size + 1) 3 i0 (.int .i64 0) 8 Try.underlying23 hi hz0 hz1 hz2 rfl _ [] rfl (Own.empty (w.drewN n) 3) B a L.length c (ints L) rfl ((h.dr (Dr.n w n)).alloc hB _) (by simp) (ints_one L) (by simp; unfold maxLen; omega) (by simp; omega) (by simp) ?_; intro v' w3 ho3 hg3 hat3; rw [List.nil_append] at ho3; clear hat3; have hb3 : Below w.heap.size w w3 := ((((Dr.n w n).below _)).alloc (by simp) _).grown hg3 (by simp) (fun x hx => by injection hx with hx; subst hx; exact Nat.le_refl _); obtain ⟨a3, c3, rfl⟩ := ho3.form; have hl1 : (ints L).length = L.length := (by simp); rw [hl1] at ho3 ⊢; have HO := Lib.hid ho3; clear ho3 hg3 hl1)
        | (at_builtin; refine wpList_append_o _ rfl (.tmp 24) (.tmp 25) 23 rfl w.heap.size w3.heap.size 3 i0 (.int .i64 0) 8 Try.underlying23 hi hz0 hz1 hz2 rfl _ (ints L) rfl (HO.out.alloc _) (w3.heap.size + 1) (some ⟨w3.heap.size, 0, none⟩) 1 1 [.int .i64 1] rfl (Rd.one _ _ _) rfl (by simp; rfl) (by simp; unfold maxLen; omega) (by simp; omega) (by have := hb3.size; simp; omega) ?_; intro v' w4 ho4 hg4 hat4; clear hat4; have hb4 : Below w.heap.size w w4 := below_push hb3 (Nat.le_refl _) hg4 HO.out.base; have e4 : ints L ++ [Value.int .i64 1] = ints (addL L k) := (by rw [HA.out]; simp [ints]); rw [e4] at ho4; obtain ⟨a4, c4, rfl⟩ := ho4.form; have el4 : (ints (addL L k)).length = (addL L k).length := (by simp); rw [el4] at ho4 ⊢; clear hg4 e4 el4))
          go_ret2
          have hok : addOk L k = true := by rw [HOK.out, HVA.out]
          rw [addC_yes hok, hok]
          exact ⟨a4, c4, rfl, (ho4.drewN n5).more, hb4.trans ((Dr.n _ _).below _)⟩
        | false =>
          have HVA := Lib.hid hva
          clear hva
          go_enter Try.func13, Try.ntmps13
          go_wp2_with (first
        | (go_at_call 41; refine (validParts_any _ _ _ (addL L k) _ ho4.rd (by have := addL_len L k; omega)).mono ?_; rintro e w5 ⟨rfl, n5, rfl⟩; rw [HVA.out])
        | (go_at_call 41; refine (validParts_any _ _ B L _ h hl).mono ?_; rintro e w1 ⟨rfl, n, rfl⟩; rw [HV.out])
        | (go_at_call 42; refine (inRange_yes _ _ _ _ hi1 hi2).mono ?_; rintro e w2 ⟨rfl, rfl⟩)
        | (at_builtin; refine wpList_append_o _ rfl (.tmp 17) (.tmp 18) 23 rfl w.heap.size (w.heap.size + 1) 3 i0 (.int .i64 0) 8 Try.underlying23 hi hz0 hz1 hz2 rfl _ [] rfl (Own.empty (w.drewN n) 3) B a L.length c (ints L) rfl ((h.dr (Dr.n w n)).alloc hB _) (by simp) (ints_one L) (by simp; unfold maxLen; omega) (by simp; omega) (by simp) ?_; intro v' w3 ho3 hg3 hat3; rw [List.nil_append] at ho3; clear hat3; have hb3 : Below w.heap.size w w3 := ((((Dr.n w n).below _)).alloc (by simp) _).grown hg3 (by simp) (fun x hx => by injection hx with hx; subst hx; exact Nat.le_refl _); obtain ⟨a3, c3, rfl⟩ := ho3.form; have hl1 : (ints L).length = L.length := (by simp); rw [hl1] at ho3 ⊢; have HO := Lib.hid ho3; clear ho3 hg3 hl1)
        | (at_builtin; refine wpList_append_o _ rfl (.tmp 24) (.tmp 25) 23 rfl w.heap.size w3.heap.size 3 i0 (.int .i64 0) 8 Try.underlying23 hi hz0 hz1 hz2 rfl _ (ints L) rfl (HO.out.alloc _) (w3.heap.size + 1) (some ⟨w3.heap.size, 0, none⟩) 1 1 [.int .i64 1] rfl (Rd.one _ _ _) rfl (by simp; rfl) (by simp; unfold maxLen; omega) (by simp; omega) (by have := hb3.size; simp; omega) ?_; intro v' w4 ho4 hg4 hat4; clear hat4; have hb4 : Below w.heap.size w w4 := below_push hb3 (Nat.le_refl _) hg4 HO.out.base; have e4 : ints L ++ [Value.int .i64 1] = ints (addL L k) := (by rw [HA.out]; simp [ints]); rw [e4] at ho4; obtain ⟨a4, c4, rfl⟩ := ho4.form; have el4 : (ints (addL L k)).length = (addL L k).length := (by simp); rw [el4] at ho4 ⊢; clear hg4 e4 el4))
          go_ret2
          have hok : addOk L k = false := by rw [HOK.out, HVA.out]
          rw [addC_no hok, hok]
          exact ⟨none, 0, rfl, own_nil0 _ _ _, hb4.trans ((Dr.n _ _).below _)⟩
      · have hk2 : k < L.length := by omega
        have b0 : ((k : Int) == (L.length : Int)) = false := beq_eq_false_iff_ne.2 (by omega)
        have hx := preS_of_valid HV.out k hk2 hk2
        have hx1 : 1 ≤ L[k] ∧ L[k] ≤ 16 := ⟨hx.1, hx.2.1⟩
        have HA : Hid (addL L k = L.set k (L[k] + 1)) := Lib.hid (by unfold addL; rw [if_neg hkl, getD_lt hk2])
        obtain ⟨x, hxe⟩ : ∃ x, x = L[k] := ⟨_, rfl⟩
        rw [← hxe] at HA hx1
        have HX := Lib.hid hxe
        clear hkl hx hxe
        cases hva : valid (addL L k) with
        | true =>
          have HVA := Lib.hid hva
          clear hva
          go_enter Try.func13, Try.ntmps13
          go_wp2_with (first
        | (go_at_call 41; have hs4 : (ints L).set k (.int .i64 (x + 1)) = ints (addL L k) := (by rw [HA.out]; simp [ints, List.map_set]); have ho4 := (HO.out.set k (.int .i64 (x + 1))).more; rw [hs4] at ho4; have hln : L.length = (addL L k).length := (by rw [HA.out]; simp); rw [hln] at ho4 ⊢; refine (validParts_any _ _ _ (addL L k) _ ho4.rd (by omega)).mono ?_; rintro e w5 ⟨rfl, n5, rfl⟩; rw [HVA.out])
        | (go_at_call 41; refine (validParts_any _ _ B L _ h hl).mono ?_; rintro e w1 ⟨rfl, n, rfl⟩; rw [HV.out])
        | (go_at_call 42; refine (inRange_yes _ _ _ _ hi1 hi2).mono ?_; rintro e w2 ⟨rfl, rfl⟩)
        | (at_builtin; refine wpList_append_o _ rfl (.tmp 17) (.tmp 18) 23 rfl w.heap.size (w.heap.size + 1) 3 i0 (.int .i64 0) 8 Try.underlying23 hi hz0 hz1 hz2 rfl _ [] rfl (Own.empty (w.drewN n) 3) B a L.length c (ints L) rfl ((h.dr (Dr.n w n)).alloc hB _) (by simp) (ints_one L) (by simp; unfold maxLen; omega) (by simp; omega) (by simp) ?_; intro v' w3 ho3 hg3 hat3; rw [List.nil_append] at ho3; clear hat3; have hb3 : Below w.heap.size w w3 := ((((Dr.n w n).below _)).alloc (by simp) _).grown hg3 (by simp) (fun x hx => by injection hx with hx; subst hx; exact Nat.le_refl _); obtain ⟨g3, c3, hv3, hlo3, hhi3, hc3, hf3⟩ := ho3.at_ (k := k) (by simpa using hk2); subst hv3; have hcx : w3.cell? ⟨g3, k, none⟩ = some (.int .i64 x) := (by rw [hc3, HX.out]; simp [ints]); clear hc3; have hl1 : (ints L).length = L.length := (by simp); rw [hl1] at ho3 ⊢; have HO := Lib.hid ho3; clear ho3 hg3 hl1))
          have hb4 : Below w.heap.size w (w3.setCell ⟨g3, k, none⟩ (.int .i64 (x + 1))) := hb3.setCell (by show w.heap.size ≤ g3; exact hlo3) _
          go_ret2
          have hok : addOk L k = true := by rw [HOK.out, HVA.out]
          rw [addC_yes hok, hok]
          exact ⟨some ⟨g3, 0, none⟩, c3, rfl, (ho4.drewN n5).more, hb4.trans ((Dr.n _ _).below _)⟩
        | false =>
          have HVA := Lib.hid hva
          clear hva
          go_enter Try.func13, Try.ntmps13
          go_wp2_with (first
        | (go_at_call 41; have hs4 : (ints L).set k (.int .i64 (x + 1)) = ints (addL L k) := (by rw [HA.out]; simp [ints, List.map_set]); have ho4 := (HO.out.set k (.int .i64 (x + 1))).more; rw [hs4] at ho4; have hln : L.length = (addL L k).length := (by rw [HA.out]; simp); rw [hln] at ho4 ⊢; refine (validParts_any _ _ _ (addL L k) _ ho4.rd (by omega)).mono ?_; rintro e w5 ⟨rfl, n5, rfl⟩; rw [HVA.out])
        | (go_at_call 41; refine (validParts_any _ _ B L _ h hl).mono ?_; rintro e w1 ⟨rfl, n, rfl⟩; rw [HV.out])
        | (go_at_call 42; refine (inRange_yes _ _ _ _ hi1 hi2).mono ?_; rintro e w2 ⟨rfl, rfl⟩)
        | (at_builtin; refine wpList_append_o _ rfl (.tmp 17) (.tmp 18) 23 rfl w.heap.size (w.heap.size + 1) 3 i0 (.int .i64 0) 8 Try.underlying23 hi hz0 hz1 hz2 rfl _ [] rfl (Own.empty (w.drewN n) 3) B a L.length c (ints L) rfl ((h.dr (Dr.n w n)).alloc hB _) (by simp) (ints_one L) (by simp; unfold maxLen; omega) (by simp; omega) (by simp) ?_; intro v' w3 ho3 hg3 hat3; rw [List.nil_append] at ho3; clear hat3; have hb3 : Below w.heap.size w w3 := ((((Dr.n w n).below _)).alloc (by simp) _).grown hg3 (by simp) (fun x hx => by injection hx with hx; subst hx; exact Nat.le_refl _); obtain ⟨g3, c3, hv3, hlo3, hhi3, hc3, hf3⟩ := ho3.at_ (k := k) (by simpa using hk2); subst hv3; have hcx : w3.cell? ⟨g3, k, none⟩ = some (.int .i64 x) := (by rw [hc3, HX.out]; simp [ints]); clear hc3; have hl1 : (ints L).length = L.length := (by simp); rw [hl1] at ho3 ⊢; have HO := Lib.hid ho3; clear ho3 hg3 hl1))
          have hb4 : Below w.heap.size w (w3.setCell ⟨g3, k, none⟩ (.int .i64 (x + 1))) := hb3.setCell (by show w.heap.size ≤ g3; exact hlo3) _
          go_ret2
          have hok : addOk L k = false := by rw [HOK.out, HVA.out]
          rw [addC_no hok, hok]
          exact ⟨none, 0, rfl, own_nil0 _ _ _, hb4.trans ((Dr.n _ _).below _)⟩
    · have hOk := addOk_out hin
      rw [addC_no hOk, hOk]
      replace hin : i < 0 ∨ (L.length : Int) < i := by omega
      clear hOk hv
      have HIN := Lib.hid hin
      clear hin
      go_enter Try.func13, Try.ntmps13
      go_wp2_with (first
        | (go_at_call 41; refine (validParts_any _ _ B L _ h hl).mono ?_; rintro e w1 ⟨rfl, n, rfl⟩; rw [HV.out])
        | (go_at_call 42; refine (inRange_no _ _ _ _ HIN.out).mono ?_; rintro e w2 ⟨rfl, rfl⟩))
      go_ret2
      exact ⟨none, 0, rfl, own_nil0 _ _ _, (Dr.n w _).below _⟩
  | false =>
    have hh := addOk_no hv i
    rw [hh, addC_no hh]
    have HV := Lib.hid hv
    clear hh hv
    go_enter Try.func13, Try.ntmps13
    go_wp2_with (first
        | (go_at_call 41; refine (validParts_any _ _ B L _ h hl).mono ?_; rintro e w1 ⟨rfl, n, rfl⟩; rw [HV.out]))
    go_ret2
    exact ⟨none, 0, rfl, own_nil0 _ _ _, (Dr.n w _).below _⟩

set_option maxHeartbeats 400000 in
theorem DrawAddCell_any (a : Option Addr) (c B : Nat) (bs : List Int) (w : World) (h : Rd w B a (bs.map (Value.int .u8))) (hB : B ≤ w.heap.size) (hb : ∀ n ∈ bs, (Lit.int .u8 n).wf = true) (hl : bs.length ≤ 1048576) (hc : bs.length ≤ c) :
    Calls Try.prog 11 #[.slice a bs.length c] w fun e w' => ∃ a' c' M x, e = .returned (.tuple #[.slice a' M.length c', .int .i64 x]) ∧ Own w' w.heap.size w'.heap.size 3 (.slice a' M.length c') (ints M) ∧ (Small M ∧ -1000 ≤ x ∧ x ≤ 1000) ∧ Below w.heap.size w w' := by
  go_enter Try.func11, Try.ntmps11
  go_wp2_with fail
  refine (newReader_any _ _ B bs _ h hB hb hl hc).mono ?_
  rintro e w1 ⟨rfl, h1, hb1, hs1⟩
  clear hb hl hc h
  go_wp2_with fail
  refine (someParts_any _ 0 _ _ (by omega) h1).mono ?_
  rintro e w2 ⟨a', c', M, rfl, ho, hs, ⟨q, hq, h2⟩, hb2⟩
  have hM := hs.1
  have HS := Lib.hid hs
  clear hs h1
  have hlo1 : w.heap.size < w1.heap.size := by omega
  have hlo2 : w1.heap.size ≤ w2.heap.size := hb2.size
  have hbel2 : Below w.heap.size w w2 := hb1.trans (hb2.mono (by omega))
  clear hb1 hb2
  go_wp2_with fail
  refine (pick_any w.heap.size q _ _ _ (by omega) (by omega) h2).mono ?_
  rintro e w4 ⟨y, rfl, hy0, hy1, h4, hg4, hs4⟩
  have hy : -1000 ≤ y ∧ y ≤ 1000 := by
    have := hy1 (by omega)
    omega
  have ho4 := (ho.chg hg4 (by omega)).more
  have hbel4 := chg_low3 hbel2 (Nat.le_refl _) (Nat.le_refl _) hg4
  clear ho h2 hg4 hy0 hy1 hs4
  go_wp2_with fail
  refine (one_any w.heap.size (q + 1) _ _ _ [0, (M.length : Int), 1, y, 2, -1] _ _ (by simp) (by simp) (by omega) (h4.below ((Below.refl _ _).alloc h4.lt _)) (rd_new w4 _ _) (by intro b o e; injection e with e; injection e with e; have := h4.lt; omega)).mono ?_
  rintro e w6 ⟨k, hk, rfl, h6, hg6, -⟩
  have hx : ∀ x ∈ ([0, (M.length : Int), 1, y, 2, -1] : List Int), -1000 ≤ x ∧ x ≤ 1000 := by
    intro x hx
    simp at hx
    omega
  have hx6 := hx _ (List.getElem_mem hk)
  obtain ⟨x6, hxx⟩ : ∃ x, x = ([0, (M.length : Int), 1, y, 2, -1] : List Int)[k] := ⟨_, rfl⟩
  rw [← hxx] at hx6 ⊢
  clear hx hxx hk
  have hbel6 := chg_low3 (hbel4.alloc hbel4.size (.cells (ints [0, (M.length : Int), 1, y, 2, -1]).toArray 3)) (Nat.le_refl _) (Nat.le_refl _) hg6
  have ho6 := ((ho4.alloc (.cells (ints [0, (M.length : Int), 1, y, 2, -1]).toArray 3)).chg hg6 (by omega)).more
  clear hg6
  go_wp2_with fail
  go_ret2
  exact ⟨a', c', M, x6, rfl, ho6.lower (by omega), ⟨HS.out, hx6⟩, hbel6⟩
end Go.Proofs.Ytpjlbmdpbjdkhaa
