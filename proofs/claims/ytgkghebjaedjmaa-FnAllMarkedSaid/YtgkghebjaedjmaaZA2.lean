/-
  Walks: the methods of a diagram: sum, count, durfee, list, conjugate. Walks: the exported functions of chapter 1 on one list of numbers, of the model (spec) and of the program (impl): valid, sum, conjugate, durfee. Walks: corners of the model and of the program. A row loaded under a guard that holds. Arrays of arrays: sixteen rows of sixteen numbers as one row of cells. Walks of the program: marked parts taken into a marked diagram. Plain mathematics of cells taken away and put.
-/
import Derived.Test.YtgkghebjaedjmaaZA1
namespace Go.Proofs.Ytgkghebjaedjmaa
open Go.RowKit NP
set_option maxRecDepth 8000
set_option linter.unusedVariables false

def cntD (D : List Int) : Nat := ff (fun k => decide (0 < D.getD k 0)) 16
def durD (D : List Int) : Nat := ff (fun (k : Nat) => decide ((k : Int) < D.getD k 0)) 16
theorem box_cell (w : World) (D : List Int) (k : Nat) (hk : k < D.length) : (w.alloc (.cells (arr D) 60)).cell? ⟨w.heap.size, k, none⟩ = some (.int .i64 D[k]) := by
  rw [(Blk.new w _ _).cell k, arr_get D k hk]

theorem count_any (D : List Int) (hD : D.length = 16) (w : World) :
    Calls Try.prog 75 #[.agg (arr D)] w fun e w' => e = .returned (.int .i64 (cntD D)) ∧ Below w.heap.size w w' := by
  have HD := Lib.hid hD
  have hd16 : 16 ≤ D.length := by omega
  clear hD
  go_enter Try.func75, Try.ntmps75
  go_wp2
  go_loop [3] (fun i => ∃ k : Nat, k ≤ 16 ∧ i = .int .i64 k ∧ Hid (∀ j, j < k → (fun k => decide (0 < D.getD k 0)) j = true)) (fun i => 16 - (intOf i).toNat)
  case atStart => exact ⟨0, Nat.zero_le _, rfl, Lib.hid fun j hj => by omega⟩
  case round =>
    obtain ⟨k, hk, rfl, HP⟩ := hrel
    by_cases hlt : k < 16
    · have hkD : k < D.length := by omega
      have hc := box_cell w D k hkD
      by_cases hx : 0 < D[k]
      · go_wp2
        go_round
        case rel => exact ⟨k + 1, by omega, by go_num, Lib.hid fun j hj => by
          rcases Nat.lt_or_ge j k with h | h
          · exact HP.out j h
          · obtain rfl : j = k := by omega
            simp [List.getD, hkD]; omega⟩
        case measure => simp [intOf]; omega
      · have hx' : D[k] ≤ 0 := by omega
        clear hx
        go_wp2
        go_ret
        exact ⟨ret_i64 (by unfold cntD; rw [ff_eq HP.out hk (.inr (by simp [List.getD, hkD]; omega))]), (Below.refl _ _).alloc (Nat.le_refl _) _⟩
    · obtain rfl : k = 16 := by omega
      go_wp2
      go_ret
      exact ⟨ret_i64 (by unfold cntD; rw [ff_eq HP.out hk (.inl rfl)]; rfl), (Below.refl _ _).alloc (Nat.le_refl _) _⟩

theorem T_index (D : List Int) (k : Nat) (hk : k < D.length) (h16 : k < 16) (w : World) : (Instr.index 60 (.agg (arr D)) (.int .i64 k)).run Try.prog w = .ok (.int .i64 D[k]) w :=
  run_index_row 60 3 _ 16 Try.underlying60 Try.underlying3 rfl (by kernel_rfl) (arr D) k _ h16 (arr_get D k hk) .i64 w

theorem dsum_any (D : List Int) (hD : D.length = 16) (hs : sumFits D) (w : World) :
    Calls Try.prog 88 #[.agg (arr D)] w fun e w' => e = .returned (.int .i64 (sumL D)) ∧ Below w.heap.size w w' := by
  have HD := Lib.hid hD
  have hd16 : 16 ≤ D.length := by omega
  have hi16 : (Try.prog.info? 60).map (·.size) = some (arr D).size := by rw [arr_size, hD]; exact T_info35
  clear hD
  have hb := Blk.new w 60 (arr D)
  go_enter Try.func88, Try.ntmps88
  go_wp2_with (refine wpList_load_row rfl 60 (.tmp 1) rfl w.heap.size rfl 60 (arr D) (0, 0) _ hb Try.underlying60 rfl hi16 ?_)
  go_loop [3, 7] (fun s i => ∃ k : Nat, k ≤ 16 ∧ i = .int .i64 k ∧ s = .int .i64 (sumL (D.take k))) (fun _ i => 16 - (intOf i).toNat)
  case atStart => exact ⟨0, Nat.zero_le _, rfl, rfl⟩
  case round =>
    obtain ⟨k, hk, rfl, rfl⟩ := hrel
    by_cases hlt : k < 16
    · have hkD : k < D.length := by omega
      have hc := T_index D k hkD hlt
      have h1 := hs k (by omega)
      have h2 := hs.next hkD
      have H3 := Lib.hid (sumL_take_succ D k hkD)
      go_wp2
      go_round
      case rel => exact ⟨k + 1, by omega, by go_num, by rw [H3.out]⟩
      case measure => simp [intOf]; omega
    · obtain rfl : k = 16 := by omega
      go_wp2
      go_ret
      exact ⟨ret_i64 (by rw [List.take_of_length_le (by rw [HD.out]; omega)]), (Below.refl _ _).alloc (Nat.le_refl _) _⟩

theorem splice_all {α : Type} (Z X : List α) (h : Z.length = X.length) : splice Z 0 X = X := by simp [splice, ← h]
theorem pad_cells {w : World} {g : Nat} {t : TypeId} {M : List Int} (hlen : M.length ≤ 16) (hb : Blk w g t (arr (pad M))) : ∀ j v, (ints M)[j]? = some v → w.cell? ((⟨g, 0, none⟩ : Addr).add j) = some v := by
  intro j v hv
  rw [Addr.add_lit, Nat.zero_add, hb.cell j]
  have hj : j < M.length := by
    have := (List.getElem?_eq_some_iff.1 hv).1
    simpa using this
  rw [arr_get (pad M) j (by rw [pad_len hlen]; omega), pad_get hlen hj]
  simpa [hj] using hv

theorem list_any (M : List Int) (hM : valid M = true) (w : World) :
    Calls Try.prog 76 #[.agg (arr (pad M))] w fun e w' => ∃ a', e = .returned (.slice a' M.length M.length) ∧ Own w' w.heap.size w'.heap.size 3 (.slice a' M.length M.length) (ints M) ∧ Below w.heap.size w w' := by
  have hbd := valid_bd hM
  have hlen : M.length ≤ 16 := hbd.2.2.2
  have hff : cntD (pad M) = M.length := by
    unfold cntD
    refine ff_eq (fun j hj => ?_) hlen ?_
    · have h1 := preS_of_valid hM j hj hj
      rw [List.getD_eq_getElem?_getD, List.getElem?_eq_getElem (by rw [pad_len hlen]; omega), Option.getD_some, pad_get hlen hj]
      simp; omega
    · rcases Nat.lt_or_ge M.length 16 with h | h
      · right
        rw [List.getD_eq_getElem?_getD, List.getElem?_eq_getElem (by rw [pad_len hlen]; omega), Option.getD_some, pad_get0 hlen (Nat.le_refl _) h]
        simp
      · left; omega
  have HF := Lib.hid hff
  clear hff
  have hi16 : (Try.prog.info? 60).map (·.size) = some (arr (pad M)).size := by rw [arr_size, pad_len hlen]; exact T_info35
  obtain ⟨i0, hi, hz0, hz1, hz2⟩ := T_int'
  have hmk := run_make_ints 30 3 i0 Try.underlying30 hi hz0 hz1 hz2 M.length (by omega)
  have hb := Blk.new w 60 (arr (pad M))
  have HM := Lib.hid hM
  clear hM
  go_enter Try.func76, Try.ntmps76
  go_wp2_with (first
    | (refine wpList_load_row rfl 60 (.tmp 1) rfl w.heap.size rfl 60 (arr (pad M)) (0, 0) _ hb Try.underlying60 rfl hi16 ?_)
    | (go_at_call 75; refine (count_any (pad M) (pad_len hlen) _).mono ?_; rintro e w1 ⟨rfl, hb1⟩; rw [HF.out]; have hbk := hb.below hb1 (by simp))
    | ((with_reducible show wpList _ _ _ (Oper.mk _ (Op.call (Call.mk (Callee.builtin Builtin.copy) _ _)) _ _ _ _ :: _) _ _); go_loud (refine wpList_copy_splice rfl (.tmp 7) (.tmp 8) 30 30 rfl 3 Try.underlying30 (by rw [hi]; simp [hz1]) (some ⟨w1.heap.size, 0, none⟩) (some ⟨w.heap.size, 0, none⟩) M.length M.length 16 16 rfl rfl w1.heap.size 0 (ints (List.replicate M.length 0)) 3 (heap_alloc_new w1 _) (ints M) (by rw [show Nat.min 16 M.length = M.length from Nat.min_eq_right hlen]; simp) (fun _ => ⟨rfl, _, rfl, pad_cells hlen (hbk.alloc _)⟩) (by simp) (ints_one M) w.heap.size w ((((Below.refl _ _).alloc (Nat.le_refl _) _).trans (hb1.mono (by simp))).alloc (by have := hb1.size; simp at this; omega) _) (by have := hb1.size; simp at this; omega) ?_); intro w2 hg2 hb2))
  go_ret
  have hg3 : Blk w2 w1.heap.size 3 (ints M).toArray := by
    have := hg2.out
    rw [splice_all _ _ (by simp)] at this
    exact this
  have ho := hg3.own (lo := w.heap.size) (by have := hb1.size; simp at this; omega) (by simp [maxLen]; omega)
  simp only [ints, List.length_map] at ho
  exact ⟨_, rfl, ho, hb2⟩

/-- what has been counted when k rows are done, and j cells of the next -/
def acc (D : List Int) (k j : Nat) : List Int := (List.range 16).map fun (q : Nat) => cnt ((q : Int) + 1) (D.take k) + (if q < j then 1 else 0)
theorem acc_len (D : List Int) (k j : Nat) : (acc D k j).length = 16 := by simp [acc]
theorem acc_get (D : List Int) (k j : Nat) (h : j < 16) : (acc D k j)[j]'(by rw [acc_len]; exact h) = cnt ((j : Int) + 1) (D.take k) := by simp [acc]
theorem acc_set (D : List Int) (k j : Nat) (_h : j < 16) : (acc D k j).set j (cnt ((j : Int) + 1) (D.take k) + 1) = acc D k (j + 1) := by
  apply List.ext_getElem
  · simp [acc]
  · intro q h1 h2
    simp only [acc, List.length_set, List.length_map, List.length_range] at h1
    by_cases hq : j = q
    · subst hq
      simp [acc]
    · rw [List.getElem_set_ne hq]
      simp only [acc, List.getElem_map, List.getElem_range]
      by_cases h3 : q < j
      · rw [if_pos h3, if_pos (by omega)]
      · rw [if_neg h3, if_neg (by omega)]
theorem acc_next (D : List Int) (k : Nat) (hk : k < D.length) (h0 : 0 ≤ D[k]) (j : Nat) (hj : (j : Int) = D[k]) : acc D k j = acc D (k + 1) 0 := by
  apply List.map_congr_left
  intro q _
  rw [cnt_take_succ _ D k hk]
  by_cases h3 : q < j
  · rw [if_pos h3, if_pos (by omega)]; simp
  · rw [if_neg h3, if_neg (by omega)]; simp
theorem acc_zero (D : List Int) : acc D 0 0 = List.replicate 16 0 := by
  unfold acc
  simp [cnt]
  rfl
theorem acc_end (D : List Int) (hD : D.length = 16) : acc D 16 0 = (List.range 16).map fun (j : Nat) => cnt ((j : Int) + 1) D := by
  unfold acc
  rw [List.take_of_length_le (by omega)]
  simp

end Go.Proofs.Ytgkghebjaedjmaa
namespace Go.Proofs.Ytgkghebjaedjmaa
open Go.RowKit NP
set_option maxRecDepth 8000
set_option linter.unusedVariables false

def sumF (L : List Int) : Int := if valid L then sumL L else -1
theorem sumF_yes {L : List Int} (h : valid L = true) : sumF L = sumL L := by simp [sumF, h]
theorem sumF_no {L : List Int} (h : valid L = false) : sumF L = -1 := by simp [sumF, h]
def durF (L : List Int) : Int := if valid L then durS L else -1
theorem durF_yes {L : List Int} (h : valid L = true) : durF L = durS L := by simp [durF, h]
theorem durF_no {L : List Int} (h : valid L = false) : durF L = -1 := by simp [durF, h]
def conjF (L : List Int) : List Int := if valid L then conj L else []
theorem conjF_yes {L : List Int} (h : valid L = true) : conjF L = conj L := by simp [conjF, h]
theorem conjF_no {L : List Int} (h : valid L = false) : conjF L = [] := by simp [conjF, h]
theorem conjF_len (L : List Int) : (conjF L).length ≤ 16 := by
  unfold conjF
  split
  · rename_i h
    rw [conj_len]
    have := headD_bd h
    omega
  · simp
theorem sumF_conjF {L : List Int} (h : valid L = true) : sumF (conjF L) = sumL L := by
  rw [conjF_yes h, sumF_yes (valid_conj h), sumL_conj h]
theorem valid_fits {L : List Int} (h : valid L = true) : sumFits L := fun k hk => by
  have := preS_sum (preS_of_valid h) k hk
  have := (valid_bd h).2.2.2
  omega
theorem sumL_zeros (n : Nat) : sumL (List.replicate n 0) = 0 := by
  induction n with
  | zero => rfl
  | succ n ih => rw [List.replicate_succ, sumL, ih]; rfl
theorem sumL_pad (L : List Int) : sumL (pad L) = sumL L := by unfold pad; rw [sumL_append, sumL_zeros]; omega
theorem pad_nonneg {L : List Int} (h : valid L = true) : ∀ k (hk : k < (pad L).length), 0 ≤ (pad L)[k] ∧ (pad L)[k] ≤ 16 := by
  intro k hk
  have hl := (valid_bd h).2.2.2
  rw [pad_len hl] at hk
  by_cases h1 : k < L.length
  · rw [pad_get hl h1]
    have := preS_of_valid h k h1 h1
    omega
  · rw [pad_get0 hl (by omega) hk]; omega
theorem pad_fits {L : List Int} (h : valid L = true) : sumFits (pad L) := by
  have hl := (valid_bd h).2.2.2
  have key : ∀ k, k ≤ (pad L).length → 0 ≤ sumL ((pad L).take k) ∧ sumL ((pad L).take k) ≤ 16 * k := by
    intro k
    induction k with
    | zero => intro _; simp [sumL]
    | succ k ih =>
      intro hk
      have := ih (by omega)
      have h1 := pad_nonneg h k (by omega)
      rw [sumL_take_succ _ k (by omega)]
      omega
  intro k hk
  have := key k hk
  rw [pad_len hl] at hk
  omega
theorem durD_pad {L : List Int} (h : valid L = true) : durD (pad L) = durS L := by
  have hl := (valid_bd h).2.2.2
  have hn : ∀ j, j ≤ L.length → (∀ i, i < j → decide ((i : Int) < L.getD i 0) = true) → (j = L.length ∨ decide ((j : Int) < L.getD j 0) = false) → durD (pad L) = j ∧ durS L = j := by
    intro j hj hp hq
    refine ⟨ff_eq (fun i hi => ?_) (by omega) ?_, ff_eq hp hj hq⟩
    · have := hp i hi
      rw [List.getD_eq_getElem?_getD, List.getElem?_eq_getElem (by omega), Option.getD_some] at this
      rw [List.getD_eq_getElem?_getD, List.getElem?_eq_getElem (by rw [pad_len hl]; omega), Option.getD_some, pad_get hl (by omega)]
      exact this
    · rcases Nat.lt_or_ge j 16 with h16 | h16
      · right
        rw [List.getD_eq_getElem?_getD, List.getElem?_eq_getElem (by rw [pad_len hl]; omega), Option.getD_some]
        rcases Nat.lt_or_ge j L.length with hjl | hjl
        · rw [pad_get hl hjl]
          rcases hq with hq | hq
          · omega
          · rw [List.getD_eq_getElem?_getD, List.getElem?_eq_getElem (by omega), Option.getD_some] at hq
            exact hq
        · rw [pad_get0 hl hjl h16]; simp
      · left; omega
  have ex : ∀ n, n ≤ L.length → (∀ i, i < n → decide ((i : Int) < L.getD i 0) = true) ∨ ∃ j, j < n ∧ (∀ i, i < j → decide ((i : Int) < L.getD i 0) = true) ∧ decide ((j : Int) < L.getD j 0) = false := by
    intro n
    induction n with
    | zero => intro _; left; intro i hi; omega
    | succ n ih =>
      intro hn
      rcases ih (by omega) with h1 | ⟨j, hj, h1, h2⟩
      · cases hd : decide ((n : Int) < L.getD n 0) with
        | true =>
          left
          intro i hi
          rcases Nat.lt_or_ge i n with h3 | h3
          · exact h1 i h3
          · obtain rfl : i = n := by omega
            exact hd
        | false => right; exact ⟨n, by omega, h1, hd⟩
      · right; exact ⟨j, by omega, h1, h2⟩
  rcases ex L.length (Nat.le_refl _) with h1 | ⟨j, hj, h1, h2⟩
  · have := hn L.length (Nat.le_refl _) h1 (.inl rfl)
    rw [this.1, this.2]
  · have := hn j (by omega) h1 (.inr h2)
    rw [this.1, this.2]





theorem dg_len (L : List Int) : (dg L).length = 16 := by
  unfold dg
  split
  · exact pad_len (valid_bd ‹_›).2.2.2
  · rfl







end Go.Proofs.Ytgkghebjaedjmaa
namespace Go.Proofs.Ytgkghebjaedjmaa
open Go.RowKit NP
set_option maxRecDepth 8000
set_option linter.unusedVariables false

theorem scorners_any (a : Option Addr) (c B : Nat) (L : List Int) (w : World) (h : Rd w B a (ints L)) (hB : B ≤ w.heap.size) (hl : L.length ≤ 1000) :
    Calls Try.prog 70 #[.slice a L.length c] w fun e w' => ∃ a' c', e = .returned (.slice a' (crn L).length c') ∧ Own w' w.heap.size w'.heap.size 3 (.slice a' (crn L).length c') (ints (crn L)) ∧ Below w.heap.size w w' := by
  obtain ⟨i0, hi, hz0, hz1, hz2⟩ := T_int'
  go_enter Try.func70, Try.ntmps70
  go_wp2_with fail
  go_loopw [3, 4] (fun v i wr => ∃ k : Nat, k ≤ L.length ∧ i = .int .i64 (k : Int) ∧ Below w.heap.size w wr ∧ Own wr w.heap.size wr.heap.size 3 v (ints (crnTo L k))) (fun _ i _ => L.length - (intOf i).toNat)
  case atStart => exact ⟨0, Nat.zero_le _, rfl, (Below.refl _ _).alloc (Nat.le_refl _) _, (Own.empty w 3).more⟩
  case round =>
    obtain ⟨k, hk, rfl, hbel, hown⟩ := hrel
    by_cases hlt : k < L.length
    · have hR := (h.more hB).below hbel
      obtain ⟨b, o, rfl, _, hc0⟩ := hR.at_ hlt
      have hlen2 : (crnTo L k).length ≤ k := crnTo_len L k
      have HS := Lib.hid (crnTo_succ L k)
      obtain ⟨vs, hvs⟩ : ∃ vs, vs = ints (crnTo L k) := ⟨_, rfl⟩
      have hlv : vs.length ≤ k := by rw [hvs]; simpa using hlen2
      rw [← hvs] at hown
      have HVS := Lib.hid hvs
      clear hvs hlen2
      have HO := Lib.hid hown
      clear hown
      by_cases h1 : k + 1 = L.length
      · have h1' : (k : Int) + 1 = (L.length : Int) := by omega
        have e1 : ((k : Int) + 1 == (L.length : Int)) = true := beq_iff_eq.2 h1'
        have HC : Hid (isC L k = true) := Lib.hid (by unfold isC; rw [decide_eq_true h1, Bool.true_or])
        clear h1 h1'
        go_wp2_with fail
        go_quiet (fail)
        go_wp2_with (at_builtin; go_loud (refine wpList_append_o _ rfl (.tmp 29) (.tmp 31) 30 rfl w.heap.size wr.heap.size 3 i0 (.int .i64 0) 8 Try.underlying30 hi hz0 hz1 hz2 rfl _ vs rfl ((HO.out.drewN _).alloc _) (wr.heap.size + 1) (some ⟨wr.heap.size, 0, none⟩) 1 1 [.int .i64 (k : Int)] rfl (Rd.one _ _ _) rfl (by simp; rfl) (by unfold maxLen; omega) (by omega) (by have := hbel.size; simp; omega) ?_); intro v' w1 ho1 hg1 hat1)
        go_roundw
        case rel =>
          refine ⟨k + 1, by omega, by go_num, below_push (hbel.trans ((Dr.n wr _).below _)) (Nat.le_refl _) hg1 HO.out.base, ?_⟩
          rw [HVS.out] at ho1
          rw [HS.out, if_pos HC.out]
          simpa [ints] using ho1
        case measure => simp [intOf]; omega
      · have hk1 : k + 1 < L.length := by omega
        have e1 : ((k : Int) + 1 == (L.length : Int)) = false := beq_eq_false_iff_ne.2 (by omega)
        obtain ⟨b', o', e', -, hc1⟩ := hR.at_ hk1
        injection e' with e'; injection e' with e2 e3; subst e2 e3
        by_cases hx : L[k + 1] < L[k]
        · have HC : Hid (isC L k = true) := Lib.hid (by unfold isC; rw [List.getD_eq_getElem?_getD, List.getD_eq_getElem?_getD, List.getElem?_eq_getElem hk1, List.getElem?_eq_getElem hlt, Option.getD_some, Option.getD_some, decide_eq_true hx, Bool.or_true])
          clear h1
          go_wp2_with fail
          go_quiet (fail)
          go_wp2_with (at_builtin; go_loud (refine wpList_append_o _ rfl (.tmp 29) (.tmp 31) 30 rfl w.heap.size wr.heap.size 3 i0 (.int .i64 0) 8 Try.underlying30 hi hz0 hz1 hz2 rfl _ vs rfl ((HO.out.drewN _).alloc _) (wr.heap.size + 1) (some ⟨wr.heap.size, 0, none⟩) 1 1 [.int .i64 (k : Int)] rfl (Rd.one _ _ _) rfl (by simp; rfl) (by unfold maxLen; omega) (by omega) (by have := hbel.size; simp; omega) ?_); intro v' w1 ho1 hg1 hat1)
          go_roundw
          case rel =>
            refine ⟨k + 1, by omega, by go_num, below_push (hbel.trans ((Dr.n wr _).below _)) (Nat.le_refl _) hg1 HO.out.base, ?_⟩
            rw [HVS.out] at ho1
            rw [HS.out, if_pos HC.out]
            simpa [ints] using ho1
          case measure => simp [intOf]; omega
        · have HC : Hid (isC L k = false) := Lib.hid (by unfold isC; rw [List.getD_eq_getElem?_getD, List.getD_eq_getElem?_getD, List.getElem?_eq_getElem hk1, List.getElem?_eq_getElem hlt, Option.getD_some, Option.getD_some, decide_eq_false hx, decide_eq_false h1]; rfl)
          clear h1
          have hx' : L[k] ≤ L[k + 1] := by omega
          clear hx
          go_wp2_with fail
          go_quiet (fail)
          go_wp2
          go_roundw
          case rel =>
            refine ⟨k + 1, by omega, by go_num, hbel.trans ((Dr.n wr _).below _), ?_⟩
            rw [HS.out, if_neg (by rw [HC.out]; decide), List.append_nil, ← HVS.out]
            exact HO.out.drewN _
          case measure => simp [intOf]; omega
    · obtain rfl : k = L.length := by omega
      obtain ⟨a', c', rfl⟩ := hown.form
      have HO := Lib.hid hown
      clear hown
      go_wp2
      go_ret
      have hlc : (crn L).length = (ints (crnTo L L.length)).length := by simp [crn]
      refine ⟨a', c', by rw [hlc]; rfl, ?_, hbel⟩
      rw [hlc]
      exact HO.out


theorem isCorner_any (D : List Int) (hD : D.length = 16) (i : Nat) (hi : i < 16) (w : World) :
    Calls Try.prog 74 #[.agg (arr D), .int .i64 i] w fun e w' => e = .returned (.bool (isCD D i)) ∧ Below w.heap.size w w' := by
  have hiD : i < D.length := by omega
  have hc := box_cell w D i hiD
  have hi' : (i : Int) < 16 := by omega
  have g0 : D.getD i 0 = D[i] := by rw [List.getD_eq_getElem?_getD, List.getElem?_eq_getElem hiD, Option.getD_some]
  by_cases h0 : 0 < D[i]
  · by_cases h15 : i = 15
    · have e1 : ((i : Int) == 15) = true := beq_iff_eq.2 (by omega)
      have HC : Hid (isCD D i = true) := Lib.hid (by unfold isCD; rw [g0, decide_eq_true h0, decide_eq_true h15]; rfl)
      clear h15 g0
      go_enter Try.func74, Try.ntmps74
      go_wp2_with fail
      go_quiet (fail)
      go_wp2
      go_ret
      exact ⟨ret_bool HC.out.symm, ((Below.refl _ _).alloc (Nat.le_refl _) _).trans ((Dr.n _ _).below _)⟩
    · have e1 : ((i : Int) == 15) = false := beq_eq_false_iff_ne.2 (by omega)
      have hi1 : i + 1 < D.length := by omega
      have hc1 := box_cell w D (i + 1) hi1
      have HC : Hid (isCD D i = decide (D[i + 1] < D[i])) := Lib.hid (by unfold isCD; rw [g0, List.getD_eq_getElem?_getD, List.getElem?_eq_getElem hi1, Option.getD_some, decide_eq_true h0, decide_eq_false h15]; rfl)
      clear h15 g0
      go_enter Try.func74, Try.ntmps74
      go_wp2_with fail
      go_quiet (fail)
      go_wp2
      go_ret
      exact ⟨ret_bool HC.out.symm, ((Below.refl _ _).alloc (Nat.le_refl _) _).trans ((Dr.n _ _).below _)⟩
  · have HC : Hid (isCD D i = false) := Lib.hid (by unfold isCD; rw [g0, decide_eq_false h0]; rfl)
    clear g0
    have h0' : decide (0 < D[i]) = false := decide_eq_false h0
    clear h0
    go_enter Try.func74, Try.ntmps74
    go_wp2_with fail
    go_quiet (fail)
    go_wp2
    go_ret
    exact ⟨ret_bool HC.out.symm, ((Below.refl _ _).alloc (Nat.le_refl _) _).trans ((Dr.n _ _).below _)⟩

theorem dcorners_any (D : List Int) (hD : D.length = 16) (w : World) :
    Calls Try.prog 42 #[.agg (arr D)] w fun e w' => ∃ a' c', e = .returned (.slice a' (fl (isCD D) 16).length c') ∧ Own w' w.heap.size w'.heap.size 3 (.slice a' (fl (isCD D) 16).length c') (ints (fl (isCD D) 16)) ∧ Below w.heap.size w w' := by
  obtain ⟨i0, hi, hz0, hz1, hz2⟩ := T_int'
  have HD := Lib.hid hD
  have hd16 : 16 ≤ D.length := by omega
  have hi16 : (Try.prog.info? 60).map (·.size) = some (arr D).size := by rw [arr_size, hD]; exact T_info35
  clear hD
  go_enter Try.func42, Try.ntmps42
  go_wp2
  go_loopw [3, 4, 5] (fun v u i wr => ∃ k : Nat, k ≤ 16 ∧ i = .int .i64 (k : Int) ∧ Below w.heap.size w wr ∧ Blk wr w.heap.size 60 (arr D) ∧ Own wr (w.heap.size + 1) wr.heap.size 3 v (ints (fl (isCD D) k))) (fun _ _ i _ => 20 - (intOf i).toNat)
  case atStart => exact ⟨0, Nat.zero_le _, rfl, (Below.refl _ _).alloc (Nat.le_refl _) _, Blk.new _ _ _, Own.nil _ _ _⟩
  case round =>
    obtain ⟨k, hk, rfl, hbel, hblk, hown⟩ := hrel
    by_cases hlt : k < 16
    · have hlen2 : (fl (isCD D) k).length ≤ k := fl_len _ k
      have HS := Lib.hid (fl_succ (isCD D) k)
      obtain ⟨vs, hvs⟩ : ∃ vs, vs = ints (fl (isCD D) k) := ⟨_, rfl⟩
      have hlv : vs.length ≤ k := by rw [hvs]; simpa using hlen2
      rw [← hvs] at hown
      have HVS := Lib.hid hvs
      clear hvs hlen2
      have HO := Lib.hid hown
      clear hown
      cases hcb : isCD D k with
      | true =>
        have HC := Lib.hid hcb
        clear hcb
        go_wp2_with (first | (refine wpList_load_row rfl 60 (.tmp 1) rfl w.heap.size rfl 60 (arr D) (0, 0) _ hblk Try.underlying60 rfl hi16 ?_) | (go_at_call 74; refine (isCorner_any D HD.out k hlt _).mono ?_; rintro e w2 ⟨rfl, hb2⟩; rw [HC.out]; have ho2 := (HO.out.below hb2).more) | (at_builtin; refine wpList_append_o _ rfl (.tmp 11) (.tmp 13) 30 rfl (w.heap.size + 1) w2.heap.size 3 i0 (.int .i64 0) 8 Try.underlying30 hi hz0 hz1 hz2 rfl _ vs rfl (ho2.alloc _) (w2.heap.size + 1) (some ⟨w2.heap.size, 0, none⟩) 1 1 [.int .i64 (k : Int)] rfl (Rd.one _ _ _) rfl (by simp; rfl) (by unfold maxLen; omega) (by omega) (by have := hbel.size; have := hb2.size; simp; omega) ?_; intro v' w3 ho3 hg3 hat3))
        go_roundw
        case rel =>
          have hz := hbel.size
          have hb12 : Below w.heap.size w w2 := hbel.trans (hb2.mono (by omega))
          have hblk2 : Blk w2 w.heap.size 60 (arr D) := hblk.below hb2 hblk.lt
          refine ⟨k + 1, by omega, by go_num, below_push hb12 (Nat.le_refl _) hg3 (fun g hg => by have := HO.out.base g hg; omega), (hblk2.alloc _).grown hg3 (fun e => by have := HO.out.base _ e.symm; omega), ?_⟩
          rw [HVS.out] at ho3
          rw [HS.out, if_pos HC.out]
          simpa [ints] using ho3
        case measure => simp [intOf]; omega
      | false =>
        have HC := Lib.hid hcb
        clear hcb
        go_wp2_with (first | (refine wpList_load_row rfl 60 (.tmp 1) rfl w.heap.size rfl 60 (arr D) (0, 0) _ hblk Try.underlying60 rfl hi16 ?_) | (go_at_call 74; refine (isCorner_any D HD.out k hlt _).mono ?_; rintro e w2 ⟨rfl, hb2⟩; rw [HC.out]))
        go_roundw
        case rel =>
          refine ⟨k + 1, by omega, by go_num, hbel.trans (hb2.mono (by have := hbel.size; omega)), hblk.below hb2 hblk.lt, ?_⟩
          rw [HS.out, if_neg (by rw [HC.out]; decide), List.append_nil, ← HVS.out]
          exact (HO.out.below hb2).more
        case measure => simp [intOf]; omega
    · obtain rfl : k = 16 := by omega
      obtain ⟨a', c', rfl⟩ := hown.form
      have HO := Lib.hid hown
      clear hown
      go_wp2
      go_ret
      have hlc : (fl (isCD D) 16).length = (ints (fl (isCD D) 16)).length := by simp
      refine ⟨a', c', by rw [hlc]; rfl, ?_, hbel⟩
      rw [hlc]
      exact HO.out.lower (by omega)

end Go.Proofs.Ytgkghebjaedjmaa
namespace Go.Proofs.Ytgkghebjaedjmaa
open Go.RowKit
theorem wpList_load_row_g {P : Program} {ops : Array Oper} {rest : List Oper} {o : Oper} {a : Act} {w : World} {Q : Exit → Act → World → Prop} (hgd : Region.wanted o (yielded ops a.tmps) = true) (ty : TypeId) (x : Operand) (ho : o.op = .load ty x)
    (g : Nat) (hx : a.eval x = .pointer (some ⟨g, 0, none⟩)) (t : TypeId) (cs : Array Value) (fr : Nat × Nat) (d : TypeDesc) (hg : w.heap[g]? = some (.cells cs t fr))
    (hu : P.underlying ty = some d) (hd : (match d with | .struct _ | .array _ _ => true | _ => false) = true) (hi : (P.info? ty).map (·.size) = some cs.size)
    (h : wpList P ops Q rest (a.put o.dst (.agg cs)) w) : wpList P ops Q (o :: rest) a w :=
  wpList_step fun K hK => by
    rw [if_pos hgd]
    exact wp_load_row ty x ho g hx t cs fr d hg hu hd hi (hK _ _ h)
end Go.Proofs.Ytgkghebjaedjmaa
namespace Go.Proofs.Ytgkghebjaedjmaa
open Go.RowKit
set_option linter.unusedVariables false
set_option linter.unusedSimpArgs false
section
variable {P : Program}
theorem splice_size (cs vs : Array Value) (o : Nat) (hs : o + vs.size ≤ cs.size) : ((cs.toList.take o ++ vs.toList ++ cs.toList.drop (o + vs.size)).toArray).size = cs.size := by
  simp
  omega
theorem run_storeVar_at (w : World) (g o : Nat) (t ty : TypeId) (cs vs : Array Value) (hg : Blk w g t cs) (hi : (P.info? ty).map (·.size) = some vs.size) (hs : o + vs.size ≤ cs.size) (h1 : ∀ v ∈ vs.toList, v.oneCell' = true) :
    (storeVar ty ⟨g, o, none⟩ (.agg vs)).run P w = .ok () (w.setRow g (cs.toList.take o ++ vs.toList ++ cs.toList.drop (o + vs.size)).toArray) := by
  cases hq : P.info? ty with
  | none => simp [hq] at hi
  | some i =>
    have hz : i.size = vs.size := by simpa [hq] using hi
    have hst := run_storeCells_at P g o t vs.toList 0 cs w hg (by simp; omega) h1
    simp only [Nat.add_zero, Array.length_toList] at hst
    simp [storeVar, Sem.run_bind, sizeOf, typeInfo, hq, hz, Value.cells, hst]
theorem wpList_store_at {ops : Array Oper} {rest : List Oper} {oo : Oper} {a : Act} {w : World} {Q : Exit → Act → World → Prop} (hgd : oo.guard = none) (ty : TypeId) (x v : Operand) (ho : oo.op = .store ty x v)
    (g o : Nat) (hx : a.eval x = .pointer (some ⟨g, o, none⟩)) (vs : Array Value) (hv : a.eval v = .agg vs) (t : TypeId) (cs : Array Value) (hg : Blk w g t cs)
    (hi : (P.info? ty).map (·.size) = some vs.size) (hs : o + vs.size ≤ cs.size) (h1 : ∀ v ∈ vs.toList, v.oneCell' = true)
    (h : wpList P ops Q rest (a.put oo.dst undef) (w.setRow g (cs.toList.take o ++ vs.toList ++ cs.toList.drop (o + vs.size)).toArray)) : wpList P ops Q (oo :: rest) a w :=
  wpList_plain hgd fun _ hK => by
    unfold Oper.wp execOp
    simp only [ho, hx, hv, Instr.storeAt, Instr.sureAddr, Sem.run_bind, Sem.run_pure, Result.andThen_ok, run_storeVar_at w g o t ty cs vs hg hi hs h1]
    exact hK _ _ h
theorem run_loadVar_at (w : World) (g o : Nat) (t ty : TypeId) (cs vs : Array Value) (d : TypeDesc) (hg : Blk w g t cs)
    (hu : P.underlying ty = some d) (hd : (match d with | .struct _ | .array _ _ => true | _ => false) = true) (hi : (P.info? ty).map (·.size) = some vs.size)
    (hv : ∀ j (v : Value), vs[j]? = some v → cs[o + j]? = some v) : (loadVar ty ⟨g, o, none⟩).run P w = .ok (.agg vs) w := by
  have hl : (loadCells ⟨g, o, none⟩ vs.toList.length).run P w = .ok vs.toList.toArray w :=
    run_loadCells_list (P := P) w ⟨g, o, none⟩ vs.toList (fun j v hj => by
      have hadd : (⟨g, o, none⟩ : Addr).add j = ⟨g, o + j, none⟩ := by unfold Addr.add; split <;> simp_all
      rw [hadd, hg.cell (o + j)]
      exact hv j v (by simpa using hj))
  cases hq : P.info? ty with
  | none => simp [hq] at hi
  | some i =>
    have hz : i.size = vs.size := by simpa [hq] using hi
    have hagg : (isAgg ty).run P w = .ok true w := by
      unfold isAgg
      rw [Sem.run_bind, run_underlying hu w]
      cases d <;> simp_all
    simp only [Array.length_toList, Array.toArray_toList] at hl
    simp [loadVar, Sem.run_bind, hagg, sizeOf, typeInfo, hq, hz, hl]
theorem wpList_load_at {ops : Array Oper} {rest : List Oper} {oo : Oper} {a : Act} {w : World} {Q : Exit → Act → World → Prop} (hgd : oo.guard = none) (ty : TypeId) (x : Operand) (ho : oo.op = .load ty x)
    (g o : Nat) (hx : a.eval x = .pointer (some ⟨g, o, none⟩)) (t : TypeId) (cs vs : Array Value) (d : TypeDesc) (hg : Blk w g t cs)
    (hu : P.underlying ty = some d) (hd : (match d with | .struct _ | .array _ _ => true | _ => false) = true) (hi : (P.info? ty).map (·.size) = some vs.size)
    (hv : ∀ j (v : Value), vs[j]? = some v → cs[o + j]? = some v)
    (h : wpList P ops Q rest (a.put oo.dst (.agg vs)) w) : wpList P ops Q (oo :: rest) a w :=
  wpList_plain hgd fun _ hK => by
    unfold Oper.wp execOp
    simp only [ho, hx, Instr.loadAt, Instr.sureAddr, Sem.run_bind, Sem.run_pure, Result.andThen_ok, run_loadVar_at w g o t ty cs vs d hg hu hd hi hv]
    exact hK _ _ h
theorem run_index_agg (T e : TypeId) (d : TypeDesc) (n m : Nat) (hT : P.underlying T = some (.array n e)) (he : P.underlying e = some d) (hd : (match d with | .struct _ | .array _ _ => true | _ => false) = true) (hc : (P.info? e).map (·.size) = some m)
    (cs : Array Value) (k : Nat) (hk : k < n) (kd : IntKind) (w : World) : (Instr.index T (.agg cs) (.int kd k)).run P w = .ok (.agg (cs.extract (k * m) (k * m + m))) w := by
  cases hq : P.info? e with
  | none => simp [hq] at hc
  | some i =>
    have hz : i.size = m := by simpa [hq] using hc
    have hagg : ∀ w : World, (isAgg e).run P w = .ok true w := by
      intro w
      unfold isAgg
      rw [Sem.run_bind, run_underlying he w]
      cases d <;> simp_all
    simp [Instr.index, asIntOf, Sem.run_bind, run_underlying hT, sizeOf, typeInfo, hq, hz, part, hagg]
    intro hnk
    omega
end
/-- sixteen rows of sixteen -/
def Sq (R : List (List Int)) : Prop := R.length = 16 ∧ ∀ L ∈ R, L.length = 16
theorem flat_len {R : List (List Int)} (h : ∀ L ∈ R, L.length = 16) : R.flatten.length = 16 * R.length := by
  induction R with
  | nil => rfl
  | cons x S ih => rw [List.flatten_cons, List.length_append, ih (fun L hL => h L (List.mem_cons_of_mem _ hL)), h x (List.mem_cons_self ..)]; simp; omega
theorem flat_drop {R : List (List Int)} (h : ∀ L ∈ R, L.length = 16) (i : Nat) : R.flatten.drop (16 * i) = (R.drop i).flatten := by
  induction R generalizing i with
  | nil => simp
  | cons x S ih =>
    have hx := h x (List.mem_cons_self ..)
    cases i with
    | zero => simp
    | succ i =>
      rw [List.flatten_cons, List.drop_succ_cons, ← ih (fun L hL => h L (List.mem_cons_of_mem _ hL)), show 16 * (i + 1) = x.length + 16 * i by omega, List.drop_append]
      rw [List.drop_eq_nil_of_le (by omega)]
      simp
theorem flat_take {R : List (List Int)} (h : ∀ L ∈ R, L.length = 16) (i : Nat) : R.flatten.take (16 * i) = (R.take i).flatten := by
  induction R generalizing i with
  | nil => simp
  | cons x S ih =>
    have hx := h x (List.mem_cons_self ..)
    cases i with
    | zero => simp
    | succ i =>
      rw [List.flatten_cons, List.take_succ_cons, List.flatten_cons, ← ih (fun L hL => h L (List.mem_cons_of_mem _ hL)), show 16 * (i + 1) = x.length + 16 * i by omega, List.take_append]
      rw [List.take_of_length_le (by omega)]
      simp
theorem flat_row {R : List (List Int)} (h : ∀ L ∈ R, L.length = 16) {i : Nat} (hi : i < R.length) : (R.flatten.drop (16 * i)).take 16 = R[i] := by
  rw [flat_drop h, List.drop_eq_getElem_cons hi, List.flatten_cons, List.take_append, List.take_of_length_le (by rw [h _ (List.getElem_mem hi)]; exact Nat.le_refl _), h _ (List.getElem_mem hi)]
  simp
theorem flat_get {R : List (List Int)} (h : ∀ L ∈ R, L.length = 16) {i k : Nat} (hi : i < R.length) (hk : k < 16) : R.flatten[16 * i + k]? = R[i][k]? := by
  have := flat_row h hi
  rw [← this, List.getElem?_take, if_pos hk, List.getElem?_drop]
theorem flat_setRow {R : List (List Int)} (h : ∀ L ∈ R, L.length = 16) {i : Nat} (hi : i < R.length) (L : List Int) : R.flatten.take (16 * i) ++ L ++ R.flatten.drop (16 * i + 16) = (R.set i L).flatten := by
  rw [show 16 * i + 16 = 16 * (i + 1) by omega, flat_take h, flat_drop h, List.set_eq_take_append_cons_drop, if_pos hi, List.flatten_append, List.flatten_cons, List.append_assoc]
theorem flat_set {R : List (List Int)} (h : ∀ L ∈ R, L.length = 16) {i k : Nat} (hi : i < R.length) (hk : k < 16) (v : Int) : R.flatten.set (16 * i + k) v = (R.set i (R[i].set k v)).flatten := by
  have hl := flat_len h
  rw [← flat_setRow h hi]
  have hrow := flat_row h hi
  have hd : R.flatten = R.flatten.take (16 * i) ++ R[i] ++ R.flatten.drop (16 * i + 16) := by
    rw [← hrow, List.append_assoc, ← List.drop_drop, List.take_append_drop, List.take_append_drop]
  have ht : (R.flatten.take (16 * i)).length = 16 * i := by rw [List.length_take]; omega
  have hri : R[i].length = 16 := h _ (List.getElem_mem hi)
  conv => lhs; rw [hd]
  rw [List.append_assoc, List.set_append_right _ _ (by omega), ht, Nat.add_sub_cancel_left, List.set_append_left _ _ (by omega), List.append_assoc]
theorem arr_splice (D L : List Int) (o : Nat) : ((arr D).toList.take o ++ (arr L).toList ++ (arr D).toList.drop (o + (arr L).size)).toArray = arr (D.take o ++ L ++ D.drop (o + L.length)) := by
  simp [arr, ints, List.map_take, List.map_drop]
theorem arr_extract (D : List Int) (o n : Nat) : (arr D).extract o (o + n) = arr ((D.drop o).take n) := by
  apply Array.toList_inj.1
  simp [arr, ints, List.map_take, List.map_drop]
theorem arr_flat_row {R : List (List Int)} (h : ∀ L ∈ R, L.length = 16) {i : Nat} (hi : i < R.length) : (arr R.flatten).extract (i * 16) (i * 16 + 16) = arr R[i] := by
  rw [arr_extract, Nat.mul_comm i 16, flat_row h hi]
theorem arr_flat_store {R : List (List Int)} (h : ∀ L ∈ R, L.length = 16) {i : Nat} (hi : i < R.length) {L : List Int} (hL : L.length = 16) :
    ((arr R.flatten).toList.take (16 * i) ++ (arr L).toList ++ (arr R.flatten).toList.drop (16 * i + (arr L).size)).toArray = arr (R.set i L).flatten := by
  rw [arr_splice, hL, flat_setRow h hi]
theorem sq_set {R : List (List Int)} (h : Sq R) (i : Nat) {L : List Int} (hL : L.length = 16) : Sq (R.set i L) := by
  refine ⟨by rw [List.length_set]; exact h.1, fun M hM => ?_⟩
  rcases List.mem_or_eq_of_mem_set hM with h1 | h1
  · exact h.2 M h1
  · rw [h1]; exact hL
theorem sq_len {R : List (List Int)} (h : Sq R) : R.flatten.length = 256 := by rw [flat_len h.2, h.1]
end Go.Proofs.Ytgkghebjaedjmaa
namespace Go.Proofs.Ytgkghebjaedjmaa
open Go.RowKit NP
set_option maxRecDepth 100000
set_option linter.unusedVariables false
set_option linter.unusedSimpArgs false
theorem T_md : (Try.prog.info? 64).map (·.size) = some 32 := by kernel_rfl
theorem T_mk : (Try.prog.info? 33).map (·.size) = some 2 := by kernel_rfl
theorem T_bmd0 (w : World) : (Instr.build 64 #[]).run Try.prog w = .ok (.agg (mdA (List.replicate 16 0) (List.replicate 16 false))) w := by kernel_rfl
theorem T_bmd1 (e0 e1 e2 e3 e4 e5 e6 e7 e8 e9 e10 e11 e12 e13 e14 e15 : Int) (w : World) : (Instr.build 64 #[(0, .agg (arr [e0, e1, e2, e3, e4, e5, e6, e7, e8, e9, e10, e11, e12, e13, e14, e15]))]).run Try.prog w = .ok (.agg (mdA [e0, e1, e2, e3, e4, e5, e6, e7, e8, e9, e10, e11, e12, e13, e14, e15] (List.replicate 16 false))) w := by kernel_rfl
theorem T_bmd (E : List Int) (hE : E.length = 16) (w : World) : (Instr.build 64 #[(0, .agg (arr E))]).run Try.prog w = .ok (.agg (mdA E (List.replicate 16 false))) w := by
  match E, hE with
  | [e0, e1, e2, e3, e4, e5, e6, e7, e8, e9, e10, e11, e12, e13, e14, e15], _ => exact T_bmd1 e0 e1 e2 e3 e4 e5 e6 e7 e8 e9 e10 e11 e12 e13 e14 e15 w
theorem exec_build1 {P : Program} {ρ : Operand → Value} {o : Oper} {w : World} {v u1 : Value} (t : TypeId) (x : Operand) (ho : o.op = .build t #[(0, x)]) (hx : ρ x = u1) (h : (Instr.build t #[(0, u1)]).run P w = .ok v w) :
    (execOp ρ o).run P w = .ok (.value v) w := by
  unfold execOp
  simp only [ho, Sem.run_bind, List.map_toArray, List.map_cons, List.map_nil, hx]
  rw [h]
  rfl
theorem wpList_exec {P : Program} {w : World} {ops : Array Oper} {rest : List Oper} {o : Oper} {a : Act} {Q : Exit → Act → World → Prop} (hgd : o.guard = none) {v : Value} (h : (execOp a.eval o).run P w = .ok (.value v) w)
    (hk : wpList P ops Q rest (a.put o.dst v) w) : wpList P ops Q (o :: rest) a w :=
  wpList_plain hgd fun _ hK => by
    unfold Oper.wp
    rw [h]
    exact hK _ _ hk
theorem boolAt {w : World} {B : Nat} {a : Option Addr} {bs : List Bool} (h : Rd w B a (bls bs)) {k : Nat} (hk : k < bs.length) : ∃ b o, a = some ⟨b, o, none⟩ ∧ b < B ∧ w.cell? ⟨b, o + k, none⟩ = some (.bool bs[k]) := by
  obtain ⟨b, o, h1, h2, h3⟩ := h (fun e => by
    have h0 : bs.length = 0 := by simpa using congrArg List.length e
    omega)
  exact ⟨b, o, h1, h2, h3 k _ (by simp [hk])⟩
set_option maxHeartbeats 4000000 in
theorem mdOf_any (a1 a2 : Option Addr) (c1 c2 B1 B2 : Nat) (L : List Int) (bs : List Bool) (w : World) (h1 : Rd w B1 a1 (ints L)) (h2 : Rd w B2 a2 (bls bs)) (hB1 : B1 ≤ w.heap.size) (hB2 : B2 ≤ w.heap.size) (hl1 : L.length ≤ 4611686018427387904) (hl2 : bs.length ≤ 4611686018427387904) :
    Calls Try.prog 51 #[.agg #[.slice a1 L.length c1, .slice a2 bs.length c2]] w fun e w' => e = .returned (.tuple #[.agg (mdA (mdD L bs) (mdE L bs)), .bool (vmk L bs)]) ∧ Below w.heap.size w w' := by
  have hu := Try.underlying60
  have hum := Try.underlying64
  have hi16 : (Try.prog.info? 60).map (·.size) = some (arr (dg L)).size := by rw [arr_size, dg_len]; exact T_info35
  have hsz : (arr (dg L)).size = (arr (List.replicate 16 0)).size := by rw [arr_size, arr_size, dg_len]; rfl
  have HDO := Lib.hid (fun w h hB => diagramOf_any a1 c1 B1 L w h hB hl1)
  obtain ⟨v, hv⟩ : ∃ v, v = valid L := ⟨_, rfl⟩
  rw [← hv] at HDO
  have hiZ : (Try.prog.info? 64).map (·.size) = some (#[.int .i64 0, .int .i64 0, .int .i64 0, .int .i64 0, .int .i64 0, .int .i64 0, .int .i64 0, .int .i64 0, .int .i64 0, .int .i64 0, .int .i64 0, .int .i64 0, .int .i64 0, .int .i64 0, .int .i64 0, .int .i64 0, .bool false, .bool false, .bool false, .bool false, .bool false, .bool false, .bool false, .bool false, .bool false, .bool false, .bool false, .bool false, .bool false, .bool false, .bool false, .bool false] : Array Value).size := T_md
  have honeZ : ∀ v ∈ (#[.int .i64 0, .int .i64 0, .int .i64 0, .int .i64 0, .int .i64 0, .int .i64 0, .int .i64 0, .int .i64 0, .int .i64 0, .int .i64 0, .int .i64 0, .int .i64 0, .int .i64 0, .int .i64 0, .int .i64 0, .int .i64 0, .bool false, .bool false, .bool false, .bool false, .bool false, .bool false, .bool false, .bool false, .bool false, .bool false, .bool false, .bool false, .bool false, .bool false, .bool false, .bool false] : Array Value).toList, v.oneCell' = true := mdA_one (List.replicate 16 0) (List.replicate 16 false)
  have HZN : Hid (vmk L bs = false → mdD L bs = List.replicate 16 0 ∧ mdE L bs = List.replicate 16 false) := Lib.hid (fun h => md_no h)
  have hb0 : Blk (w.alloc (.cells #[.slice a1 L.length c1, .slice a2 bs.length c2] 33)) w.heap.size 33 #[.slice a1 L.length c1, .slice a2 bs.length c2] := Blk.new w _ _
  have hbr0 : Blk ((w.alloc (.cells #[.slice a1 L.length c1, .slice a2 bs.length c2] 33)).alloc (.cells #[.int .i64 0, .int .i64 0, .int .i64 0, .int .i64 0, .int .i64 0, .int .i64 0, .int .i64 0, .int .i64 0, .int .i64 0, .int .i64 0, .int .i64 0, .int .i64 0, .int .i64 0, .int .i64 0, .int .i64 0, .int .i64 0, .bool false, .bool false, .bool false, .bool false, .bool false, .bool false, .bool false, .bool false, .bool false, .bool false, .bool false, .bool false, .bool false, .bool false, .bool false, .bool false] 64)) (w.heap.size + 1) 64 #[.int .i64 0, .int .i64 0, .int .i64 0, .int .i64 0, .int .i64 0, .int .i64 0, .int .i64 0, .int .i64 0, .int .i64 0, .int .i64 0, .int .i64 0, .int .i64 0, .int .i64 0, .int .i64 0, .int .i64 0, .int .i64 0, .bool false, .bool false, .bool false, .bool false, .bool false, .bool false, .bool false, .bool false, .bool false, .bool false, .bool false, .bool false, .bool false, .bool false, .bool false, .bool false] := by
    have e := Blk.new (w.alloc (.cells #[.slice a1 L.length c1, .slice a2 bs.length c2] 33)) 64 #[.int .i64 0, .int .i64 0, .int .i64 0, .int .i64 0, .int .i64 0, .int .i64 0, .int .i64 0, .int .i64 0, .int .i64 0, .int .i64 0, .int .i64 0, .int .i64 0, .int .i64 0, .int .i64 0, .int .i64 0, .int .i64 0, .bool false, .bool false, .bool false, .bool false, .bool false, .bool false, .bool false, .bool false, .bool false, .bool false, .bool false, .bool false, .bool false, .bool false, .bool false, .bool false]
    rw [World.size_alloc] at e
    exact e
  have hA0 : Below w.heap.size w ((w.alloc (.cells #[.slice a1 L.length c1, .slice a2 bs.length c2] 33)).alloc (.cells #[.int .i64 0, .int .i64 0, .int .i64 0, .int .i64 0, .int .i64 0, .int .i64 0, .int .i64 0, .int .i64 0, .int .i64 0, .int .i64 0, .int .i64 0, .int .i64 0, .int .i64 0, .int .i64 0, .int .i64 0, .int .i64 0, .bool false, .bool false, .bool false, .bool false, .bool false, .bool false, .bool false, .bool false, .bool false, .bool false, .bool false, .bool false, .bool false, .bool false, .bool false, .bool false] 64)) := ((Below.refl _ _).alloc (Nat.le_refl _) _).alloc (by simp) _
  have hb0' := hb0.alloc (.cells #[.int .i64 0, .int .i64 0, .int .i64 0, .int .i64 0, .int .i64 0, .int .i64 0, .int .i64 0, .int .i64 0, .int .i64 0, .int .i64 0, .int .i64 0, .int .i64 0, .int .i64 0, .int .i64 0, .int .i64 0, .int .i64 0, .bool false, .bool false, .bool false, .bool false, .bool false, .bool false, .bool false, .bool false, .bool false, .bool false, .bool false, .bool false, .bool false, .bool false, .bool false, .bool false] 64)
  obtain ⟨W, hW⟩ : ∃ W, (w.alloc (.cells #[.slice a1 L.length c1, .slice a2 bs.length c2] 33)).alloc (.cells #[.int .i64 0, .int .i64 0, .int .i64 0, .int .i64 0, .int .i64 0, .int .i64 0, .int .i64 0, .int .i64 0, .int .i64 0, .int .i64 0, .int .i64 0, .int .i64 0, .int .i64 0, .int .i64 0, .int .i64 0, .int .i64 0, .bool false, .bool false, .bool false, .bool false, .bool false, .bool false, .bool false, .bool false, .bool false, .bool false, .bool false, .bool false, .bool false, .bool false, .bool false, .bool false] 64) = W := ⟨_, rfl⟩
  have hWs : w.heap.size + 2 ≤ W.heap.size := by rw [← hW]; simp
  rw [hW] at hbr0 hA0 hb0'
  have hm1 : W.cell? ⟨w.heap.size, 0, none⟩ = some (.slice a1 L.length c1) := hb0'.cell 0
  have hm2 : W.cell? ⟨w.heap.size, 1, none⟩ = some (.slice a2 bs.length c2) := hb0'.cell 1
  have hr1 := (h1.more hB1).below hA0
  have hr2 := (h2.more hB2).below hA0
  have h2b := h2.more hB2
  have HDO2 : Hid (Calls Try.prog 78 #[.slice a1 L.length c1] W fun e w' => e = .returned (.tuple #[.agg (arr (dg L)), .bool v]) ∧ Below W.heap.size W w') := Lib.hid (HDO.out W (h1.below (hA0.mono (Nat.le_trans hB1 (Nat.le_refl _)))) (by omega))
  clear hb0 h1 h2 HDO
  cases v with
  | false =>
    have HF : Hid (vmk L bs = false) := Lib.hid (vmk_badL hv.symm)
    replace HZN := Lib.hid (HZN.out HF.out)
    clear hv
    go_enter Try.func51, Try.ntmps51
    go_wp2_with (first
      | (go_at_call 78; refine HDO2.out.mono ?_; rintro e w1 ⟨rfl, hb1⟩; have hzb1 := hb1.size)
      | (refine wpList_store_row rfl 60 (.tmp 4) (.tmp 13) rfl w1.heap.size rfl (arr (dg L)) rfl 60 (arr (List.replicate 16 0)) (Blk.new w1 _ _) hi16 hsz (arr_one _) ?_; have hB3 := (Blk.new w1 60 (arr (List.replicate 16 0))).row (vs := arr (dg L)); have hb13 : Below w1.heap.size w1 ((w1.alloc (.cells (arr (List.replicate 16 0)) 60)).setRow w1.heap.size (arr (dg L))) := below_setRow' ((Below.refl _ _).alloc (Nat.le_refl _) _) (Nat.le_refl _) _; obtain ⟨w3, hw3⟩ : ∃ w3, w3 = (w1.alloc (.cells (#[.int .i64 0, .int .i64 0, .int .i64 0, .int .i64 0, .int .i64 0, .int .i64 0, .int .i64 0, .int .i64 0, .int .i64 0, .int .i64 0, .int .i64 0, .int .i64 0, .int .i64 0, .int .i64 0, .int .i64 0, .int .i64 0]) 60)).setRow w1.heap.size (arr (dg L)) := ⟨_, rfl⟩; rw [← hw3]; replace hB3 : Blk w3 w1.heap.size 60 (arr (dg L)) := hw3 ▸ hB3; replace hb13 : Below w1.heap.size w1 w3 := hw3 ▸ hb13; clear hw3; have hbB := hb1.trans (hb13.mono hzb1); have hbr3 := hbr0.below hbB hbr0.lt; have hbel3 := hA0.trans (hbB.mono (by omega)))
      | (refine wpList_store_row rfl 64 (.tmp 2) (.tmp 26) rfl (w.heap.size + 1) rfl #[.int .i64 0, .int .i64 0, .int .i64 0, .int .i64 0, .int .i64 0, .int .i64 0, .int .i64 0, .int .i64 0, .int .i64 0, .int .i64 0, .int .i64 0, .int .i64 0, .int .i64 0, .int .i64 0, .int .i64 0, .int .i64 0, .bool false, .bool false, .bool false, .bool false, .bool false, .bool false, .bool false, .bool false, .bool false, .bool false, .bool false, .bool false, .bool false, .bool false, .bool false, .bool false] rfl 64 _ hbr3 hiZ rfl honeZ ?_))
    refine bodyPost_ret (results_cell_tmp rfl _ _ (w.heap.size + 1) 64 #[.int .i64 0, .int .i64 0, .int .i64 0, .int .i64 0, .int .i64 0, .int .i64 0, .int .i64 0, .int .i64 0, .int .i64 0, .int .i64 0, .int .i64 0, .int .i64 0, .int .i64 0, .int .i64 0, .int .i64 0, .int .i64 0, .bool false, .bool false, .bool false, .bool false, .bool false, .bool false, .bool false, .bool false, .bool false, .bool false, .bool false, .bool false, .bool false, .bool false, .bool false, .bool false] (0, 0) _ rfl hbr3.row hum rfl hiZ) rfl ?_
    rw [HF.out, HZN.out.1, HZN.out.2]
    exact ⟨rfl, below_setRow' hbel3 (by omega) _⟩
  | true =>
    have hvt := hv.symm
    have hbd := valid_bd hvt
    have hdg := dg_yes hvt
    rw [hdg] at hi16 hsz HDO2
    have HVT := Lib.hid hvt
    have hpl := pad_len hbd.2.2.2
    have hB1' : ∀ w : World, (Instr.build 64 #[(0, .agg (arr (pad L)))]).run Try.prog w = .ok (.agg (mdA (pad L) (padB (bs.take 0)))) w := fun w => T_bmd (pad L) hpl w
    have hiY : ∀ k, k ≤ 16 → (Try.prog.info? 64).map (·.size) = some (mdA (pad L) (padB (bs.take k))).size := fun k hk => by rw [mdA_size, hpl, padB_len (by rw [List.length_take]; omega)]; exact T_md
    have HIY := Lib.hid hiY
    have HPL := Lib.hid hpl
    clear hv hdg hvt hiY
    by_cases hlen : bs.length = L.length
    · have hne : ((bs.length : Int) != (L.length : Int)) = false := by simp [hlen]
      have hbl16 : bs.length ≤ 16 := by omega
      have HLEN := Lib.hid hlen
      clear hlen
      obtain ⟨Y, hY⟩ : ∃ Y, Y = mdA (pad L) (padB (bs.take 0)) := ⟨_, rfl⟩
      rw [← hY] at hB1'
      have hi0 : (Try.prog.info? 64).map (·.size) = some Y.size := by rw [hY]; exact HIY.out 0 (by omega)
      have hszY : Y.size = (#[.int .i64 0, .int .i64 0, .int .i64 0, .int .i64 0, .int .i64 0, .int .i64 0, .int .i64 0, .int .i64 0, .int .i64 0, .int .i64 0, .int .i64 0, .int .i64 0, .int .i64 0, .int .i64 0, .int .i64 0, .int .i64 0, .bool false, .bool false, .bool false, .bool false, .bool false, .bool false, .bool false, .bool false, .bool false, .bool false, .bool false, .bool false, .bool false, .bool false, .bool false, .bool false] : Array Value).size := by have e1 := HIY.out 0 (by omega); rw [← hY, hiZ] at e1; exact (Option.some.inj e1).symm
      have honeY : ∀ v ∈ Y.toList, v.oneCell' = true := by rw [hY]; exact mdA_one _ _
      have HYY := Lib.hid hY
      clear hY
      go_enter Try.func51, Try.ntmps51
      go_wp2_with (first
        | (go_at_call 78; refine HDO2.out.mono ?_; rintro e w1 ⟨rfl, hb1⟩; have hzb1 := hb1.size)
        | (refine wpList_store_row rfl 60 (.tmp 4) (.tmp 13) rfl w1.heap.size rfl (arr (pad L)) rfl 60 (arr (List.replicate 16 0)) (Blk.new w1 _ _) hi16 hsz (arr_one _) ?_; have hB3 := (Blk.new w1 60 (arr (List.replicate 16 0))).row (vs := arr (pad L)); have hb13 : Below w1.heap.size w1 ((w1.alloc (.cells (arr (List.replicate 16 0)) 60)).setRow w1.heap.size (arr (pad L))) := below_setRow' ((Below.refl _ _).alloc (Nat.le_refl _) _) (Nat.le_refl _) _; obtain ⟨w3, hw3⟩ : ∃ w3, w3 = (w1.alloc (.cells (#[.int .i64 0, .int .i64 0, .int .i64 0, .int .i64 0, .int .i64 0, .int .i64 0, .int .i64 0, .int .i64 0, .int .i64 0, .int .i64 0, .int .i64 0, .int .i64 0, .int .i64 0, .int .i64 0, .int .i64 0, .int .i64 0]) 60)).setRow w1.heap.size (arr (pad L)) := ⟨_, rfl⟩; rw [← hw3]; replace hB3 : Blk w3 w1.heap.size 60 (arr (pad L)) := hw3 ▸ hB3; replace hb13 : Below w1.heap.size w1 w3 := hw3 ▸ hb13; clear hw3; have hbB := hb1.trans (hb13.mono hzb1); have hb3x := hb0'.below hbB hb0'.lt; have hm1' : w3.cell? ⟨w.heap.size, 0, none⟩ = some (.slice a1 L.length c1) := hb3x.cell 0; have hm2' : w3.cell? ⟨w.heap.size, 1, none⟩ = some (.slice a2 bs.length c2) := hb3x.cell 1; have hbr3 := hbr0.below hbB hbr0.lt; have hbel3 := hA0.trans (hbB.mono (by omega)); have hw3s := hbel3.size)
        | (refine wpList_exec rfl (exec_build1 (u1 := .agg (arr (pad L))) (v := .agg Y) 64 (.tmp 27) rfl rfl (hB1' _)) ?_)
        | (refine wpList_load_row rfl 60 (.tmp 4) rfl w1.heap.size rfl 60 (arr (pad L)) (0, 0) _ hB3 hu rfl hi16 ?_)
        | (refine wpList_store_row rfl 64 (.tmp 6) (.tmp 28) rfl w3.heap.size rfl Y rfl 64 #[.int .i64 0, .int .i64 0, .int .i64 0, .int .i64 0, .int .i64 0, .int .i64 0, .int .i64 0, .int .i64 0, .int .i64 0, .int .i64 0, .int .i64 0, .int .i64 0, .int .i64 0, .int .i64 0, .int .i64 0, .int .i64 0, .bool false, .bool false, .bool false, .bool false, .bool false, .bool false, .bool false, .bool false, .bool false, .bool false, .bool false, .bool false, .bool false, .bool false, .bool false, .bool false] (Blk.new w3 _ _) hi0 hszY honeY ?_; have hB5 := (Blk.new w3 64 #[.int .i64 0, .int .i64 0, .int .i64 0, .int .i64 0, .int .i64 0, .int .i64 0, .int .i64 0, .int .i64 0, .int .i64 0, .int .i64 0, .int .i64 0, .int .i64 0, .int .i64 0, .int .i64 0, .int .i64 0, .int .i64 0, .bool false, .bool false, .bool false, .bool false, .bool false, .bool false, .bool false, .bool false, .bool false, .bool false, .bool false, .bool false, .bool false, .bool false, .bool false, .bool false]).row (vs := Y); have hb35 : Below w3.heap.size w3 ((w3.alloc (.cells #[.int .i64 0, .int .i64 0, .int .i64 0, .int .i64 0, .int .i64 0, .int .i64 0, .int .i64 0, .int .i64 0, .int .i64 0, .int .i64 0, .int .i64 0, .int .i64 0, .int .i64 0, .int .i64 0, .int .i64 0, .int .i64 0, .bool false, .bool false, .bool false, .bool false, .bool false, .bool false, .bool false, .bool false, .bool false, .bool false, .bool false, .bool false, .bool false, .bool false, .bool false, .bool false] 64)).setRow w3.heap.size Y) := below_setRow' ((Below.refl _ _).alloc (Nat.le_refl _) _) (Nat.le_refl _) _; obtain ⟨w5, hw5⟩ : ∃ w5, w5 = (w3.alloc (.cells #[.int .i64 0, .int .i64 0, .int .i64 0, .int .i64 0, .int .i64 0, .int .i64 0, .int .i64 0, .int .i64 0, .int .i64 0, .int .i64 0, .int .i64 0, .int .i64 0, .int .i64 0, .int .i64 0, .int .i64 0, .int .i64 0, .bool false, .bool false, .bool false, .bool false, .bool false, .bool false, .bool false, .bool false, .bool false, .bool false, .bool false, .bool false, .bool false, .bool false, .bool false, .bool false] 64)).setRow w3.heap.size Y := ⟨_, rfl⟩; rw [← hw5]; replace hB5 : Blk w5 w3.heap.size 64 Y := hw5 ▸ hB5; replace hb35 : Below w3.heap.size w3 w5 := hw5 ▸ hb35; clear hw5; have hb5x := hb3x.below hb35 hb3x.lt; have hm1q : w5.cell? ⟨w.heap.size, 0, none⟩ = some (.slice a1 L.length c1) := hb5x.cell 0; have hm2q : w5.cell? ⟨w.heap.size, 1, none⟩ = some (.slice a2 bs.length c2) := hb5x.cell 1; have hB3' := hB3.below hb35 hB3.lt; have hbr5 := hbr3.below hb35 hbr3.lt; have hbel5 := hbel3.trans (hb35.mono hbel3.size)))
      have hDne : w1.heap.size ≠ w3.heap.size := by have := hB3.lt; omega
      have hGne : w.heap.size + 1 ≠ w3.heap.size := by have := hbr3.lt; omega
      obtain ⟨G, hG⟩ : ∃ G, G = w3.heap.size := ⟨_, rfl⟩
      obtain ⟨D, hD⟩ : ∃ D, D = w1.heap.size := ⟨_, rfl⟩
      have hGw : w.heap.size ≤ G := by rw [hG]; exact hw3s
      rw [← hG] at hB5 hGne hDne ⊢
      rw [← hD] at hB3' hDne ⊢
      rw [HYY.out] at hB5
      have HR2 := Lib.hid hr2
      have HWs := Lib.hid hWs
      clear hb0' hA0 hbr0 hm1 hm2 hbB hb3x hm1' hm2' hbr3 hbel3 hw3s hb35 hb5x hm1q hm2q hB3 hb1 hb13 hr1 hr2 hzb1 hG hD hWs hi0 hszY hW
      have hA2 := Lib.hid (h2b)
      go_loopw [32] (fun i wr => ∃ k : Nat, k ≤ bs.length ∧ i = .int .i64 k ∧ Below w.heap.size w wr ∧ Blk wr (w.heap.size + 1) 64 #[.int .i64 0, .int .i64 0, .int .i64 0, .int .i64 0, .int .i64 0, .int .i64 0, .int .i64 0, .int .i64 0, .int .i64 0, .int .i64 0, .int .i64 0, .int .i64 0, .int .i64 0, .int .i64 0, .int .i64 0, .int .i64 0, .bool false, .bool false, .bool false, .bool false, .bool false, .bool false, .bool false, .bool false, .bool false, .bool false, .bool false, .bool false, .bool false, .bool false, .bool false, .bool false] ∧ Blk wr D 60 (arr (pad L)) ∧ Blk wr G 64 (mdA (pad L) (padB (bs.take k))) ∧ Hid (∀ j, j < k → mkC L bs j = true)) (fun i _ => 20 - (intOf i).toNat)
      case atStart => exact ⟨0, Nat.zero_le _, rfl, hbel5, hbr5, hB3', hB5, Lib.hid fun j hj => by omega⟩
      case round =>
        clear hbel5 hbr5 hB3' hB5
        obtain ⟨k, hk, rfl, hbel, hbr, hBD, hBG, HP⟩ := hrel
        by_cases hlt : k < bs.length
        · have hlt' : (k : Int) < (bs.length : Int) := by omega
          have hk16 : k < 16 := by omega
          have hk16' : (k : Int) < 16 := by omega
          obtain ⟨b2, o2, rfl, -, hc2⟩ := boolAt (hA2.out.below hbel) hlt
          have HMK : Hid (mkC L bs k = (!bs[k] || isC L k)) := Lib.hid (by unfold mkC; rw [List.getD_eq_getElem?_getD, List.getElem?_eq_getElem hlt]; rfl)
          have HCD : Hid (isCD (pad L) k = isC L k) := Lib.hid (by rw [isCD_pad HVT.out, if_pos (by have := HLEN.out; omega)])
          have HKL : Hid (k < L.length) := Lib.hid (by have := HLEN.out; omega)
          have hEl : (padB (bs.take k)).length = 16 := padB_len (by rw [List.length_take]; omega)
          have hcG : wr.cell? ⟨G, 16 + k, none⟩ = some (.bool ((padB (bs.take k))[k]'(by omega))) := by rw [hBG.cell (16 + k), mdA_bool _ _ HPL.out k (by omega)]
          have hfG : wr.frozen? ⟨G, 16 + k, none⟩ = false := hBG.free _
          have HSET := Lib.hid (padB_set hlt hk16)
          have hnext : ∀ (wq : World) (b : Bool), b = bs[k] → Blk wq G 64 (mdA (pad L) (padB (bs.take k))) → Blk (wq.setCell ⟨G, 16 + k, none⟩ (.bool b)) G 64 (mdA (pad L) (padB (bs.take (k + 1)))) := fun wq b hb h => by
            have e := h.set (16 + k) (.bool b)
            rw [mdA_set _ _ HPL.out] at e
            have e2 : (padB (bs.take k)).set k b = padB (bs.take (k + 1)) := by rw [hb]; exact HSET.out
            rw [e2] at e
            exact e
          have HNXT := Lib.hid hnext
          have HPJ : Hid (mkC L bs k = true → ∀ j, j < k + 1 → mkC L bs j = true) := Lib.hid (fun h j hj => by
            rcases Nat.lt_or_ge j k with h1 | h1
            · exact HP.out j h1
            · rw [show j = k by omega]; exact h)
          generalize (padB (bs.take k))[k]'_ = y at hcG
          clear hnext hEl
          obtain ⟨m, hm⟩ : ∃ m, m = bs[k] := ⟨_, rfl⟩
          rw [← hm] at hc2 HMK
          have HM := Lib.hid hm
          clear hm
          cases m with
          | false =>
            have HOK := Lib.hid (HPJ.out (by rw [HMK.out]; rfl))
            go_wp2_with fail
            go_roundw
            case rel => exact ⟨k + 1, by omega, by go_num, hbel.setCell hGw _, hbr.off hGne _, hBD.off hDne _, HNXT.out _ false HM.out hBG, HOK⟩
            case measure => simp [intOf]; omega
          | true =>
            have HIC := Lib.hid (fun w => isCorner_any (pad L) HPL.out k hk16 w)
            rw [HCD.out] at HIC
            obtain ⟨q, hq⟩ : ∃ q, q = isC L k := ⟨_, rfl⟩
            rw [← hq] at HIC HMK
            clear hq
            cases q with
            | false =>
              have HF : Hid (vmk L bs = false) := Lib.hid (vmk_badC HKL.out HMK.out)
              replace HZN := Lib.hid (HZN.out HF.out)
              go_wp2_with (first
                | (refine wpList_load_row_g rfl 60 (.tmp 4) rfl D rfl 60 (arr (pad L)) (0, 0) _ hBD hu rfl hi16 ?_)
                | (go_at_call 74; refine (HIC.out _).mono ?_; rintro e w9 ⟨rfl, hb9⟩; have hbr9 := hbr.below hb9 hbr.lt)
                | (refine wpList_store_row rfl 64 (.tmp 2) (.tmp 44) rfl (w.heap.size + 1) rfl #[.int .i64 0, .int .i64 0, .int .i64 0, .int .i64 0, .int .i64 0, .int .i64 0, .int .i64 0, .int .i64 0, .int .i64 0, .int .i64 0, .int .i64 0, .int .i64 0, .int .i64 0, .int .i64 0, .int .i64 0, .int .i64 0, .bool false, .bool false, .bool false, .bool false, .bool false, .bool false, .bool false, .bool false, .bool false, .bool false, .bool false, .bool false, .bool false, .bool false, .bool false, .bool false] rfl 64 _ hbr9 hiZ rfl honeZ ?_))
              refine bodyPost_ret (results_cell_tmp rfl _ _ (w.heap.size + 1) 64 #[.int .i64 0, .int .i64 0, .int .i64 0, .int .i64 0, .int .i64 0, .int .i64 0, .int .i64 0, .int .i64 0, .int .i64 0, .int .i64 0, .int .i64 0, .int .i64 0, .int .i64 0, .int .i64 0, .int .i64 0, .int .i64 0, .bool false, .bool false, .bool false, .bool false, .bool false, .bool false, .bool false, .bool false, .bool false, .bool false, .bool false, .bool false, .bool false, .bool false, .bool false, .bool false] (0, 0) _ rfl hbr9.row hum rfl hiZ) rfl ?_
              rw [HF.out, HZN.out.1, HZN.out.2]
              exact ⟨rfl, below_setRow' (hbel.trans (hb9.mono hbel.size)) (by omega) _⟩
            | true =>
              have HOK := Lib.hid (HPJ.out (by rw [HMK.out]; rfl))
              go_wp2_with (first
                | (refine wpList_load_row_g rfl 60 (.tmp 4) rfl D rfl 60 (arr (pad L)) (0, 0) _ hBD hu rfl hi16 ?_)
                | (go_at_call 74; refine (HIC.out _).mono ?_; rintro e w9 ⟨rfl, hb9⟩; have hcG9 : w9.cell? ⟨G, 16 + k, none⟩ = some (.bool y) := (hb9.cell (p := ⟨G, 16 + k, none⟩) hBG.lt).trans hcG; have hfG9 : w9.frozen? ⟨G, 16 + k, none⟩ = false := (hBG.below hb9 hBG.lt).free _; have hbr9 := hbr.below hb9 hbr.lt; have hBD9 := hBD.below hb9 hBD.lt; have hBG9 := hBG.below hb9 hBG.lt))
              go_roundw
              case rel => exact ⟨k + 1, by omega, by go_num, (hbel.trans (hb9.mono hbel.size)).setCell hGw _, hbr9.off hGne _, hBD9.off hDne _, HNXT.out _ true HM.out hBG9, HOK⟩
              case measure => simp [intOf]; omega
        · obtain rfl : k = bs.length := by omega
          have HV : Hid (vmk L bs = true) := Lib.hid (vmk_iff.2 ⟨HVT.out, HLEN.out, fun i hi => HP.out i (by have := HLEN.out; omega)⟩)
          have HMD := Lib.hid (md_yes HV.out)
          rw [List.take_of_length_le (Nat.le_refl _)] at hBG
          have hiQ := HIY.out bs.length hbl16
          rw [List.take_of_length_le (Nat.le_refl _)] at hiQ
          obtain ⟨Q, hQ⟩ : ∃ Q, Q = mdA (pad L) (padB bs) := ⟨_, rfl⟩
          have honeQ : ∀ v ∈ Q.toList, v.oneCell' = true := by rw [hQ]; exact mdA_one _ _
          rw [← hQ] at hBG hiQ
          have hszQ : Q.size = (#[.int .i64 0, .int .i64 0, .int .i64 0, .int .i64 0, .int .i64 0, .int .i64 0, .int .i64 0, .int .i64 0, .int .i64 0, .int .i64 0, .int .i64 0, .int .i64 0, .int .i64 0, .int .i64 0, .int .i64 0, .int .i64 0, .bool false, .bool false, .bool false, .bool false, .bool false, .bool false, .bool false, .bool false, .bool false, .bool false, .bool false, .bool false, .bool false, .bool false, .bool false, .bool false] : Array Value).size := by rw [hiZ] at hiQ; exact (Option.some.inj hiQ).symm
          have HQ := Lib.hid hQ
          clear hQ
          go_wp2_with (first
            | (refine wpList_load_row rfl 64 (.tmp 6) rfl G rfl 64 Q (0, 0) _ hBG hum rfl hiQ ?_)
            | (refine wpList_store_row rfl 64 (.tmp 2) (.tmp 50) rfl (w.heap.size + 1) rfl Q rfl 64 _ hbr hiQ hszQ honeQ ?_))
          refine bodyPost_ret (results_cell_tmp rfl _ _ (w.heap.size + 1) 64 Q (0, 0) _ rfl hbr.row hum rfl hiQ) rfl ?_
          rw [HV.out, HMD.out.1, HMD.out.2, ← HQ.out]
          exact ⟨rfl, below_setRow' hbel (by omega) _⟩
    · have hne : ((bs.length : Int) != (L.length : Int)) = true := by simpa using fun h => hlen (by omega)
      have HF : Hid (vmk L bs = false) := Lib.hid (vmk_badN hlen)
      replace HZN := Lib.hid (HZN.out HF.out)
      clear hlen
      go_enter Try.func51, Try.ntmps51
      go_wp2_with (first
        | (go_at_call 78; refine HDO2.out.mono ?_; rintro e w1 ⟨rfl, hb1⟩; have hzb1 := hb1.size)
        | (refine wpList_store_row rfl 60 (.tmp 4) (.tmp 13) rfl w1.heap.size rfl (arr (pad L)) rfl 60 (arr (List.replicate 16 0)) (Blk.new w1 _ _) hi16 hsz (arr_one _) ?_; have hB3 := (Blk.new w1 60 (arr (List.replicate 16 0))).row (vs := arr (pad L)); have hb13 : Below w1.heap.size w1 ((w1.alloc (.cells (arr (List.replicate 16 0)) 60)).setRow w1.heap.size (arr (pad L))) := below_setRow' ((Below.refl _ _).alloc (Nat.le_refl _) _) (Nat.le_refl _) _; obtain ⟨w3, hw3⟩ : ∃ w3, w3 = (w1.alloc (.cells (#[.int .i64 0, .int .i64 0, .int .i64 0, .int .i64 0, .int .i64 0, .int .i64 0, .int .i64 0, .int .i64 0, .int .i64 0, .int .i64 0, .int .i64 0, .int .i64 0, .int .i64 0, .int .i64 0, .int .i64 0, .int .i64 0]) 60)).setRow w1.heap.size (arr (pad L)) := ⟨_, rfl⟩; rw [← hw3]; replace hB3 : Blk w3 w1.heap.size 60 (arr (pad L)) := hw3 ▸ hB3; replace hb13 : Below w1.heap.size w1 w3 := hw3 ▸ hb13; clear hw3; have hbB := hb1.trans (hb13.mono hzb1); have hb3x := hb0'.below hbB hb0'.lt; have hm1' : w3.cell? ⟨w.heap.size, 0, none⟩ = some (.slice a1 L.length c1) := hb3x.cell 0; have hm2' : w3.cell? ⟨w.heap.size, 1, none⟩ = some (.slice a2 bs.length c2) := hb3x.cell 1; have hbr3 := hbr0.below hbB hbr0.lt; have hbel3 := hA0.trans (hbB.mono (by omega)); have hw3s := hbel3.size)
        | (refine wpList_store_row rfl 64 (.tmp 2) (.tmp 26) rfl (w.heap.size + 1) rfl #[.int .i64 0, .int .i64 0, .int .i64 0, .int .i64 0, .int .i64 0, .int .i64 0, .int .i64 0, .int .i64 0, .int .i64 0, .int .i64 0, .int .i64 0, .int .i64 0, .int .i64 0, .int .i64 0, .int .i64 0, .int .i64 0, .bool false, .bool false, .bool false, .bool false, .bool false, .bool false, .bool false, .bool false, .bool false, .bool false, .bool false, .bool false, .bool false, .bool false, .bool false, .bool false] rfl 64 _ hbr3 hiZ rfl honeZ ?_))
      refine bodyPost_ret (results_cell_tmp rfl _ _ (w.heap.size + 1) 64 #[.int .i64 0, .int .i64 0, .int .i64 0, .int .i64 0, .int .i64 0, .int .i64 0, .int .i64 0, .int .i64 0, .int .i64 0, .int .i64 0, .int .i64 0, .int .i64 0, .int .i64 0, .int .i64 0, .int .i64 0, .int .i64 0, .bool false, .bool false, .bool false, .bool false, .bool false, .bool false, .bool false, .bool false, .bool false, .bool false, .bool false, .bool false, .bool false, .bool false, .bool false, .bool false] (0, 0) _ rfl hbr3.row hum rfl hiZ) rfl ?_
      rw [HF.out, HZN.out.1, HZN.out.2]
      exact ⟨rfl, below_setRow' hbel3 (by omega) _⟩
end Go.Proofs.Ytgkghebjaedjmaa
namespace Go.Proofs.Ytgkghebjaedjmaa
namespace NP
set_option linter.unusedVariables false
def hasI (M : List Int) (n : Int) : Bool := decide (n ∈ M)
theorem hasI_fl (p : Nat → Bool) (n : Nat) (i : Int) : hasI (fl p n) i = (decide (0 ≤ i) && decide (i < n) && p i.toNat) := by
  unfold hasI fl
  by_cases h0 : 0 ≤ i
  · obtain ⟨k, rfl⟩ := Int.eq_ofNat_of_zero_le h0
    have e : ((k : Int) ∈ ((List.range n).filter p).map Int.ofNat) ↔ (k < n ∧ p k = true) := by
      simp only [List.mem_map, List.mem_filter, List.mem_range]
      constructor
      · rintro ⟨a, ha, e⟩
        have : (a : Int) = (k : Int) := e
        obtain rfl : a = k := by omega
        exact ha
      · intro h
        exact ⟨k, h, rfl⟩
    simp only [e, Int.toNat_natCast]
    cases hp : p k <;> simp
  · have e : ¬ (i ∈ ((List.range n).filter p).map Int.ofNat) := by
      simp only [List.mem_map]
      rintro ⟨a, _, e⟩
      have : (a : Int) = i := e
      omega
    simp [e, h0]
theorem hasI_cons (x : Int) (M : List Int) (n : Int) : hasI (x :: M) n = (decide (n = x) || hasI M n) := by
  unfold hasI
  simp
theorem sumL_set (L : List Int) (k : Nat) (h : k < L.length) (x : Int) : sumL (L.set k x) = sumL L - L[k] + x := by
  induction L generalizing k with
  | nil => simp at h
  | cons y r ih =>
    cases k with
    | zero => simp [sumL]; omega
    | succ k =>
      simp only [List.set_cons_succ, sumL, List.getElem_cons_succ]
      rw [ih k (by simpa using h)]
      omega
theorem elem_le_sum {L : List Int} (h : ∀ x ∈ L, 0 ≤ x) {q : Nat} (hq : q < L.length) : L[q] ≤ sumL L ∧ 0 ≤ sumL L := by
  induction L generalizing q with
  | nil => simp at hq
  | cons x r ih =>
    have hx := h x (by simp)
    have hr : 0 ≤ sumL r := by
      cases r with
      | nil => simp [sumL]
      | cons y t => exact (ih (fun z hz => h z (by simp [hz])) (q := 0) (by simp)).2
    cases q with
    | zero => simp [sumL]; omega
    | succ q =>
      have := (ih (fun z hz => h z (by simp [hz])) (q := q) (by simpa using hq)).1
      simp only [List.getElem_cons_succ, sumL]
      omega
/-- a cell less -/
def lessL (L : List Int) (k : Nat) : List Int := if L.getD k 0 - 1 = 0 then (L.set k (L.getD k 0 - 1)).take k else L.set k (L.getD k 0 - 1)
def rmvOk (L : List Int) (i : Int) : Bool := valid L && (decide (0 ≤ i) && decide (i < L.length) && isC L i.toNat)
def rmv (L : List Int) (i : Int) : List Int := if rmvOk L i then lessL L i.toNat else []
theorem isC_next {L : List Int} {k : Nat} (hk : k + 1 < L.length) (h : isC L k = true) : L.getD (k + 1) 0 < L.getD k 0 := by
  unfold isC at h
  rw [decide_eq_false (by omega), Bool.false_or] at h
  exact of_decide_eq_true h
theorem valid_set_less {L : List Int} (hv : valid L = true) {k : Nat} (hk : k < L.length) (hc : isC L k = true) (h1 : L.getD k 0 - 1 ≠ 0) : valid (L.set k (L.getD k 0 - 1)) = true := by
  have hp := preS_of_valid hv
  have hb := valid_bd hv
  have hg : L.getD k 0 = L[k] := getD_lt hk
  apply valid_of_preS
  · intro j hj _
    rw [List.length_set] at hj
    have hpj := hp j hj hj
    have hpk := hp k hk hk
    by_cases hjk : k = j
    · subst hjk
      rw [List.getElem_set_self]
      refine ⟨by omega, by omega, fun h0 => ?_⟩
      rw [List.getElem_set_ne (by omega)]
      have := hpk.2.2 h0
      omega
    · rw [List.getElem_set_ne hjk]
      refine ⟨hpj.1, hpj.2.1, fun h0 => ?_⟩
      by_cases hj1 : k = j - 1
      · subst hj1
        rw [List.getElem_set_self]
        have hn := isC_next (L := L) (k := j - 1) (by omega) hc
        rw [getD_lt (by omega), getD_lt (by omega)] at hn
        have e : L[j - 1 + 1]'(by omega) = L[j] := by congr 1; omega
        rw [e] at hn
        omega
      · rw [List.getElem_set_ne hj1]
        exact hpj.2.2 h0
  · rw [sumL_set _ _ hk]; omega
theorem less_last {L : List Int} (hv : valid L = true) {k : Nat} (hk : k < L.length) (hc : isC L k = true) (h1 : L.getD k 0 - 1 = 0) : k + 1 = L.length := by
  rcases Nat.lt_or_ge (k + 1) L.length with h | h
  · have := isC_next h hc
    have := getD_pos hv h
    omega
  · omega
theorem valid_less {L : List Int} (hv : valid L = true) {k : Nat} (hk : k < L.length) (hc : isC L k = true) : valid (lessL L k) = true := by
  unfold lessL
  split
  · rename_i h1
    rw [List.take_set_of_le (Nat.le_refl _)]
    exact valid_take hv k
  · rename_i h1
    exact valid_set_less hv hk hc h1
theorem pad_ext {A B : List Int} (hA : A.length ≤ 16) (hB : B.length ≤ 16) (h : ∀ j, j < 16 → A.getD j 0 = B.getD j 0) : pad A = pad B := by
  apply List.ext_getElem
  · rw [pad_len hA, pad_len hB]
  · intro j h1 h2
    have e1 := pad_getD hA j
    have e2 := pad_getD hB j
    rw [getD_lt h1] at e1
    rw [getD_lt h2] at e2
    rw [e1, e2, h j (by rw [pad_len hA] at h1; omega)]
theorem getD_set (L : List Int) (k j : Nat) (hk : k < L.length) (x : Int) : (L.set k x).getD j 0 = if k = j then x else L.getD j 0 := by
  split
  · rename_i h
    subst h
    rw [getD_lt (by simpa using hk), List.getElem_set_self]
  · rename_i h
    rcases Nat.lt_or_ge j L.length with h1 | h1
    · rw [getD_lt (by simpa using h1), List.getElem_set_ne h, getD_lt h1]
    · rw [getD_ge (by simpa using h1), getD_ge h1]
theorem getD_take (L : List Int) (k j : Nat) : (L.take k).getD j 0 = if j < k then L.getD j 0 else 0 := by
  split
  · rename_i h
    rcases Nat.lt_or_ge j L.length with h1 | h1
    · rw [getD_lt (by simp; omega), getD_lt h1]; simp
    · rw [getD_ge (by simp; omega), getD_ge h1]
  · rename_i h
    rw [getD_ge (by simp; omega)]
theorem pad_setG {L : List Int} (hL : L.length ≤ 16) {k : Nat} (hk : k < 16) (x : Int) {M : List Int} (hM : M.length ≤ 16) (h : ∀ j, j < 16 → M.getD j 0 = if k = j then x else L.getD j 0) : (pad L).set k x = pad M := by
  apply List.ext_getElem
  · rw [List.length_set, pad_len hL, pad_len hM]
  · intro j h1 h2
    have e1 := getD_set (pad L) k j (by rw [pad_len hL]; exact hk) x
    have e2 := pad_getD hM j
    rw [getD_lt h1] at e1
    rw [getD_lt h2] at e2
    rw [e1, e2, h j (by rw [pad_len hM] at h2; omega), pad_getD hL]
theorem less_len (L : List Int) (k : Nat) : (lessL L k).length ≤ L.length := by
  unfold lessL
  split
  · rw [List.length_take, List.length_set]; omega
  · rw [List.length_set]; omega
theorem pad_less {L : List Int} (hv : valid L = true) {k : Nat} (hk : k < L.length) (hc : isC L k = true) : (pad L).set k (L.getD k 0 - 1) = pad (lessL L k) := by
  have hl := (valid_bd hv).2.2.2
  refine pad_setG hl (by omega) _ (Nat.le_trans (less_len L k) hl) fun j _ => ?_
  unfold lessL
  split
  · rename_i h1
    have := less_last hv hk hc h1
    rw [getD_take, getD_set _ _ _ hk]
    by_cases hjk : j < k
    · rw [if_pos hjk, if_neg (by omega)]
    · rw [if_neg hjk]
      split
      · omega
      · rw [getD_ge (by omega)]
  · rw [getD_set _ _ _ hk]
theorem rmv_len (L : List Int) (i : Int) : (rmv L i).length ≤ 16 := by
  unfold rmv
  split
  · rename_i h
    unfold rmvOk at h
    simp only [Bool.and_eq_true] at h
    exact Nat.le_trans (less_len L _) (valid_bd h.1).2.2.2
  · simp
/-- a cell more -/
def addL (L : List Int) (k : Nat) : List Int := if k = L.length then L ++ [1] else L.set k (L.getD k 0 + 1)
def addOk (L : List Int) (i : Int) : Bool := valid L && (decide (0 ≤ i) && decide (i ≤ L.length) && valid (addL L i.toNat))
def addC (L : List Int) (i : Int) : List Int := if addOk L i then addL L i.toNat else []
theorem addC_len (L : List Int) (i : Int) : (addC L i).length ≤ 16 := by
  unfold addC
  split
  · rename_i h
    unfold addOk at h
    simp only [Bool.and_eq_true] at h
    exact (valid_bd h.2.2).2.2.2
  · simp
theorem addL_len (L : List Int) (k : Nat) : (addL L k).length ≤ L.length + 1 := by
  unfold addL; split <;> simp
theorem addL_getD (L : List Int) {k : Nat} (hk : k ≤ L.length) (j : Nat) : (addL L k).getD j 0 = if k = j then L.getD k 0 + 1 else L.getD j 0 := by
  unfold addL
  split
  · rename_i h
    subst h
    split
    · rename_i h
      subst h
      rw [getD_lt (by simp), getD_ge (Nat.le_refl _)]
      simp
    · rename_i h
      rcases Nat.lt_or_ge j L.length with h1 | h1
      · rw [getD_lt (by simp; omega), getD_lt h1, List.getElem_append_left h1]
      · rw [getD_ge (by simp; omega), getD_ge h1]
  · rw [getD_set _ _ _ (by omega)]
theorem sumL_add (L : List Int) {k : Nat} (hk : k ≤ L.length) : sumL (addL L k) = sumL L + 1 := by
  unfold addL
  split
  · rw [sumL_append]; simp [sumL]
  · rw [sumL_set _ _ (by omega), getD_lt (by omega)]; omega
theorem valid_add {L : List Int} (hv : valid L = true) {k : Nat} (hk : k ≤ L.length) : valid (addL L k) = (decide (sumL L ≠ 16) && (decide (k = 0) || decide (L.getD k 0 + 1 ≤ L.getD (k - 1) 0))) := by
  have hp := preS_of_valid hv
  have hb := valid_bd hv
  have hs := sumL_add L hk
  apply Bool.eq_iff_iff.2
  simp only [Bool.and_eq_true, Bool.or_eq_true, decide_eq_true_eq]
  constructor
  · intro h
    have hb2 := valid_bd h
    refine ⟨by omega, ?_⟩
    by_cases h0 : k = 0
    · exact .inl h0
    · right
      have hkl : k < (addL L k).length := by unfold addL; split <;> simp <;> omega
      have := (preS_of_valid h k hkl hkl).2.2 (by omega)
      rw [← getD_lt hkl, ← getD_lt (by omega), addL_getD L hk, addL_getD L hk, if_pos rfl, if_neg (by omega)] at this
      exact this
  · rintro ⟨h1, h2⟩
    apply valid_of_preS
    · intro j hj _
      have hjl : j ≤ L.length := by have := addL_len L k; omega
      have e1 := addL_getD L hk j
      rw [getD_lt hj] at e1
      have hs16 := hb.2.1
      have hle : ∀ q, 0 ≤ L.getD q 0 ∧ L.getD q 0 ≤ 15 := by
        intro q
        rcases Nat.lt_or_ge q L.length with hq | hq
        · have a1 := hp q hq hq
          rw [getD_lt hq]
          have a2 := elem_le_sum (fun x hx => by obtain ⟨n, hn, e⟩ := List.mem_iff_getElem.1 hx; have := hp n hn hn; omega) hq
          omega
        · rw [getD_ge hq]; omega
      have hlek := hle k
      have hlej := hle j
      have hge : k ≠ j → 1 ≤ L.getD j 0 := by
        intro hne
        have : j < L.length := by
          by_cases hkl : k = L.length
          · omega
          · have : (addL L k).length = L.length := by unfold addL; rw [if_neg hkl]; simp
            omega
        exact getD_pos hv this
      refine ⟨by rw [e1]; split <;> omega, by rw [e1]; split <;> omega, fun h0 => ?_⟩
      have e2 := addL_getD L hk (j - 1)
      rw [getD_lt (by omega)] at e2
      rw [e1, e2]
      have hmono : L.getD j 0 ≤ L.getD (j - 1) 0 := by
        rcases Nat.lt_or_ge j L.length with hq | hq
        · rw [getD_lt hq, getD_lt (by omega)]
          exact (hp j hq hq).2.2 h0
        · rw [getD_ge hq]; exact (hle _).1
      by_cases hkj : k = j
      · subst hkj
        rw [if_pos rfl, if_neg (by omega)]
        omega
      · rw [if_neg hkj]
        split
        · rename_i hkj1
          subst hkj1
          omega
        · exact hmono
    · omega
theorem pad_add {L : List Int} (hl : L.length ≤ 16) {k : Nat} (hk : k ≤ L.length) (hk16 : k < 16) (hl2 : (addL L k).length ≤ 16) : (pad L).set k (L.getD k 0 + 1) = pad (addL L k) := pad_setG hl hk16 _ hl2 fun j _ => addL_getD L hk j
end NP
end Go.Proofs.Ytgkghebjaedjmaa
