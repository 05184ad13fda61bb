/-
  Walks: cranks: the program's and the model's.
-/
import Derived.Test.YtcjnmconehfbgaaW44
import Derived.Test.YtcjnmconehfbgaaM2
import Derived.Test.YtcjnmconehfbgaaW76a
namespace Go.Proofs.Ytcjnmconehfbgaa
open Go.RowKit NP
set_option maxRecDepth 8000
set_option linter.unusedVariables false
set_option linter.unusedSimpArgs false
/-- how often each number comes among the first k -/
def tal (M : List Int) (k : Nat) : List Int := (List.range 17).map fun (r : Nat) => eqc (r : Int) (M.take k)
theorem tal_len (M : List Int) (k : Nat) : (tal M k).length = 17 := by simp [tal]
theorem tal_get (M : List Int) (k r : Nat) (h : r < (tal M k).length) : (tal M k)[r] = eqc (r : Int) (M.take k) := by simp [tal]
theorem tal_zero (M : List Int) : tal M 0 = List.replicate 17 0 := by simp [tal, eqc]; rfl
theorem tal_set (M : List Int) (k m : Nat) (hk : k < M.length) (hm : M[k] = (m : Int)) : (tal M k).set m (eqc (m : Int) (M.take k) + 1) = tal M (k + 1) := by
  apply List.ext_getElem
  · rw [List.length_set, tal_len, tal_len]
  · intro q h1 h2
    by_cases hq : m = q
    · subst hq
      rw [List.getElem_set_self, tal_get, eqc_take_succ _ M k hk, if_pos hm]
    · rw [List.getElem_set_ne hq, tal_get, tal_get, eqc_take_succ _ M k hk, if_neg (by omega)]
      omega
theorem T_info_tally : (Try.prog.info? 88).map (·.size) = some 17 := by kernel_rfl

theorem tal_tlyL (M : List Int) : tal M M.length = tlyL M := by unfold tal tlyL; rw [List.take_of_length_le (Nat.le_refl _)]
theorem tally_any (M : List Int) (hM : valid M = true) (w : World) :
    Calls Try.prog 79 #[.agg (arr (pad M))] w fun e w' => e = .returned (.agg (arr (tal M M.length))) ∧ Below w.heap.size w w' := by
  rw [tal_tlyL]
  exact dtally_any M hM w

theorem T_index17 (D : List Int) (k : Nat) (hk : k < D.length) (h17 : k < 17) (w : World) : (Instr.index 88 (.agg (arr D)) (.int .i64 k)).run Try.prog w = .ok (.int .i64 D[k]) w :=
  run_index_row 88 3 _ 17 Try.underlying88 Try.underlying3 rfl (by kernel_rfl) (arr D) k _ h17 (arr_get D k hk) .i64 w
theorem tal_one (M : List Int) : (tal M M.length)[1]'(by rw [tal_len]; omega) = eqc 1 M := by rw [tal_get, List.take_of_length_le (Nat.le_refl _)]; rfl

set_option maxHeartbeats 1000000 in
theorem dcrank_any (M : List Int) (hM : valid M = true) (w : World) :
    Calls Try.prog 54 #[.agg (arr (pad M))] w fun e w' => e = .returned (.int .i64 (crk M)) ∧ Below w.heap.size w w' := by
  have hlen : M.length ≤ 16 := (valid_bd hM).2.2.2
  have hi16 : (Try.prog.info? 54).map (·.size) = some (arr (pad M)).size := by rw [arr_size, pad_len hlen]; exact T_info35
  have hx17 := fun w => T_index17 (tal M M.length) 1 (by rw [tal_len]; omega) (by omega) w
  rw [tal_one] at hx17
  have hpl := pad_len hlen
  have hc0 := box_cell w (pad M) 0 (by omega)
  have hg0 : (pad M)[0]'(by omega) = M.headD 0 := by rw [← getD_lt (by omega), pad_getD hlen, getD0]
  rw [hg0] at hc0
  have hcn := cnt_pad (k := eqc 1 M + 1) (by have := eqc_bd 1 M; omega) M
  have hob := eqc_bd 1 M
  have hnn := pad_nonneg hM
  have HK := Lib.hid (crk_yes hM)
  have HM := Lib.hid hM
  have HCN := Lib.hid hcn
  have HNN := Lib.hid hnn
  have HPL := Lib.hid hpl
  have hb := Blk.new w 54 (arr (pad M))
  have hal := (Below.refl w.heap.size w).alloc (Nat.le_refl _) (.cells (arr (pad M)) 54)
  have hal1 : (w.alloc (.cells (arr (pad M)) 54)).heap.size = w.heap.size + 1 := by simp
  rw [HK.out]
  obtain ⟨ones, hones⟩ : ∃ o, o = eqc 1 M := ⟨_, rfl⟩
  rw [← hones] at hx17 hob HCN ⊢
  have hx17' : ∀ w, (Instr.index 88 (.agg (arr (tal M M.length))) (.int .i64 1)).run Try.prog w = .ok (.int .i64 ones) w := hx17
  clear hM hg0 hcn hnn hx17
  have HO := Lib.hid hones
  clear hones
  by_cases h0 : ones = 0
  · subst h0
    rw [if_pos rfl]
    go_enter Try.func54, Try.ntmps54
    go_wp2_with (first
      | (refine wpList_load_row rfl 54 (.tmp 1) rfl w.heap.size rfl 54 (arr (pad M)) (0, 0) _ hb Try.underlying54 rfl hi16 ?_)
      | (go_at_call 79; refine (tally_any M HM.out _).mono ?_; rintro e w1 ⟨rfl, hb1⟩; have hc1 := (hb1.cell (p := ⟨w.heap.size, 0, none⟩) (by simp)).trans hc0))
    go_ret
    exact ⟨ret_i64 (by cases M <;> rfl), hal.trans (hb1.mono hal.size)⟩
  · rw [if_neg h0]
    have hbq : (ones == 0) = false := beq_eq_false_iff_ne.2 h0
    have hng : IntKind.i64.wrap (-ones) = -ones := IntWalk.i64_in _ (by omega)
    clear h0
    go_enter Try.func54, Try.ntmps54
    go_wp2_with (first
      | (refine wpList_load_row rfl 54 (.tmp 1) rfl w.heap.size rfl 54 (arr (pad M)) (0, 0) _ hbb Try.underlying54 rfl hi16 ?_)
      | (refine wpList_load_row rfl 54 (.tmp 1) rfl w.heap.size rfl 54 (arr (pad M)) (0, 0) _ hb Try.underlying54 rfl hi16 ?_)
      | (go_at_call 79; refine (tally_any M HM.out _).mono ?_; rintro e w1 ⟨rfl, hb1⟩; have hbb := hb.below hb1 (by simp)))
    go_loop [4, 17] (fun s i => ∃ k : Nat, k ≤ 16 ∧ i = .int .i64 k ∧ s = .int .i64 (cnt (ones + 1) ((pad M).take k) - ones)) (fun _ i => 16 - (intOf i).toNat)
    case atStart => exact ⟨0, Nat.zero_le _, rfl, by simp [cnt]⟩
    case round =>
      obtain ⟨k, hk, rfl, rfl⟩ := hrel
      by_cases hlt : k < 16
      · have hkD : k < (pad M).length := by rw [HPL.out]; exact hlt
        have hc := T_index (pad M) k hkD hlt
        have H3 := Lib.hid (cnt_take_succ (ones + 1) (pad M) k hkD)
        have hb2 := cnt_bd (ones + 1) ((pad M).take k)
        have hb3 : ((pad M).take k).length ≤ 16 := by simp; omega
        have hv := HNN.out k hkD
        generalize (pad M)[k] = x at *
        obtain ⟨y, hy⟩ : ∃ y, y = cnt (ones + 1) ((pad M).take k) := ⟨_, rfl⟩
        rw [← hy] at hb2 ⊢
        have HY := Lib.hid hy
        clear hy
        by_cases hgt : ones < x
        · have d1 : decide (ones < x) = true := decide_eq_true hgt
          have hw1 : IntKind.i64.wrap (y - ones + 1) = y - ones + 1 := IntWalk.i64_in _ (by omega)
          go_wp2
          go_round
          case rel => exact ⟨k + 1, by omega, by go_num, by rw [H3.out, ← HY.out, if_pos (by omega)]; congr 1; omega⟩
          case measure => simp [intOf]; omega
        · have d1 : decide (ones < x) = false := decide_eq_false hgt
          go_wp2
          go_round
          case rel => exact ⟨k + 1, by omega, by go_num, by rw [H3.out, ← HY.out, if_neg (by omega)]; congr 1; omega⟩
          case measure => simp [intOf]; omega
      · obtain rfl : k = 16 := by omega
        go_wp2
        go_ret
        exact ⟨ret_i64 (by rw [List.take_of_length_le (by rw [HPL.out]; omega), HCN.out]), hal.trans (hb1.mono hal.size)⟩
def vL (L : List Int) : List Int := if valid L then L else []
theorem valid_vL (L : List Int) : valid (vL L) = true := by
  unfold vL
  cases hv : valid L with
  | true => rw [if_pos rfl]; exact hv
  | false => rw [if_neg (by simp)]; rfl
theorem dg_vL (L : List Int) : dg L = pad (vL L) := by
  unfold vL
  cases hv : valid L with
  | true => rw [if_pos rfl]; exact dg_yes hv
  | false => rw [if_neg (by simp)]; exact dg_no hv
theorem crk_vL (L : List Int) : crk (vL L) = crk L := by
  unfold vL
  cases hv : valid L with
  | true => rw [if_pos rfl]
  | false => rw [if_neg (by simp), crk_no hv]; rfl


set_option maxHeartbeats 1000000 in
theorem scrank_any (a : Option Addr) (c B : Nat) (L : List Int) (w : World) (h : Rd w B a (ints L)) (hv : valid L = true) :
    Calls Try.prog 73 #[.slice a L.length c] w fun e w' => e = .returned (.int .i64 (crk L)) ∧ w = w' := by
  have hl16 := (valid_bd hv).2.2.2
  have hp := preS_of_valid hv
  have HK := Lib.hid (crk_yes hv)
  have HP := Lib.hid hp
  have hob := eqc_bd 1 L
  rw [HK.out]
  obtain ⟨ones, hones⟩ : ∃ o, o = eqc 1 L := ⟨_, rfl⟩
  obtain ⟨H, hH⟩ : ∃ o, o = L.headD 0 := ⟨_, rfl⟩
  rw [← hones, ← hH]
  rw [← hones] at hob
  have HO := Lib.hid hones
  have HH := Lib.hid hH
  clear hv hp hones hH
  go_enter Try.func73, Try.ntmps73
  go_wp2
  go_loop [3, 4] (fun s i => ∃ k : Nat, k ≤ L.length ∧ i = .int .i64 k ∧ s = .int .i64 (eqc 1 (L.take k))) (fun _ i => 16 - (intOf i).toNat)
  case atStart => exact ⟨0, Nat.zero_le _, rfl, by simp [eqc]⟩
  case round =>
    obtain ⟨k, hk, rfl, rfl⟩ := hrel
    by_cases hlt : k < L.length
    · obtain ⟨b, o, rfl, hbB, hc⟩ := h.at_ hlt
      have H3 := Lib.hid (eqc_take_succ 1 L k hlt)
      have hb2 := eqc_bd 1 (L.take k)
      have hb3 : (L.take k).length ≤ 16 := by simp; omega
      have hx := HP.out k hlt hlt
      generalize L[k] = x at *
      generalize eqc 1 (L.take k) = y at *
      by_cases h1 : x = 1
      · have hbq : (x == 1) = true := beq_iff_eq.2 h1
        rw [if_pos h1] at H3
        clear h1
        go_wp2_with fail
        go_round
        case rel => exact ⟨k + 1, by omega, by go_num, by rw [H3.out]⟩
        case measure => simp [intOf]; omega
      · have hbq : (x == 1) = false := beq_eq_false_iff_ne.2 h1
        rw [if_neg h1, Int.add_zero] at H3
        clear h1
        go_wp2_with fail
        go_round
        case rel => exact ⟨k + 1, by omega, by go_num, by rw [H3.out]⟩
        case measure => simp [intOf]; omega
    · obtain rfl : k = L.length := by omega
      rw [List.take_of_length_le (Nat.le_refl _), ← HO.out]
      by_cases h0 : 0 < L.length
      · have h0' : (L.length == 0) = false := by simp; intro e; subst e; simp at h0
        obtain ⟨b, o, rfl, hbB, hc⟩ := h.at_ h0
        have hc' : w.cell? ⟨b, o, none⟩ = some (.int .i64 L[0]) := hc
        have hg : L[0] = H := by rw [HH.out]; exact (headD_get L h0).symm
        have hcn := cnt_bd (ones + 1) L
        rw [hg] at hc'
        clear hc hg hlt hk
        by_cases he : ones = 0
        · subst he
          go_wp2_with fail
          go_ret
          exact ⟨rfl, rfl⟩
        · have hbq : (ones == 0) = false := beq_eq_false_iff_ne.2 he
          have HE := Lib.hid he
          clear he hc'
          go_wp2_with fail
          go_loop [5, 6] (fun s i => ∃ k : Nat, k ≤ L.length ∧ i = .int .i64 k ∧ s = .int .i64 (cnt (ones + 1) (L.take k))) (fun _ i => 16 - (intOf i).toNat)
          case atStart => exact ⟨0, Nat.zero_le _, rfl, by simp [cnt]⟩
          case round =>
            obtain ⟨k, hk, rfl, rfl⟩ := hrel
            by_cases hlt : k < L.length
            · obtain ⟨b', o', e', -, hc2⟩ := h.at_ hlt
              injection e' with e'; injection e' with e1 e2; subst e1 e2
              have H3 := Lib.hid (cnt_take_succ (ones + 1) L k hlt)
              have hb2 := cnt_bd (ones + 1) (L.take k)
              have hb3 : (L.take k).length ≤ 16 := by simp; omega
              have hx := HP.out k hlt hlt
              generalize L[k] = x at *
              generalize cnt (ones + 1) (L.take k) = y at *
              by_cases h1 : ones < x
              · have hbq : decide (ones < x) = true := decide_eq_true h1
                rw [if_pos (by omega)] at H3
                clear h1
                go_wp2_with fail
                go_round
                case rel => exact ⟨k + 1, by omega, by go_num, by rw [H3.out]⟩
                case measure => simp [intOf]; omega
              · have hbq : decide (ones < x) = false := decide_eq_false h1
                rw [if_neg (by omega), Int.add_zero] at H3
                clear h1
                go_wp2_with fail
                go_round
                case rel => exact ⟨k + 1, by omega, by go_num, by rw [H3.out]⟩
                case measure => simp [intOf]; omega
            · obtain rfl : k = L.length := by omega
              rw [List.take_of_length_le (Nat.le_refl _)]
              obtain ⟨y, hy⟩ : ∃ y, y = cnt (ones + 1) L := ⟨_, rfl⟩
              rw [← hy] at hcn ⊢
              have HY := Lib.hid hy
              clear hy
              have hwr : IntKind.i64.wrap (y - ones) = y - ones := IntWalk.i64_in _ (by omega)
              go_wp2_with fail
              go_ret
              exact ⟨ret_i64 (by first | rw [if_neg HE.out, HY.out] | rw [HY.out] | (simp [HE.out, HY.out])), rfl⟩
      · obtain rfl : L = [] := List.eq_nil_of_length_eq_zero (by omega)
        obtain rfl : ones = 0 := HO.out
        obtain rfl : H = 0 := HH.out
        go_wp2_with fail
        go_ret
        exact ⟨rfl, rfl⟩

end Go.Proofs.Ytcjnmconehfbgaa
