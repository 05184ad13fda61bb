/-
  Walks: how many parts of each sum are in a box.
-/
import Derived.Test.YtcjnmconehfbgaaM62
import Derived.Test.YtcjnmconehfbgaaW81a
import Derived.Test.YtcjnmconehfbgaaD12
namespace Go.Proofs.Ytcjnmconehfbgaa
open Go.RowKit NP
set_option maxRecDepth 8000
set_option linter.unusedVariables false
set_option linter.unusedSimpArgs false
theorem limB_nat {a b : Int} (h : limB a b = true) : ∃ m n : Nat, a = (m : Int) ∧ b = (n : Int) ∧ m ≤ 4 ∧ n ≤ 4 := by
  unfold limB at h
  simp only [decide_eq_true_eq] at h
  exact ⟨a.toNat, b.toNat, by omega, by omega, by omega, by omega⟩
theorem brF_yes {m n : Nat} (h : limB m n = true) : brF m n = gbox m n := by simp [brF, h]
theorem brF_no {a b : Int} (h : limB a b = false) : brF a b = [] := by simp [brF, h]
set_option maxHeartbeats 1000000 in
theorem iBoxRow_any (a b : Int) (w : World) :
    Calls Try.prog 27 #[.int .i64 a, .int .i64 b] w fun e w' => ∃ a' c', e = .returned (.slice a' (brF a b).length c') ∧ Own w' w.heap.size w'.heap.size 3 (.slice a' (brF a b).length c') (ints (brF a b)) ∧ Below w.heap.size w w' := by
  have hb0 : Below w.heap.size w (w.alloc (.cells #[.int .i64 a, .int .i64 b] 61)) := (Below.refl _ _).alloc (Nat.le_refl _) _
  have hbx := Blk.new w 61 #[.int .i64 a, .int .i64 b]
  obtain ⟨w1, hw1⟩ : ∃ w1, w1 = w.alloc (.cells #[.int .i64 a, .int .i64 b] 61) := ⟨_, rfl⟩
  rw [← hw1] at hb0 hbx
  have hz1 : w1.heap.size = w.heap.size + 1 := by rw [hw1, World.size_alloc]
  have HW1 := Lib.hid hw1
  clear hw1
  cases h : limB a b with
  | false =>
    rw [brF_no h]
    go_enter Try.func27, Try.ntmps27
    go_wp2_with (go_at_call 57; refine (isInLimits_any a b _).mono ?_; rintro e wv ⟨rfl, hbv⟩; rw [← HW1.out] at hbv; rw [h])
    go_ret
    exact ⟨none, 0, rfl, Own.nil _ _ _, hb0.trans (hbv.mono hb0.size)⟩
  | true =>
    obtain ⟨i0, hi, hz00, hz01, hz02⟩ := T_int'
    obtain ⟨m, n, rfl, rfl, hm, hn⟩ := limB_nat h
    rw [brF_yes h, rowB_gbox hm hn]
    obtain ⟨N, hN⟩ : ∃ N, m * n + 1 = N := ⟨_, rfl⟩
    have hN17 : N ≤ 17 := by
      have := Nat.mul_le_mul hm hn
      omega
    have HP := Lib.hid (fun w => partsBySum_any m n hm hn w)
    rw [hN] at HP
    have HRW : Hid (rowB m n = (List.range N).map fun s => ((LB m n s).length : Int)) := Lib.hid (by unfold rowB; rw [hN])
    have HLE : Hid (∀ k, k < N → (LB m n k).length ≤ 1000) := Lib.hid (fun k hk => Nat.le_trans (List.length_filter_le _ _) (allQ_len (by omega)))
    clear hN
    go_enter Try.func27, Try.ntmps27
    go_wp2_with (go_at_call 57; refine (isInLimits_any m n _).mono ?_; rintro e wv ⟨rfl, hbv⟩; rw [← HW1.out] at hbv; rw [h]; have hbxv := hbx.below hbv hbx.lt; have c0 := hbxv.cell 0; have c1 := hbxv.cell 1; simp only [List.getElem?_toArray, List.getElem?_cons_zero, List.getElem?_cons_succ] at c0 c1)
    refine (HP.out wv).mono ?_
    rintro e w2 ⟨outs, vss, rfl, hrow, hbs, hb2⟩
    have hbw2 : Below w.heap.size w w2 := (hb0.trans (hbv.mono hb0.size)).trans (hb2.mono (by have := hbv.size; omega))
    have hzv := hbv.size
    have hz2 := hb2.size
    have hgv : wv.heap.size + 1 < w2.heap.size := hrow.lt
    clear hb0 hbx hbv hbxv c0 c1 hb2
    have hO := Own.nil w2 w2.heap.size 3
    go_wp2_with fail
    go_loopw [6, 18] (fun v ii wr => ∃ k : Nat, ii = .int .i64 (k : Int) ∧ k ≤ N ∧ Own wr w2.heap.size wr.heap.size 3 v (ints ((List.range k).map fun s => ((LB m n s).length : Int))) ∧ Below w2.heap.size w2 wr) (fun _ ii _ => N - (intOf ii).toNat)
    case atStart => exact ⟨0, rfl, Nat.zero_le _, hO, Below.refl _ _⟩
    case round =>
      obtain ⟨k, rfl, hk, ho, hbr⟩ := hrel
      by_cases hlt : k < N
      · have hlt' : (k : Int) < (N : Int) := by omega
        have hko : k < outs.length := by rw [hbs.lenO]; exact hlt
        have hkv : k < vss.length := by rw [hbs.lenV]; exact hlt
        obtain ⟨hou, hlv⟩ := hbs.rows k outs[k] vss[k] (List.getElem?_eq_getElem hko) (List.getElem?_eq_getElem hkv)
        obtain ⟨a3, c3, hu⟩ := hou.form
        rw [hlv] at hu
        have hll := HLE.out k hlt
        obtain ⟨l, hl⟩ : ∃ l, (LB m n k).length = l := ⟨_, rfl⟩
        have HS : Hid ((List.range (k + 1)).map (fun s => ((LB m n s).length : Int)) = (List.range k).map (fun s => ((LB m n s).length : Int)) ++ [(l : Int)]) := Lib.hid (by rw [List.range_succ, List.map_append, ← hl]; rfl)
        rw [hl] at hu hll
        have hcu : wr.cell? ⟨wv.heap.size + 1, k, none⟩ = some (.slice a3 l c3) := by
          rw [← hu]
          have h1 := (hrow.below hbr hgv).cell k
          rw [h1, List.getElem?_toArray, List.getElem?_eq_getElem hko]
        obtain ⟨vs, hvs⟩ : ∃ vs, vs = ints ((List.range k).map fun s => ((LB m n s).length : Int)) := ⟨_, rfl⟩
        have hvl : vs.length ≤ 17 := by rw [hvs, List.length_map, List.length_map, List.length_range]; omega
        rw [← hvs] at ho
        have HO := Lib.hid ho
        have HVS := Lib.hid hvs
        have hzr := hbr.size
        clear ho hou hlv hu hl hko hkv hvs
        go_wp2_with (at_builtin; refine wpList_append_o _ rfl (.tmp 22) (.tmp 25) 22 rfl w2.heap.size wr.heap.size 3 i0 (.int .i64 0) 8 Try.underlying22 hi hz00 hz01 hz02 rfl _ vs rfl (HO.out.alloc _) (wr.heap.size + 1) (some ⟨wr.heap.size, 0, none⟩) 1 1 [.int .i64 (l : Int)] rfl (Rd.one _ _ _) rfl (by simp; rfl) (by unfold maxLen; omega) (by omega) (by simp; omega) ?_; intro v' w3 ho3 hg3 hat3)
        go_roundw
        case rel =>
          refine ⟨k + 1, by go_num, by omega, ?_, ?_⟩
          · rw [HS.out]
            show Own w3 w2.heap.size w3.heap.size 3 v' (List.map (Value.int .i64) (_ ++ [(l : Int)]))
            rw [List.map_append, show List.map (Value.int .i64) ((List.range k).map fun s => ((LB m n s).length : Int)) = vs from HVS.out.symm]
            exact ho3
          · exact (hbr.alloc hzr _).grown hg3 (by simp; omega) (fun g e => by have := HO.out.base g e; omega)
        case measure => simp [intOf] <;> omega
      · obtain rfl : k = N := by omega
        obtain ⟨a4, c4, rfl⟩ := ho.form
        have HO := Lib.hid ho
        clear ho
        go_wp2_with fail
        go_ret
        have h1 := HO.out
        have h2 : (rowB m n).length = (ints ((List.range k).map fun s => ((LB m n s).length : Int))).length := by rw [HRW.out]; simp
        rw [h2, HRW.out]
        exact ⟨a4, c4, rfl, h1.lower (by have := hbw2.size; omega), hbw2.trans (hbr.mono (by have := hbw2.size; omega))⟩
theorem sBoxRow_any (a b : Int) (w : World) :
    Calls Try.prog 26 #[.int .i64 a, .int .i64 b] w fun e w' => ∃ a' c', e = .returned (.slice a' (brF a b).length c') ∧ Own w' w.heap.size w'.heap.size 3 (.slice a' (brF a b).length c') (ints (brF a b)) ∧ Below w.heap.size w w' := by
  cases h : limB a b with
  | false =>
    rw [brF_no h]
    go_enter Try.func26, Try.ntmps26
    go_wp2_with (go_at_call 55; refine (validBox_any a b _).mono ?_; rintro e wv ⟨rfl, rfl⟩; rw [h])
    go_ret
    exact ⟨none, 0, rfl, Own.nil _ _ _, Below.refl _ _⟩
  | true =>
    obtain ⟨m, n, rfl, rfl, hm, hn⟩ := limB_nat h
    rw [brF_yes h]
    have HG := Lib.hid (boxRow_any (m + n) m n w (Nat.le_refl _) hm hn)
    go_enter Try.func26, Try.ntmps26
    go_wp2_with (go_at_call 55; refine (validBox_any m n _).mono ?_; rintro e wv ⟨rfl, rfl⟩; rw [h])
    refine HG.out.mono ?_
    rintro e w' ⟨a', c', rfl, ho, hb⟩
    go_wp2_with fail
    go_ret
    exact ⟨a', c', rfl, ho, hb⟩
end Go.Proofs.Ytcjnmconehfbgaa
