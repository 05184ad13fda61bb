/-
  Walks: the program's functions of summands.
-/
import Derived.Test.YtgbkaahmmpgjfaaW66
import Derived.Test.YtgbkaahmmpgjfaaM34
namespace Go.Proofs.Ytgbkaahmmpgjfaa
open Go.RowKit NP
set_option linter.unusedVariables false
theorem iValidSums_any (a : Option Addr) (c B : Nat) (L : List Int) (w : World) (h : Rd w B a (ints L)) (hB : B ≤ w.heap.size) (hl : L.length ≤ 4611686018427387904) :
    Calls Try.prog 32 #[.slice a L.length c] w fun e w' => e = .returned (.bool (vsm L)) ∧ Below w.heap.size w w' := by
  go_enter Try.func32, Try.ntmps32
  go_wp2_with (go_at_call 62; refine (summandsOf_any _ _ B L _ h hB hl).mono ?_; rintro e w1 ⟨rfl, hb1⟩)
  go_ret
  exact ⟨rfl, hb1.alloc hb1.size _⟩
theorem rev_set {L : List Int} {k : Nat} (hk : k < L.length) : (ints ((List.replicate (L.length - k) 0) ++ (L.take k).reverse)).set (L.length - 1 - k) (.int .i64 L[k]) = ints (List.replicate (L.length - (k + 1)) 0 ++ (L.take (k + 1)).reverse) := by
  have e1 : L.length - k = (L.length - (k + 1)) + 1 := by omega
  have e2 : (ints (List.replicate (L.length - (k + 1)) (0 : Int))).length = L.length - 1 - k := by simp; omega
  rw [e1, List.replicate_succ', List.append_assoc, ints, List.map_append, List.set_append_right _ _ (by rw [← e2]; simp), List.take_succ_eq_append_getElem hk, List.reverse_append]
  have e3 : L.length - 1 - k - (List.map (Value.int .i64) (List.replicate (L.length - (k + 1)) (0 : Int))).length = 0 := by rw [← e2]; simp
  rw [e3]
  simp [ints]
theorem iTurnSums_any (a : Option Addr) (c B : Nat) (L : List Int) (w : World) (h : Rd w B a (ints L)) (hB : B ≤ w.heap.size) (hl : L.length ≤ 4611686018427387904) :
    Calls Try.prog 33 #[.slice a L.length c] w fun e w' => ∃ a' c', e = .returned (.slice a' (trnF L).length c') ∧ Own w' w.heap.size w'.heap.size 3 (.slice a' (trnF L).length c') (ints (trnF L)) ∧ Below w.heap.size w w' := by
  cases hv : vsm L with
  | true =>
    obtain ⟨i0, hi, hz0, hz1, hz2⟩ := T_int'
    have HF := Lib.hid (trnF_yes hv)
    have hln := (vsm_bd hv).2.2.2
    have HV := Lib.hid hv
    clear hv
    go_enter Try.func33, Try.ntmps33
    go_wp2_with (first | (go_at_call 32; refine (iValidSums_any _ _ B L _ h hB hl).mono ?_; rintro e w0 ⟨rfl, hb0⟩; rw [HV.out]) | (refine wpList_make_full _ rfl _ _ 22 rfl w0.heap.size 3 i0 (.int .i64 0) 1 Try.underlying22 hi hz0 hz1 .i64 .i64 _ _ L.length rfl rfl rfl rfl (by rw [hz2]; omega) (by unfold maxLen; omega) (Nat.le_refl _) ?_; intro w1 hown1 hg1; have ho1 : Own w1 w0.heap.size w1.heap.size 3 (.slice (some ⟨w0.heap.size, 0, none⟩) L.length L.length) (List.replicate L.length (Value.int .i64 0)) := ⟨by simpa [toList_madeCells_one, Value.cells] using hown1, fun g hg => (hown1.lt g hg).2, Nat.le_refl _⟩; clear hown1))
    have hB0 : Below w.heap.size w w1 := hb0.trans ((Below.refl _ _).grown hg1 hb0.size (by simp <;> exact hb0.size))
    clear hg1
    go_loopw [4, 5, 14] (fun _ _ i wr => ∃ k : Nat, k ≤ L.length ∧ i = .int .i64 k ∧ Below w.heap.size w wr ∧ Own wr w0.heap.size wr.heap.size 3 (.slice (some ⟨w0.heap.size, 0, none⟩) L.length L.length) (ints (List.replicate (L.length - k) 0 ++ (L.take k).reverse))) (fun _ _ i _ => L.length - (intOf i).toNat)
    case atStart => exact ⟨0, Nat.zero_le _, rfl, hB0, by simpa [ints] using ho1⟩
    case round =>
      obtain ⟨k, hk, rfl, hbr, hor⟩ := hrel
      have hz0 := hb0.size
      clear hB0 ho1
      by_cases hlt : k < L.length
      · obtain ⟨b1, o1, rfl, -, hc1⟩ := ((h.more hB).below hbr).at_ hlt
        obtain ⟨j, hj⟩ : ∃ j, j = L.length - 1 - k := ⟨_, rfl⟩
        have hj' : ((L.length : Int) - 1 - (k : Int)) = (j : Int) := by omega
        have hjl : j < L.length := by omega
        obtain ⟨g, u, e, hlo, hhi, hc2, hf2⟩ := hor.spot (k := j) (by simp; omega)
        obtain rfl : w0.heap.size = g := by injection e with e; injection e
        clear e
        have HF : Hid ((ints ((List.replicate (L.length - k) 0) ++ (L.take k).reverse)).set j (.int .i64 L[k]) = ints (List.replicate (L.length - (k + 1)) 0 ++ (L.take (k + 1)).reverse)) := Lib.hid (by rw [hj]; exact rev_set hlt)
        have HO := Lib.hid hor
        clear hor hj
        go_wp2_with fail
        go_roundw
        case rel =>
          refine ⟨k + 1, by omega, by go_num, hbr.setCell (by simp; omega) _, ?_⟩
          have e := HO.out.set j (.int .i64 L[k])
          rw [HF.out] at e
          exact ⟨e.row, fun g hg => by simpa [World.setCell] using e.lt g hg, Nat.le_refl _⟩
        case measure => simp [intOf] <;> omega
      · obtain rfl : k = L.length := by omega
        have HR : Hid (List.replicate (L.length - L.length) 0 ++ (L.take L.length).reverse = trnF L) := Lib.hid (by rw [HF.out, Nat.sub_self, List.take_of_length_le (Nat.le_refl _)]; simp)
        have HLn : Hid (L.length = (trnF L).length) := Lib.hid (by rw [HF.out, List.length_reverse])
        have HO := Lib.hid hor
        clear hor
        go_wp2
        go_ret
        have e := HO.out.lower hz0
        rw [HR.out] at e
        exact ⟨_, _, by rw [← HLn.out]; rfl, by rw [← HLn.out]; exact e, hbr⟩
  | false =>
    have HO := Lib.hid (trnF_no hv)
    have HV := Lib.hid hv
    clear hv
    go_enter Try.func33, Try.ntmps33
    go_wp2_with (go_at_call 32; refine (iValidSums_any _ _ B L _ h hB hl).mono ?_; rintro e w1 ⟨rfl, hb1⟩; rw [HV.out])
    go_ret
    rw [HO.out]
    exact ⟨none, 0, rfl, Own.nil _ _ _ |>.lower hb1.size, hb1⟩
end Go.Proofs.Ytgbkaahmmpgjfaa
