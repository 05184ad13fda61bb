/-
  Walks of the model: all parts with a sum.
-/
import Derived.Test.YteglcoalfgjjiaaW39
import Derived.Test.YteglcoalfgjjiaaW60
namespace Go.Proofs.Yteglcoalfgjjiaa
open Go.RowKit NP
set_option linter.unusedVariables false
set_option linter.unusedSimpArgs false
theorem sAllParts_any (n : Int) (w : World) :
    Calls Try.prog 29 #[.int .i64 n] w fun e w' => ∃ (a' : Option Addr) (c' : Nat) (vs : List Value), e = .returned (.slice a' (apF n).length c') ∧ OwnLL w' w.heap.size w'.heap.size 22 3 (.slice a' (apF n).length c') vs (apF n) ∧ Below w.heap.size w w' := by
  by_cases h : 0 ≤ n ∧ n ≤ 12
  · obtain ⟨k, rfl⟩ := Int.eq_ofNat_of_zero_le h.1
    have hk : k ≤ 12 := by omega
    have h1 := h.1
    have h2 := h.2
    have HE := Lib.hid (apF_yes hk)
    have e0 := (Own.empty w 3)
    have hl := slist_lists k (by omega) k (some ⟨w.heap.size, 0, none⟩) 0 (w.heap.size + 1) [] k (w.alloc (.cells #[] 3)) (Nat.le_refl _) (by simp; omega) (by omega) (fun hne => absurd rfl hne) (by simp)
    have hm : (allQ k k k).map (([] : List Int) ++ ·) = allQ k k k := by simp
    rw [hm] at hl
    have hsz : w.heap.size ≤ (w.alloc (.cells #[] 3)).heap.size := by simp
    clear h
    go_enter Try.func29, Try.ntmps29
    go_wp2_with (first
      | (go_at_call 53; refine hl.mono ?_; clear hl; rintro e w1 ⟨a', c', vs, rfl, hLL, hb⟩)
      | (go_at_call 46; refine (inRange_yes _ _ _ _ h1 h2).mono ?_; rintro e wv ⟨rfl, hwv⟩; obtain rfl : w = wv := hwv.symm))
    go_ret
    rw [HE.out]
    exact ⟨a', c', vs, rfl, hLL.lower hsz, ((Below.refl w.heap.size w).alloc (Nat.le_refl _) _).trans (hb.mono hsz)⟩
  · have HE := Lib.hid (apF_no h)
    have h3 : n < 0 ∨ 12 < n := by omega
    clear h
    go_enter Try.func29, Try.ntmps29
    go_wp2_with (go_at_call 46; refine (inRange_no _ _ _ _ h3).mono ?_; rintro e wv ⟨rfl, hwv⟩; obtain rfl : w = wv := hwv.symm)
    go_ret
    rw [HE.out]
    exact ⟨none, 0, [], rfl, OwnLL.nil _ _ _ _, Below.refl _ _⟩
theorem cntQQ : (List.range 13).all (fun k => decide (cntLL (allQ k k k) ≤ 2000)) = true := by decide +kernel
theorem apF_cnt (n : Int) : cntLL (apF n) ≤ 2000 := by
  unfold apF
  split
  · have := List.all_eq_true.1 cntQQ n.toNat (by simp; omega)
    simpa using this
  · simp [cntLL]
theorem apF_few2 (n : Int) : (apF n).length ≤ 1000 := by
  unfold apF
  split
  · exact allQ_len (by omega)
  · simp
theorem apF_shortTab : (List.range 13).all (fun k => (allQ k k k).all fun X => decide (X.length ≤ 16)) = true := by decide +kernel
theorem apF_short2 (n : Int) : ∀ X ∈ apF n, X.length ≤ 4611686018427387904 := by
  intro X hX
  unfold apF at hX
  split at hX
  · have h1 := List.all_eq_true.1 apF_shortTab n.toNat (by simp; omega)
    have h2 := List.all_eq_true.1 h1 X hX
    simp at h2
    omega
  · simp at hX
end Go.Proofs.Yteglcoalfgjjiaa
