/-
  Walks: cells taken away and put, of the model and of the program.
-/
import Derived.Test.YtcjnmconehfbgaaW6
import Derived.Test.YtcjnmconehfbgaaM5
import Derived.Test.YtcjnmconehfbgaaArr2
namespace Go.Proofs.Ytcjnmconehfbgaa
open Go.RowKit NP
set_option maxRecDepth 8000
set_option linter.unusedVariables false

theorem Own.take {w : World} {lo hi : Nat} {e : TypeId} {a : Option Addr} {n c : Nat} {vs : List Value} (h : Own w lo hi e (.slice a n c) vs) (k : Nat) (hk : k ≤ vs.length) : Own w lo hi e (.slice a k c) (vs.take k) := by
  refine ⟨?_, fun g hg => h.lt g (by cases a with | none => cases hg | some b => exact hg), h.le⟩
  have hlen : (vs.take k).length = k := by simp; omega
  rw [hlen]
  refine ⟨by rw [hlen]; omega, ?_⟩
  rcases h.row.2 with ⟨e1, e2⟩ | ⟨g, cap, cur, e1, hb, hg, hc, hm, hs, ht⟩
  · injection e1 with e3 e4 e5
    subst e3; subst e5
    have : k = 0 := by omega
    subst this
    exact .inl ⟨rfl, rfl⟩
  · injection e1 with e3 e4 e5
    subst e3; subst e5
    refine .inr ⟨g, c, cur, rfl, hb, hg, by omega, hm, hs, ?_⟩
    rw [← ht, List.take_take]
    congr 1
    omega



theorem rmvOk_no {L : List Int} (h : valid L = false) (i : Int) : rmvOk L i = false := by simp [rmvOk, h]
theorem rmvOk_yes {L : List Int} (h : valid L = true) (i : Int) : rmvOk L i = hasI (crn L) i := by
  unfold rmvOk crn
  rw [h, Bool.true_and, crnTo_fl, hasI_fl]
theorem rmv_no {L : List Int} {i : Int} (h : rmvOk L i = false) : rmv L i = [] := by simp [rmv, h]
theorem rmv_yes {L : List Int} {i : Int} (h : rmvOk L i = true) : ∃ k : Nat, i = k ∧ k < L.length ∧ isC L k = true ∧ valid L = true ∧ rmv L i = lessL L k := by
  have h2 := h
  unfold rmvOk at h
  simp only [Bool.and_eq_true, decide_eq_true_eq] at h
  obtain ⟨hv, ⟨h0, hlt⟩, hc⟩ := h
  obtain ⟨k, rfl⟩ := Int.eq_ofNat_of_zero_le h0
  refine ⟨k, rfl, by omega, hc, hv, ?_⟩
  unfold rmv
  rw [if_pos h2]
  rfl
theorem own_nil0 (w : World) (lo : Nat) (e : TypeId) : Own w lo w.heap.size e (.slice none ([] : List Int).length 0) (ints []) := Own.nil w lo e

theorem addOk_no {L : List Int} (h : valid L = false) (i : Int) : addOk L i = false := by simp [addOk, h]
theorem addC_no {L : List Int} {i : Int} (h : addOk L i = false) : addC L i = [] := by simp [addC, h]
theorem addC_yes {L : List Int} {i : Int} (h : addOk L i = true) : addC L i = addL L i.toNat := by simp [addC, h]
theorem addOk_at {L : List Int} (hv : valid L = true) {k : Nat} (hk : k ≤ L.length) : addOk L k = valid (addL L k) := by
  unfold addOk
  rw [hv, decide_eq_true (by omega : (0 : Int) ≤ (k : Int)), decide_eq_true (by omega : (k : Int) ≤ (L.length : Int))]
  rfl
theorem addOk_out {L : List Int} {i : Int} (h : ¬ (0 ≤ i ∧ i ≤ L.length)) : addOk L i = false := by
  unfold addOk
  rcases Int.lt_or_le i 0 with h0 | h0
  · rw [decide_eq_false (by omega : ¬ 0 ≤ i)]; simp
  · rw [decide_eq_false (by omega : ¬ i ≤ (L.length : Int))]; simp
theorem Blk.drs {w : World} {g : Nat} {t : TypeId} {cs : Array Value} (h : Blk w g t cs) (n : Nat) : Blk (w.drewN n) g t cs := h

end Go.Proofs.Ytcjnmconehfbgaa
