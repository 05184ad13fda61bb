/-
  Walks: mirrored of the laws.
-/
import Derived.Test.YtbldnjcjdnlhgaaW4
import Derived.Test.YtbldnjcjdnlhgaaL1
import Derived.Test.YtbldnjcjdnlhgaaM11
import Derived.Deep.RegionHeld3
namespace Go.Proofs.Ytbldnjcjdnlhgaa
open Go.RowKit NP
set_option linter.unusedVariables false

theorem keep2 {wr wx w' : World} {g k : Nat} {x : Value} (h1 : wx.cell? ⟨g, k, none⟩ = some x) (h2 : Below wr.heap.size wr wx) (hb : Below wx.heap.size wx w') (hg : g < wr.heap.size) : w'.cell? ⟨g, k, none⟩ = some x ∧ Below wr.heap.size wr w' :=
  ⟨(hb.cell (by have := h2.size; show g < wx.heap.size; omega)).trans h1, h2.trans (hb.mono h2.size)⟩

theorem mirrored_any (a : Option Addr) (c B : Nat) (L : List Int) (w : World) (h : Rd w B a (ints L)) (hB : B ≤ w.heap.size) (hl : L.length ≤ 1000) :
    Calls Try.prog 30 #[.slice a L.length c] w fun e w' => ∃ a' c', e = .returned (.slice a' L.reverse.length c') ∧ Own w' w.heap.size w'.heap.size 3 (.slice a' L.reverse.length c') (ints L.reverse) ∧ Below w.heap.size w w' := by
  obtain ⟨i0, hi, hz0, hz1, hz2⟩ := T_int'
  have HR : Hid (L.reverse.length = L.length) := Lib.hid (by simp)
  go_enter Try.func30, Try.ntmps30
  go_wp2
  go_loopw [3, 4] (fun v i wr => ∃ j : Nat, j ≤ L.length ∧ i = .int .i64 ((L.length : Int) - 1 - j) ∧ Below w.heap.size w wr ∧ Own wr w.heap.size wr.heap.size 3 v (ints (L.reverse.take j))) (fun _ i _ => (intOf i + 1).toNat)
  case atStart => exact ⟨0, Nat.zero_le _, by go_num, (Below.refl _ _).alloc (Nat.le_refl _) _, (Own.empty w 3).more⟩
  case round =>
    obtain ⟨j, hj, rfl, hbel, hown⟩ := hrel
    by_cases hlt : j < L.length
    · have hR := (h.more hB).below hbel
      obtain ⟨k, hk⟩ : ∃ k : Nat, k = L.length - 1 - j := ⟨_, rfl⟩
      have hkL : k < L.length := by omega
      obtain ⟨b, o, rfl, _, hc⟩ := hR.at_ hkL
      have hki : (L.length : Int) - 1 - (j : Int) = (k : Int) := by omega
      have hki' : ((k : Nat) : Int) < (L.length : Int) := by omega
      have HS : Hid (ints (L.reverse.take (j + 1)) = ints (L.reverse.take j) ++ [.int .i64 L[k]]) := Lib.hid (by
        rw [List.take_succ_eq_append_getElem (by simp; omega), ints, List.map_append]
        congr 1
        simp only [List.getElem_reverse, List.map_cons, List.map_nil]
        congr 2
        congr 1
        omega)
      obtain ⟨vs, hvs⟩ : ∃ vs, vs = ints (L.reverse.take j) := ⟨_, rfl⟩
      have hlv : vs.length ≤ j := by rw [hvs]; simp; omega
      rw [← hvs] at hown
      have HVS := Lib.hid hvs
      have HO := Lib.hid hown
      have HK := Lib.hid hk
      rw [hki]
      clear hvs hown hki hk
      go_wp2_with (at_builtin; refine wpList_append_o _ rfl (.tmp 13) (.tmp 18) 23 rfl w.heap.size wr.heap.size 3 i0 (.int .i64 0) 8 Try.underlying23 hi hz0 hz1 hz2 rfl _ vs rfl (HO.out.alloc _) (wr.heap.size + 1) (some ⟨wr.heap.size, 0, none⟩) 1 1 [.int .i64 L[k]] rfl (Rd.one wr _ _) rfl (by simp; rfl) (by unfold maxLen; omega) (by omega) (by have := hbel.size; simp; omega) ?_; intro v' w1 ho1 hg1 hat1)
      go_roundw
      case rel =>
        have hk := HK.out
        refine ⟨j + 1, by omega, by go_num, below_push hbel (Nat.le_refl _) hg1 HO.out.base, ?_⟩
        rw [HVS.out] at ho1
        rw [HS.out]
        simpa using ho1
      case measure => simp [intOf] <;> omega
    · obtain rfl : j = L.length := by omega
      obtain ⟨a', c', rfl⟩ := hown.form
      have hlt' : (L.length : Int) - 1 - (L.length : Int) = -1 := by omega
      rw [hlt']
      have HO := Lib.hid hown
      clear hown hlt'
      go_wp2
      go_ret
      have e : L.reverse.take L.length = L.reverse := List.take_of_length_le (by simp)
      have hlc : L.reverse.length = (ints (L.reverse.take L.length)).length := by rw [e]; simp
      refine ⟨a', c', by rw [hlc]; rfl, ?_, hbel⟩
      rw [hlc, ← e]
      have := HO.out
      rw [e] at this ⊢
      rw [e]
      exact this
end Go.Proofs.Ytbldnjcjdnlhgaa
