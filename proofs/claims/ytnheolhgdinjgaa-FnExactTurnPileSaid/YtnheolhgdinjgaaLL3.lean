/-
  Lists of lists marked: what lies aside stays.
-/
import Derived.Test.YtnheolhgdinjgaaLL1
import Derived.Test.YtnheolhgdinjgaaLL2
namespace Go.Proofs.Ytnheolhgdinjgaa
open Go.RowKit
set_option maxRecDepth 8000
set_option linter.unusedVariables false
/-- nothing outside of the blocks from lo up to hi has changed -/
def Aside (lo hi : Nat) (w w' : World) : Prop := w.heap.size ≤ w'.heap.size ∧ ∀ g, (g < lo ∨ hi ≤ g) → g < w.heap.size → w'.heap[g]? = w.heap[g]?
theorem Aside.refl (lo hi : Nat) (w : World) : Aside lo hi w w := ⟨Nat.le_refl _, fun _ _ _ => rfl⟩
theorem Aside.grown {w w1 w2 : World} {lo hi : Nat} {e : TypeId} {v : Value} {vs : List Value} (h : Aside lo hi w w1) (ho : Own w1 lo hi e v vs) (hg : w1.grownBy w2 v.ownBlock) : Aside lo hi w w2 := by
  refine ⟨Nat.le_trans h.1 hg.size, fun g hgo hgl => ?_⟩
  rw [← h.2 g hgo hgl]
  refine hg.block g (Nat.lt_of_lt_of_le hgl h.1) (fun e => ?_)
  have h1 := ho.lt g e.symm
  have h2 := ho.base g e.symm
  omega
theorem Own.aside {w w' : World} {lo hi lox hix : Nat} {e : TypeId} {v : Value} {vs : List Value} (h : Own w lox hix e v vs) (ha : Aside lo hi w w') (hd : hix ≤ lo ∨ hi ≤ lox) : Own w' lox hix e v vs :=
  h.keep ha.1 fun g hg => ha.2 g (by have h1 := h.lt g hg; have h2 := h.base g hg; omega) (Nat.lt_of_lt_of_le (h.lt g hg) h.le)
theorem OwnLL.aside {w w' : World} {lo hi lox hix : Nat} {eo e : TypeId} {v : Value} {vs : List Value} {LL : List (List Int)} (h : OwnLL w lox hix eo e v vs LL) (ha : Aside lo hi w w') (hd : hix ≤ lo ∨ hi ≤ lox) : OwnLL w' lox hix eo e v vs LL :=
  ⟨h.outer.aside ha hd, h.len, fun k u L hu hL => (h.inner k u L hu hL).aside ha hd, h.apartO, h.apart⟩
theorem markIntSS_aside (a : Option Addr) (c lo hi : Nat) (m : Int) (LL : List (List Int)) (vs : List Value) (w : World) (h : OwnLL w lo hi 31 3 (.slice a LL.length c) vs LL) (hlo : lo ≤ hi) (hm : 0 ≤ m) (hm2 : m ≤ 1073741824) (hl : cntLL LL ≤ 1073741824) (hl2 : LL.length ≤ 1073741824) :
    Calls Try.prog 25 #[.slice a LL.length c, .int .i64 m] w fun e w' => e = .returned (.int .i64 (m + (cntLL LL : Int))) ∧ OwnLL w' lo hi 31 3 (.slice a LL.length c) vs (marksLL m LL) ∧ Below lo w w' ∧ Aside lo hi w w' := by
  go_enter Try.func25, Try.ntmps25
  go_wp2_with fail
  go_loopw [1, 5] (fun kk i wr => ∃ k : Nat, k ≤ LL.length ∧ i = .int .i64 k ∧ kk = .int .i64 (m + (cntLL (LL.take k) : Int)) ∧ Below lo w wr ∧ Aside lo hi w wr ∧ OwnLL wr lo hi 31 3 (.slice a LL.length c) vs (marksLL m (LL.take k) ++ LL.drop k)) (fun _ i _ => LL.length - (intOf i).toNat)
  case atStart => exact ⟨0, Nat.zero_le _, rfl, by simp [cntLL], Below.refl _ _, Aside.refl _ _ _, by simpa [marksLL] using h⟩
  case round =>
    obtain ⟨k, hk, rfl, rfl, hbr, has, hor⟩ := hrel
    clear h
    have hck := cntLL_take LL k
    by_cases hlt : k < LL.length
    · have hge : ∀ hh, (marksLL m (LL.take k) ++ LL.drop k)[k]'hh = LL[k] := fun hh => by
        have e1 : (marksLL m (LL.take k)).length = k := by rw [marksLL_len, List.length_take]; omega
        rw [List.getElem_append_right (by omega)]
        simp [e1]
      obtain ⟨g, a', c', rfl, hg1, hg2, hcell, hown, hvs⟩ := hor.at_ (k := k) (by simp [marksLL_len]; omega)
      rw [hge] at hcell hown hvs
      have hset := marksLL_set m hlt
      have hcs : cntLL (LL.take (k + 1)) = cntLL (LL.take k) + LL[k].length := by rw [List.take_succ_eq_append_getElem hlt, cntLL_append]
      have hck1 := cntLL_take LL (k + 1)
      rw [hcs] at hck1
      have HCS := Lib.hid hcs
      have HSET := Lib.hid hset
      have HOR := Lib.hid hor
      clear hge hcs hset hor
      generalize LL[k] = M at hcell hown hvs hck1 HCS HSET
      obtain ⟨q, hq⟩ : ∃ q : Int, q = m + (cntLL (LL.take k) : Int) := ⟨_, rfl⟩
      rw [← hq]
      have hq0 : 0 ≤ q ∧ q ≤ 2147483648 := by omega
      have HQ := Lib.hid hq
      clear hq
      go_wp2_with (go_at_call 47; refine (markIntS_any a' c' lo hi q M _ hown hq0.1 (by omega) (by omega)).mono ?_; rintro e w' ⟨rfl, ho', hgr⟩)
      go_roundw
      case rel =>
        have hnew := HOR.out.setIn hvs hgr (L := (List.range M.length).map fun (j : Nat) => q + (j : Int)) ho'
        rw [HQ.out, HSET.out] at hnew
        exact ⟨k + 1, by omega, by go_num, by rw [HCS.out, HQ.out]; congr 1; omega, hbr.trans (hown.belowMark (Nat.le_trans hlo hown.le) hgr), has.grown hown hgr, hnew⟩
      case measure => simp [intOf]; omega
    · obtain rfl : k = LL.length := by omega
      rw [List.take_length] at *
      go_wp2_with fail
      go_ret
      exact ⟨rfl, by simpa using hor, hbr, has⟩
end Go.Proofs.Ytnheolhgdinjgaa
