/-
  Walks: the program's boxes. Plain mathematics: the rows of boxes, by adding rows of smaller ones. A region that draws its order and ends in a store. Walks: the draws of a number and a divisor, whether all numbers are one. Walks: the model's row of a box. Walks of the program: all parts in a box, by their sums. Plain mathematics: how many parts of each sum are in a box, by a table. Walks: the draws of two sides, how many ways to choose. Piles in a box: counted by a formula, counted one by one. Walks: whether the sides of a box are in limits, of the model. Walks of the program: what is counted, behind an interface: marked parts and piles. Walks: piles in a box, of the program and of the model.
-/
import Derived.Test.YtgkghebjaedjmaaZC1
import Derived.Test.YtgkghebjaedjmaaZC2
import Derived.Test.YtgkghebjaedjmaaZC3
import Derived.Test.YtgkghebjaedjmaaZC4
import Derived.Test.YtgkghebjaedjmaaZC5
import Derived.Test.YtgkghebjaedjmaaZC6
import Derived.Test.YtgkghebjaedjmaaZC7
import Derived.Test.YtgkghebjaedjmaaZC8
import Derived.Test.YtgkghebjaedjmaaZC9
import Derived.Test.YtgkghebjaedjmaaZE1
import Derived.Test.YtgkghebjaedjmaaZE2
import Derived.Deep.RegionHeld3
import Derived.Deep.MidRow
import Derived.StillTailTactics
import Derived.RegionTactic
import Derived.Deep.RegionWith
namespace Go.Proofs.Ytgkghebjaedjmaa
open Go.RowKit NP
set_option maxRecDepth 8000
set_option linter.unusedVariables false
set_option linter.unusedSimpArgs false
theorem Blk.rangeB {w : World} {g : Nat} {t : TypeId} {vs : List Value} (h : Blk w g t vs.toArray) : w.rangeAt g 0 vs := fun j v hv => by
  rw [Nat.zero_add, h.cell j]; simpa using hv
theorem cnt_padB {M : List Int} (hM : valid M = true) : cntD (pad M) = M.length := by
  have hlen : M.length ≤ 16 := (valid_bd hM).2.2.2
  unfold cntD
  refine ff_eq (fun j hj => ?_) hlen ?_
  · have h1 := preS_of_valid hM j hj hj
    rw [List.getD_eq_getElem?_getD, List.getElem?_eq_getElem (by rw [pad_len hlen]; omega), Option.getD_some, pad_get hlen hj]
    simp; omega
  · rcases Nat.lt_or_ge M.length 16 with h | h
    · right
      rw [List.getD_eq_getElem?_getD, List.getElem?_eq_getElem (by rw [pad_len hlen]; omega), Option.getD_some, pad_get0 hlen (Nat.le_refl _) h]
      simp
    · left; omega
theorem rng_ofB {w : World} {g : Nat} {t : TypeId} {D : List Int} (h : Blk w g t (arr D)) : w.rangeAt g 0 (ints D) := Blk.rangeB (vs := ints D) h
theorem range_belowB {w w' : World} {b o : Nat} {cs : List Value} (h : w.rangeAt b o cs) (hb : Below w.heap.size w w') : w'.rangeAt b o cs := fun j v hv => by
  have := h j v hv
  exact (hb.cell (p := ⟨b, o + j, none⟩) (World.block_lt_of_cell? w _ this)).trans this
theorem cell_below {w w' : World} {p : Addr} {v : Value} (h : w.cell? p = some v) (hb : Below w.heap.size w w') : w'.cell? p = some v := (hb.cell (World.block_lt_of_cell? w _ h)).trans h
set_option maxHeartbeats 1000000 in
theorem holds_any (a b : Int) (P : List Int) (hv : valid P = true) (w : World) :
    Calls Try.prog 91 #[.agg #[.int .i64 a, .int .i64 b], .agg (arr (pad P))] w fun e w' => e = .returned (.bool (decide ((P.length : Int) ≤ a ∧ P.headD 0 ≤ b))) ∧ Below w.heap.size w w' := by
  have hl16 := (valid_bd hv).2.2.2
  have HC := Lib.hid (cnt_padB hv)
  have HPL := Lib.hid (pad_len hl16)
  have hu := Try.underlying60
  have hiL : (Try.prog.info? 60).map (·.size) = some (ints (pad P)).length := by rw [List.length_map, HPL.out]; exact T_info35
  obtain ⟨x, hx⟩ : ∃ x, x = P.headD 0 := ⟨_, rfl⟩
  have hx0 : (ints (pad P))[0]? = some (.int .i64 x) := by
    rw [hx]
    cases P with
    | nil => rfl
    | cons y P => rfl
  have HX : Hid (∀ {u : World}, u.rangeAt (w.heap.size + 1) 0 (ints (pad P)) → u.cell? ⟨w.heap.size + 1, 0, none⟩ = some (.int .i64 x)) := Lib.hid (fun h => h 0 _ hx0)
  have hr0 : ((w.alloc (.cells #[.int .i64 a, .int .i64 b] 85)).alloc (.cells (arr (pad P)) 60)).rangeAt (w.heap.size + 1) 0 (ints (pad P)) := by
    have := rng_ofB (Blk.new (w.alloc (.cells #[.int .i64 a, .int .i64 b] 85)) 60 (arr (pad P)))
    rwa [World.size_alloc] at this
  have hbx := (Blk.new w 85 #[.int .i64 a, .int .i64 b]).alloc (.cells (arr (pad P)) 60)
  have ha0 := hbx.cell 0
  have hb0 := hbx.cell 1
  simp only [List.getElem?_toArray, List.getElem?_cons_zero, List.getElem?_cons_succ] at ha0 hb0
  have hbel0 := ((Below.refl w.heap.size w).alloc (Nat.le_refl _) (.cells #[.int .i64 a, .int .i64 b] 85)).alloc (by simp) (.cells (arr (pad P)) 60)
  rw [← hx]
  clear hv hbx hx hx0
  by_cases h : (P.length : Int) ≤ a
  · have hd1 : decide ((P.length : Int) ≤ a) = true := decide_eq_true h
    have HV : Hid (decide ((P.length : Int) ≤ a ∧ x ≤ b) = decide (x ≤ b)) := Lib.hid (by simp [h])
    clear h
    go_enter Try.func91, Try.ntmps91
    go_wp2
    refine wp_region_held_drew (S := fun w' => w'.rangeAt (w.heap.size + 1) 0 (ints (pad P)) ∧ w'.cell? ⟨w.heap.size, 0, none⟩ = some (.int .i64 a) ∧ w'.cell? ⟨w.heap.size, 1, none⟩ = some (.int .i64 b) ∧ Below w.heap.size w w') (by kernel_rfl) ⟨hr0, ha0, hb0, hbel0.trans ((Dr.n _ 1).below _)⟩ (fun hHeld => ?_)
    refine wpAnyH_take (i := 0) (v := _) (by simp only [List.getElem?_toArray, List.getElem?_cons_succ, List.getElem?_cons_zero]; exact rfl) (by kernel_rfl) (by kernel_rfl) (by kernel_rfl) (by intro _ _ _ h; exact h) (yieldsIf_load_mid (by kernel_rfl) _ _ rfl (w.heap.size + 1) 0 rfl (ints (pad P)) _ (fun _ hw => hw.1) hu rfl hiL) (by assumption) ?_
    simp only [Act.put, List.setIfInBounds_toArray, List.set_cons_zero, List.set_cons_succ, List.toList_toArray]
    refine wpAnyH_take (i := 2) (v := .pointer (some ⟨w.heap.size, 0, none⟩)) (by simp only [List.getElem?_toArray, List.getElem?_cons_succ, List.getElem?_cons_zero]; exact rfl) (by kernel_rfl) (by kernel_rfl) (by kernel_rfl) (by intro _ _ _ h; exact h) (Or.inl ⟨by kernel_rfl, by intro w hSw; go_simp⟩) (by assumption) ?_
    simp only [Act.put, List.setIfInBounds_toArray, List.set_cons_zero, List.set_cons_succ, List.toList_toArray]
    refine wpAnyH_take (i := 3) (v := .int .i64 a) (by simp only [List.getElem?_toArray, List.getElem?_cons_succ, List.getElem?_cons_zero]; exact rfl) (by kernel_rfl) (by kernel_rfl) (by kernel_rfl) (by intro _ _ _ h; exact h) (Or.inl ⟨by kernel_rfl, by intro w hSw; obtain ⟨hs1, hs2, hs3, hs4⟩ := hSw; go_simp⟩) (by assumption) ?_
    simp only [Act.put, List.setIfInBounds_toArray, List.set_cons_zero, List.set_cons_succ, List.toList_toArray]
    refine wpAnyH_ready (rs := [1]) (by kernel_rfl) (by simp) ?_
    refine AllReadyH.cons (o := _) (by simp only [List.getElem?_toArray, List.getElem?_cons_succ, List.getElem?_cons_zero]; exact rfl) (fun K hK => ?_) AllReadyH.nil
    rw [if_pos (by rfl)]
    go_simp
    go_at_call 75
    refine (count_any (pad P) HPL.out _).mono ?_
    rintro e w1 ⟨rfl, hb1⟩
    rw [HC.out]
    refine hK.out _ _ ⟨range_belowB hHeld.1 hb1, cell_below hHeld.2.1 hb1, cell_below hHeld.2.2.1 hb1, hHeld.2.2.2.trans (hb1.mono hHeld.2.2.2.size)⟩ (fun hH2 => ?_)
    clear hK K
    try simp only [Act.put, List.setIfInBounds_toArray, List.set_cons_zero, List.set_cons_succ, List.toList_toArray]
    refine wpAnyH_take (i := 4) (v := .bool true) (by simp only [List.getElem?_toArray, List.getElem?_cons_succ, List.getElem?_cons_zero]; exact rfl) (by kernel_rfl) (by kernel_rfl) (by kernel_rfl) (by intro _ _ _ h; exact h) (Or.inl ⟨by kernel_rfl, by intro w hSw; go_simp⟩) (by assumption) ?_
    simp only [Act.put, List.setIfInBounds_toArray, List.set_cons_zero, List.set_cons_succ, List.toList_toArray]
    refine wpAnyH_take (i := 5) (v := .bool true) (by simp only [List.getElem?_toArray, List.getElem?_cons_succ, List.getElem?_cons_zero]; exact rfl) (by kernel_rfl) (by kernel_rfl) (by kernel_rfl) (by intro _ _ _ h; exact h) (Or.inl ⟨by kernel_rfl, by intro w hSw; go_simp⟩) (by assumption) ?_
    simp only [Act.put, List.setIfInBounds_toArray, List.set_cons_zero, List.set_cons_succ, List.toList_toArray]
    refine wpAnyH_take (i := 6) (v := .pointer (some ⟨w.heap.size + 1, 0, none⟩)) (by simp only [List.getElem?_toArray, List.getElem?_cons_succ, List.getElem?_cons_zero]; exact rfl) (by kernel_rfl) (by kernel_rfl) (by kernel_rfl) (by intro _ _ _ h; exact h) (Or.inl ⟨by kernel_rfl, by intro w hSw; go_simp⟩) (by assumption) ?_
    simp only [Act.put, List.setIfInBounds_toArray, List.set_cons_zero, List.set_cons_succ, List.toList_toArray]
    refine wpAnyH_take (i := 7) (v := .int .i64 x) (by simp only [List.getElem?_toArray, List.getElem?_cons_succ, List.getElem?_cons_zero]; exact rfl) (by kernel_rfl) (by kernel_rfl) (by kernel_rfl) (by intro _ _ _ h; exact h) (Or.inl ⟨by kernel_rfl, by intro w hSw; obtain ⟨hs1, hs2, hs3, hs4⟩ := hSw; have hx9 := HX.out hs1; go_simp⟩) (by assumption) ?_
    simp only [Act.put, List.setIfInBounds_toArray, List.set_cons_zero, List.set_cons_succ, List.toList_toArray]
    refine wpAnyH_take (i := 8) (v := .pointer (some ⟨w.heap.size, 1, none⟩)) (by simp only [List.getElem?_toArray, List.getElem?_cons_succ, List.getElem?_cons_zero]; exact rfl) (by kernel_rfl) (by kernel_rfl) (by kernel_rfl) (by intro _ _ _ h; exact h) (Or.inl ⟨by kernel_rfl, by intro w hSw; go_simp⟩) (by assumption) ?_
    simp only [Act.put, List.setIfInBounds_toArray, List.set_cons_zero, List.set_cons_succ, List.toList_toArray]
    refine wpAnyH_take (i := 9) (v := .int .i64 b) (by simp only [List.getElem?_toArray, List.getElem?_cons_succ, List.getElem?_cons_zero]; exact rfl) (by kernel_rfl) (by kernel_rfl) (by kernel_rfl) (by intro _ _ _ h; exact h) (Or.inl ⟨by kernel_rfl, by intro w hSw; obtain ⟨hs1, hs2, hs3, hs4⟩ := hSw; go_simp⟩) (by assumption) ?_
    simp only [Act.put, List.setIfInBounds_toArray, List.set_cons_zero, List.set_cons_succ, List.toList_toArray]
    refine wpAnyH_take (i := 10) (v := .bool (decide (x ≤ b))) (by simp only [List.getElem?_toArray, List.getElem?_cons_succ, List.getElem?_cons_zero]; exact rfl) (by kernel_rfl) (by kernel_rfl) (by kernel_rfl) (by intro _ _ _ h; exact h) (Or.inl ⟨by kernel_rfl, by intro w hSw; go_simp⟩) (by assumption) ?_
    simp only [Act.put, List.setIfInBounds_toArray, List.set_cons_zero, List.set_cons_succ, List.toList_toArray]
    refine wpAnyH_take (i := 11) (v := .bool (decide (x ≤ b))) (by simp only [List.getElem?_toArray, List.getElem?_cons_succ, List.getElem?_cons_zero]; exact rfl) (by kernel_rfl) (by kernel_rfl) (by kernel_rfl) (by intro _ _ _ h; exact h) (Or.inl ⟨by kernel_rfl, by intro w hSw; go_simp⟩) (by assumption) ?_
    simp only [Act.put, List.setIfInBounds_toArray, List.set_cons_zero, List.set_cons_succ, List.toList_toArray]
    refine wpAnyH_take (i := 12) (v := .bool (decide (x ≤ b))) (by simp only [List.getElem?_toArray, List.getElem?_cons_succ, List.getElem?_cons_zero]; exact rfl) (by kernel_rfl) (by kernel_rfl) (by kernel_rfl) (by intro _ _ _ h; exact h) (Or.inl ⟨by kernel_rfl, by intro w hSw; go_simp⟩) (by assumption) ?_
    simp only [Act.put, List.setIfInBounds_toArray, List.set_cons_zero, List.set_cons_succ, List.toList_toArray]
    refine wpAnyH_done (by kernel_rfl) ?_ _
    try simp only [Act.put, List.setIfInBounds_toArray, List.set_cons_zero, List.set_cons_succ]
    go_wp2_with fail
    go_ret
    exact ⟨ret_bool HV.out.symm, hH2.2.2.2⟩
  · have hd1 : decide ((P.length : Int) ≤ a) = false := decide_eq_false h
    have HV : Hid (decide ((P.length : Int) ≤ a ∧ x ≤ b) = false) := Lib.hid (by simp [h])
    clear h
    go_enter Try.func91, Try.ntmps91
    go_wp2
    refine wp_region_held_drew (S := fun w' => w'.rangeAt (w.heap.size + 1) 0 (ints (pad P)) ∧ w'.cell? ⟨w.heap.size, 0, none⟩ = some (.int .i64 a) ∧ w'.cell? ⟨w.heap.size, 1, none⟩ = some (.int .i64 b) ∧ Below w.heap.size w w') (by kernel_rfl) ⟨hr0, ha0, hb0, hbel0.trans ((Dr.n _ 1).below _)⟩ (fun hHeld => ?_)
    refine wpAnyH_take (i := 0) (v := _) (by simp only [List.getElem?_toArray, List.getElem?_cons_succ, List.getElem?_cons_zero]; exact rfl) (by kernel_rfl) (by kernel_rfl) (by kernel_rfl) (by intro _ _ _ h; exact h) (yieldsIf_load_mid (by kernel_rfl) _ _ rfl (w.heap.size + 1) 0 rfl (ints (pad P)) _ (fun _ hw => hw.1) hu rfl hiL) (by assumption) ?_
    simp only [Act.put, List.setIfInBounds_toArray, List.set_cons_zero, List.set_cons_succ, List.toList_toArray]
    refine wpAnyH_take (i := 2) (v := .pointer (some ⟨w.heap.size, 0, none⟩)) (by simp only [List.getElem?_toArray, List.getElem?_cons_succ, List.getElem?_cons_zero]; exact rfl) (by kernel_rfl) (by kernel_rfl) (by kernel_rfl) (by intro _ _ _ h; exact h) (Or.inl ⟨by kernel_rfl, by intro w hSw; go_simp⟩) (by assumption) ?_
    simp only [Act.put, List.setIfInBounds_toArray, List.set_cons_zero, List.set_cons_succ, List.toList_toArray]
    refine wpAnyH_take (i := 3) (v := .int .i64 a) (by simp only [List.getElem?_toArray, List.getElem?_cons_succ, List.getElem?_cons_zero]; exact rfl) (by kernel_rfl) (by kernel_rfl) (by kernel_rfl) (by intro _ _ _ h; exact h) (Or.inl ⟨by kernel_rfl, by intro w hSw; obtain ⟨hs1, hs2, hs3, hs4⟩ := hSw; go_simp⟩) (by assumption) ?_
    simp only [Act.put, List.setIfInBounds_toArray, List.set_cons_zero, List.set_cons_succ, List.toList_toArray]
    refine wpAnyH_ready (rs := [1]) (by kernel_rfl) (by simp) ?_
    refine AllReadyH.cons (o := _) (by simp only [List.getElem?_toArray, List.getElem?_cons_succ, List.getElem?_cons_zero]; exact rfl) (fun K hK => ?_) AllReadyH.nil
    rw [if_pos (by rfl)]
    go_simp
    go_at_call 75
    refine (count_any (pad P) HPL.out _).mono ?_
    rintro e w1 ⟨rfl, hb1⟩
    rw [HC.out]
    refine hK.out _ _ ⟨range_belowB hHeld.1 hb1, cell_below hHeld.2.1 hb1, cell_below hHeld.2.2.1 hb1, hHeld.2.2.2.trans (hb1.mono hHeld.2.2.2.size)⟩ (fun hH2 => ?_)
    clear hK K
    try simp only [Act.put, List.setIfInBounds_toArray, List.set_cons_zero, List.set_cons_succ, List.toList_toArray]
    refine wpAnyH_take (i := 4) (v := .bool false) (by simp only [List.getElem?_toArray, List.getElem?_cons_succ, List.getElem?_cons_zero]; exact rfl) (by kernel_rfl) (by kernel_rfl) (by kernel_rfl) (by intro _ _ _ h; exact h) (Or.inl ⟨by kernel_rfl, by intro w hSw; go_simp⟩) (by assumption) ?_
    simp only [Act.put, List.setIfInBounds_toArray, List.set_cons_zero, List.set_cons_succ, List.toList_toArray]
    refine wpAnyH_take (i := 5) (v := .bool false) (by simp only [List.getElem?_toArray, List.getElem?_cons_succ, List.getElem?_cons_zero]; exact rfl) (by kernel_rfl) (by kernel_rfl) (by kernel_rfl) (by intro _ _ _ h; exact h) (Or.inl ⟨by kernel_rfl, by intro w hSw; go_simp⟩) (by assumption) ?_
    simp only [Act.put, List.setIfInBounds_toArray, List.set_cons_zero, List.set_cons_succ, List.toList_toArray]
    refine wpAnyH_take (i := 6) (v := undef) (by simp only [List.getElem?_toArray, List.getElem?_cons_succ, List.getElem?_cons_zero]; exact rfl) (by kernel_rfl) (by kernel_rfl) (by kernel_rfl) (by intro _ _ _ h; exact h) (Or.inr ⟨by kernel_rfl, rfl⟩) (by assumption) ?_
    simp only [Act.put, List.setIfInBounds_toArray, List.set_cons_zero, List.set_cons_succ, List.toList_toArray]
    refine wpAnyH_take (i := 7) (v := undef) (by simp only [List.getElem?_toArray, List.getElem?_cons_succ, List.getElem?_cons_zero]; exact rfl) (by kernel_rfl) (by kernel_rfl) (by kernel_rfl) (by intro _ _ _ h; exact h) (Or.inr ⟨by kernel_rfl, rfl⟩) (by assumption) ?_
    simp only [Act.put, List.setIfInBounds_toArray, List.set_cons_zero, List.set_cons_succ, List.toList_toArray]
    refine wpAnyH_take (i := 8) (v := undef) (by simp only [List.getElem?_toArray, List.getElem?_cons_succ, List.getElem?_cons_zero]; exact rfl) (by kernel_rfl) (by kernel_rfl) (by kernel_rfl) (by intro _ _ _ h; exact h) (Or.inr ⟨by kernel_rfl, rfl⟩) (by assumption) ?_
    simp only [Act.put, List.setIfInBounds_toArray, List.set_cons_zero, List.set_cons_succ, List.toList_toArray]
    refine wpAnyH_take (i := 9) (v := undef) (by simp only [List.getElem?_toArray, List.getElem?_cons_succ, List.getElem?_cons_zero]; exact rfl) (by kernel_rfl) (by kernel_rfl) (by kernel_rfl) (by intro _ _ _ h; exact h) (Or.inr ⟨by kernel_rfl, rfl⟩) (by assumption) ?_
    simp only [Act.put, List.setIfInBounds_toArray, List.set_cons_zero, List.set_cons_succ, List.toList_toArray]
    refine wpAnyH_take (i := 10) (v := undef) (by simp only [List.getElem?_toArray, List.getElem?_cons_succ, List.getElem?_cons_zero]; exact rfl) (by kernel_rfl) (by kernel_rfl) (by kernel_rfl) (by intro _ _ _ h; exact h) (Or.inr ⟨by kernel_rfl, rfl⟩) (by assumption) ?_
    simp only [Act.put, List.setIfInBounds_toArray, List.set_cons_zero, List.set_cons_succ, List.toList_toArray]
    refine wpAnyH_take (i := 11) (v := .bool false) (by simp only [List.getElem?_toArray, List.getElem?_cons_succ, List.getElem?_cons_zero]; exact rfl) (by kernel_rfl) (by kernel_rfl) (by kernel_rfl) (by intro _ _ _ h; exact h) (Or.inl ⟨by kernel_rfl, by intro w hSw; go_simp⟩) (by assumption) ?_
    simp only [Act.put, List.setIfInBounds_toArray, List.set_cons_zero, List.set_cons_succ, List.toList_toArray]
    refine wpAnyH_take (i := 12) (v := .bool false) (by simp only [List.getElem?_toArray, List.getElem?_cons_succ, List.getElem?_cons_zero]; exact rfl) (by kernel_rfl) (by kernel_rfl) (by kernel_rfl) (by intro _ _ _ h; exact h) (Or.inl ⟨by kernel_rfl, by intro w hSw; go_simp⟩) (by assumption) ?_
    simp only [Act.put, List.setIfInBounds_toArray, List.set_cons_zero, List.set_cons_succ, List.toList_toArray]
    refine wpAnyH_done (by kernel_rfl) ?_ _
    try simp only [Act.put, List.setIfInBounds_toArray, List.set_cons_zero, List.set_cons_succ]
    go_wp2_with fail
    go_ret
    exact ⟨ret_bool HV.out.symm, hH2.2.2.2⟩
end Go.Proofs.Ytgkghebjaedjmaa
namespace Go.Proofs.Ytgkghebjaedjmaa
open Go.RowKit
set_option linter.unusedVariables false
/-- out with the first k of x added from off on -/
def ad (out x : List Int) (off k : Nat) : List Int := (List.range out.length).map fun i => out.getD i 0 + if off ≤ i ∧ i < off + k then x.getD (i - off) 0 else 0
theorem ad_len (out x : List Int) (off k : Nat) : (ad out x off k).length = out.length := by simp [ad]
theorem ad_get (out x : List Int) (off k i : Nat) (h : i < out.length) : (ad out x off k)[i]'(by rw [ad_len]; exact h) = out[i] + if off ≤ i ∧ i < off + k then x.getD (i - off) 0 else 0 := by
  simp [ad, List.getD_eq_getElem?_getD, h]
theorem ad_zero (out x : List Int) (off : Nat) : ad out x off 0 = out := by
  refine List.ext_getElem (ad_len _ _ _ _) fun i h1 h2 => ?_
  rw [ad_get _ _ _ _ _ h2, if_neg (by omega)]
  omega
theorem ad_here (out x : List Int) (off k : Nat) (h : off + k < out.length) : (ad out x off k)[off + k]'(by rw [ad_len]; exact h) = out[off + k] := by
  rw [ad_get _ _ _ _ _ h, if_neg (by omega)]
  omega
theorem ad_step (out x : List Int) (off k : Nat) (h : off + k < out.length) (hk : k < x.length) : (ad out x off k).set (off + k) (out[off + k] + x[k]) = ad out x off (k + 1) := by
  refine List.ext_getElem (by simp [ad_len]) fun i h1 h2 => ?_
  have hi : i < out.length := by rw [ad_len] at h2; exact h2
  rw [List.getElem_set, ad_get _ _ _ _ _ hi]
  by_cases he : off + k = i
  · subst he
    rw [if_pos rfl, ad_get _ _ _ _ _ h, if_pos (by omega)]
    simp [List.getD_eq_getElem?_getD, hk]
  · rw [if_neg he, ad_get _ _ _ _ _ hi]
    by_cases hc : off ≤ i ∧ i < off + k
    · rw [if_pos hc, if_pos (by omega)]
    · rw [if_neg hc, if_neg (by omega)]
theorem ad_bd (out x : List Int) (off k : Nat) (u v : Int) (hu : ∀ y ∈ out, 0 ≤ y ∧ y ≤ u) (hv : ∀ y ∈ x, 0 ≤ y ∧ y ≤ v) (h0 : 0 ≤ u) (h1 : 0 ≤ v) : ∀ y ∈ ad out x off k, 0 ≤ y ∧ y ≤ u + v := by
  intro y hy
  unfold ad at hy
  obtain ⟨i, hi, rfl⟩ := List.mem_map.1 hy
  have hi := List.mem_range.1 hi
  have e1 : out.getD i 0 = out[i] := by simp [List.getD_eq_getElem?_getD, hi]
  have e2 := hu _ (List.getElem_mem hi)
  have e3 : 0 ≤ x.getD (i - off) 0 ∧ x.getD (i - off) 0 ≤ v := by
    by_cases hc : i - off < x.length
    · have e4 : x.getD (i - off) 0 = x[i - off] := by simp [List.getD_eq_getElem?_getD, hc]
      rw [e4]; exact hv _ (List.getElem_mem hc)
    · have e4 : x.getD (i - off) 0 = 0 := by simp [List.getD_eq_getElem?_getD, List.getElem?_eq_none (Nat.le_of_not_lt hc)]
      rw [e4]; omega
  rw [e1]
  split <;> omega
def gnext (a : Nat) (g : Nat → List Int) : Nat → List Int
  | 0 => [1]
  | b + 1 => ad (ad (List.replicate ((a + 1) * (b + 1) + 1) 0) (gnext a g b) 0 (gnext a g b).length) (g (b + 1)) (b + 1) (g (b + 1)).length
def gbox : Nat → Nat → List Int
  | 0 => fun _ => [1]
  | a + 1 => gnext a (gbox a)
theorem gbox_zero (a b : Nat) (h : a = 0 ∨ b = 0) : gbox a b = [1] := by
  cases a with
  | zero => rfl
  | succ a =>
    obtain rfl : b = 0 := by omega
    rfl
theorem gbox_next (a b : Nat) : gbox (a + 1) (b + 1) = ad (ad (List.replicate ((a + 1) * (b + 1) + 1) 0) (gbox (a + 1) b) 0 (gbox (a + 1) b).length) (gbox a (b + 1)) (b + 1) (gbox a (b + 1)).length := rfl
theorem gbox_len (a b : Nat) : (gbox a b).length = a * b + 1 := by
  cases a with
  | zero => simp [gbox]
  | succ a =>
    cases b with
    | zero => rfl
    | succ b => rw [gbox_next, ad_len, ad_len, List.length_replicate]
def gboxTab : Bool := (List.range 5).all fun a => (List.range 5).all fun b => (gbox a b).all fun x => decide (0 ≤ x) && decide (x ≤ 100)
theorem gboxTab_all : gboxTab = true := by decide +kernel
theorem gbox_bd {a b : Nat} (ha : a ≤ 4) (hb : b ≤ 4) : ∀ x ∈ gbox a b, 0 ≤ x ∧ x ≤ 100 := by
  intro x hx
  have h := gboxTab_all
  unfold gboxTab at h
  have h1 := List.all_eq_true.1 h a (by simp; omega)
  have h2 := List.all_eq_true.1 h1 b (by simp; omega)
  have h3 := List.all_eq_true.1 h2 x hx
  simpa using h3
end Go.Proofs.Ytgkghebjaedjmaa
namespace Go.Proofs.Ytgkghebjaedjmaa
open Go.RowKit
set_option linter.unusedVariables false
section
variable {P : Program} {ops : Array Oper} {Q : Exit → Act → World → Prop}
/-- all but the last yield their values (vs) in whatever world of the kind S; the last one stores -/
theorem wp_region_store {id : Nat} {a : Act} {w : World} (zl : List Nat) (vs : List Value) (S : World → Prop) (az : Act) (hm : P.follows .mixedOrders = true) (hS : ∀ y, Dr w y → S y) (haz : putsOfG ops 0 vs a = az)
    (hok : regOkG .any ops vs.length = true) (hup : regUpG .any ops vs.length = true) (hzl : List.range vs.length = zl) (hsz : ops.size = vs.length + 1)
    (hr1 : Region.ready .any ops (Array.replicate vs.length true ++ Array.replicate 1 false) = [vs.length]) (hr2 : Region.ready .any ops ((Array.replicate vs.length true ++ Array.replicate 1 false).setIfInBounds vs.length true) = [])
    (o : Oper) (ho : ops[vs.length]? = some o) (hg : o.guard = none) (hd : o.dst = none) (ty : TypeId) (x y : Operand) (hop : o.op = .store ty x y) (p : Addr) (v : Value) (hx : az.eval x = .pointer (some p)) (hy : az.eval y = v)
    (hrun : ∀ w', S w' → (storeVar ty p v).run P w' = .ok () (w'.setCell p v)) (hstep : StepsG P ops S az zl) (hrest : ∀ w', S w' → Q .normal az (w'.setCell p v)) : (Code.region id ops true).wp P Q a w := by
  refine wp_region_vals_rest zl vs S az hm hS haz hok hup hzl hstep fun w' hw => ?_
  rw [hsz, show vs.length + 1 - vs.length = 0 + 1 from by omega]
  refine wpAny_ready hr1 (by simp) ?_
  refine AllReady.cons ho (fun K hK => ?_) AllReady.nil
  rw [if_pos (by simp [Region.wanted, hg])]
  simp only [Oper.wp, execOp, hop, hx, hy, Instr.storeAt, Instr.sureAddr, Sem.run_bind, Sem.run_pure, Result.andThen_ok, hrun w' hw, Oper.upon]
  refine hK _ _ (wpAny_done hr2 ?_ _)
  rw [hd]
  exact hrest w' hw
end
end Go.Proofs.Ytgkghebjaedjmaa
namespace Go.Proofs.Ytgkghebjaedjmaa
open Go.RowKit NP
set_option maxRecDepth 8000
set_option linter.unusedVariables false
set_option linter.unusedSimpArgs false
theorem drCell {w w' : World} {p : Addr} {v : Value} (h : Dr w w') (hc : w.cell? p = some v) : w'.cell? p = some v := by
  obtain ⟨n, rfl⟩ := h
  exact hc
end Go.Proofs.Ytgkghebjaedjmaa
namespace Go.Proofs.Ytgkghebjaedjmaa
open Go.RowKit NP
set_option maxRecDepth 8000
set_option linter.unusedVariables false
set_option linter.unusedSimpArgs false
/-- what lies between lo and the end of w2 is the same in w' -/
def Kb (w2 w' : World) (lo : Nat) : Prop := w2.heap.size ≤ w'.heap.size ∧ ∀ g, lo ≤ g → g < w2.heap.size → w'.heap[g]? = w2.heap[g]?
theorem Kb.dr {w2 w w' : World} {lo : Nat} (h : Kb w2 w lo) (hb : Dr w w') : Kb w2 w' lo := by
  obtain ⟨n, rfl⟩ := hb
  exact h
theorem Kb.off {w2 w : World} {lo : Nat} (h : Kb w2 w lo) (g : Nat) (hg : g < lo) (i : Nat) (u : Value) : Kb w2 (w.setCell ⟨g, i, none⟩ u) lo :=
  ⟨by simp [World.setCell]; exact h.1, fun k h1 h2 => (Below.heap_setCell w ⟨g, i, none⟩ u k (by show k ≠ g; omega)).trans (h.2 k h1 h2)⟩
theorem Own.kb {w2 w : World} {lo hi : Nat} {e : TypeId} {v : Value} {vs : List Value} (h : Own w2 lo hi e v vs) (k : Kb w2 w lo) : Own w lo hi e v vs :=
  h.keep k.1 fun g hg => k.2 g (h.base g hg) (Nat.lt_of_lt_of_le (h.lt g hg) h.le)
end Go.Proofs.Ytgkghebjaedjmaa
namespace Go.Proofs.Ytgkghebjaedjmaa
open Go.RowKit NP
set_option maxRecDepth 8000
set_option linter.unusedVariables false
set_option linter.unusedSimpArgs false
/-- whether parts are in a box -/
def HB (a b : Nat) (P : List Int) : Bool := decide ((P.length : Int) ≤ (a : Int) ∧ P.headD 0 ≤ (b : Int))
/-- the parts with a sum in a box -/
def LB (a b s : Nat) : List (List Int) := (allQ s s s).filter (HB a b)
theorem holds_isK (a b : Nat) (w : World) : IsK w (.func (.func 91) #[.agg #[.int .i64 (a : Int), .int .i64 (b : Int)]] #[]) (HB a b) :=
  ⟨_, _, _, rfl, enters_of Try.func91 (by kernel_rfl) rfl, fun w1 _ L hL => holds_any a b L hL w1⟩
/-- lists of numbers, each in a block of its own -/
structure InnV (w : World) (lo hi : Nat) (e : TypeId) (us : List Value) (LL : List (List Int)) : Prop where
  len : us.length = LL.length
  inner : ∀ (k : Nat) u L, us[k]? = some u → LL[k]? = some L → Own w lo hi e u (ints L)
  apart : ∀ (j k : Nat) u u' g, us[j]? = some u → us[k]? = some u' → u.ownBlock = some g → u'.ownBlock = some g → j = k
theorem InnV.kb {w w' : World} {lo hi lo' : Nat} {e : TypeId} {us : List Value} {LL : List (List Int)} (h : InnV w lo hi e us LL) (k : Kb w w' lo') (hl : lo' ≤ lo) : InnV w' lo hi e us LL :=
  ⟨h.len, fun j u L hu hL => ((h.inner j u L hu hL).lower (Nat.le_refl _)).keep k.1 fun g hg => k.2 g (Nat.le_trans hl ((h.inner j u L hu hL).base g hg)) (Nat.lt_of_lt_of_le ((h.inner j u L hu hL).lt g hg) (h.inner j u L hu hL).le), h.apart⟩
theorem InnV.nil (w : World) (lo hi : Nat) (e : TypeId) : InnV w lo hi e [] [] := ⟨rfl, fun k u L hu => by simp at hu, fun j k u u' g hu => by simp at hu⟩
theorem OwnLL.innV {w : World} {lo hi : Nat} {eo e : TypeId} {v : Value} {vs : List Value} {LL : List (List Int)} (h : OwnLL w lo hi eo e v vs LL) : InnV w lo hi e vs LL := ⟨h.len, h.inner, h.apart⟩
theorem InnV.append {w : World} {lo mid hi : Nat} {e : TypeId} {us us' : List Value} {LL LL' : List (List Int)} (h : InnV w lo mid e us LL) (h' : InnV w mid hi e us' LL') (hl : lo ≤ mid) (hm : mid ≤ hi) (hw : hi = w.heap.size) : InnV w lo hi e (us ++ us') (LL ++ LL') := by
  subst hw
  have hlen := h.len
  have split : ∀ (k : Nat) (u : Value), (us ++ us')[k]? = some u → (k < us.length ∧ us[k]? = some u) ∨ (us.length ≤ k ∧ us'[k - us.length]? = some u) := fun k u hu => by
    by_cases hk : k < us.length
    · rw [List.getElem?_append_left hk] at hu; exact .inl ⟨hk, hu⟩
    · rw [List.getElem?_append_right (by omega)] at hu; exact .inr ⟨by omega, hu⟩
  have low : ∀ (k : Nat) (u : Value) (g : Nat), us[k]? = some u → u.ownBlock = some g → g < mid := fun k u g hu hg => by
    have hk := (List.getElem?_eq_some_iff.1 hu).1
    have := h.inner k u LL[k] hu (List.getElem?_eq_getElem (by omega))
    exact this.lt g hg
  have high : ∀ (k : Nat) (u : Value) (g : Nat), us'[k]? = some u → u.ownBlock = some g → mid ≤ g := fun k u g hu hg => by
    have hk := (List.getElem?_eq_some_iff.1 hu).1
    have hl' := h'.len
    have := h'.inner k u LL'[k] hu (List.getElem?_eq_getElem (by omega))
    exact this.base g hg
  refine ⟨by rw [List.length_append, List.length_append, h.len, h'.len], fun k u L hu hL => ?_, fun j k u u' g hu hu' hg hg' => ?_⟩
  · rcases split k u hu with ⟨hk, hu1⟩ | ⟨hk, hu1⟩
    · rw [List.getElem?_append_left (by omega)] at hL
      exact (h.inner k u L hu1 hL).more
    · rw [List.getElem?_append_right (by omega), ← hlen] at hL
      exact (h'.inner _ u L hu1 hL).lower hl
  · rcases split j u hu with ⟨hj, hu1⟩ | ⟨hj, hu1⟩ <;> rcases split k u' hu' with ⟨hk, hu2⟩ | ⟨hk, hu2⟩
    · exact h.apart j k u u' g hu1 hu2 hg hg'
    · have h1 := low j u g hu1 hg; have h2 := high _ u' g hu2 hg'; omega
    · have h1 := low k u' g hu2 hg'; have h2 := high _ u g hu1 hg; omega
    · have := h'.apart _ _ u u' g hu1 hu2 hg hg'; omega
theorem InnV.more {w : World} {lo hi : Nat} {e : TypeId} {us : List Value} {LL : List (List Int)} (h : InnV w lo hi e us LL) : InnV w lo w.heap.size e us LL := ⟨h.len, fun k u L hu hL => (h.inner k u L hu hL).more, h.apart⟩
/-- the first k lists of lists, by sums -/
structure BS (w : World) (lo a b k : Nat) (outs : List Value) (vss : List (List Value)) : Prop where
  lenO : outs.length = k
  lenV : vss.length = k
  rows : ∀ (j : Nat) u vs, outs[j]? = some u → vss[j]? = some vs → Own w lo w.heap.size 30 u vs ∧ vs.length = (LB a b j).length
  inn : InnV w lo w.heap.size 3 vss.flatten ((List.range k).flatMap (LB a b))
theorem BS.kb {w w' : World} {lo a b k : Nat} {outs : List Value} {vss : List (List Value)} (h : BS w lo a b k outs vss) (hk : Kb w w' lo) : BS w' lo a b k outs vss :=
  ⟨h.lenO, h.lenV, fun j u vs hu hv => ⟨((h.rows j u vs hu hv).1.kb hk).more, (h.rows j u vs hu hv).2⟩, (h.inn.kb hk (Nat.le_refl _)).more⟩
theorem BS.next {w w' : World} {lo a b k : Nat} {outs : List Value} {vss : List (List Value)} {u : Value} {us : List Value} (h : BS w lo a b k outs vss) (hb : Below w.heap.size w w') (hlo : lo ≤ w.heap.size) (hu : OwnLL w' w.heap.size w'.heap.size 30 3 u us (LB a b k)) : BS w' lo a b (k + 1) (outs ++ [u]) (vss ++ [us]) := by
  have hkb : Kb w w' lo := ⟨hb.size, fun g _ h2 => hb.block g h2⟩
  have h0 := h.kb hkb
  refine ⟨by simp [h.lenO], by simp [h.lenV], fun j x vs hx hv => ?_, ?_⟩
  · by_cases hj : j < k
    · rw [List.getElem?_append_left (by rw [h.lenO]; exact hj)] at hx
      rw [List.getElem?_append_left (by rw [h.lenV]; exact hj)] at hv
      exact h0.rows j x vs hx hv
    · rw [List.getElem?_append_right (by rw [h.lenO]; omega), h.lenO] at hx
      rw [List.getElem?_append_right (by rw [h.lenV]; omega), h.lenV] at hv
      have e0 : j - k = 0 := by
        rcases Nat.eq_zero_or_pos (j - k) with z | z
        · exact z
        · rw [List.getElem?_eq_none (by simp only [List.length_singleton]; omega)] at hx; cases hx
      rw [e0] at hx hv
      cases hx; cases hv
      obtain rfl : j = k := by
        have := Nat.le_of_not_lt hj
        omega
      exact ⟨hu.outer.lower hlo, hu.len⟩
  · have e1 : (List.range (k + 1)).flatMap (LB a b) = (List.range k).flatMap (LB a b) ++ LB a b k := by rw [List.range_succ, List.flatMap_append]; simp
    rw [e1, List.flatten_append, List.flatten_singleton]
    exact InnV.append (h.inn.kb hkb (Nat.le_refl _)) hu.innV hlo hb.size rfl
end Go.Proofs.Ytgkghebjaedjmaa
namespace Go.Proofs.Ytgkghebjaedjmaa
open Go.RowKit NP
set_option linter.unusedVariables false
def rowB (a b : Nat) : List Int := (List.range (a * b + 1)).map fun s => ((LB a b s).length : Int)
def rowTab : Bool := (List.range 5).all fun a => (List.range 5).all fun b => gbox a b == rowB a b
set_option maxRecDepth 100000 in
theorem rowTab_all : rowTab = true := by decide +kernel
theorem rowB_gbox {a b : Nat} (ha : a ≤ 4) (hb : b ≤ 4) : gbox a b = rowB a b := by
  have h := rowTab_all
  unfold rowTab at h
  have h1 := List.all_eq_true.1 h a (by simp; omega)
  have h2 := List.all_eq_true.1 h1 b (by simp; omega)
  exact eq_of_beq h2
def brF (a b : Int) : List Int := if limB a b then gbox a.toNat b.toNat else []
theorem brF_len (a b : Int) : (brF a b).length ≤ 17 := by
  unfold brF
  split
  · rename_i h
    unfold limB at h
    simp only [decide_eq_true_eq] at h
    rw [gbox_len]
    have := Nat.mul_le_mul (show a.toNat ≤ 4 by omega) (show b.toNat ≤ 4 by omega)
    omega
  · simp
end Go.Proofs.Ytgkghebjaedjmaa
namespace Go.Proofs.Ytgkghebjaedjmaa
open Go.RowKit NP
set_option maxRecDepth 8000
set_option linter.unusedVariables false
set_option linter.unusedSimpArgs false
theorem sum_bd1 {L : List Int} {b : Int} (h : ∀ x ∈ L, 0 ≤ x ∧ x ≤ b) (hb : 0 ≤ b) : 0 ≤ sumL L ∧ sumL L ≤ b * L.length := by
  induction L with
  | nil => simp [sumL]
  | cons x r ih =>
    have h1 := h x (by simp)
    have h2 := ih fun y hy => h y (by simp [hy])
    simp only [sumL, List.length_cons]
    have e : b * ((r.length + 1 : Nat) : Int) = b * (r.length : Int) + b := by rw [Int.natCast_add, Int.mul_add]; simp
    rw [e]
    omega
theorem fits_thou {L : List Int} (h : ∀ x ∈ L, 0 ≤ x ∧ x ≤ 1000) (hl : L.length ≤ 1000) : sumFits L := fun k hk => by
  have   := sum_bd1 (L := L.take k) (b := 1000) (fun x hx => h x (List.mem_of_mem_take hx)) (by omega)
  have e : (L.take k).length ≤ 1000 := by simp; omega
  omega
/-- the value after i steps -/
def chS (n : Nat) : Nat → Int
  | 0 => 1
  | i + 1 => (chS n i * ((n : Int) - (i : Int))).tdiv ((i : Int) + 1)
def chTab : Bool := (List.range 9).all fun n => (List.range 5).all fun i => decide (0 ≤ chS n i) && decide (chS n i ≤ 100)
theorem chTab_all : chTab = true := by decide +kernel
theorem chS_bd {n i : Nat} (hn : n ≤ 8) (hi : i ≤ 4) : 0 ≤ chS n i ∧ chS n i ≤ 100 := by
  have h := chTab_all
  unfold chTab at h
  have h1 := List.all_eq_true.1 h n (by simp; omega)
  have h2 := List.all_eq_true.1 h1 i (by simp; omega)
  simpa using h2
def gboxT : Bool := (List.range 5).all fun a => (List.range 5).all fun b => (gbox a b).reverse == gbox a b && gbox b a == gbox a b && sumL (gbox a b) == chS (a + b) a
theorem gboxT_all : gboxT = true := by decide +kernel
theorem gboxT_ok {a b : Nat} (ha : a ≤ 4) (hb : b ≤ 4) : (gbox a b).reverse = gbox a b ∧ gbox b a = gbox a b ∧ sumL (gbox a b) = chS (a + b) a := by
  have h := gboxT_all
  unfold gboxT at h
  have h1 := List.all_eq_true.1 h a (by simp; omega)
  have h2 := List.all_eq_true.1 h1 b (by simp; omega)
  simp only [Bool.and_eq_true, beq_iff_eq] at h2
  exact ⟨h2.1.1, h2.1.2, h2.2⟩
set_option maxHeartbeats 1000000 in
theorem choose_any (n k : Nat) (hn : n ≤ 8) (hk : k ≤ 4) (hkn : k ≤ n) (w : World) :
    Calls Try.prog 33 #[.int .i64 (n : Int), .int .i64 (k : Int)] w fun e w' => e = .returned (.int .i64 (chS n k)) ∧ w = w' := by
  go_enter Try.func33, Try.ntmps33
  go_wp2
  go_loop [5, 6] (fun v ii => ∃ i : Nat, i ≤ k ∧ ii = .int .i64 (i : Int) ∧ v = .int .i64 (chS n i)) (fun _ ii => k - (intOf ii).toNat)
  case atStart => exact ⟨0, Nat.zero_le _, rfl, rfl⟩
  case round =>
    obtain ⟨i, hi, rfl, rfl⟩ := hrel
    by_cases hlt : i < k
    · have hlt' : (i : Int) < (k : Int) := by omega
      have h0 := chS_bd hn (show i ≤ 4 by omega)
      have h1 := chS_bd hn (show i + 1 ≤ 4 by omega)
      have HS : Hid (chS n (i + 1) = (chS n i * ((n : Int) - (i : Int))).tdiv ((i : Int) + 1)) := Lib.hid rfl
      obtain ⟨d, hd⟩ : ∃ d : Nat, n - i = d := ⟨_, rfl⟩
      have hdi : (n : Int) - (i : Int) = (d : Int) := by omega
      rw [hdi] at HS
      obtain ⟨x, hx⟩ : ∃ x, chS n i = x := ⟨_, rfl⟩
      obtain ⟨y, hy⟩ : ∃ y, chS n (i + 1) = y := ⟨_, rfl⟩
      rw [hx] at h0 HS
      rw [hy] at h1 HS
      have hpb : 0 ≤ x * (d : Int) ∧ x * (d : Int) ≤ 100 * 8 := ⟨Int.mul_nonneg h0.1 (by omega), Int.mul_le_mul h0.2 (by omega) (by omega) (by omega)⟩
      obtain ⟨q, hq0, e1, e2, HQ⟩ : ∃ q : Int, (0 ≤ q ∧ q ≤ 800) ∧ wrap64 (x * (d : Int)) = q ∧ IntKind.i64.wrap (x * (d : Int)) = q ∧ Hid (x * (d : Int) = q) :=
        ⟨_, ⟨hpb.1, by omega⟩, IntWalk.wrap64_in _ (by omega), IntWalk.i64_in _ (by omega), Lib.hid rfl⟩
      have hyq : y = q.tdiv ((i : Int) + 1) := by rw [HS.out, HQ.out]
      have e3 : q / ((i : Int) + 1) = y := by rw [hyq, Int.tdiv_eq_ediv_of_nonneg hq0.1]
      have e4 : q.tdiv ((i : Int) + 1) = y := hyq.symm
      have hy0 := h1.1
      have hy1 := h1.2
      have HY := Lib.hid hy
      clear hpb hd hyq h0 h1 hy
      rw [hx]
      clear hx
      go_wp2_with fail
      go_round
      case rel => exact ⟨i + 1, by omega, by go_num, by rw [HY.out]⟩
      case measure => simp [intOf]; omega
    · obtain rfl : i = k := by omega
      go_wp2_with fail
      go_ret
      exact ⟨rfl, rfl⟩
theorem choose_ab (a b : Nat) (ha : a ≤ 4) (hb : b ≤ 4) (w : World) :
    Calls Try.prog 33 #[.int .i64 ((a : Int) + (b : Int)), .int .i64 (a : Int)] w fun e w' => e = .returned (.int .i64 (chS (a + b) a)) ∧ w = w' := by
  have := choose_any (a + b) a (by omega) ha (by omega) w
  rwa [Int.natCast_add] at this
end Go.Proofs.Ytgkghebjaedjmaa
namespace Go.Proofs.Ytgkghebjaedjmaa
open Go.RowKit NP
set_option linter.unusedVariables false
/-- a pile in a box -/
def inP (a b c : Nat) (LL : List (List Int)) : Bool := decide (LL.length = 0) || (decide (LL.length ≤ a) && (decide ((LL.getD 0 []).length ≤ b) && decide ((LL.getD 0 []).getD 0 0 ≤ (c : Int))))
def cBx (P : List (List Int) → Bool) (n : Nat) : Nat := ((pq n [] n).filter P).length
def cBS (P : List (List Int) → Bool) : Nat → Nat
  | 0 => 0
  | k + 1 => cBS P k + cBx P k
def bxOk (a b c : Nat) : Bool :=
  let v := bpF (a : Int) (b : Int) (c : Int)
  decide (0 ≤ v) && (decide (bpF (b : Int) (a : Int) (c : Int) = v) && (decide (bpF (a : Int) (c : Int) (b : Int) = v) && (decide (bpF (a : Int) (b : Int) 1 = chS (a + b) a) && (if a * b * c ≤ 6 then decide ((cBS (inP a b c) (a * b * c + 1) : Int) = v) else decide (1 < v)))))
def bxTab : Bool := (List.range 5).all fun a => (List.range 5).all fun b => (List.range 5).all fun c => bxOk a b c
theorem bxTab_all : bxTab = true := by decide +kernel
theorem bx_at {a b c : Nat} (ha : a ≤ 4) (hb : b ≤ 4) (hc : c ≤ 4) : 0 ≤ bpF (a : Int) (b : Int) (c : Int) ∧ bpF (b : Int) (a : Int) (c : Int) = bpF (a : Int) (b : Int) (c : Int) ∧ bpF (a : Int) (c : Int) (b : Int) = bpF (a : Int) (b : Int) (c : Int) ∧ bpF (a : Int) (b : Int) 1 = chS (a + b) a ∧ (a * b * c ≤ 6 → (cBS (inP a b c) (a * b * c + 1) : Int) = bpF (a : Int) (b : Int) (c : Int)) ∧ (6 < a * b * c → 1 < bpF (a : Int) (b : Int) (c : Int)) := by
  have h := bxTab_all
  unfold bxTab at h
  have h1 := List.all_eq_true.1 h a (by simp; omega)
  have h2 := List.all_eq_true.1 h1 b (by simp; omega)
  have h3 := List.all_eq_true.1 h2 c (by simp; omega)
  unfold bxOk at h3
  simp only [Bool.and_eq_true, decide_eq_true_eq] at h3
  obtain ⟨e1, e2, e3, e4, e5⟩ := h3
  refine ⟨e1, e2, e3, e4, fun h => ?_, fun h => ?_⟩
  · rw [if_pos h] at e5
    exact of_decide_eq_true e5
  · rw [if_neg (by omega)] at e5
    exact of_decide_eq_true e5
def pilNE : Bool := (List.range 7).all fun n => (pq n [] n).all fun LL => decide (LL.length = 0) || decide (0 < (LL.getD 0 []).length)
theorem pilNE_all : pilNE = true := by decide +kernel
theorem pil_ne {n : Nat} (hn : n ≤ 6) : ∀ LL ∈ pq n [] n, LL.length = 0 ∨ 0 < (LL.getD 0 []).length := by
  intro LL hLL
  have h := pilNE_all
  unfold pilNE at h
  have h1 := List.all_eq_true.1 h n (by simp; omega)
  have h2 := List.all_eq_true.1 h1 LL hLL
  simpa using h2
theorem flt_snoc {α : Type} (P : α → Bool) (l : List α) (i : Nat) (h : i < l.length) : ((l.take (i + 1)).filter P).length = ((l.take i).filter P).length + (if P l[i] then 1 else 0) := by
  rw [List.take_succ_eq_append_getElem h, List.filter_append, List.length_append]
  congr 1
  cases hp : P l[i] <;> simp [hp]
theorem flt_le {α : Type} (P : α → Bool) (l : List α) : (l.filter P).length ≤ l.length := List.length_filter_le _ _
theorem cBx_le (P : List (List Int) → Bool) {n : Nat} (h : n ≤ 6) : cBx P n ≤ 729 := Nat.le_trans (flt_le _ _) (pq_few n [] h)
theorem cBS_le (P : List (List Int) → Bool) : ∀ {k : Nat}, k ≤ 7 → cBS P k ≤ k * 729
  | 0, _ => by simp [cBS]
  | k + 1, h => by
    have h1 := cBS_le P (k := k) (by omega)
    have h2 := cBx_le P (n := k) (by omega)
    show cBS P k + cBx P k ≤ _
    omega
theorem inP_empty {a b c : Nat} {LL : List (List Int)} (h : LL.length = 0) : inP a b c LL = true := by unfold inP; rw [decide_eq_true h]; rfl
theorem inP_tall {a b c : Nat} {LL : List (List Int)} (h : LL.length ≠ 0) (h1 : ¬ LL.length ≤ a) : inP a b c LL = false := by unfold inP; rw [decide_eq_false h, decide_eq_false h1]; rfl
theorem inP_wide {a b c : Nat} {LL : List (List Int)} {M : List Int} (h : LL.length ≠ 0) (hM : LL.getD 0 [] = M) (h1 : ¬ M.length ≤ b) : inP a b c LL = false := by unfold inP; rw [hM, decide_eq_false h, decide_eq_false h1, Bool.false_and, Bool.and_false]; rfl
theorem inP_deep {a b c : Nat} {LL : List (List Int)} {M : List Int} (h : LL.length ≠ 0) (hM : LL.getD 0 [] = M) (h1 : ¬ M.getD 0 0 ≤ (c : Int)) : inP a b c LL = false := by unfold inP; rw [hM, decide_eq_false h, decide_eq_false h1, Bool.and_false, Bool.and_false]; rfl
theorem inP_yes {a b c : Nat} {LL : List (List Int)} {M : List Int} (hM : LL.getD 0 [] = M) (h1 : LL.length ≤ a) (h2 : M.length ≤ b) (h3 : M.getD 0 0 ≤ (c : Int)) : inP a b c LL = true := by unfold inP; rw [hM, decide_eq_true h1, decide_eq_true h2, decide_eq_true h3]; simp
end Go.Proofs.Ytgkghebjaedjmaa
namespace Go.Proofs.Ytgkghebjaedjmaa
open Go.RowKit NP
set_option maxRecDepth 8000
set_option linter.unusedVariables false
set_option linter.unusedSimpArgs false
theorem validBox_any (a b : Int) (w : World) :
    Calls Try.prog 63 #[.int .i64 a, .int .i64 b] w fun e w' => e = .returned (.bool (limB a b)) ∧ w = w' := by
  by_cases ha : 0 ≤ a ∧ a ≤ 4
  · by_cases hb : 0 ≤ b ∧ b ≤ 4
    · have HR : Hid (limB a b = true) := Lib.hid (decide_eq_true ⟨ha.1, ha.2, hb.1, hb.2⟩)
      go_enter Try.func63, Try.ntmps63
      go_wp2_with (first
        | (go_at_call 38; (with_reducible refine (inRange_yes a _ _ _ ha.1 ha.2).mono ?_); rintro e w' ⟨rfl, rfl⟩)
        | (go_at_call 38; (with_reducible refine (inRange_yes b _ _ _ hb.1 hb.2).mono ?_); rintro e w' ⟨rfl, rfl⟩))
      go_ret
      exact ⟨ret_bool HR.out.symm, rfl⟩
    · have HR : Hid (limB a b = false) := Lib.hid (decide_eq_false (fun h => hb h.2.2))
      have hb' : b < 0 ∨ 4 < b := by omega
      go_enter Try.func63, Try.ntmps63
      go_wp2_with (first
        | (go_at_call 38; (with_reducible refine (inRange_yes a _ _ _ ha.1 ha.2).mono ?_); rintro e w' ⟨rfl, rfl⟩)
        | (go_at_call 38; (with_reducible refine (inRange_no b _ _ _ hb').mono ?_); rintro e w' ⟨rfl, rfl⟩))
      go_ret
      exact ⟨ret_bool HR.out.symm, rfl⟩
  · have HR : Hid (limB a b = false) := Lib.hid (decide_eq_false (fun h => ha ⟨h.1, h.2.1⟩))
    have ha' : a < 0 ∨ 4 < a := by omega
    go_enter Try.func63, Try.ntmps63
    go_wp2_with (go_at_call 38; refine (inRange_no a _ _ _ ha').mono ?_; rintro e w' ⟨rfl, rfl⟩)
    go_ret
    exact ⟨ret_bool HR.out.symm, rfl⟩
end Go.Proofs.Ytgkghebjaedjmaa
namespace Go.Proofs.Ytgkghebjaedjmaa
open Go.RowKit NP
set_option maxRecDepth 8000
set_option linter.unusedVariables false
set_option linter.unusedSimpArgs false

theorem withMarked_any (j : Nat) (hj : j < 40) (w : World) :
    Calls Try.prog 80 #[.agg (arr (mkrow j)), .int .i64 ((j : Int) + 1)] w fun e w' => e = .returned (.agg (arr (mkrow (j + 1)))) ∧ Below w.heap.size w w' := by
  have hi1 : (Try.prog.info? 102).map (·.size) = some (arr (mkrow j)).size := by rw [arr_size, mkrow_len]; exact T_info41
  have hi2 : (Try.prog.info? 102).map (·.size) = some (arr (mkrow (j + 1))).size := by rw [arr_size, mkrow_len]; exact T_info41
  have hsz : (arr (mkrow (j + 1))).size = (arr (List.replicate 41 0)).size := by rw [arr_size, arr_size, mkrow_len]; rfl
  have hb0 := (Blk.new w 102 (arr (mkrow j))).alloc (.cells (arr (List.replicate 41 0)) 102)
  have hb1 := Blk.new (w.alloc (.cells (arr (mkrow j)) 102)) 102 (arr (List.replicate 41 0))
  rw [World.size_alloc] at hb1
  have hbel : Below w.heap.size w ((w.alloc (.cells (arr (mkrow j)) 102)).alloc (.cells (arr (List.replicate 41 0)) 102)) := ((Below.refl _ _).alloc (Nat.le_refl _) _).alloc (by simp) _
  have H1 := Lib.hid (fun w => withMany_any (mkrow j) (mkrow_len j) (j + 1) (by omega) (by omega) (mkrow_bd (by omega)) w)
  have H2 := Lib.hid (fun w => withOnce_any (wrow (mkrow j) (j + 1)) (wrow_len _ _) (j + 1) (by omega) (by omega) 1 (.inl rfl) (wmk_bd (by omega)) w)
  go_enter Try.func80, Try.ntmps80
  go_wp2_with (first
    | (refine wpList_store_row rfl 102 (.tmp 4) (.tmp 9) rfl (w.heap.size + 1) rfl (arr (mkrow (j + 1))) rfl 102 _ hb3 hi2 hsz (arr_one _) ?_)
    | (go_at_call 97; refine (H2.out _).mono ?_; rintro e w2 ⟨rfl, hbx⟩; have hb3 := hb2.below hbx hb2.lt; have hbel3 := hbel2.trans (hbx.mono hbel2.size))
    | (go_at_call 96; refine (H1.out _).mono ?_; rintro e w1 ⟨rfl, hbw⟩; have hb2 := hb1.below hbw hb1.lt; have hbel2 := hbel.trans (hbw.mono hbel.size))
    | (refine wpList_load_row rfl 102 (.tmp 2) rfl w.heap.size rfl 102 (arr (mkrow j)) (0, 0) _ hb0 Try.underlying102 rfl hi1 ?_))
  refine bodyPost_ret (results_cell_row rfl _ _ (w.heap.size + 1) 102 (arr (mkrow (j + 1))) (0, 0) _ rfl hb3.row Try.underlying102 rfl hi2) rfl ?_
  exact ⟨rfl, below_setRow' hbel3 (by omega) _⟩

theorem withColors_any (j : Nat) (hj : j < 16) (w : World) :
    Calls Try.prog 81 #[.agg (arr (plrow j)), .int .i64 ((j : Int) + 1)] w fun e w' => e = .returned (.agg (arr (plrow (j + 1)))) ∧ Below w.heap.size w w' := by
  have hlen : ∀ i, (wpow (plrow j) (j + 1) i).length = 41 := fun i => wpow_len (plrow_len j) _ _
  have hi : ∀ i, (Try.prog.info? 102).map (·.size) = some (arr (wpow (plrow j) (j + 1) i)).size := fun i => by rw [arr_size, hlen]; exact T_info41
  have hsz : ∀ i k, (arr (wpow (plrow j) (j + 1) i)).size = (arr (wpow (plrow j) (j + 1) k)).size := fun i k => by rw [arr_size, arr_size, hlen, hlen]
  have hsz0 : (arr (wpow (plrow j) (j + 1) (j + 1))).size = (arr (List.replicate 41 0)).size := by rw [arr_size, arr_size, hlen]; rfl
  have hb0 : Blk ((w.alloc (.cells (arr (plrow j)) 102)).alloc (.cells (arr (List.replicate 41 0)) 102)) w.heap.size 102 (arr (wpow (plrow j) (j + 1) 0)) := (Blk.new w 102 (arr (plrow j))).alloc (.cells (arr (List.replicate 41 0)) 102)
  have hb1 := Blk.new (w.alloc (.cells (arr (plrow j)) 102)) 102 (arr (List.replicate 41 0))
  rw [World.size_alloc] at hb1
  have hbel : Below w.heap.size w ((w.alloc (.cells (arr (plrow j)) 102)).alloc (.cells (arr (List.replicate 41 0)) 102)) := ((Below.refl _ _).alloc (Nat.le_refl _) _).alloc (by simp) _
  have HL := Lib.hid hlen
  have HI := Lib.hid hi
  have HZ := Lib.hid hsz
  clear hlen hi hsz
  go_enter Try.func81, Try.ntmps81
  go_wp2_with fail
  go_loopw [6] (fun i wr => ∃ k : Nat, k ≤ j + 1 ∧ i = .int .i64 k ∧ Below w.heap.size w wr ∧ Blk wr (w.heap.size + 1) 102 (arr (List.replicate 41 0)) ∧ Blk wr w.heap.size 102 (arr (wpow (plrow j) (j + 1) k))) (fun i _ => 50 - (intOf i).toNat)
  case atStart => exact ⟨0, Nat.zero_le _, rfl, hbel, hb1, hb0⟩
  case round =>
    clear hb0 hb1 hbel
    obtain ⟨k, hk, rfl, hbel, hb1, hb0⟩ := hrel
    have hik := HI.out k
    by_cases hlt : k < j + 1
    · have hlt' : (k : Int) < (j : Int) + 1 := by omega
      have hik1 := HI.out (k + 1)
      have hsz := HZ.out (k + 1) k
      have H1 := Lib.hid (fun w => withMany_any (wpow (plrow j) (j + 1) k) (HL.out k) (j + 1) (by omega) (by omega) (wpow_bd hj hlt) w)
      have HW : Hid (wrow (wpow (plrow j) (j + 1) k) (j + 1) = wpow (plrow j) (j + 1) (k + 1)) := Lib.hid rfl
      rw [HW.out] at H1
      go_wp2_with (first
        | (refine wpList_load_row rfl 102 (.tmp 2) rfl w.heap.size rfl 102 (arr (wpow (plrow j) (j + 1) k)) (0, 0) _ hb0 Try.underlying102 rfl hik ?_)
        | (go_at_call 96; refine (H1.out _).mono ?_; rintro e w1 ⟨rfl, hbw⟩; have hb0' := hb0.below hbw hb0.lt; have hb1' := hb1.below hbw hb1.lt; have hbel' := hbel.trans (hbw.mono hbel.size))
        | (refine wpList_store_row rfl 102 (.tmp 2) (.tmp 10) rfl w.heap.size rfl (arr (wpow (plrow j) (j + 1) (k + 1))) rfl 102 _ hb0' hik1 hsz (arr_one _) ?_))
      go_roundw
      case rel => exact ⟨k + 1, by omega, by go_num, below_setRow' hbel' (Nat.le_refl _) _, hb1'.rowOff (by omega), hb0'.row⟩
      case measure => simp [intOf]; omega
    · obtain rfl : k = j + 1 := by omega
      have hlt' : (j : Int) + 1 ≤ (j : Int) + 1 := by omega
      go_wp2_with (first
        | (refine wpList_load_row rfl 102 (.tmp 2) rfl w.heap.size rfl 102 (arr (wpow (plrow j) (j + 1) (j + 1))) (0, 0) _ hb0 Try.underlying102 rfl hik ?_)
        | (refine wpList_store_row rfl 102 (.tmp 4) (.tmp 12) rfl (w.heap.size + 1) rfl (arr (wpow (plrow j) (j + 1) (j + 1))) rfl 102 _ hb1 hik hsz0 (arr_one _) ?_))
      refine bodyPost_ret (results_cell_row rfl _ _ (w.heap.size + 1) 102 (arr (wpow (plrow j) (j + 1) (j + 1))) (0, 0) _ rfl hb1.row Try.underlying102 rfl hik) rfl ?_
      exact ⟨rfl, below_setRow' hbel (by omega) _⟩

theorem mkIn_any (n : Int) (w : World) : Calls Try.prog 125 #[.int .i64 n] w fun e w' => e = .returned (.bool (decide (0 ≤ n ∧ n ≤ 40))) ∧ w = w' := by
  by_cases h1 : 0 ≤ n
  · by_cases h2 : n ≤ 40
    · have HF := Lib.hid (decide_eq_true (And.intro h1 h2))
      rw [HF.out]
      have d1 : decide (0 ≤ n) = true := decide_eq_true h1
      have d2 : decide (n ≤ 40) = true := decide_eq_true h2
      go_enter Try.func125, Try.ntmps125
      go_wp2
      go_ret
      exact ⟨rfl, rfl⟩
    · have HF : Hid (decide (0 ≤ n ∧ n ≤ 40) = false) := Lib.hid (decide_eq_false (by omega))
      rw [HF.out]
      have d1 : decide (0 ≤ n) = true := decide_eq_true h1
      have d2 : decide (n ≤ 40) = false := decide_eq_false h2
      go_enter Try.func125, Try.ntmps125
      go_wp2
      go_ret
      exact ⟨rfl, rfl⟩
  · have HF : Hid (decide (0 ≤ n ∧ n ≤ 40) = false) := Lib.hid (decide_eq_false (by omega))
    rw [HF.out]
    have d1 : decide (0 ≤ n) = false := decide_eq_false h1
    go_enter Try.func125, Try.ntmps125
    go_wp2
    go_ret
    exact ⟨rfl, rfl⟩
theorem plIn_any (n : Int) (w : World) : Calls Try.prog 126 #[.int .i64 n] w fun e w' => e = .returned (.bool (decide (0 ≤ n ∧ n ≤ 16))) ∧ w = w' := by
  by_cases h1 : 0 ≤ n
  · by_cases h2 : n ≤ 16
    · have HF := Lib.hid (decide_eq_true (And.intro h1 h2))
      rw [HF.out]
      have d1 : decide (0 ≤ n) = true := decide_eq_true h1
      have d2 : decide (n ≤ 16) = true := decide_eq_true h2
      go_enter Try.func126, Try.ntmps126
      go_wp2
      go_ret
      exact ⟨rfl, rfl⟩
    · have HF : Hid (decide (0 ≤ n ∧ n ≤ 16) = false) := Lib.hid (decide_eq_false (by omega))
      rw [HF.out]
      have d1 : decide (0 ≤ n) = true := decide_eq_true h1
      have d2 : decide (n ≤ 16) = false := decide_eq_false h2
      go_enter Try.func126, Try.ntmps126
      go_wp2
      go_ret
      exact ⟨rfl, rfl⟩
  · have HF : Hid (decide (0 ≤ n ∧ n ≤ 16) = false) := Lib.hid (decide_eq_false (by omega))
    rw [HF.out]
    have d1 : decide (0 ≤ n) = false := decide_eq_false h1
    go_enter Try.func126, Try.ntmps126
    go_wp2
    go_ret
    exact ⟨rfl, rfl⟩

theorem ta_marked (v : Value) (w : World) : (Instr.typeAssert (.iface 72 v) 99 72 true).run Try.prog w = .ok (.tuple #[v, .bool true]) w := by kernel_rfl
theorem countOfMarked_any (n : Int) (w : World) : Calls Try.prog 53 #[.iface 72 (.int .i64 n)] w fun e w' => e = .returned (.int .i64 (mkF n)) ∧ Below w.heap.size w w' := by
  by_cases h : 0 ≤ n ∧ n ≤ 40
  · have HF : Hid (mkF n = (mkrow n.toNat).getD n.toNat 0) := Lib.hid (by unfold mkF; rw [if_pos h])
    rw [HF.out]
    have hd : decide (0 ≤ n ∧ n ≤ 40) = true := decide_eq_true h
    obtain ⟨k, rfl⟩ := Int.eq_ofNat_of_zero_le h.1
    have hk : k ≤ 40 := by omega
    rw [Int.toNat_natCast]
    have HIN := Lib.hid (fun w => mkIn_any (k : Int) w)
    rw [hd] at HIN
    clear h hd
    have H := Lib.hid (countsBy_any 80 (enters_of Try.func80 (by kernel_rfl) rfl) mkrow rfl mkrow_len k hk (fun j hj w1 => withMarked_any j (by omega) w1))
    have hix := fun w => T_index41 (mkrow k) k (by rw [mkrow_len]; omega) (by omega) w
    have hta := ta_marked
    go_enter Try.func53, Try.ntmps53
    go_wp2_with (first
      | (go_at_call 79; refine (H.out _).mono ?_; rintro e w1 ⟨rfl, hb⟩)
      | (go_at_call 125; refine (HIN.out _).mono ?_; rintro e w1 ⟨rfl, rfl⟩))
    go_ret
    exact ⟨ret_i64 (getD_lt (by rw [mkrow_len]; omega)).symm, hb⟩
  · have HF : Hid (mkF n = -1) := Lib.hid (by unfold mkF; rw [if_neg h])
    rw [HF.out]
    have hd : decide (0 ≤ n ∧ n ≤ 40) = false := decide_eq_false h
    have HIN := Lib.hid (fun w => mkIn_any n w)
    rw [hd] at HIN
    clear h hd
    go_enter Try.func53, Try.ntmps53
    go_wp2_with (go_at_call 125; refine (HIN.out _).mono ?_; rintro e w1 ⟨rfl, rfl⟩)
    go_ret
    exact ⟨rfl, Below.refl _ _⟩
theorem iCountMarked_any (n : Int) (w : World) : Calls Try.prog 19 #[.int .i64 n] w fun e w' => e = .returned (.int .i64 (mkF n)) ∧ Below w.heap.size w w' := by
  go_enter Try.func19, Try.ntmps19
  go_wp2_with (go_at_call 53; refine (countOfMarked_any n _).mono ?_; rintro e w1 ⟨rfl, hb⟩)
  go_ret
  exact ⟨rfl, hb⟩
theorem ta_pile (v : Value) (w : World) : (Instr.typeAssert (.iface 83 v) 99 83 true).run Try.prog w = .ok (.tuple #[v, .bool true]) w := by kernel_rfl
theorem ta_pile_no (v : Value) (w : World) : (Instr.typeAssert (.iface 83 v) 99 72 true).run Try.prog w = .ok (.tuple #[.int .i64 0, .bool false]) w := by kernel_rfl
theorem countOfPiles_any (n : Int) (w : World) : Calls Try.prog 53 #[.iface 83 (.int .i64 n)] w fun e w' => e = .returned (.int .i64 (plF n)) ∧ Below w.heap.size w w' := by
  by_cases h : 0 ≤ n ∧ n ≤ 16
  · have HF : Hid (plF n = (plrow n.toNat).getD n.toNat 0) := Lib.hid (by unfold plF; rw [if_pos h])
    rw [HF.out]
    have hd : decide (0 ≤ n ∧ n ≤ 16) = true := decide_eq_true h
    obtain ⟨k, rfl⟩ := Int.eq_ofNat_of_zero_le h.1
    have hk : k ≤ 16 := by omega
    rw [Int.toNat_natCast]
    have HIN := Lib.hid (fun w => plIn_any (k : Int) w)
    rw [hd] at HIN
    clear h hd
    have H := Lib.hid (countsBy_any 81 (enters_of Try.func81 (by kernel_rfl) rfl) plrow rfl plrow_len k (by omega) (fun j hj w1 => withColors_any j (by omega) w1))
    have hix := fun w => T_index41 (plrow k) k (by rw [plrow_len]; omega) (by omega) w
    have hta := ta_pile
    have htb := ta_pile_no
    go_enter Try.func53, Try.ntmps53
    go_wp2_with (first
      | (go_at_call 79; refine (H.out _).mono ?_; rintro e w1 ⟨rfl, hb⟩)
      | (go_at_call 126; refine (HIN.out _).mono ?_; rintro e w1 ⟨rfl, rfl⟩))
    go_ret
    exact ⟨ret_i64 (getD_lt (by rw [plrow_len]; omega)).symm, hb⟩
  · have HF : Hid (plF n = -1) := Lib.hid (by unfold plF; rw [if_neg h])
    rw [HF.out]
    have hd : decide (0 ≤ n ∧ n ≤ 16) = false := decide_eq_false h
    have HIN := Lib.hid (fun w => plIn_any n w)
    rw [hd] at HIN
    clear h hd
    go_enter Try.func53, Try.ntmps53
    go_wp2_with (go_at_call 126; refine (HIN.out _).mono ?_; rintro e w1 ⟨rfl, rfl⟩)
    go_ret
    exact ⟨rfl, Below.refl _ _⟩
theorem iCountPiles_any (n : Int) (w : World) : Calls Try.prog 29 #[.int .i64 n] w fun e w' => e = .returned (.int .i64 (plF n)) ∧ Below w.heap.size w w' := by
  go_enter Try.func29, Try.ntmps29
  go_wp2_with (go_at_call 53; refine (countOfPiles_any n _).mono ?_; rintro e w1 ⟨rfl, hb⟩)
  go_ret
  exact ⟨rfl, hb⟩
end Go.Proofs.Ytgkghebjaedjmaa
namespace Go.Proofs.Ytgkghebjaedjmaa
open Go.RowKit NP
set_option maxRecDepth 8000
set_option linter.unusedVariables false
set_option linter.unusedSimpArgs false
def limC (a b c : Int) : Bool := limB a b && decide (0 ≤ c ∧ c ≤ 4)
theorem limC_iff {a b c : Int} : limC a b c = true ↔ (0 ≤ a ∧ a ≤ 4) ∧ (0 ≤ b ∧ b ≤ 4) ∧ 0 ≤ c ∧ c ≤ 4 := by
  unfold limC limB
  simp only [Bool.and_eq_true, decide_eq_true_eq]
  constructor <;> (intro h; omega)
theorem bpF_out {a b c : Int} (h : limC a b c = false) : bpF a b c = -1 := by
  unfold bpF
  rw [if_neg]
  intro hh
  rw [limC_iff.2 hh] at h
  cases h
theorem common_any (a0 b0 : Nat) (ha : a0 ≤ 2305843009213693952) (hb : b0 ≤ 2305843009213693952) (w : World) :
    Calls Try.prog 64 #[.int .i64 a0, .int .i64 b0] w fun e w' => e = .returned (.int .i64 (Nat.gcd a0 b0 : Nat)) ∧ w' = w := by
  go_enter Try.func64, Try.ntmps64
  go_wp2_with fail
  go_loop [0, 1] (fun va vb => ∃ x y : Nat, va = .int .i64 x ∧ vb = .int .i64 y ∧ x ≤ 2305843009213693952 ∧ y ≤ 2305843009213693952 ∧ Hid (Nat.gcd x y = Nat.gcd a0 b0)) (fun _ vb => (intOf vb).toNat)
  case atStart => exact ⟨a0, b0, rfl, rfl, ha, hb, Lib.hid rfl⟩
  case round =>
    obtain ⟨x, y, rfl, rfl, hx, hy, HG⟩ := hrel
    by_cases h0 : 0 < y
    · have h0' : (0 : Int) < (y : Int) := by omega
      have hlt := Nat.mod_lt x h0
      obtain ⟨r, hr⟩ : ∃ r : Nat, r = x % y := ⟨_, rfl⟩
      have hmod : (x : Int).tmod (y : Int) = (r : Int) := by rw [hr, Int.tmod_eq_emod_of_nonneg (by omega)]; exact (Int.natCast_emod x y).symm
      have hmod2 : (x : Int) % (y : Int) = (r : Int) := by rw [hr]; exact (Int.natCast_emod x y).symm
      have HR : Hid (Nat.gcd y r = Nat.gcd a0 b0) := Lib.hid (by rw [← HG.out, hr, Nat.gcd_comm y, ← Nat.gcd_rec, Nat.gcd_comm])
      rw [← hr] at hlt
      clear hr HG
      go_wp2_with fail
      go_round
      case rel => exact ⟨y, r, rfl, rfl, hy, by omega, HR⟩
      case measure => simp [intOf]; omega
    · obtain rfl : y = 0 := by omega
      have HG' : Hid (((Nat.gcd a0 b0 : Nat) : Int) = (x : Int)) := Lib.hid (by rw [← HG.out, Nat.gcd_zero_right])
      go_wp2_with fail
      go_ret
      exact ⟨ret_i64 HG'.out.symm, rfl⟩
set_option maxHeartbeats 2000000 in
theorem sBoxPiles_any (a b c : Int) (w : World) :
    Calls Try.prog 32 #[.int .i64 a, .int .i64 b, .int .i64 c] w fun e w' => e = .returned (.int .i64 (bpF a b c)) ∧ w = w' := by
  cases hl : limC a b c with
  | false =>
    rw [bpF_out hl]
    cases hlb : limB a b with
    | false =>
      have HB := Lib.hid (fun w => validBox_any a b w)
      rw [hlb] at HB
      clear hl hlb
      go_enter Try.func32, Try.ntmps32
      go_wp2_with (go_at_call 63; refine (HB.out _).mono ?_; rintro e w1 ⟨rfl, rfl⟩)
      go_ret
      exact ⟨rfl, rfl⟩
    | true =>
      have HB := Lib.hid (fun w => validBox_any a b w)
      rw [hlb] at HB
      have H : Hid (c < 0 ∨ 4 < c) := Lib.hid (by
        unfold limC at hl
        rw [hlb, Bool.true_and] at hl
        have := of_decide_eq_false hl
        omega)
      clear hl hlb
      go_enter Try.func32, Try.ntmps32
      go_wp2_with (first
        | (go_at_call 38; refine (rngNo _ _ _ _ H.out).mono ?_; rintro e w1 ⟨rfl, rfl⟩)
        | (go_at_call 63; refine (HB.out _).mono ?_; rintro e w1 ⟨rfl, rfl⟩))
      go_ret
      exact ⟨rfl, rfl⟩
  | true =>
    obtain ⟨⟨ha0, ha4⟩, ⟨hb0, hb4⟩, hc0, hc4⟩ := limC_iff.1 hl
    have hlb : limB a b = true := by unfold limC at hl; rw [Bool.and_eq_true] at hl; exact hl.1
    have HB := Lib.hid (fun w => validBox_any a b w)
    rw [hlb] at HB
    have HF : Hid (bpF a b c = (smA b.toNat c.toNat a.toNat).1 / (smA b.toNat c.toNat a.toNat).2) := Lib.hid (by unfold bpF; rw [if_pos ⟨⟨ha0, ha4⟩, ⟨hb0, hb4⟩, hc0, hc4⟩, sm_bp _ (by omega) _ (by omega) _ (by omega)])
    rw [HF.out]
    clear HF hl hlb
    obtain ⟨a, rfl⟩ := Int.eq_ofNat_of_zero_le ha0
    obtain ⟨b, rfl⟩ := Int.eq_ofNat_of_zero_le hb0
    obtain ⟨c, rfl⟩ := Int.eq_ofNat_of_zero_le hc0
    simp only [Int.toNat_natCast]
    have ha : a ≤ 4 := by omega
    have hb : b ≤ 4 := by omega
    have hc : c ≤ 4 := by omega
    have HC := Lib.hid (And.intro hc0 hc4)
    clear ha0 ha4 hb0 hb4 hc0 hc4
    go_enter Try.func32, Try.ntmps32
    go_wp2_with (first
      | (go_at_call 38; refine (rngYes _ _ _ _ HC.out.1 HC.out.2).mono ?_; rintro e w1 ⟨rfl, rfl⟩)
      | (go_at_call 63; refine (HB.out _).mono ?_; rintro e w1 ⟨rfl, rfl⟩))
    go_loop [7, 8, 9] (fun vu vd vi => ∃ i : Nat, i ≤ a ∧ vi = .int .i64 ((i : Int) + 1) ∧ vu = .int .i64 (smA b c i).1 ∧ vd = .int .i64 (smA b c i).2) (fun _ _ vi => 20 - (intOf vi).toNat)
    case atStart => exact ⟨0, Nat.zero_le _, rfl, rfl, rfl⟩
    case round =>
      obtain ⟨i, hi, rfl, rfl, rfl⟩ := hrel
      by_cases hlt : i < a
      · have hlt' : (i : Int) + 1 ≤ (a : Int) := by omega
        have HT : Hid (smA b c (i + 1) = smR c i (smA b c i) b) := Lib.hid rfl
        go_wp2_with fail
        go_loop [7, 8, 10] (fun vu vd vk => ∃ k : Nat, k ≤ b ∧ vk = .int .i64 ((k : Int) + 1) ∧ vu = .int .i64 (smR c i (smA b c i) k).1 ∧ vd = .int .i64 (smR c i (smA b c i) k).2) (fun _ _ vk => 20 - (intOf vk).toNat)
        case atStart => exact ⟨0, Nat.zero_le _, rfl, rfl, rfl⟩
        case round =>
          obtain ⟨k, hk, rfl, rfl, rfl⟩ := hrel
          by_cases hlk : k < b
          · have hlk' : (k : Int) + 1 ≤ (b : Int) := by omega
            have hst := sm_step (b := b) (c := c) (i := i) (k := k) (by omega) (by omega) (by omega) (by omega)
            have HN : Hid (smR c i (smA b c i) (k + 1) = smS c i k (smR c i (smA b c i) k)) := Lib.hid rfl
            have hsm := sm_all b (by omega) c (by omega) i (by omega) k (by omega)
            obtain ⟨s, hs⟩ : ∃ s, s = smR c i (smA b c i) k := ⟨_, rfl⟩
            rw [← hs] at hst HN hsm ⊢
            obtain ⟨⟨hu0, hu1⟩, hd0, hd1⟩ := hst
            obtain ⟨u, hu⟩ : ∃ u, u = s.1 * ((i : Int) + 1 + ((k : Int) + 1) + (c : Int) - 1) := ⟨_, rfl⟩
            obtain ⟨d, hd⟩ : ∃ d, d = s.2 * ((i : Int) + 1 + ((k : Int) + 1) - 1) := ⟨_, rfl⟩
            have HU : Hid (smS c i k s = (u / (Nat.gcd u.toNat d.toNat : Int), d / (Nat.gcd u.toNat d.toNat : Int))) := Lib.hid (by rw [hu, hd]; rfl)
            rw [← hu] at hu0 hu1
            rw [← hd] at hd0 hd1
            have e1 : wrap64 (s.1 * ((i : Int) + 1 + ((k : Int) + 1) + (c : Int) - 1)) = u := by rw [← hu]; exact IntWalk.wrap64_in _ (by omega)
            have e2 : IntKind.i64.wrap (s.1 * ((i : Int) + 1 + ((k : Int) + 1) + (c : Int) - 1)) = u := by rw [← hu]; exact IntWalk.i64_in _ (by omega)
            have e3 : wrap64 (s.2 * ((i : Int) + 1 + ((k : Int) + 1) - 1)) = d := by rw [← hd]; exact IntWalk.wrap64_in _ (by omega)
            have e4 : IntKind.i64.wrap (s.2 * ((i : Int) + 1 + ((k : Int) + 1) - 1)) = d := by rw [← hd]; exact IntWalk.i64_in _ (by omega)
            clear hu hd hs
            obtain ⟨U, rfl⟩ := Int.eq_ofNat_of_zero_le (show 0 ≤ u by omega)
            obtain ⟨D, rfl⟩ := Int.eq_ofNat_of_zero_le (show 0 ≤ d by omega)
            simp only [Int.toNat_natCast] at HU
            have hg0 : 0 < Nat.gcd U D := Nat.gcd_pos_of_pos_left _ (by omega)
            have hgl : Nat.gcd U D ≤ U := Nat.gcd_le_left _ (by omega)
            have HG := Lib.hid (fun w => common_any U D (by omega) (by omega) w)
            obtain ⟨g, hg⟩ : ∃ g, g = Nat.gcd U D := ⟨_, rfl⟩
            rw [← hg] at hg0 hgl HU HG
            have q1 : (U : Int).tdiv (g : Int) = ((U / g : Nat) : Int) := by rw [Int.tdiv_eq_ediv_of_nonneg (by omega)]; rfl
            have q2 : (D : Int).tdiv (g : Int) = ((D / g : Nat) : Int) := by rw [Int.tdiv_eq_ediv_of_nonneg (by omega)]; rfl
            have hq1 : U / g ≤ U := Nat.div_le_self _ _
            have hq2 : D / g ≤ D := Nat.div_le_self _ _
            have HX : Hid (smS c i k s = (((U / g : Nat) : Int), ((D / g : Nat) : Int))) := HU
            have hgz : ((g : Int) == 0) = false := beq_eq_false_iff_ne.2 (by omega)
            have hgz2 : ¬ ((g : Int) = 0) := by omega
            have hgz3 : ¬ (g = 0) := by omega
            clear hg HU
            obtain ⟨x, hx⟩ : ∃ x : Nat, x = U / g := ⟨_, rfl⟩
            obtain ⟨y, hy⟩ : ∃ y : Nat, y = D / g := ⟨_, rfl⟩
            rw [← hx] at q1 hq1 HX
            rw [← hy] at q2 hq2 HX
            have q3 : (U : Int) / (g : Int) = (x : Int) := by rw [hx]; rfl
            have q4 : (D : Int) / (g : Int) = (y : Int) := by rw [hy]; rfl
            clear hx hy
            go_wp2_with (go_at_call 64; refine (HG.out _).mono ?_; rintro e w1 ⟨rfl, rfl⟩)
            go_round
            case rel => exact ⟨k + 1, by omega, by go_num, by rw [HN.out, HX.out], by rw [HN.out, HX.out]⟩
            case measure => simp [intOf]; omega
          · obtain rfl : k = b := by omega
            have hlk' : (k : Int) < (k : Int) + 1 := by omega
            rw [← HT.out]
            go_wp2_with fail
            go_round
            case rel => exact ⟨i + 1, by omega, by go_num, rfl, rfl⟩
            case measure => simp [intOf]; omega
      · obtain rfl : i = a := by omega
        have hlt' : (i : Int) < (i : Int) + 1 := by omega
        have hsm := sm_all b (by omega) c (by omega) i (by omega) 0 (by omega)
        rw [show smR c i (smA b c i) 0 = smA b c i from rfl] at hsm
        obtain ⟨s, hs⟩ : ∃ s, s = smA b c i := ⟨_, rfl⟩
        rw [← hs] at hsm ⊢
        obtain ⟨⟨h1, h2⟩, h3, h4⟩ := hsm
        obtain ⟨x, y⟩ := s
        simp only at h1 h2 h3 h4 ⊢
        have q1 : x.tdiv y = x / y := Int.tdiv_eq_ediv_of_nonneg (by omega)
        have hq0 : 0 ≤ x / y := Int.ediv_nonneg (by omega) (by omega)
        have hq1 : x / y ≤ x := Int.ediv_le_self _ (by omega)
        have hyz : (y == 0) = false := beq_eq_false_iff_ne.2 (by omega)
        have hyz2 : ¬ (y = 0) := by omega
        have HE : Hid ((smA b c i).1 / (smA b c i).2 = x / y) := Lib.hid (by rw [← hs])
        clear hs
        go_wp2_with fail
        go_ret
        exact ⟨ret_i64 HE.out.symm, rfl⟩
theorem tallIn_any (a b c : Int) (w : World) :
    Calls Try.prog 127 #[.agg #[.int .i64 a, .int .i64 b, .int .i64 c]] w fun e w' => e = .returned (.bool (limC a b c)) ∧ Below w.heap.size w w' := by
  have HL := Lib.hid (fun w => isInLimits_any a b w)
  have hA := (Below.refl w.heap.size w).alloc (Nat.le_refl _) (.cells #[.int .i64 a, .int .i64 b, .int .i64 c] 87)
  have hb0 := Blk.new w 87 #[.int .i64 a, .int .i64 b, .int .i64 c]
  cases hlb : limB a b with
  | false =>
    have HE : Hid (limC a b c = false) := Lib.hid (by unfold limC; rw [hlb]; rfl)
    rw [hlb] at HL
    rw [HE.out]
    clear hlb
    go_enter Try.func127, Try.ntmps127
    go_wp2_with (go_at_call 90; refine (HL.out _).mono ?_; rintro e w1 ⟨rfl, hb⟩; have hA1 := hA.trans (hb.mono hA.size))
    go_ret
    exact ⟨rfl, hA1⟩
  | true =>
    rw [hlb] at HL
    by_cases h1 : 0 ≤ c
    · have d1 : decide (0 ≤ c) = true := decide_eq_true h1
      by_cases h2 : c ≤ 4
      · have d2 : decide (c ≤ 4) = true := decide_eq_true h2
        have HE : Hid (limC a b c = true) := Lib.hid (by unfold limC; rw [hlb, decide_eq_true (And.intro h1 h2)]; rfl)
        rw [HE.out]
        clear hlb
        go_enter Try.func127, Try.ntmps127
        go_wp2_with (go_at_call 90; refine (HL.out _).mono ?_; rintro e w1 ⟨rfl, hb⟩; have hA1 := hA.trans (hb.mono hA.size); have hc1 : w1.cell? ⟨w.heap.size, 2, none⟩ = some (.int .i64 c) := (hb.cell (p := ⟨w.heap.size, 2, none⟩) (by simp)).trans (by rw [hb0.cell 2]; rfl))
        go_ret
        exact ⟨rfl, hA1⟩
      · have d2 : decide (c ≤ 4) = false := decide_eq_false h2
        have HE : Hid (limC a b c = false) := Lib.hid (by unfold limC; rw [hlb, decide_eq_false (by omega)]; rfl)
        rw [HE.out]
        clear hlb
        go_enter Try.func127, Try.ntmps127
        go_wp2_with (go_at_call 90; refine (HL.out _).mono ?_; rintro e w1 ⟨rfl, hb⟩; have hA1 := hA.trans (hb.mono hA.size); have hc1 : w1.cell? ⟨w.heap.size, 2, none⟩ = some (.int .i64 c) := (hb.cell (p := ⟨w.heap.size, 2, none⟩) (by simp)).trans (by rw [hb0.cell 2]; rfl))
        go_ret
        exact ⟨rfl, hA1⟩
    · have d1 : decide (0 ≤ c) = false := decide_eq_false h1
      have HE : Hid (limC a b c = false) := Lib.hid (by unfold limC; rw [hlb, decide_eq_false (by omega)]; rfl)
      rw [HE.out]
      clear hlb
      go_enter Try.func127, Try.ntmps127
      go_wp2_with (go_at_call 90; refine (HL.out _).mono ?_; rintro e w1 ⟨rfl, hb⟩; have hA1 := hA.trans (hb.mono hA.size); have hc1 : w1.cell? ⟨w.heap.size, 2, none⟩ = some (.int .i64 c) := (hb.cell (p := ⟨w.heap.size, 2, none⟩) (by simp)).trans (by rw [hb0.cell 2]; rfl))
      go_ret
      exact ⟨rfl, hA1⟩
set_option maxHeartbeats 1000000 in
theorem tallCount_any (a b c : Nat) (ha : a ≤ 4) (hb : b ≤ 4) (hc : c ≤ 4) (w : World) :
    Calls Try.prog 82 #[.agg #[.int .i64 a, .int .i64 b, .int .i64 c]] w fun e w' => e = .returned (.int .i64 ((bpA b c a).1 / (bpA b c a).2)) ∧ Below w.heap.size w w' := by
  have hA := (Below.refl w.heap.size w).alloc (Nat.le_refl _) (.cells #[.int .i64 a, .int .i64 b, .int .i64 c] 87)
  have hb0 := Blk.new w 87 #[.int .i64 a, .int .i64 b, .int .i64 c]
  obtain ⟨W, hW⟩ : ∃ W, W = w.alloc (.cells #[.int .i64 a, .int .i64 b, .int .i64 c] 87) := ⟨_, rfl⟩
  have hc1 : W.cell? ⟨w.heap.size, 1, none⟩ = some (.int .i64 b) := by rw [hW, hb0.cell 1]; rfl
  have hc2 : W.cell? ⟨w.heap.size, 2, none⟩ = some (.int .i64 c) := by rw [hW, hb0.cell 2]; rfl
  have hA' : Below w.heap.size w W := by rw [hW]; exact hA
  clear hb0 hA
  go_enter Try.func82, Try.ntmps82
  go_wp2_with fail
  rw [← hW]
  clear hW
  go_loop [3, 4, 10] (fun vu vd vi => ∃ i : Nat, i ≤ a ∧ vi = .int .i64 i ∧ vu = .int .i64 (bpA b c i).1 ∧ vd = .int .i64 (bpA b c i).2) (fun _ _ vi => 20 - (intOf vi).toNat)
  case atStart => exact ⟨0, Nat.zero_le _, rfl, rfl, rfl⟩
  case round =>
    obtain ⟨i, hi, rfl, rfl, rfl⟩ := hrel
    by_cases hlt : i < a
    · have hlt' : (i : Int) < (a : Int) := by omega
      have HT : Hid (bpA b c (i + 1) = bpR c i (bpA b c i) b) := Lib.hid rfl
      go_wp2_with fail
      go_loop [3, 4, 16] (fun vu vd vk => ∃ k : Nat, k ≤ b ∧ vk = .int .i64 k ∧ vu = .int .i64 (bpR c i (bpA b c i) k).1 ∧ vd = .int .i64 (bpR c i (bpA b c i) k).2) (fun _ _ vk => 20 - (intOf vk).toNat)
      case atStart => exact ⟨0, Nat.zero_le _, rfl, rfl, rfl⟩
      case round =>
        obtain ⟨k, hk, rfl, rfl, rfl⟩ := hrel
        by_cases hlk : k < b
        · have hlk' : (k : Int) < (b : Int) := by omega
          have hsn := bp_all b (by omega) c (by omega) i (by omega) (k + 1) (by omega)
          have HN : Hid (bpR c i (bpA b c i) (k + 1) = ((bpR c i (bpA b c i) k).1 * ((i : Int) + k + 1 + c), (bpR c i (bpA b c i) k).2 * ((i : Int) + k + 1))) := Lib.hid rfl
          rw [HN.out] at hsn
          obtain ⟨s, hs⟩ : ∃ s, s = bpR c i (bpA b c i) k := ⟨_, rfl⟩
          rw [← hs] at HN hsn ⊢
          obtain ⟨⟨hu0, hu1⟩, hd0, hd1⟩ := hsn
          simp only at hu0 hu1 hd0 hd1
          obtain ⟨u, hu⟩ : ∃ u, u = s.1 * ((i : Int) + (k : Int) + 1 + (c : Int)) := ⟨_, rfl⟩
          obtain ⟨d, hd⟩ : ∃ d, d = s.2 * ((i : Int) + (k : Int) + 1) := ⟨_, rfl⟩
          rw [← hu] at hu0 hu1 HN
          rw [← hd] at hd0 hd1 HN
          have e1 : wrap64 (s.1 * ((i : Int) + (k : Int) + 1 + (c : Int))) = u := by rw [← hu]; exact IntWalk.wrap64_in _ (by omega)
          have e2 : IntKind.i64.wrap (s.1 * ((i : Int) + (k : Int) + 1 + (c : Int))) = u := by rw [← hu]; exact IntWalk.i64_in _ (by omega)
          have e3 : wrap64 (s.2 * ((i : Int) + (k : Int) + 1)) = d := by rw [← hd]; exact IntWalk.wrap64_in _ (by omega)
          have e4 : IntKind.i64.wrap (s.2 * ((i : Int) + (k : Int) + 1)) = d := by rw [← hd]; exact IntWalk.i64_in _ (by omega)
          clear hu hd hs
          go_wp2_with fail
          go_round
          case rel => exact ⟨k + 1, by omega, by go_num, by rw [HN.out], by rw [HN.out]⟩
          case measure => simp [intOf]; omega
        · obtain rfl : k = b := by omega
          have hlk' : (k : Int) ≤ (k : Int) := Int.le_refl _
          rw [← HT.out]
          go_wp2_with fail
          go_round
          case rel => exact ⟨i + 1, by omega, by go_num, rfl, rfl⟩
          case measure => simp [intOf]; omega
    · obtain rfl : i = a := by omega
      have hlt' : (i : Int) ≤ (i : Int) := Int.le_refl _
      have hsm : (1 ≤ (bpA b c i).1 ∧ (bpA b c i).1 ≤ 1152921504606846976) ∧ 1 ≤ (bpA b c i).2 ∧ (bpA b c i).2 ≤ 1152921504606846976 := by
        cases i with
        | zero => simp [bpA]
        | succ i => exact bp_all b (by omega) c (by omega) i (by omega) b (by omega)
      obtain ⟨s, hs⟩ : ∃ s, s = bpA b c i := ⟨_, rfl⟩
      rw [← hs] at hsm ⊢
      obtain ⟨⟨h1, h2⟩, h3, h4⟩ := hsm
      obtain ⟨x, y⟩ := s
      simp only at h1 h2 h3 h4 ⊢
      have q1 : x.tdiv y = x / y := Int.tdiv_eq_ediv_of_nonneg (by omega)
      have hq0 : 0 ≤ x / y := Int.ediv_nonneg (by omega) (by omega)
      have hq1 : x / y ≤ x := Int.ediv_le_self _ (by omega)
      have hyz : (y == 0) = false := beq_eq_false_iff_ne.2 (by omega)
      have hyz2 : ¬ (y = 0) := by omega
      have HE : Hid ((bpA b c i).1 / (bpA b c i).2 = x / y) := Lib.hid (by rw [← hs])
      clear hs
      go_wp2_with fail
      go_ret
      exact ⟨ret_i64 HE.out.symm, hA'⟩
theorem ta_box (v : Value) (w : World) : (Instr.typeAssert (.iface 87 v) 99 87 true).run Try.prog w = .ok (.tuple #[v, .bool true]) w := by kernel_rfl
theorem ta_box_no (v : Value) (w : World) : (Instr.typeAssert (.iface 87 v) 99 72 true).run Try.prog w = .ok (.tuple #[.int .i64 0, .bool false]) w := by kernel_rfl
theorem ta_box_no2 (v : Value) (w : World) : (Instr.typeAssert (.iface 87 v) 99 83 true).run Try.prog w = .ok (.tuple #[.int .i64 0, .bool false]) w := by kernel_rfl
theorem T_tall : (Try.prog.info? 87).map (·.size) = some 3 := by kernel_rfl
theorem countOfBox_any (a b c : Int) (w : World) : Calls Try.prog 53 #[.iface 87 (.agg #[.int .i64 a, .int .i64 b, .int .i64 c])] w fun e w' => e = .returned (.int .i64 (bpF a b c)) ∧ Below w.heap.size w w' := by
  have HIN := Lib.hid (fun w => tallIn_any a b c w)
  cases hl : limC a b c with
  | false =>
    rw [bpF_out hl]
    rw [hl] at HIN
    clear hl
    go_enter Try.func53, Try.ntmps53
    go_wp2_with (go_at_call 127; refine (HIN.out _).mono ?_; rintro e w1 ⟨rfl, hb⟩)
    go_ret
    exact ⟨rfl, hb⟩
  | true =>
    rw [hl] at HIN
    obtain ⟨⟨ha0, ha4⟩, ⟨hb0, hb4⟩, hc0, hc4⟩ := limC_iff.1 hl
    have HF : Hid (bpF a b c = (bpA b.toNat c.toNat a.toNat).1 / (bpA b.toNat c.toNat a.toNat).2) := Lib.hid (by unfold bpF; rw [if_pos ⟨⟨ha0, ha4⟩, ⟨hb0, hb4⟩, hc0, hc4⟩])
    rw [HF.out]
    clear HF hl
    obtain ⟨a, rfl⟩ := Int.eq_ofNat_of_zero_le ha0
    obtain ⟨b, rfl⟩ := Int.eq_ofNat_of_zero_le hb0
    obtain ⟨c, rfl⟩ := Int.eq_ofNat_of_zero_le hc0
    simp only [Int.toNat_natCast]
    have HC := Lib.hid (fun w => tallCount_any a b c (by omega) (by omega) (by omega) w)
    clear ha0 ha4 hb0 hb4 hc0 hc4
    have t1 := ta_box
    have t2 := ta_box_no
    have t3 := ta_box_no2
    go_enter Try.func53, Try.ntmps53
    go_wp2_with (first
      | (go_at_call 82; refine (HC.out _).mono ?_; rintro e w2 ⟨rfl, hb2⟩)
      | (go_at_call 127; refine (HIN.out _).mono ?_; rintro e w1 ⟨rfl, hb⟩; have hnew := Blk.new w1 87 #[.int .i64 0, .int .i64 0, .int .i64 0])
      | (refine wpList_store_row rfl 87 (.tmp 5) (.tmp 25) rfl w1.heap.size rfl #[.int .i64 a, .int .i64 b, .int .i64 c] rfl 87 _ hnew T_tall rfl (by simp; rfl) ?_; have hrow := hnew.row (vs := #[Value.int .i64 (a : Int), Value.int .i64 (b : Int), Value.int .i64 (c : Int)]))
      | (refine wpList_load_row rfl 87 (.tmp 5) rfl w1.heap.size rfl 87 #[.int .i64 a, .int .i64 b, .int .i64 c] (0, 0) _ hrow Try.underlying87 rfl T_tall ?_))
    go_ret
    have hA := hb.alloc hb.size (.cells #[.int .i64 (a : Int), .int .i64 (b : Int), .int .i64 (c : Int)] 87)
    exact ⟨rfl, hA.trans (hb2.mono hA.size)⟩
theorem iBoxPiles_any (a b c : Int) (w : World) :
    Calls Try.prog 31 #[.int .i64 a, .int .i64 b, .int .i64 c] w fun e w' => e = .returned (.int .i64 (bpF a b c)) ∧ Below w.heap.size w w' := by
  go_enter Try.func31, Try.ntmps31
  go_wp2_with (go_at_call 53; refine (countOfBox_any a b c _).mono ?_; rintro e w1 ⟨rfl, hb⟩)
  go_ret
  exact ⟨rfl, hb⟩
end Go.Proofs.Ytgkghebjaedjmaa
