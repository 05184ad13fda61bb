/-
  Walks: the exported functions of chapter 1 on one list of numbers, of the model (spec) and of the program (impl): valid, sum, conjugate, durfee. Walks: the program's boxes. Walks: parts in a box, by the program. Tables: boxes. Opposites of parts in a box. Plain mathematics of times and corners. Plain mathematics of corners, diagonals, cells taken away and put. Plain mathematics of cells taken away and put. Plain mathematics of added parts. Plain mathematics of diagonals.
-/
import Derived.Test.YtgkghebjaedjmaaZF1
import Derived.Deep.RegionHeld3
import Derived.Deep.MidRow
import Derived.StillTailTactics
import Derived.RegionTactic
namespace Go.Proofs.Ytgkghebjaedjmaa
open Go.RowKit NP
set_option maxRecDepth 8000
set_option linter.unusedVariables false

def sumF (L : List Int) : Int := if valid L then sumL L else -1
theorem sumF_yes {L : List Int} (h : valid L = true) : sumF L = sumL L := by simp [sumF, h]
theorem sumF_no {L : List Int} (h : valid L = false) : sumF L = -1 := by simp [sumF, h]
def durF (L : List Int) : Int := if valid L then durS L else -1
theorem durF_yes {L : List Int} (h : valid L = true) : durF L = durS L := by simp [durF, h]
theorem durF_no {L : List Int} (h : valid L = false) : durF L = -1 := by simp [durF, h]
def conjF (L : List Int) : List Int := if valid L then conj L else []
theorem conjF_yes {L : List Int} (h : valid L = true) : conjF L = conj L := by simp [conjF, h]
theorem conjF_no {L : List Int} (h : valid L = false) : conjF L = [] := by simp [conjF, h]
theorem conjF_len (L : List Int) : (conjF L).length ≤ 16 := by
  unfold conjF
  split
  · rename_i h
    rw [conj_len]
    have := headD_bd h
    omega
  · simp
theorem sumF_conjF {L : List Int} (h : valid L = true) : sumF (conjF L) = sumL L := by
  rw [conjF_yes h, sumF_yes (valid_conj h), sumL_conj h]
theorem valid_fits {L : List Int} (h : valid L = true) : sumFits L := fun k hk => by
  have := preS_sum (preS_of_valid h) k hk
  have := (valid_bd h).2.2.2
  omega
theorem sumL_zeros (n : Nat) : sumL (List.replicate n 0) = 0 := by
  induction n with
  | zero => rfl
  | succ n ih => rw [List.replicate_succ, sumL, ih]; rfl
theorem sumL_pad (L : List Int) : sumL (pad L) = sumL L := by unfold pad; rw [sumL_append, sumL_zeros]; omega
theorem pad_nonneg {L : List Int} (h : valid L = true) : ∀ k (hk : k < (pad L).length), 0 ≤ (pad L)[k] ∧ (pad L)[k] ≤ 16 := by
  intro k hk
  have hl := (valid_bd h).2.2.2
  rw [pad_len hl] at hk
  by_cases h1 : k < L.length
  · rw [pad_get hl h1]
    have := preS_of_valid h k h1 h1
    omega
  · rw [pad_get0 hl (by omega) hk]; omega
theorem pad_fits {L : List Int} (h : valid L = true) : sumFits (pad L) := by
  have hl := (valid_bd h).2.2.2
  have key : ∀ k, k ≤ (pad L).length → 0 ≤ sumL ((pad L).take k) ∧ sumL ((pad L).take k) ≤ 16 * k := by
    intro k
    induction k with
    | zero => intro _; simp [sumL]
    | succ k ih =>
      intro hk
      have := ih (by omega)
      have h1 := pad_nonneg h k (by omega)
      rw [sumL_take_succ _ k (by omega)]
      omega
  intro k hk
  have := key k hk
  rw [pad_len hl] at hk
  omega
theorem durD_pad {L : List Int} (h : valid L = true) : durD (pad L) = durS L := by
  have hl := (valid_bd h).2.2.2
  have hn : ∀ j, j ≤ L.length → (∀ i, i < j → decide ((i : Int) < L.getD i 0) = true) → (j = L.length ∨ decide ((j : Int) < L.getD j 0) = false) → durD (pad L) = j ∧ durS L = j := by
    intro j hj hp hq
    refine ⟨ff_eq (fun i hi => ?_) (by omega) ?_, ff_eq hp hj hq⟩
    · have := hp i hi
      rw [List.getD_eq_getElem?_getD, List.getElem?_eq_getElem (by omega), Option.getD_some] at this
      rw [List.getD_eq_getElem?_getD, List.getElem?_eq_getElem (by rw [pad_len hl]; omega), Option.getD_some, pad_get hl (by omega)]
      exact this
    · rcases Nat.lt_or_ge j 16 with h16 | h16
      · right
        rw [List.getD_eq_getElem?_getD, List.getElem?_eq_getElem (by rw [pad_len hl]; omega), Option.getD_some]
        rcases Nat.lt_or_ge j L.length with hjl | hjl
        · rw [pad_get hl hjl]
          rcases hq with hq | hq
          · omega
          · rw [List.getD_eq_getElem?_getD, List.getElem?_eq_getElem (by omega), Option.getD_some] at hq
            exact hq
        · rw [pad_get0 hl hjl h16]; simp
      · left; omega
  have ex : ∀ n, n ≤ L.length → (∀ i, i < n → decide ((i : Int) < L.getD i 0) = true) ∨ ∃ j, j < n ∧ (∀ i, i < j → decide ((i : Int) < L.getD i 0) = true) ∧ decide ((j : Int) < L.getD j 0) = false := by
    intro n
    induction n with
    | zero => intro _; left; intro i hi; omega
    | succ n ih =>
      intro hn
      rcases ih (by omega) with h1 | ⟨j, hj, h1, h2⟩
      · cases hd : decide ((n : Int) < L.getD n 0) with
        | true =>
          left
          intro i hi
          rcases Nat.lt_or_ge i n with h3 | h3
          · exact h1 i h3
          · obtain rfl : i = n := by omega
            exact hd
        | false => right; exact ⟨n, by omega, h1, hd⟩
      · right; exact ⟨j, by omega, h1, h2⟩
  rcases ex L.length (Nat.le_refl _) with h1 | ⟨j, hj, h1, h2⟩
  · have := hn L.length (Nat.le_refl _) h1 (.inl rfl)
    rw [this.1, this.2]
  · have := hn j (by omega) h1 (.inr h2)
    rw [this.1, this.2]





theorem dg_len (L : List Int) : (dg L).length = 16 := by
  unfold dg
  split
  · exact pad_len (valid_bd ‹_›).2.2.2
  · rfl







end Go.Proofs.Ytgkghebjaedjmaa
namespace Go.Proofs.Ytgkghebjaedjmaa
open Go.RowKit NP
set_option maxRecDepth 8000
set_option linter.unusedVariables false
set_option linter.unusedSimpArgs false
theorem Blk.rangeB {w : World} {g : Nat} {t : TypeId} {vs : List Value} (h : Blk w g t vs.toArray) : w.rangeAt g 0 vs := fun j v hv => by
  rw [Nat.zero_add, h.cell j]; simpa using hv
theorem cnt_padB {M : List Int} (hM : valid M = true) : cntD (pad M) = M.length := by
  have hlen : M.length ≤ 16 := (valid_bd hM).2.2.2
  unfold cntD
  refine ff_eq (fun j hj => ?_) hlen ?_
  · have h1 := preS_of_valid hM j hj hj
    rw [List.getD_eq_getElem?_getD, List.getElem?_eq_getElem (by rw [pad_len hlen]; omega), Option.getD_some, pad_get hlen hj]
    simp; omega
  · rcases Nat.lt_or_ge M.length 16 with h | h
    · right
      rw [List.getD_eq_getElem?_getD, List.getElem?_eq_getElem (by rw [pad_len hlen]; omega), Option.getD_some, pad_get0 hlen (Nat.le_refl _) h]
      simp
    · left; omega
theorem rng_ofB {w : World} {g : Nat} {t : TypeId} {D : List Int} (h : Blk w g t (arr D)) : w.rangeAt g 0 (ints D) := Blk.rangeB (vs := ints D) h
theorem range_belowB {w w' : World} {b o : Nat} {cs : List Value} (h : w.rangeAt b o cs) (hb : Below w.heap.size w w') : w'.rangeAt b o cs := fun j v hv => by
  have := h j v hv
  exact (hb.cell (p := ⟨b, o + j, none⟩) (World.block_lt_of_cell? w _ this)).trans this
theorem cell_below {w w' : World} {p : Addr} {v : Value} (h : w.cell? p = some v) (hb : Below w.heap.size w w') : w'.cell? p = some v := (hb.cell (World.block_lt_of_cell? w _ h)).trans h
set_option maxHeartbeats 1000000 in
theorem holds_any (a b : Int) (P : List Int) (hv : valid P = true) (w : World) :
    Calls Try.prog 91 #[.agg #[.int .i64 a, .int .i64 b], .agg (arr (pad P))] w fun e w' => e = .returned (.bool (decide ((P.length : Int) ≤ a ∧ P.headD 0 ≤ b))) ∧ Below w.heap.size w w' := by
  have hl16 := (valid_bd hv).2.2.2
  have HC := Lib.hid (cnt_padB hv)
  have HPL := Lib.hid (pad_len hl16)
  have hu := Try.underlying60
  have hiL : (Try.prog.info? 60).map (·.size) = some (ints (pad P)).length := by rw [List.length_map, HPL.out]; exact T_info35
  obtain ⟨x, hx⟩ : ∃ x, x = P.headD 0 := ⟨_, rfl⟩
  have hx0 : (ints (pad P))[0]? = some (.int .i64 x) := by
    rw [hx]
    cases P with
    | nil => rfl
    | cons y P => rfl
  have HX : Hid (∀ {u : World}, u.rangeAt (w.heap.size + 1) 0 (ints (pad P)) → u.cell? ⟨w.heap.size + 1, 0, none⟩ = some (.int .i64 x)) := Lib.hid (fun h => h 0 _ hx0)
  have hr0 : ((w.alloc (.cells #[.int .i64 a, .int .i64 b] 85)).alloc (.cells (arr (pad P)) 60)).rangeAt (w.heap.size + 1) 0 (ints (pad P)) := by
    have := rng_ofB (Blk.new (w.alloc (.cells #[.int .i64 a, .int .i64 b] 85)) 60 (arr (pad P)))
    rwa [World.size_alloc] at this
  have hbx := (Blk.new w 85 #[.int .i64 a, .int .i64 b]).alloc (.cells (arr (pad P)) 60)
  have ha0 := hbx.cell 0
  have hb0 := hbx.cell 1
  simp only [List.getElem?_toArray, List.getElem?_cons_zero, List.getElem?_cons_succ] at ha0 hb0
  have hbel0 := ((Below.refl w.heap.size w).alloc (Nat.le_refl _) (.cells #[.int .i64 a, .int .i64 b] 85)).alloc (by simp) (.cells (arr (pad P)) 60)
  rw [← hx]
  clear hv hbx hx hx0
  by_cases h : (P.length : Int) ≤ a
  · have hd1 : decide ((P.length : Int) ≤ a) = true := decide_eq_true h
    have HV : Hid (decide ((P.length : Int) ≤ a ∧ x ≤ b) = decide (x ≤ b)) := Lib.hid (by simp [h])
    clear h
    go_enter Try.func91, Try.ntmps91
    go_wp2
    refine wp_region_held_drew (S := fun w' => w'.rangeAt (w.heap.size + 1) 0 (ints (pad P)) ∧ w'.cell? ⟨w.heap.size, 0, none⟩ = some (.int .i64 a) ∧ w'.cell? ⟨w.heap.size, 1, none⟩ = some (.int .i64 b) ∧ Below w.heap.size w w') (by kernel_rfl) ⟨hr0, ha0, hb0, hbel0.trans ((Dr.n _ 1).below _)⟩ (fun hHeld => ?_)
    refine wpAnyH_take (i := 0) (v := _) (by simp only [List.getElem?_toArray, List.getElem?_cons_succ, List.getElem?_cons_zero]; exact rfl) (by kernel_rfl) (by kernel_rfl) (by kernel_rfl) (by intro _ _ _ h; exact h) (yieldsIf_load_mid (by kernel_rfl) _ _ rfl (w.heap.size + 1) 0 rfl (ints (pad P)) _ (fun _ hw => hw.1) hu rfl hiL) (by assumption) ?_
    simp only [Act.put, List.setIfInBounds_toArray, List.set_cons_zero, List.set_cons_succ, List.toList_toArray]
    refine wpAnyH_take (i := 2) (v := .pointer (some ⟨w.heap.size, 0, none⟩)) (by simp only [List.getElem?_toArray, List.getElem?_cons_succ, List.getElem?_cons_zero]; exact rfl) (by kernel_rfl) (by kernel_rfl) (by kernel_rfl) (by intro _ _ _ h; exact h) (Or.inl ⟨by kernel_rfl, by intro w hSw; go_simp⟩) (by assumption) ?_
    simp only [Act.put, List.setIfInBounds_toArray, List.set_cons_zero, List.set_cons_succ, List.toList_toArray]
    refine wpAnyH_take (i := 3) (v := .int .i64 a) (by simp only [List.getElem?_toArray, List.getElem?_cons_succ, List.getElem?_cons_zero]; exact rfl) (by kernel_rfl) (by kernel_rfl) (by kernel_rfl) (by intro _ _ _ h; exact h) (Or.inl ⟨by kernel_rfl, by intro w hSw; obtain ⟨hs1, hs2, hs3, hs4⟩ := hSw; go_simp⟩) (by assumption) ?_
    simp only [Act.put, List.setIfInBounds_toArray, List.set_cons_zero, List.set_cons_succ, List.toList_toArray]
    refine wpAnyH_ready (rs := [1]) (by kernel_rfl) (by simp) ?_
    refine AllReadyH.cons (o := _) (by simp only [List.getElem?_toArray, List.getElem?_cons_succ, List.getElem?_cons_zero]; exact rfl) (fun K hK => ?_) AllReadyH.nil
    rw [if_pos (by rfl)]
    go_simp
    go_at_call 75
    refine (count_any (pad P) HPL.out _).mono ?_
    rintro e w1 ⟨rfl, hb1⟩
    rw [HC.out]
    refine hK.out _ _ ⟨range_belowB hHeld.1 hb1, cell_below hHeld.2.1 hb1, cell_below hHeld.2.2.1 hb1, hHeld.2.2.2.trans (hb1.mono hHeld.2.2.2.size)⟩ (fun hH2 => ?_)
    clear hK K
    try simp only [Act.put, List.setIfInBounds_toArray, List.set_cons_zero, List.set_cons_succ, List.toList_toArray]
    refine wpAnyH_take (i := 4) (v := .bool true) (by simp only [List.getElem?_toArray, List.getElem?_cons_succ, List.getElem?_cons_zero]; exact rfl) (by kernel_rfl) (by kernel_rfl) (by kernel_rfl) (by intro _ _ _ h; exact h) (Or.inl ⟨by kernel_rfl, by intro w hSw; go_simp⟩) (by assumption) ?_
    simp only [Act.put, List.setIfInBounds_toArray, List.set_cons_zero, List.set_cons_succ, List.toList_toArray]
    refine wpAnyH_take (i := 5) (v := .bool true) (by simp only [List.getElem?_toArray, List.getElem?_cons_succ, List.getElem?_cons_zero]; exact rfl) (by kernel_rfl) (by kernel_rfl) (by kernel_rfl) (by intro _ _ _ h; exact h) (Or.inl ⟨by kernel_rfl, by intro w hSw; go_simp⟩) (by assumption) ?_
    simp only [Act.put, List.setIfInBounds_toArray, List.set_cons_zero, List.set_cons_succ, List.toList_toArray]
    refine wpAnyH_take (i := 6) (v := .pointer (some ⟨w.heap.size + 1, 0, none⟩)) (by simp only [List.getElem?_toArray, List.getElem?_cons_succ, List.getElem?_cons_zero]; exact rfl) (by kernel_rfl) (by kernel_rfl) (by kernel_rfl) (by intro _ _ _ h; exact h) (Or.inl ⟨by kernel_rfl, by intro w hSw; go_simp⟩) (by assumption) ?_
    simp only [Act.put, List.setIfInBounds_toArray, List.set_cons_zero, List.set_cons_succ, List.toList_toArray]
    refine wpAnyH_take (i := 7) (v := .int .i64 x) (by simp only [List.getElem?_toArray, List.getElem?_cons_succ, List.getElem?_cons_zero]; exact rfl) (by kernel_rfl) (by kernel_rfl) (by kernel_rfl) (by intro _ _ _ h; exact h) (Or.inl ⟨by kernel_rfl, by intro w hSw; obtain ⟨hs1, hs2, hs3, hs4⟩ := hSw; have hx9 := HX.out hs1; go_simp⟩) (by assumption) ?_
    simp only [Act.put, List.setIfInBounds_toArray, List.set_cons_zero, List.set_cons_succ, List.toList_toArray]
    refine wpAnyH_take (i := 8) (v := .pointer (some ⟨w.heap.size, 1, none⟩)) (by simp only [List.getElem?_toArray, List.getElem?_cons_succ, List.getElem?_cons_zero]; exact rfl) (by kernel_rfl) (by kernel_rfl) (by kernel_rfl) (by intro _ _ _ h; exact h) (Or.inl ⟨by kernel_rfl, by intro w hSw; go_simp⟩) (by assumption) ?_
    simp only [Act.put, List.setIfInBounds_toArray, List.set_cons_zero, List.set_cons_succ, List.toList_toArray]
    refine wpAnyH_take (i := 9) (v := .int .i64 b) (by simp only [List.getElem?_toArray, List.getElem?_cons_succ, List.getElem?_cons_zero]; exact rfl) (by kernel_rfl) (by kernel_rfl) (by kernel_rfl) (by intro _ _ _ h; exact h) (Or.inl ⟨by kernel_rfl, by intro w hSw; obtain ⟨hs1, hs2, hs3, hs4⟩ := hSw; go_simp⟩) (by assumption) ?_
    simp only [Act.put, List.setIfInBounds_toArray, List.set_cons_zero, List.set_cons_succ, List.toList_toArray]
    refine wpAnyH_take (i := 10) (v := .bool (decide (x ≤ b))) (by simp only [List.getElem?_toArray, List.getElem?_cons_succ, List.getElem?_cons_zero]; exact rfl) (by kernel_rfl) (by kernel_rfl) (by kernel_rfl) (by intro _ _ _ h; exact h) (Or.inl ⟨by kernel_rfl, by intro w hSw; go_simp⟩) (by assumption) ?_
    simp only [Act.put, List.setIfInBounds_toArray, List.set_cons_zero, List.set_cons_succ, List.toList_toArray]
    refine wpAnyH_take (i := 11) (v := .bool (decide (x ≤ b))) (by simp only [List.getElem?_toArray, List.getElem?_cons_succ, List.getElem?_cons_zero]; exact rfl) (by kernel_rfl) (by kernel_rfl) (by kernel_rfl) (by intro _ _ _ h; exact h) (Or.inl ⟨by kernel_rfl, by intro w hSw; go_simp⟩) (by assumption) ?_
    simp only [Act.put, List.setIfInBounds_toArray, List.set_cons_zero, List.set_cons_succ, List.toList_toArray]
    refine wpAnyH_take (i := 12) (v := .bool (decide (x ≤ b))) (by simp only [List.getElem?_toArray, List.getElem?_cons_succ, List.getElem?_cons_zero]; exact rfl) (by kernel_rfl) (by kernel_rfl) (by kernel_rfl) (by intro _ _ _ h; exact h) (Or.inl ⟨by kernel_rfl, by intro w hSw; go_simp⟩) (by assumption) ?_
    simp only [Act.put, List.setIfInBounds_toArray, List.set_cons_zero, List.set_cons_succ, List.toList_toArray]
    refine wpAnyH_done (by kernel_rfl) ?_ _
    try simp only [Act.put, List.setIfInBounds_toArray, List.set_cons_zero, List.set_cons_succ]
    go_wp2_with fail
    go_ret
    exact ⟨ret_bool HV.out.symm, hH2.2.2.2⟩
  · have hd1 : decide ((P.length : Int) ≤ a) = false := decide_eq_false h
    have HV : Hid (decide ((P.length : Int) ≤ a ∧ x ≤ b) = false) := Lib.hid (by simp [h])
    clear h
    go_enter Try.func91, Try.ntmps91
    go_wp2
    refine wp_region_held_drew (S := fun w' => w'.rangeAt (w.heap.size + 1) 0 (ints (pad P)) ∧ w'.cell? ⟨w.heap.size, 0, none⟩ = some (.int .i64 a) ∧ w'.cell? ⟨w.heap.size, 1, none⟩ = some (.int .i64 b) ∧ Below w.heap.size w w') (by kernel_rfl) ⟨hr0, ha0, hb0, hbel0.trans ((Dr.n _ 1).below _)⟩ (fun hHeld => ?_)
    refine wpAnyH_take (i := 0) (v := _) (by simp only [List.getElem?_toArray, List.getElem?_cons_succ, List.getElem?_cons_zero]; exact rfl) (by kernel_rfl) (by kernel_rfl) (by kernel_rfl) (by intro _ _ _ h; exact h) (yieldsIf_load_mid (by kernel_rfl) _ _ rfl (w.heap.size + 1) 0 rfl (ints (pad P)) _ (fun _ hw => hw.1) hu rfl hiL) (by assumption) ?_
    simp only [Act.put, List.setIfInBounds_toArray, List.set_cons_zero, List.set_cons_succ, List.toList_toArray]
    refine wpAnyH_take (i := 2) (v := .pointer (some ⟨w.heap.size, 0, none⟩)) (by simp only [List.getElem?_toArray, List.getElem?_cons_succ, List.getElem?_cons_zero]; exact rfl) (by kernel_rfl) (by kernel_rfl) (by kernel_rfl) (by intro _ _ _ h; exact h) (Or.inl ⟨by kernel_rfl, by intro w hSw; go_simp⟩) (by assumption) ?_
    simp only [Act.put, List.setIfInBounds_toArray, List.set_cons_zero, List.set_cons_succ, List.toList_toArray]
    refine wpAnyH_take (i := 3) (v := .int .i64 a) (by simp only [List.getElem?_toArray, List.getElem?_cons_succ, List.getElem?_cons_zero]; exact rfl) (by kernel_rfl) (by kernel_rfl) (by kernel_rfl) (by intro _ _ _ h; exact h) (Or.inl ⟨by kernel_rfl, by intro w hSw; obtain ⟨hs1, hs2, hs3, hs4⟩ := hSw; go_simp⟩) (by assumption) ?_
    simp only [Act.put, List.setIfInBounds_toArray, List.set_cons_zero, List.set_cons_succ, List.toList_toArray]
    refine wpAnyH_ready (rs := [1]) (by kernel_rfl) (by simp) ?_
    refine AllReadyH.cons (o := _) (by simp only [List.getElem?_toArray, List.getElem?_cons_succ, List.getElem?_cons_zero]; exact rfl) (fun K hK => ?_) AllReadyH.nil
    rw [if_pos (by rfl)]
    go_simp
    go_at_call 75
    refine (count_any (pad P) HPL.out _).mono ?_
    rintro e w1 ⟨rfl, hb1⟩
    rw [HC.out]
    refine hK.out _ _ ⟨range_belowB hHeld.1 hb1, cell_below hHeld.2.1 hb1, cell_below hHeld.2.2.1 hb1, hHeld.2.2.2.trans (hb1.mono hHeld.2.2.2.size)⟩ (fun hH2 => ?_)
    clear hK K
    try simp only [Act.put, List.setIfInBounds_toArray, List.set_cons_zero, List.set_cons_succ, List.toList_toArray]
    refine wpAnyH_take (i := 4) (v := .bool false) (by simp only [List.getElem?_toArray, List.getElem?_cons_succ, List.getElem?_cons_zero]; exact rfl) (by kernel_rfl) (by kernel_rfl) (by kernel_rfl) (by intro _ _ _ h; exact h) (Or.inl ⟨by kernel_rfl, by intro w hSw; go_simp⟩) (by assumption) ?_
    simp only [Act.put, List.setIfInBounds_toArray, List.set_cons_zero, List.set_cons_succ, List.toList_toArray]
    refine wpAnyH_take (i := 5) (v := .bool false) (by simp only [List.getElem?_toArray, List.getElem?_cons_succ, List.getElem?_cons_zero]; exact rfl) (by kernel_rfl) (by kernel_rfl) (by kernel_rfl) (by intro _ _ _ h; exact h) (Or.inl ⟨by kernel_rfl, by intro w hSw; go_simp⟩) (by assumption) ?_
    simp only [Act.put, List.setIfInBounds_toArray, List.set_cons_zero, List.set_cons_succ, List.toList_toArray]
    refine wpAnyH_take (i := 6) (v := undef) (by simp only [List.getElem?_toArray, List.getElem?_cons_succ, List.getElem?_cons_zero]; exact rfl) (by kernel_rfl) (by kernel_rfl) (by kernel_rfl) (by intro _ _ _ h; exact h) (Or.inr ⟨by kernel_rfl, rfl⟩) (by assumption) ?_
    simp only [Act.put, List.setIfInBounds_toArray, List.set_cons_zero, List.set_cons_succ, List.toList_toArray]
    refine wpAnyH_take (i := 7) (v := undef) (by simp only [List.getElem?_toArray, List.getElem?_cons_succ, List.getElem?_cons_zero]; exact rfl) (by kernel_rfl) (by kernel_rfl) (by kernel_rfl) (by intro _ _ _ h; exact h) (Or.inr ⟨by kernel_rfl, rfl⟩) (by assumption) ?_
    simp only [Act.put, List.setIfInBounds_toArray, List.set_cons_zero, List.set_cons_succ, List.toList_toArray]
    refine wpAnyH_take (i := 8) (v := undef) (by simp only [List.getElem?_toArray, List.getElem?_cons_succ, List.getElem?_cons_zero]; exact rfl) (by kernel_rfl) (by kernel_rfl) (by kernel_rfl) (by intro _ _ _ h; exact h) (Or.inr ⟨by kernel_rfl, rfl⟩) (by assumption) ?_
    simp only [Act.put, List.setIfInBounds_toArray, List.set_cons_zero, List.set_cons_succ, List.toList_toArray]
    refine wpAnyH_take (i := 9) (v := undef) (by simp only [List.getElem?_toArray, List.getElem?_cons_succ, List.getElem?_cons_zero]; exact rfl) (by kernel_rfl) (by kernel_rfl) (by kernel_rfl) (by intro _ _ _ h; exact h) (Or.inr ⟨by kernel_rfl, rfl⟩) (by assumption) ?_
    simp only [Act.put, List.setIfInBounds_toArray, List.set_cons_zero, List.set_cons_succ, List.toList_toArray]
    refine wpAnyH_take (i := 10) (v := undef) (by simp only [List.getElem?_toArray, List.getElem?_cons_succ, List.getElem?_cons_zero]; exact rfl) (by kernel_rfl) (by kernel_rfl) (by kernel_rfl) (by intro _ _ _ h; exact h) (Or.inr ⟨by kernel_rfl, rfl⟩) (by assumption) ?_
    simp only [Act.put, List.setIfInBounds_toArray, List.set_cons_zero, List.set_cons_succ, List.toList_toArray]
    refine wpAnyH_take (i := 11) (v := .bool false) (by simp only [List.getElem?_toArray, List.getElem?_cons_succ, List.getElem?_cons_zero]; exact rfl) (by kernel_rfl) (by kernel_rfl) (by kernel_rfl) (by intro _ _ _ h; exact h) (Or.inl ⟨by kernel_rfl, by intro w hSw; go_simp⟩) (by assumption) ?_
    simp only [Act.put, List.setIfInBounds_toArray, List.set_cons_zero, List.set_cons_succ, List.toList_toArray]
    refine wpAnyH_take (i := 12) (v := .bool false) (by simp only [List.getElem?_toArray, List.getElem?_cons_succ, List.getElem?_cons_zero]; exact rfl) (by kernel_rfl) (by kernel_rfl) (by kernel_rfl) (by intro _ _ _ h; exact h) (Or.inl ⟨by kernel_rfl, by intro w hSw; go_simp⟩) (by assumption) ?_
    simp only [Act.put, List.setIfInBounds_toArray, List.set_cons_zero, List.set_cons_succ, List.toList_toArray]
    refine wpAnyH_done (by kernel_rfl) ?_ _
    try simp only [Act.put, List.setIfInBounds_toArray, List.set_cons_zero, List.set_cons_succ]
    go_wp2_with fail
    go_ret
    exact ⟨ret_bool HV.out.symm, hH2.2.2.2⟩
end Go.Proofs.Ytgkghebjaedjmaa
namespace Go.Proofs.Ytgkghebjaedjmaa
open Go.RowKit NP
set_option maxRecDepth 8000
set_option linter.unusedVariables false
set_option linter.unusedSimpArgs false
def inbF (L : List Int) (a b : Int) : Bool := valid L && (limB a b && decide ((L.length : Int) ≤ a ∧ L.headD 0 ≤ b))
theorem oper_store_row {P : Program} {o : Oper} {a : Act} {w : World} {K : Act → World → Prop} {Q : Exit → Act → World → Prop} (ty : TypeId) (x v : Operand) (ho : o.op = .store ty x v)
    (g : Nat) (hx : a.eval x = .pointer (some ⟨g, 0, none⟩)) (vs : Array Value) (hv : a.eval v = .agg vs) (t : TypeId) (cs : Array Value) (hg : Blk w g t cs)
    (hi : (P.info? ty).map (·.size) = some vs.size) (hs : vs.size = cs.size) (h1 : ∀ v ∈ vs.toList, v.oneCell' = true)
    (h : K (a.put o.dst undef) (w.setRow g vs)) : Oper.wp P o a w K Q := by
  unfold Oper.wp execOp
  simp only [ho, hx, hv, Instr.storeAt, Instr.sureAddr, Sem.run_bind, Sem.run_pure, Result.andThen_ok, run_storeVar_row w g t ty cs vs hg hi hs h1]
  exact h
theorem results_2blk2_tmp {P : Program} {fn : Func} {p1 p2 q : Tmp} {ty ty2 : TypeId} (h : fn.results = #[.cell p1 ty, .cell p2 ty2, .tmp q]) (tmps : Array Value) (w : World) (g1 g2 : Nat) (t t2 : TypeId) (c1 c2 : Array Value) (d d2 : TypeDesc)
    (hp1 : tmps.getD p1 undef = .pointer (some ⟨g1, 0, none⟩)) (hp2 : tmps.getD p2 undef = .pointer (some ⟨g2, 0, none⟩)) (h1 : Blk w g1 t c1) (h2 : Blk w g2 t2 c2)
    (hu : P.underlying ty = some d) (hd : (match d with | .struct _ | .array _ _ => true | _ => false) = true) (hu2 : P.underlying ty2 = some d2) (hd2 : (match d2 with | .struct _ | .array _ _ => true | _ => false) = true) (hi1 : (P.info? ty).map (·.size) = some c1.size) (hi2 : (P.info? ty2).map (·.size) = some c2.size) :
    (results fn tmps).run P w = .ok (.tuple #[.agg c1, .agg c2, tmps.getD q undef]) w := by
  have hp1' : tmps[p1]?.getD undef = .pointer (some ⟨g1, 0, none⟩) := by simpa using hp1
  have hp2' : tmps[p2]?.getD undef = .pointer (some ⟨g2, 0, none⟩) := by simpa using hp2
  simp [results, h, hp1', hp2', asAddr, run_loadVar_row w g1 t ty c1 (0, 0) d h1 hu hd hi1, run_loadVar_row w g2 t2 ty2 c2 (0, 0) d2 h2 hu2 hd2 hi2]
theorem two_oneB (a b : Int) : ∀ v ∈ (#[Value.int .i64 a, Value.int .i64 b]).toList, v.oneCell' = true := by
  intro v hv
  simp only [List.mem_cons, List.not_mem_nil, or_false] at hv
  rcases hv with rfl | rfl <;> rfl
theorem T_box : (Try.prog.info? 85).map (·.size) = some 2 := by kernel_rfl
theorem keepS {w w1 u v : World} {L : List Int} {a b : Int} (h : (fun w' => (∃ c6, Blk w' w.heap.size 60 c6 ∧ c6.size = 16) ∧ (∃ c7, Blk w' (w.heap.size + 1) 85 c7 ∧ c7.size = 2) ∧ Blk w' w1.heap.size 60 (arr (dg L)) ∧ Blk w' (w1.heap.size + 1) 85 #[.int .i64 a, .int .i64 b] ∧ Below w.heap.size w w') u) (hb : Below u.heap.size u v) : (fun w' => (∃ c6, Blk w' w.heap.size 60 c6 ∧ c6.size = 16) ∧ (∃ c7, Blk w' (w.heap.size + 1) 85 c7 ∧ c7.size = 2) ∧ Blk w' w1.heap.size 60 (arr (dg L)) ∧ Blk w' (w1.heap.size + 1) 85 #[.int .i64 a, .int .i64 b] ∧ Below w.heap.size w w') v := by
  obtain ⟨⟨c6, hc6, hz6⟩, ⟨c7, hc7, hz7⟩, hD, hX, hA⟩ := h
  exact ⟨⟨c6, hc6.below hb hc6.lt, hz6⟩, ⟨c7, hc7.below hb hc7.lt, hz7⟩, hD.below hb hD.lt, hX.below hb hX.lt, hA.trans (hb.mono hA.size)⟩
set_option maxHeartbeats 2000000 in
theorem partsInBox_any (p : Option Addr) (c B : Nat) (L : List Int) (a b : Int) (w : World) (h : Rd w B p (ints L)) (hB : B ≤ w.heap.size) (hl : L.length ≤ 4611686018427387904) :
    Calls Try.prog 68 #[.slice p L.length c, .int .i64 a, .int .i64 b] w fun e w' => e = .returned (.tuple #[.agg (arr (dg L)), .agg #[.int .i64 a, .int .i64 b], .bool (inbF L a b)]) ∧ Below w.heap.size w w' := by
  have hi16 : (Try.prog.info? 60).map (·.size) = some (arr (dg L)).size := by rw [arr_size, dg_len]; exact T_info35
  have hiL : (Try.prog.info? 60).map (·.size) = some (ints (dg L)).length := by rw [List.length_map, dg_len]; exact T_info35
  have hiB : (Try.prog.info? 85).map (·.size) = some ([Value.int .i64 a, Value.int .i64 b]).length := T_box
  have hu := Try.underlying60
  have huB := Try.underlying85
  have hsz : (arr (dg L)).size = (arr (List.replicate 16 0)).size := by rw [arr_size, arr_size, dg_len]; rfl
  have hd0 := Blk.new w 60 (arr (List.replicate 16 0))
  have hx0 := Blk.new (w.alloc (.cells (arr (List.replicate 16 0)) 60)) 85 #[.int .i64 0, .int .i64 0]
  have hd1 := hd0.alloc (.cells #[.int .i64 0, .int .i64 0] 85)
  have hbel0 := ((Below.refl w.heap.size w).alloc (Nat.le_refl _) (.cells (arr (List.replicate 16 0)) 60)).alloc (by simp) (.cells #[.int .i64 0, .int .i64 0] 85)
  obtain ⟨v, hv⟩ : ∃ v, v = valid L := ⟨_, rfl⟩
  have HV := Lib.hid hv
  clear hv
  go_enter Try.func68, Try.ntmps68
  go_wp2_with (first
    | (go_at_call 78; refine (diagramOf_any _ _ B L _ (h.below (hbel0.mono hB)) (by simp; omega) hl).mono ?_; rintro e w1 ⟨rfl, hb1⟩; rw [← HV.out]; have hz1 := hb1.size; rw [World.size_alloc, World.size_alloc] at hz1)
    | (refine wpList_store_row rfl 60 (.tmp 9) (.tmp 15) rfl w1.heap.size rfl (arr (dg L)) rfl 60 (arr (List.replicate 16 0)) (Blk.new w1 _ _) hi16 hsz (arr_one _) ?_; have hB3 := (Blk.new w1 60 (arr (List.replicate 16 0))).row (vs := arr (dg L)); have hb13 : Below w1.heap.size w1 ((w1.alloc (.cells (arr (List.replicate 16 0)) 60)).setRow w1.heap.size (arr (dg L))) := below_setRow' ((Below.refl _ _).alloc (Nat.le_refl _) _) (Nat.le_refl _) _; have hs3 : ((w1.alloc (.cells (arr (List.replicate 16 0)) 60)).setRow w1.heap.size (arr (dg L))).heap.size = w1.heap.size + 1 := (by simp); obtain ⟨w3, hw3⟩ : ∃ w3, w3 = (w1.alloc (.cells (#[.int .i64 0, .int .i64 0, .int .i64 0, .int .i64 0, .int .i64 0, .int .i64 0, .int .i64 0, .int .i64 0, .int .i64 0, .int .i64 0, .int .i64 0, .int .i64 0, .int .i64 0, .int .i64 0, .int .i64 0, .int .i64 0]) 60)).setRow w1.heap.size (arr (dg L)) := ⟨_, rfl⟩; rw [← hw3]; replace hB3 : Blk w3 w1.heap.size 60 (arr (dg L)) := hw3 ▸ hB3; replace hb13 : Below w1.heap.size w1 w3 := hw3 ▸ hb13; replace hs3 : w3.heap.size = w1.heap.size + 1 := hw3 ▸ hs3; clear hw3))
  rw [World.size_alloc] at hx0
  have hw41 : w3.heap.size = w1.heap.size + 1 := hs3
  have hS0 : (fun w' => (∃ c6, Blk w' w.heap.size 60 c6 ∧ c6.size = 16) ∧ (∃ c7, Blk w' (w.heap.size + 1) 85 c7 ∧ c7.size = 2) ∧ Blk w' w1.heap.size 60 (arr (dg L)) ∧ Blk w' (w1.heap.size + 1) 85 #[.int .i64 a, .int .i64 b] ∧ Below w.heap.size w w') (w3.alloc (.cells #[.int .i64 a, .int .i64 b] 85)).drew := by
    have e := Blk.new w3 85 #[Value.int .i64 a, Value.int .i64 b]
    rw [hs3] at e
    rw [World.size_alloc, World.size_alloc] at hb1
    refine ⟨⟨_, (((hd1.below hb1 (by omega)).below hb13 (by omega)).alloc _).drew, by rfl⟩, ⟨_, (((hx0.below hb1 (by omega)).below hb13 (by omega)).alloc _).drew, by rfl⟩, (hB3.alloc _).drew, e.drew, ?_⟩
    exact ((((hbel0.trans (hb1.mono (by omega))).trans (hb13.mono (by omega))).alloc (by omega) _)).trans ((Dr.n _ 1).below _)
  have HS0 := Lib.hid hS0
  clear hd0 hd1 hx0 hbel0 hB3 hS0
  cases v with
  | false =>
    have HR : Hid (inbF L a b = false) := Lib.hid (by unfold inbF; rw [← HV.out]; rfl)
    have hS0 := HS0.out
    refine wp_region_held_drew (S := fun w' => (∃ c6, Blk w' w.heap.size 60 c6 ∧ c6.size = 16) ∧ (∃ c7, Blk w' (w.heap.size + 1) 85 c7 ∧ c7.size = 2) ∧ Blk w' w1.heap.size 60 (arr (dg L)) ∧ Blk w' (w1.heap.size + 1) 85 #[.int .i64 a, .int .i64 b] ∧ Below w.heap.size w w') (by kernel_rfl) hS0 (fun hHeld => ?_)
    refine wpAnyH_take (i := 0) (v := _) (by simp only [List.getElem?_toArray, List.getElem?_cons_succ, List.getElem?_cons_zero]; exact rfl) (by kernel_rfl) (by kernel_rfl) (by kernel_rfl) (by intro _ _ _ h; exact h) (yieldsIf_load_mid (by kernel_rfl) _ _ rfl w1.heap.size 0 rfl (ints (dg L)) _ (fun _ hw => Blk.rangeB (vs := ints (dg L)) hw.2.2.1) hu rfl hiL) (by assumption) ?_
    simp only [Act.put, List.setIfInBounds_toArray, List.set_cons_zero, List.set_cons_succ, List.toList_toArray]
    refine wpAnyH_take (i := 1) (v := _) (by simp only [List.getElem?_toArray, List.getElem?_cons_succ, List.getElem?_cons_zero]; exact rfl) (by kernel_rfl) (by kernel_rfl) (by kernel_rfl) (by intro _ _ _ h; exact h) (yieldsIf_load_mid (by kernel_rfl) _ _ rfl (w1.heap.size + 1) 0 rfl [.int .i64 a, .int .i64 b] _ (fun _ hw => Blk.rangeB (vs := [.int .i64 a, .int .i64 b]) hw.2.2.2.1) huB rfl hiB) (by assumption) ?_
    simp only [Act.put, List.setIfInBounds_toArray, List.set_cons_zero, List.set_cons_succ, List.toList_toArray]
    refine wpAnyH_take (i := 2) (v := .bool false) (by simp only [List.getElem?_toArray, List.getElem?_cons_succ, List.getElem?_cons_zero]; exact rfl) (by kernel_rfl) (by kernel_rfl) (by kernel_rfl) (by intro _ _ _ h; exact h) (Or.inl ⟨by kernel_rfl, by intro w hSw; go_simp⟩) (by assumption) ?_
    simp only [Act.put, List.setIfInBounds_toArray, List.set_cons_zero, List.set_cons_succ, List.toList_toArray]
    refine wpAnyH_take (i := 3) (v := .bool false) (by simp only [List.getElem?_toArray, List.getElem?_cons_succ, List.getElem?_cons_zero]; exact rfl) (by kernel_rfl) (by kernel_rfl) (by kernel_rfl) (by intro _ _ _ h; exact h) (Or.inl ⟨by kernel_rfl, by intro w hSw; go_simp⟩) (by assumption) ?_
    simp only [Act.put, List.setIfInBounds_toArray, List.set_cons_zero, List.set_cons_succ, List.toList_toArray]
    refine wpAnyH_take (i := 4) (v := undef) (by simp only [List.getElem?_toArray, List.getElem?_cons_succ, List.getElem?_cons_zero]; exact rfl) (by kernel_rfl) (by kernel_rfl) (by kernel_rfl) (by intro _ _ _ h; exact h) (Or.inr ⟨by kernel_rfl, rfl⟩) (by assumption) ?_
    simp only [Act.put, List.setIfInBounds_toArray, List.set_cons_zero, List.set_cons_succ, List.toList_toArray]
    refine wpAnyH_take (i := 5) (v := undef) (by simp only [List.getElem?_toArray, List.getElem?_cons_succ, List.getElem?_cons_zero]; exact rfl) (by kernel_rfl) (by kernel_rfl) (by kernel_rfl) (by intro _ _ _ h; exact h) (Or.inr ⟨by kernel_rfl, rfl⟩) (by assumption) ?_
    simp only [Act.put, List.setIfInBounds_toArray, List.set_cons_zero, List.set_cons_succ, List.toList_toArray]
    refine wpAnyH_take (i := 6) (v := .bool false) (by simp only [List.getElem?_toArray, List.getElem?_cons_succ, List.getElem?_cons_zero]; exact rfl) (by kernel_rfl) (by kernel_rfl) (by kernel_rfl) (by intro _ _ _ h; exact h) (Or.inl ⟨by kernel_rfl, by intro w hSw; go_simp⟩) (by assumption) ?_
    simp only [Act.put, List.setIfInBounds_toArray, List.set_cons_zero, List.set_cons_succ, List.toList_toArray]
    refine wpAnyH_take (i := 7) (v := .bool false) (by simp only [List.getElem?_toArray, List.getElem?_cons_succ, List.getElem?_cons_zero]; exact rfl) (by kernel_rfl) (by kernel_rfl) (by kernel_rfl) (by intro _ _ _ h; exact h) (Or.inl ⟨by kernel_rfl, by intro w hSw; go_simp⟩) (by assumption) ?_
    simp only [Act.put, List.setIfInBounds_toArray, List.set_cons_zero, List.set_cons_succ, List.toList_toArray]
    refine wpAnyH_take (i := 8) (v := undef) (by simp only [List.getElem?_toArray, List.getElem?_cons_succ, List.getElem?_cons_zero]; exact rfl) (by kernel_rfl) (by kernel_rfl) (by kernel_rfl) (by intro _ _ _ h; exact h) (Or.inr ⟨by kernel_rfl, rfl⟩) (by assumption) ?_
    simp only [Act.put, List.setIfInBounds_toArray, List.set_cons_zero, List.set_cons_succ, List.toList_toArray]
    refine wpAnyH_take (i := 9) (v := undef) (by simp only [List.getElem?_toArray, List.getElem?_cons_succ, List.getElem?_cons_zero]; exact rfl) (by kernel_rfl) (by kernel_rfl) (by kernel_rfl) (by intro _ _ _ h; exact h) (Or.inr ⟨by kernel_rfl, rfl⟩) (by assumption) ?_
    simp only [Act.put, List.setIfInBounds_toArray, List.set_cons_zero, List.set_cons_succ, List.toList_toArray]
    refine wpAnyH_take (i := 10) (v := undef) (by simp only [List.getElem?_toArray, List.getElem?_cons_succ, List.getElem?_cons_zero]; exact rfl) (by kernel_rfl) (by kernel_rfl) (by kernel_rfl) (by intro _ _ _ h; exact h) (Or.inr ⟨by kernel_rfl, rfl⟩) (by assumption) ?_
    simp only [Act.put, List.setIfInBounds_toArray, List.set_cons_zero, List.set_cons_succ, List.toList_toArray]
    refine wpAnyH_take (i := 11) (v := .bool false) (by simp only [List.getElem?_toArray, List.getElem?_cons_succ, List.getElem?_cons_zero]; exact rfl) (by kernel_rfl) (by kernel_rfl) (by kernel_rfl) (by intro _ _ _ h; exact h) (Or.inl ⟨by kernel_rfl, by intro w hSw; go_simp⟩) (by assumption) ?_
    simp only [Act.put, List.setIfInBounds_toArray, List.set_cons_zero, List.set_cons_succ, List.toList_toArray]
    obtain ⟨⟨c6, hc6, hz6⟩, ⟨c7, hc7, hz7⟩, hD, hX, hA⟩ := hHeld
    refine wpAnyH_ready (rs := [12]) (by kernel_rfl) (by simp) ?_
    refine AllReadyH.cons (o := _) (by simp only [List.getElem?_toArray, List.getElem?_cons_succ, List.getElem?_cons_zero]; exact rfl) (fun K hK => ?_) AllReadyH.nil
    rw [if_pos (by rfl)]
    refine oper_store_row 60 (.tmp 6) (.tmp 20) rfl w.heap.size rfl (arr (dg L)) rfl 60 _ hc6 hi16 (by rw [hz6, arr_size, dg_len]) (arr_one _) ?_
    refine hK.out _ _ ⟨⟨_, hc6.row, by rw [arr_size, dg_len]⟩, ⟨c7, hc7.rowOff (by omega), hz7⟩, hD.rowOff (by omega), hX.rowOff (by omega), below_setRow' hA (Nat.le_refl _) _⟩ (fun hF1 => ?_)
    clear hK K
    try simp only [Act.put, List.setIfInBounds_toArray, List.set_cons_zero, List.set_cons_succ, List.toList_toArray]
    refine wpAnyH_ready (rs := [13]) (by kernel_rfl) (by simp) ?_
    refine AllReadyH.cons (o := _) (by simp only [List.getElem?_toArray, List.getElem?_cons_succ, List.getElem?_cons_zero]; exact rfl) (fun K hK => ?_) AllReadyH.nil
    rw [if_pos (by rfl)]
    refine oper_store_row 85 (.tmp 7) (.tmp 21) rfl (w.heap.size + 1) rfl #[.int .i64 a, .int .i64 b] rfl 85 _ (hc7.rowOff (by omega)) T_box (by rw [hz7]; rfl) (two_oneB _ _) ?_
    refine hK.out _ _ ⟨⟨_, (hc6.row (vs := arr (dg L))).rowOff (by omega), by rw [arr_size, dg_len]⟩, ⟨_, (hc7.rowOff (by omega)).row, rfl⟩, (hD.rowOff (by omega)).rowOff (by omega), (hX.rowOff (by omega)).rowOff (by omega), below_setRow' (below_setRow' hA (Nat.le_refl _) _) (by omega) _⟩ (fun hF2 => ?_)
    clear hK K
    try simp only [Act.put, List.setIfInBounds_toArray, List.set_cons_zero, List.set_cons_succ, List.toList_toArray]
    refine wpAnyH_take (i := 14) (v := .bool false) (by simp only [List.getElem?_toArray, List.getElem?_cons_succ, List.getElem?_cons_zero]; exact rfl) (by kernel_rfl) (by kernel_rfl) (by kernel_rfl) (by intro _ _ _ h; exact h) (Or.inl ⟨by kernel_rfl, by intro w hSw; go_simp⟩) (by assumption) ?_
    simp only [Act.put, List.setIfInBounds_toArray, List.set_cons_zero, List.set_cons_succ, List.toList_toArray]
    refine wpAnyH_done (by kernel_rfl) ?_ _
    try simp only [Act.put, List.setIfInBounds_toArray, List.set_cons_zero, List.set_cons_succ]
    go_wp2_with fail
    refine bodyPost_ret (results_2blk2_tmp rfl _ _ w.heap.size (w.heap.size + 1) 60 85 (arr (dg L)) #[.int .i64 a, .int .i64 b] _ _ rfl rfl ((hc6.row (vs := arr (dg L))).rowOff (by omega)) ((hc7.rowOff (by omega)).row) hu rfl huB rfl hi16 T_box) rfl ?_
    rw [HR.out]
    exact ⟨rfl, hF2.2.2.2.2⟩
  | true =>
    cases hlim : limB a b with
    | false =>
      have HR : Hid (inbF L a b = false) := Lib.hid (by unfold inbF; rw [← HV.out, hlim]; rfl)
      have HLI := Lib.hid hlim
      clear hlim
      have hS0 := HS0.out
      refine wp_region_held_drew (S := fun w' => (∃ c6, Blk w' w.heap.size 60 c6 ∧ c6.size = 16) ∧ (∃ c7, Blk w' (w.heap.size + 1) 85 c7 ∧ c7.size = 2) ∧ Blk w' w1.heap.size 60 (arr (dg L)) ∧ Blk w' (w1.heap.size + 1) 85 #[.int .i64 a, .int .i64 b] ∧ Below w.heap.size w w') (by kernel_rfl) hS0 (fun hHeld => ?_)
      refine wpAnyH_take (i := 0) (v := _) (by simp only [List.getElem?_toArray, List.getElem?_cons_succ, List.getElem?_cons_zero]; exact rfl) (by kernel_rfl) (by kernel_rfl) (by kernel_rfl) (by intro _ _ _ h; exact h) (yieldsIf_load_mid (by kernel_rfl) _ _ rfl w1.heap.size 0 rfl (ints (dg L)) _ (fun _ hw => Blk.rangeB (vs := ints (dg L)) hw.2.2.1) hu rfl hiL) (by assumption) ?_
      simp only [Act.put, List.setIfInBounds_toArray, List.set_cons_zero, List.set_cons_succ, List.toList_toArray]
      refine wpAnyH_take (i := 1) (v := _) (by simp only [List.getElem?_toArray, List.getElem?_cons_succ, List.getElem?_cons_zero]; exact rfl) (by kernel_rfl) (by kernel_rfl) (by kernel_rfl) (by intro _ _ _ h; exact h) (yieldsIf_load_mid (by kernel_rfl) _ _ rfl (w1.heap.size + 1) 0 rfl [.int .i64 a, .int .i64 b] _ (fun _ hw => Blk.rangeB (vs := [.int .i64 a, .int .i64 b]) hw.2.2.2.1) huB rfl hiB) (by assumption) ?_
      simp only [Act.put, List.setIfInBounds_toArray, List.set_cons_zero, List.set_cons_succ, List.toList_toArray]
      refine wpAnyH_take (i := 2) (v := .bool true) (by simp only [List.getElem?_toArray, List.getElem?_cons_succ, List.getElem?_cons_zero]; exact rfl) (by kernel_rfl) (by kernel_rfl) (by kernel_rfl) (by intro _ _ _ h; exact h) (Or.inl ⟨by kernel_rfl, by intro w hSw; go_simp⟩) (by assumption) ?_
      simp only [Act.put, List.setIfInBounds_toArray, List.set_cons_zero, List.set_cons_succ, List.toList_toArray]
      refine wpAnyH_take (i := 3) (v := .bool true) (by simp only [List.getElem?_toArray, List.getElem?_cons_succ, List.getElem?_cons_zero]; exact rfl) (by kernel_rfl) (by kernel_rfl) (by kernel_rfl) (by intro _ _ _ h; exact h) (Or.inl ⟨by kernel_rfl, by intro w hSw; go_simp⟩) (by assumption) ?_
      simp only [Act.put, List.setIfInBounds_toArray, List.set_cons_zero, List.set_cons_succ, List.toList_toArray]
      refine wpAnyH_take (i := 4) (v := _) (by simp only [List.getElem?_toArray, List.getElem?_cons_succ, List.getElem?_cons_zero]; exact rfl) (by kernel_rfl) (by kernel_rfl) (by kernel_rfl) (by intro _ _ _ h; exact h) (yieldsIf_load_mid (by kernel_rfl) _ _ rfl (w1.heap.size + 1) 0 rfl [.int .i64 a, .int .i64 b] _ (fun _ hw => Blk.rangeB (vs := [.int .i64 a, .int .i64 b]) hw.2.2.2.1) huB rfl hiB) (by assumption) ?_
      simp only [Act.put, List.setIfInBounds_toArray, List.set_cons_zero, List.set_cons_succ, List.toList_toArray]
      refine wpAnyH_ready (rs := [5]) (by kernel_rfl) (by simp) ?_
      refine AllReadyH.cons (o := _) (by simp only [List.getElem?_toArray, List.getElem?_cons_succ, List.getElem?_cons_zero]; exact rfl) (fun K hK => ?_) AllReadyH.nil
      rw [if_pos (by rfl)]
      go_simp
      go_at_call 90
      refine (isInLimits_any a b _).mono ?_
      rintro e w5 ⟨rfl, hb5⟩
      rw [HLI.out]
      refine hK.out _ _ (keepS hHeld hb5) (fun hH5 => ?_)
      clear hK K
      try simp only [Act.put, List.setIfInBounds_toArray, List.set_cons_zero, List.set_cons_succ, List.toList_toArray]
      refine wpAnyH_take (i := 6) (v := .bool false) (by simp only [List.getElem?_toArray, List.getElem?_cons_succ, List.getElem?_cons_zero]; exact rfl) (by kernel_rfl) (by kernel_rfl) (by kernel_rfl) (by intro _ _ _ h; exact h) (Or.inl ⟨by kernel_rfl, by intro w hSw; go_simp⟩) (by assumption) ?_
      simp only [Act.put, List.setIfInBounds_toArray, List.set_cons_zero, List.set_cons_succ, List.toList_toArray]
      refine wpAnyH_take (i := 7) (v := .bool false) (by simp only [List.getElem?_toArray, List.getElem?_cons_succ, List.getElem?_cons_zero]; exact rfl) (by kernel_rfl) (by kernel_rfl) (by kernel_rfl) (by intro _ _ _ h; exact h) (Or.inl ⟨by kernel_rfl, by intro w hSw; go_simp⟩) (by assumption) ?_
      simp only [Act.put, List.setIfInBounds_toArray, List.set_cons_zero, List.set_cons_succ, List.toList_toArray]
      refine wpAnyH_take (i := 8) (v := undef) (by simp only [List.getElem?_toArray, List.getElem?_cons_succ, List.getElem?_cons_zero]; exact rfl) (by kernel_rfl) (by kernel_rfl) (by kernel_rfl) (by intro _ _ _ h; exact h) (Or.inr ⟨by kernel_rfl, rfl⟩) (by assumption) ?_
      simp only [Act.put, List.setIfInBounds_toArray, List.set_cons_zero, List.set_cons_succ, List.toList_toArray]
      refine wpAnyH_take (i := 9) (v := undef) (by simp only [List.getElem?_toArray, List.getElem?_cons_succ, List.getElem?_cons_zero]; exact rfl) (by kernel_rfl) (by kernel_rfl) (by kernel_rfl) (by intro _ _ _ h; exact h) (Or.inr ⟨by kernel_rfl, rfl⟩) (by assumption) ?_
      simp only [Act.put, List.setIfInBounds_toArray, List.set_cons_zero, List.set_cons_succ, List.toList_toArray]
      refine wpAnyH_take (i := 10) (v := undef) (by simp only [List.getElem?_toArray, List.getElem?_cons_succ, List.getElem?_cons_zero]; exact rfl) (by kernel_rfl) (by kernel_rfl) (by kernel_rfl) (by intro _ _ _ h; exact h) (Or.inr ⟨by kernel_rfl, rfl⟩) (by assumption) ?_
      simp only [Act.put, List.setIfInBounds_toArray, List.set_cons_zero, List.set_cons_succ, List.toList_toArray]
      refine wpAnyH_take (i := 11) (v := .bool false) (by simp only [List.getElem?_toArray, List.getElem?_cons_succ, List.getElem?_cons_zero]; exact rfl) (by kernel_rfl) (by kernel_rfl) (by kernel_rfl) (by intro _ _ _ h; exact h) (Or.inl ⟨by kernel_rfl, by intro w hSw; go_simp⟩) (by assumption) ?_
      simp only [Act.put, List.setIfInBounds_toArray, List.set_cons_zero, List.set_cons_succ, List.toList_toArray]
      obtain ⟨⟨c6, hc6, hz6⟩, ⟨c7, hc7, hz7⟩, hD, hX, hA⟩ := hH5
      refine wpAnyH_ready (rs := [12]) (by kernel_rfl) (by simp) ?_
      refine AllReadyH.cons (o := _) (by simp only [List.getElem?_toArray, List.getElem?_cons_succ, List.getElem?_cons_zero]; exact rfl) (fun K hK => ?_) AllReadyH.nil
      rw [if_pos (by rfl)]
      refine oper_store_row 60 (.tmp 6) (.tmp 20) rfl w.heap.size rfl (arr (dg L)) rfl 60 _ hc6 hi16 (by rw [hz6, arr_size, dg_len]) (arr_one _) ?_
      refine hK.out _ _ ⟨⟨_, hc6.row, by rw [arr_size, dg_len]⟩, ⟨c7, hc7.rowOff (by omega), hz7⟩, hD.rowOff (by omega), hX.rowOff (by omega), below_setRow' hA (Nat.le_refl _) _⟩ (fun hF1 => ?_)
      clear hK K
      try simp only [Act.put, List.setIfInBounds_toArray, List.set_cons_zero, List.set_cons_succ, List.toList_toArray]
      refine wpAnyH_ready (rs := [13]) (by kernel_rfl) (by simp) ?_
      refine AllReadyH.cons (o := _) (by simp only [List.getElem?_toArray, List.getElem?_cons_succ, List.getElem?_cons_zero]; exact rfl) (fun K hK => ?_) AllReadyH.nil
      rw [if_pos (by rfl)]
      refine oper_store_row 85 (.tmp 7) (.tmp 21) rfl (w.heap.size + 1) rfl #[.int .i64 a, .int .i64 b] rfl 85 _ (hc7.rowOff (by omega)) T_box (by rw [hz7]; rfl) (two_oneB _ _) ?_
      refine hK.out _ _ ⟨⟨_, (hc6.row (vs := arr (dg L))).rowOff (by omega), by rw [arr_size, dg_len]⟩, ⟨_, (hc7.rowOff (by omega)).row, rfl⟩, (hD.rowOff (by omega)).rowOff (by omega), (hX.rowOff (by omega)).rowOff (by omega), below_setRow' (below_setRow' hA (Nat.le_refl _) _) (by omega) _⟩ (fun hF2 => ?_)
      clear hK K
      try simp only [Act.put, List.setIfInBounds_toArray, List.set_cons_zero, List.set_cons_succ, List.toList_toArray]
      refine wpAnyH_take (i := 14) (v := .bool false) (by simp only [List.getElem?_toArray, List.getElem?_cons_succ, List.getElem?_cons_zero]; exact rfl) (by kernel_rfl) (by kernel_rfl) (by kernel_rfl) (by intro _ _ _ h; exact h) (Or.inl ⟨by kernel_rfl, by intro w hSw; go_simp⟩) (by assumption) ?_
      simp only [Act.put, List.setIfInBounds_toArray, List.set_cons_zero, List.set_cons_succ, List.toList_toArray]
      refine wpAnyH_done (by kernel_rfl) ?_ _
      try simp only [Act.put, List.setIfInBounds_toArray, List.set_cons_zero, List.set_cons_succ]
      go_wp2_with fail
      refine bodyPost_ret (results_2blk2_tmp rfl _ _ w.heap.size (w.heap.size + 1) 60 85 (arr (dg L)) #[.int .i64 a, .int .i64 b] _ _ rfl rfl ((hc6.row (vs := arr (dg L))).rowOff (by omega)) ((hc7.rowOff (by omega)).row) hu rfl huB rfl hi16 T_box) rfl ?_
      rw [HR.out]
      exact ⟨rfl, hF2.2.2.2.2⟩
    | true =>
      obtain ⟨q, hq⟩ : ∃ q, q = decide ((L.length : Int) ≤ a ∧ L.headD 0 ≤ b) := ⟨_, rfl⟩
      have HR : Hid (inbF L a b = q) := Lib.hid (by unfold inbF; rw [← HV.out, hlim, hq]; rfl)
      have HQ := Lib.hid hq
      have HLI := Lib.hid hlim
      have HVL : Hid (valid L = true) := Lib.hid HV.out.symm
      have HDG := Lib.hid (dg_yes HV.out.symm)
      clear hlim hq
      have hS0 := HS0.out
      refine wp_region_held_drew (S := fun w' => (∃ c6, Blk w' w.heap.size 60 c6 ∧ c6.size = 16) ∧ (∃ c7, Blk w' (w.heap.size + 1) 85 c7 ∧ c7.size = 2) ∧ Blk w' w1.heap.size 60 (arr (dg L)) ∧ Blk w' (w1.heap.size + 1) 85 #[.int .i64 a, .int .i64 b] ∧ Below w.heap.size w w') (by kernel_rfl) hS0 (fun hHeld => ?_)
      refine wpAnyH_take (i := 0) (v := _) (by simp only [List.getElem?_toArray, List.getElem?_cons_succ, List.getElem?_cons_zero]; exact rfl) (by kernel_rfl) (by kernel_rfl) (by kernel_rfl) (by intro _ _ _ h; exact h) (yieldsIf_load_mid (by kernel_rfl) _ _ rfl w1.heap.size 0 rfl (ints (dg L)) _ (fun _ hw => Blk.rangeB (vs := ints (dg L)) hw.2.2.1) hu rfl hiL) (by assumption) ?_
      simp only [Act.put, List.setIfInBounds_toArray, List.set_cons_zero, List.set_cons_succ, List.toList_toArray]
      refine wpAnyH_take (i := 1) (v := _) (by simp only [List.getElem?_toArray, List.getElem?_cons_succ, List.getElem?_cons_zero]; exact rfl) (by kernel_rfl) (by kernel_rfl) (by kernel_rfl) (by intro _ _ _ h; exact h) (yieldsIf_load_mid (by kernel_rfl) _ _ rfl (w1.heap.size + 1) 0 rfl [.int .i64 a, .int .i64 b] _ (fun _ hw => Blk.rangeB (vs := [.int .i64 a, .int .i64 b]) hw.2.2.2.1) huB rfl hiB) (by assumption) ?_
      simp only [Act.put, List.setIfInBounds_toArray, List.set_cons_zero, List.set_cons_succ, List.toList_toArray]
      refine wpAnyH_take (i := 2) (v := .bool true) (by simp only [List.getElem?_toArray, List.getElem?_cons_succ, List.getElem?_cons_zero]; exact rfl) (by kernel_rfl) (by kernel_rfl) (by kernel_rfl) (by intro _ _ _ h; exact h) (Or.inl ⟨by kernel_rfl, by intro w hSw; go_simp⟩) (by assumption) ?_
      simp only [Act.put, List.setIfInBounds_toArray, List.set_cons_zero, List.set_cons_succ, List.toList_toArray]
      refine wpAnyH_take (i := 3) (v := .bool true) (by simp only [List.getElem?_toArray, List.getElem?_cons_succ, List.getElem?_cons_zero]; exact rfl) (by kernel_rfl) (by kernel_rfl) (by kernel_rfl) (by intro _ _ _ h; exact h) (Or.inl ⟨by kernel_rfl, by intro w hSw; go_simp⟩) (by assumption) ?_
      simp only [Act.put, List.setIfInBounds_toArray, List.set_cons_zero, List.set_cons_succ, List.toList_toArray]
      refine wpAnyH_take (i := 4) (v := _) (by simp only [List.getElem?_toArray, List.getElem?_cons_succ, List.getElem?_cons_zero]; exact rfl) (by kernel_rfl) (by kernel_rfl) (by kernel_rfl) (by intro _ _ _ h; exact h) (yieldsIf_load_mid (by kernel_rfl) _ _ rfl (w1.heap.size + 1) 0 rfl [.int .i64 a, .int .i64 b] _ (fun _ hw => Blk.rangeB (vs := [.int .i64 a, .int .i64 b]) hw.2.2.2.1) huB rfl hiB) (by assumption) ?_
      simp only [Act.put, List.setIfInBounds_toArray, List.set_cons_zero, List.set_cons_succ, List.toList_toArray]
      refine wpAnyH_ready (rs := [5]) (by kernel_rfl) (by simp) ?_
      refine AllReadyH.cons (o := _) (by simp only [List.getElem?_toArray, List.getElem?_cons_succ, List.getElem?_cons_zero]; exact rfl) (fun K hK => ?_) AllReadyH.nil
      rw [if_pos (by rfl)]
      go_simp
      go_at_call 90
      refine (isInLimits_any a b _).mono ?_
      rintro e w5 ⟨rfl, hb5⟩
      rw [HLI.out]
      refine hK.out _ _ (keepS hHeld hb5) (fun hH5 => ?_)
      clear hK K
      try simp only [Act.put, List.setIfInBounds_toArray, List.set_cons_zero, List.set_cons_succ, List.toList_toArray]
      refine wpAnyH_take (i := 6) (v := .bool true) (by simp only [List.getElem?_toArray, List.getElem?_cons_succ, List.getElem?_cons_zero]; exact rfl) (by kernel_rfl) (by kernel_rfl) (by kernel_rfl) (by intro _ _ _ h; exact h) (Or.inl ⟨by kernel_rfl, by intro w hSw; go_simp⟩) (by assumption) ?_
      simp only [Act.put, List.setIfInBounds_toArray, List.set_cons_zero, List.set_cons_succ, List.toList_toArray]
      refine wpAnyH_take (i := 7) (v := .bool true) (by simp only [List.getElem?_toArray, List.getElem?_cons_succ, List.getElem?_cons_zero]; exact rfl) (by kernel_rfl) (by kernel_rfl) (by kernel_rfl) (by intro _ _ _ h; exact h) (Or.inl ⟨by kernel_rfl, by intro w hSw; go_simp⟩) (by assumption) ?_
      simp only [Act.put, List.setIfInBounds_toArray, List.set_cons_zero, List.set_cons_succ, List.toList_toArray]
      refine wpAnyH_take (i := 8) (v := _) (by simp only [List.getElem?_toArray, List.getElem?_cons_succ, List.getElem?_cons_zero]; exact rfl) (by kernel_rfl) (by kernel_rfl) (by kernel_rfl) (by intro _ _ _ h; exact h) (yieldsIf_load_mid (by kernel_rfl) _ _ rfl (w1.heap.size + 1) 0 rfl [.int .i64 a, .int .i64 b] _ (fun _ hw => Blk.rangeB (vs := [.int .i64 a, .int .i64 b]) hw.2.2.2.1) huB rfl hiB) (by assumption) ?_
      simp only [Act.put, List.setIfInBounds_toArray, List.set_cons_zero, List.set_cons_succ, List.toList_toArray]
      refine wpAnyH_take (i := 9) (v := .agg (arr (pad L))) (by simp only [List.getElem?_toArray, List.getElem?_cons_succ, List.getElem?_cons_zero]; exact rfl) (by kernel_rfl) (by kernel_rfl) (by kernel_rfl) (by intro _ _ _ h; exact h) (by rw [← HDG.out]; exact yieldsIf_load_mid (by kernel_rfl) _ _ rfl w1.heap.size 0 rfl (ints (dg L)) _ (fun _ hw => Blk.rangeB (vs := ints (dg L)) hw.2.2.1) hu rfl hiL) (by assumption) ?_
      simp only [Act.put, List.setIfInBounds_toArray, List.set_cons_zero, List.set_cons_succ, List.toList_toArray]
      refine wpAnyH_ready (rs := [10]) (by kernel_rfl) (by simp) ?_
      refine AllReadyH.cons (o := _) (by simp only [List.getElem?_toArray, List.getElem?_cons_succ, List.getElem?_cons_zero]; exact rfl) (fun K hK => ?_) AllReadyH.nil
      rw [if_pos (by rfl)]
      go_simp
      go_at_call 91
      refine (holds_any a b L HVL.out _).mono ?_
      rintro e w6 ⟨rfl, hb6⟩
      rw [← HQ.out]
      refine hK.out _ _ (keepS hH5 hb6) (fun hH6 => ?_)
      clear hK K
      try simp only [Act.put, List.setIfInBounds_toArray, List.set_cons_zero, List.set_cons_succ, List.toList_toArray]
      refine wpAnyH_take (i := 11) (v := .bool q) (by simp only [List.getElem?_toArray, List.getElem?_cons_succ, List.getElem?_cons_zero]; exact rfl) (by kernel_rfl) (by kernel_rfl) (by kernel_rfl) (by intro _ _ _ h; exact h) (Or.inl ⟨by kernel_rfl, by intro w hSw; go_simp⟩) (by assumption) ?_
      simp only [Act.put, List.setIfInBounds_toArray, List.set_cons_zero, List.set_cons_succ, List.toList_toArray]
      obtain ⟨⟨c6, hc6, hz6⟩, ⟨c7, hc7, hz7⟩, hD, hX, hA⟩ := hH6
      refine wpAnyH_ready (rs := [12]) (by kernel_rfl) (by simp) ?_
      refine AllReadyH.cons (o := _) (by simp only [List.getElem?_toArray, List.getElem?_cons_succ, List.getElem?_cons_zero]; exact rfl) (fun K hK => ?_) AllReadyH.nil
      rw [if_pos (by rfl)]
      refine oper_store_row 60 (.tmp 6) (.tmp 20) rfl w.heap.size rfl (arr (dg L)) rfl 60 _ hc6 hi16 (by rw [hz6, arr_size, dg_len]) (arr_one _) ?_
      refine hK.out _ _ ⟨⟨_, hc6.row, by rw [arr_size, dg_len]⟩, ⟨c7, hc7.rowOff (by omega), hz7⟩, hD.rowOff (by omega), hX.rowOff (by omega), below_setRow' hA (Nat.le_refl _) _⟩ (fun hF1 => ?_)
      clear hK K
      try simp only [Act.put, List.setIfInBounds_toArray, List.set_cons_zero, List.set_cons_succ, List.toList_toArray]
      refine wpAnyH_ready (rs := [13]) (by kernel_rfl) (by simp) ?_
      refine AllReadyH.cons (o := _) (by simp only [List.getElem?_toArray, List.getElem?_cons_succ, List.getElem?_cons_zero]; exact rfl) (fun K hK => ?_) AllReadyH.nil
      rw [if_pos (by rfl)]
      refine oper_store_row 85 (.tmp 7) (.tmp 21) rfl (w.heap.size + 1) rfl #[.int .i64 a, .int .i64 b] rfl 85 _ (hc7.rowOff (by omega)) T_box (by rw [hz7]; rfl) (two_oneB _ _) ?_
      refine hK.out _ _ ⟨⟨_, (hc6.row (vs := arr (dg L))).rowOff (by omega), by rw [arr_size, dg_len]⟩, ⟨_, (hc7.rowOff (by omega)).row, rfl⟩, (hD.rowOff (by omega)).rowOff (by omega), (hX.rowOff (by omega)).rowOff (by omega), below_setRow' (below_setRow' hA (Nat.le_refl _) _) (by omega) _⟩ (fun hF2 => ?_)
      clear hK K
      try simp only [Act.put, List.setIfInBounds_toArray, List.set_cons_zero, List.set_cons_succ, List.toList_toArray]
      refine wpAnyH_take (i := 14) (v := .bool q) (by simp only [List.getElem?_toArray, List.getElem?_cons_succ, List.getElem?_cons_zero]; exact rfl) (by kernel_rfl) (by kernel_rfl) (by kernel_rfl) (by intro _ _ _ h; exact h) (Or.inl ⟨by kernel_rfl, by intro w hSw; go_simp⟩) (by assumption) ?_
      simp only [Act.put, List.setIfInBounds_toArray, List.set_cons_zero, List.set_cons_succ, List.toList_toArray]
      refine wpAnyH_done (by kernel_rfl) ?_ _
      try simp only [Act.put, List.setIfInBounds_toArray, List.set_cons_zero, List.set_cons_succ]
      go_wp2_with fail
      refine bodyPost_ret (results_2blk2_tmp rfl _ _ w.heap.size (w.heap.size + 1) 60 85 (arr (dg L)) #[.int .i64 a, .int .i64 b] _ _ rfl rfl ((hc6.row (vs := arr (dg L))).rowOff (by omega)) ((hc7.rowOff (by omega)).row) hu rfl huB rfl hi16 T_box) rfl ?_
      rw [HR.out]
      exact ⟨rfl, hF2.2.2.2.2⟩
end Go.Proofs.Ytgkghebjaedjmaa
namespace Go.Proofs.Ytgkghebjaedjmaa
open NP
def bxOk (N : List Nat) : Bool :=
  let P := N.map Int.ofNat
  decide (((conj P).length : Int) = P.headD 0) && decide ((conj P).headD 0 = (P.length : Int)) && valid (conj P) && decide (sumL P ≤ (P.length : Int) * P.headD 0) && decide (0 ≤ P.headD 0)
theorem bxTab : all16.all bxOk = true := by decide +kernel
theorem inb_facts {P : List Int} (h : valid P = true) {a b : Int} (ha : 0 ≤ a) (hb : 0 ≤ b) : inbF (conj P) b a = inbF P a b ∧ (inbF P a b = true → sumL P ≤ a * b) := by
  obtain ⟨N, hN, rfl⟩ := of_all bxTab h
  unfold bxOk at hN
  simp only [Bool.and_eq_true, decide_eq_true_eq] at hN
  obtain ⟨⟨⟨⟨h1, h2⟩, h3⟩, h4⟩, h5⟩ := hN
  generalize N.map Int.ofNat = P at *
  have e : limB b a = limB a b := by
    unfold limB
    rw [Bool.eq_iff_iff, decide_eq_true_eq, decide_eq_true_eq]
    omega
  constructor
  · unfold inbF
    rw [h, h3, h1, h2, e]
    congr 2
    rw [Bool.eq_iff_iff, decide_eq_true_eq, decide_eq_true_eq]
    exact And.comm
  · intro hi
    unfold inbF at hi
    simp only [Bool.and_eq_true, decide_eq_true_eq] at hi
    obtain ⟨_, _, h6, h7⟩ := hi
    exact Int.le_trans h4 (Int.mul_le_mul h6 h7 h5 ha)
end Go.Proofs.Ytgkghebjaedjmaa
namespace Go.Proofs.Ytgkghebjaedjmaa
open NP
set_option linter.unusedVariables false
/-- what is left in row j from the end -/
def opx (L : List Int) (a : Nat) (b : Int) (j : Nat) : Int := b - L.getD (a - 1 - j) 0
def opk (L : List Int) (a : Nat) (b : Int) (k : Nat) : List Int := ((List.range k).map (opx L a b)).filter (fun x => decide (0 < x))
def oppL (L : List Int) (a : Nat) (b : Int) : List Int := opk L a b a
def opa (L : List Int) (a : Nat) (b : Int) (i : Nat) : List Int := (List.range 16).map fun j => if j < i then opx L a b j else 0
theorem opa_len (L : List Int) (a : Nat) (b : Int) (i : Nat) : (opa L a b i).length = 16 := by simp [opa]
theorem opa_zero (L : List Int) (a : Nat) (b : Int) : opa L a b 0 = List.replicate 16 0 := by simp [opa, List.map_const']
theorem opa_set (L : List Int) (a : Nat) (b : Int) {i : Nat} (h : i < 16) : (opa L a b i).set i (opx L a b i) = opa L a b (i + 1) := by
  apply List.ext_getElem
  · simp [opa]
  · intro j h1 h2
    simp only [opa, List.getElem_set, List.getElem_map, List.getElem_range]
    by_cases hj : i = j
    · subst hj; rw [if_pos rfl, if_pos (by omega)]
    · rw [if_neg hj]
      by_cases hji : j < i
      · rw [if_pos hji, if_pos (by omega)]
      · rw [if_neg hji, if_neg (by omega)]
theorem opk_next (L : List Int) (a : Nat) (b : Int) (k : Nat) : opk L a b (k + 1) = opk L a b k ++ (if 0 < opx L a b k then [opx L a b k] else []) := by
  unfold opk
  rw [List.range_succ, List.map_append, List.filter_append]
  congr 1
  by_cases h : 0 < opx L a b k <;> simp [h]
theorem opk_len (L : List Int) (a : Nat) (b : Int) (k : Nat) : (opk L a b k).length ≤ k := by
  unfold opk
  exact Nat.le_trans (List.length_filter_le _ _) (by simp)
def opOk (N : List Nat) : Bool :=
  let P := N.map Int.ofNat
  (List.range 5).all fun a => (List.range 5).all fun (b : Nat) =>
    if inbF P a b = true then decide (opa P a b a = pad (oppL P a b)) && inbF (oppL P a b) a b && decide (oppL (oppL P a b) a b = P) && decide (sumL (oppL P a b) + sumL P = (a : Int) * b) else true
theorem opTab : all16.all opOk = true := by decide +kernel
theorem inb_lim {P : List Int} {a b : Int} (h : inbF P a b = true) : valid P = true ∧ 0 ≤ a ∧ a ≤ 4 ∧ 0 ≤ b ∧ b ≤ 4 := by
  unfold inbF limB at h
  simp only [Bool.and_eq_true, decide_eq_true_eq] at h
  obtain ⟨h1, ⟨h2, h3, h4, h5⟩, -⟩ := h
  exact ⟨h1, h2, h3, h4, h5⟩
theorem opp_facts {P : List Int} {a b : Nat} (h : inbF P a b = true) : opa P a b a = pad (oppL P a b) ∧ inbF (oppL P a b) a b = true ∧ oppL (oppL P a b) a b = P ∧ sumL (oppL P a b) + sumL P = (a : Int) * b := by
  obtain ⟨hv, -, h2, -, h4⟩ := inb_lim h
  obtain ⟨N, hN, rfl⟩ := of_all opTab hv
  unfold opOk at hN
  have h5 := List.all_eq_true.1 (List.all_eq_true.1 hN a (List.mem_range.2 (by omega))) b (List.mem_range.2 (by omega))
  rw [if_pos h] at h5
  simp only [Bool.and_eq_true, decide_eq_true_eq] at h5
  obtain ⟨⟨⟨h6, h7⟩, h8⟩, h9⟩ := h5
  exact ⟨h6, h7, h8, h9⟩
def opbF (L : List Int) (a b : Int) : List Int := if inbF L a b = true then oppL L a.toNat b else []
theorem opbF_yes {L : List Int} {a : Nat} {b : Int} (h : inbF L a b = true) : opbF L a b = oppL L a b := by unfold opbF; rw [if_pos h, Int.toNat_natCast]
theorem opbF_no {L : List Int} {a b : Int} (h : inbF L a b = false) : opbF L a b = [] := by unfold opbF; rw [if_neg (by rw [h]; decide)]
theorem opbF_len (L : List Int) (a b : Int) : (opbF L a b).length ≤ 4 := by
  unfold opbF
  split
  · rename_i h
    obtain ⟨-, h1, h2, -⟩ := inb_lim h
    exact Nat.le_trans (opk_len _ _ _ _) (by omega)
  · simp
end Go.Proofs.Ytgkghebjaedjmaa
namespace Go.Proofs.Ytgkghebjaedjmaa
namespace NP
/-- how many are k -/
def eqc (k : Int) : List Int → Int
  | [] => 0
  | x :: r => (if x = k then 1 else 0) + eqc k r
theorem eqc_append (k : Int) (a b : List Int) : eqc k (a ++ b) = eqc k a + eqc k b := by
  induction a with
  | nil => simp [eqc]
  | cons x r ih => simp [eqc, ih]; omega
theorem eqc_take_succ (k : Int) (L : List Int) (i : Nat) (h : i < L.length) : eqc k (L.take (i + 1)) = eqc k (L.take i) + (if L[i] = k then 1 else 0) := by
  rw [List.take_succ_eq_append_getElem h, eqc_append]; simp [eqc]
theorem eqc_bd (k : Int) (L : List Int) : 0 ≤ eqc k L ∧ eqc k L ≤ L.length := by
  induction L with
  | nil => simp [eqc]
  | cons x r ih => simp only [eqc, List.length_cons]; split <;> omega
theorem eqc_cnt (k : Int) (L : List Int) : eqc k L = cnt k L - cnt (k + 1) L := by
  induction L with
  | nil => simp [eqc, cnt]
  | cons x r ih => simp only [eqc, cnt, ih]; (repeat' split) <;> omega
def tim (L : List Int) : List Int := (List.range (L.headD 0).toNat).map fun (j : Nat) => eqc ((j : Int) + 1) L
theorem tim_len (L : List Int) : (tim L).length = (L.headD 0).toNat := by simp [tim]
theorem tim_get (L : List Int) (k : Nat) (h : k < (tim L).length) : (tim L)[k] = eqc ((k : Int) + 1) L := by simp [tim]
def timF (L : List Int) : List Int := if valid L then tim L else []
theorem timF_yes {L : List Int} (h : valid L = true) : timF L = tim L := by simp [timF, h]
theorem timF_no {L : List Int} (h : valid L = false) : timF L = [] := by simp [timF, h]
theorem timF_len (L : List Int) : (timF L).length ≤ 16 := by
  unfold timF
  split
  · rename_i h
    rw [tim_len]
    have := headD_bd h
    omega
  · simp
def tacc (L : List Int) (H k : Nat) : List Int := (List.range H).map fun (j : Nat) => eqc ((j : Int) + 1) (L.take k)
theorem tacc_len (L : List Int) (H k : Nat) : (tacc L H k).length = H := by simp [tacc]
theorem tacc_get (L : List Int) (H k j : Nat) (h : j < (tacc L H k).length) : (tacc L H k)[j] = eqc ((j : Int) + 1) (L.take k) := by simp [tacc]
theorem tacc_zero (L : List Int) (H : Nat) : tacc L H 0 = List.replicate H 0 := by
  apply List.ext_getElem
  · simp [tacc]
  · intro j h1 h2
    rw [tacc_get]
    simp [eqc]
theorem tacc_set (L : List Int) (H k m : Nat) (hk : k < L.length) (hm : L[k] = (m : Int) + 1) : (tacc L H k).set m (eqc ((m : Int) + 1) (L.take k) + 1) = tacc L H (k + 1) := by
  apply List.ext_getElem
  · simp [tacc]
  · intro j h1 h2
    rw [tacc_get, eqc_take_succ _ L k hk]
    by_cases hj : m = j
    · subst hj
      rw [List.getElem_set_self, if_pos hm]
    · rw [List.getElem_set_ne hj, tacc_get, if_neg (by omega)]
      omega
theorem tacc_end (L : List Int) : tacc L (L.headD 0).toNat L.length = tim L := by
  unfold tacc tim
  rw [List.take_of_length_le (Nat.le_refl _)]
/-- the indices of the corners -/
def isC (L : List Int) (i : Nat) : Bool := decide (i + 1 = L.length) || decide (L.getD (i + 1) 0 < L.getD i 0)
def crnTo (L : List Int) (n : Nat) : List Int := ((List.range n).filter (isC L)).map Int.ofNat
def crn (L : List Int) : List Int := crnTo L L.length
theorem crnTo_succ (L : List Int) (n : Nat) : crnTo L (n + 1) = crnTo L n ++ if isC L n then [(n : Int)] else [] := by
  unfold crnTo
  rw [List.range_succ, List.filter_append, List.map_append]
  congr 1
  cases h : isC L n <;> simp [h]
theorem crnTo_len (L : List Int) (n : Nat) : (crnTo L n).length ≤ n := by
  unfold crnTo
  rw [List.length_map]
  exact Nat.le_trans (List.length_filter_le _ _) (by simp)
def crnF (L : List Int) : List Int := if valid L then crn L else []
theorem crnF_yes {L : List Int} (h : valid L = true) : crnF L = crn L := by simp [crnF, h]
theorem crnF_no {L : List Int} (h : valid L = false) : crnF L = [] := by simp [crnF, h]
theorem crnF_len (L : List Int) : (crnF L).length ≤ 16 := by
  unfold crnF
  split
  · rename_i h
    exact Nat.le_trans (crnTo_len L _) (valid_bd h).2.2.2
  · simp
end NP
end Go.Proofs.Ytgkghebjaedjmaa
namespace Go.Proofs.Ytgkghebjaedjmaa
namespace NP
/-- corners of a padded row -/
def isCD (D : List Int) (i : Nat) : Bool := decide (0 < D.getD i 0) && (decide (i = 15) || decide (D.getD (i + 1) 0 < D.getD i 0))
def fl (p : Nat → Bool) (n : Nat) : List Int := ((List.range n).filter p).map Int.ofNat
theorem fl_succ (p : Nat → Bool) (n : Nat) : fl p (n + 1) = fl p n ++ if p n then [(n : Int)] else [] := by
  unfold fl
  rw [List.range_succ, List.filter_append, List.map_append]
  congr 1
  cases h : p n <;> simp [h]
theorem fl_len (p : Nat → Bool) (n : Nat) : (fl p n).length ≤ n := by
  unfold fl
  rw [List.length_map]
  exact Nat.le_trans (List.length_filter_le _ _) (by simp)
theorem fl_congr (p q : Nat → Bool) (n : Nat) (h : ∀ i, i < n → p i = q i) : fl p n = fl q n := by
  induction n with
  | zero => rfl
  | succ n ih => rw [fl_succ, fl_succ, ih (fun i hi => h i (by omega)), h n (by omega)]
theorem fl_no (p : Nat → Bool) (n m : Nat) (hm : n ≤ m) (h : ∀ i, n ≤ i → i < m → p i = false) : fl p m = fl p n := by
  induction m with
  | zero => obtain rfl : n = 0 := by omega
            rfl
  | succ m ih =>
    rcases Nat.lt_or_ge m n with h1 | h1
    · obtain rfl : n = m + 1 := by omega
      rfl
    · rw [fl_succ, h m h1 (by omega), ih h1 (fun i hi hi2 => h i hi (by omega))]
      simp
theorem crnTo_fl (L : List Int) (n : Nat) : crnTo L n = fl (isC L) n := rfl
theorem pad_getD {M : List Int} (h : M.length ≤ 16) (k : Nat) : (pad M).getD k 0 = M.getD k 0 := by
  rcases Nat.lt_or_ge k 16 with h1 | h1
  · rcases Nat.lt_or_ge k M.length with h2 | h2
    · rw [List.getD_eq_getElem?_getD, List.getElem?_eq_getElem (by rw [pad_len h]; omega), Option.getD_some, pad_get h h2, List.getD_eq_getElem?_getD, List.getElem?_eq_getElem h2]
      rfl
    · rw [List.getD_eq_getElem?_getD, List.getElem?_eq_getElem (by rw [pad_len h]; omega), Option.getD_some, pad_get0 h h2 h1, List.getD_eq_getElem?_getD, List.getElem?_eq_none h2]
      rfl
  · rw [List.getD_eq_getElem?_getD, List.getElem?_eq_none (by rw [pad_len h]; omega), List.getD_eq_getElem?_getD, List.getElem?_eq_none (by omega)]
theorem getD_pos {L : List Int} (hv : valid L = true) {i : Nat} (h : i < L.length) : 1 ≤ L.getD i 0 := by
  rw [List.getD_eq_getElem?_getD, List.getElem?_eq_getElem h, Option.getD_some]
  exact (preS_of_valid hv i h h).1
theorem getD_out {L : List Int} {i : Nat} (h : L.length ≤ i) : L.getD i 0 = 0 := by
  rw [List.getD_eq_getElem?_getD, List.getElem?_eq_none h]
  rfl
theorem isCD_pad {L : List Int} (hv : valid L = true) (i : Nat) : isCD (pad L) i = if i < L.length then isC L i else false := by
  have hl := (valid_bd hv).2.2.2
  unfold isCD isC
  rw [pad_getD hl, pad_getD hl]
  split
  · rename_i h
    have h1 := getD_pos hv h
    have e1 : decide (0 < L.getD i 0) = true := decide_eq_true (by omega)
    rw [e1, Bool.true_and]
    by_cases h15 : i = 15
    · have e2 : decide (i = 15) = true := decide_eq_true h15
      have e3 : decide (i + 1 = L.length) = true := decide_eq_true (by omega)
      rw [e2, e3]
    · have e2 : decide (i = 15) = false := decide_eq_false h15
      rw [e2, Bool.false_or]
      by_cases h3 : i + 1 = L.length
      · have e3 : decide (i + 1 = L.length) = true := decide_eq_true h3
        rw [e3, Bool.true_or, getD_out (by omega)]
        exact decide_eq_true (by omega)
      · have e3 : decide (i + 1 = L.length) = false := decide_eq_false h3
        rw [e3, Bool.false_or]
  · rename_i h
    rw [getD_out (by omega)]
    rfl
theorem crn_pad {L : List Int} (hv : valid L = true) : fl (isCD (pad L)) 16 = crn L := by
  have hl := (valid_bd hv).2.2.2
  rw [fl_no _ L.length 16 hl (fun i h1 _ => by rw [isCD_pad hv, if_neg (by omega)])]
  exact fl_congr _ _ _ fun i hi => by rw [isCD_pad hv, if_pos hi]
end NP
end Go.Proofs.Ytgkghebjaedjmaa
namespace Go.Proofs.Ytgkghebjaedjmaa
namespace NP
set_option linter.unusedVariables false
def hasI (M : List Int) (n : Int) : Bool := decide (n ∈ M)
theorem hasI_fl (p : Nat → Bool) (n : Nat) (i : Int) : hasI (fl p n) i = (decide (0 ≤ i) && decide (i < n) && p i.toNat) := by
  unfold hasI fl
  by_cases h0 : 0 ≤ i
  · obtain ⟨k, rfl⟩ := Int.eq_ofNat_of_zero_le h0
    have e : ((k : Int) ∈ ((List.range n).filter p).map Int.ofNat) ↔ (k < n ∧ p k = true) := by
      simp only [List.mem_map, List.mem_filter, List.mem_range]
      constructor
      · rintro ⟨a, ha, e⟩
        have : (a : Int) = (k : Int) := e
        obtain rfl : a = k := by omega
        exact ha
      · intro h
        exact ⟨k, h, rfl⟩
    simp only [e, Int.toNat_natCast]
    cases hp : p k <;> simp
  · have e : ¬ (i ∈ ((List.range n).filter p).map Int.ofNat) := by
      simp only [List.mem_map]
      rintro ⟨a, _, e⟩
      have : (a : Int) = i := e
      omega
    simp [e, h0]
theorem hasI_cons (x : Int) (M : List Int) (n : Int) : hasI (x :: M) n = (decide (n = x) || hasI M n) := by
  unfold hasI
  simp
theorem sumL_set (L : List Int) (k : Nat) (h : k < L.length) (x : Int) : sumL (L.set k x) = sumL L - L[k] + x := by
  induction L generalizing k with
  | nil => simp at h
  | cons y r ih =>
    cases k with
    | zero => simp [sumL]; omega
    | succ k =>
      simp only [List.set_cons_succ, sumL, List.getElem_cons_succ]
      rw [ih k (by simpa using h)]
      omega
theorem elem_le_sum {L : List Int} (h : ∀ x ∈ L, 0 ≤ x) {q : Nat} (hq : q < L.length) : L[q] ≤ sumL L ∧ 0 ≤ sumL L := by
  induction L generalizing q with
  | nil => simp at hq
  | cons x r ih =>
    have hx := h x (by simp)
    have hr : 0 ≤ sumL r := by
      cases r with
      | nil => simp [sumL]
      | cons y t => exact (ih (fun z hz => h z (by simp [hz])) (q := 0) (by simp)).2
    cases q with
    | zero => simp [sumL]; omega
    | succ q =>
      have := (ih (fun z hz => h z (by simp [hz])) (q := q) (by simpa using hq)).1
      simp only [List.getElem_cons_succ, sumL]
      omega
/-- a cell less -/
def lessL (L : List Int) (k : Nat) : List Int := if L.getD k 0 - 1 = 0 then (L.set k (L.getD k 0 - 1)).take k else L.set k (L.getD k 0 - 1)
def rmvOk (L : List Int) (i : Int) : Bool := valid L && (decide (0 ≤ i) && decide (i < L.length) && isC L i.toNat)
def rmv (L : List Int) (i : Int) : List Int := if rmvOk L i then lessL L i.toNat else []
theorem isC_next {L : List Int} {k : Nat} (hk : k + 1 < L.length) (h : isC L k = true) : L.getD (k + 1) 0 < L.getD k 0 := by
  unfold isC at h
  rw [decide_eq_false (by omega), Bool.false_or] at h
  exact of_decide_eq_true h
theorem valid_set_less {L : List Int} (hv : valid L = true) {k : Nat} (hk : k < L.length) (hc : isC L k = true) (h1 : L.getD k 0 - 1 ≠ 0) : valid (L.set k (L.getD k 0 - 1)) = true := by
  have hp := preS_of_valid hv
  have hb := valid_bd hv
  have hg : L.getD k 0 = L[k] := getD_lt hk
  apply valid_of_preS
  · intro j hj _
    rw [List.length_set] at hj
    have hpj := hp j hj hj
    have hpk := hp k hk hk
    by_cases hjk : k = j
    · subst hjk
      rw [List.getElem_set_self]
      refine ⟨by omega, by omega, fun h0 => ?_⟩
      rw [List.getElem_set_ne (by omega)]
      have := hpk.2.2 h0
      omega
    · rw [List.getElem_set_ne hjk]
      refine ⟨hpj.1, hpj.2.1, fun h0 => ?_⟩
      by_cases hj1 : k = j - 1
      · subst hj1
        rw [List.getElem_set_self]
        have hn := isC_next (L := L) (k := j - 1) (by omega) hc
        rw [getD_lt (by omega), getD_lt (by omega)] at hn
        have e : L[j - 1 + 1]'(by omega) = L[j] := by congr 1; omega
        rw [e] at hn
        omega
      · rw [List.getElem_set_ne hj1]
        exact hpj.2.2 h0
  · rw [sumL_set _ _ hk]; omega
theorem less_last {L : List Int} (hv : valid L = true) {k : Nat} (hk : k < L.length) (hc : isC L k = true) (h1 : L.getD k 0 - 1 = 0) : k + 1 = L.length := by
  rcases Nat.lt_or_ge (k + 1) L.length with h | h
  · have := isC_next h hc
    have := getD_pos hv h
    omega
  · omega
theorem valid_less {L : List Int} (hv : valid L = true) {k : Nat} (hk : k < L.length) (hc : isC L k = true) : valid (lessL L k) = true := by
  unfold lessL
  split
  · rename_i h1
    rw [List.take_set_of_le (Nat.le_refl _)]
    exact valid_take hv k
  · rename_i h1
    exact valid_set_less hv hk hc h1
theorem pad_ext {A B : List Int} (hA : A.length ≤ 16) (hB : B.length ≤ 16) (h : ∀ j, j < 16 → A.getD j 0 = B.getD j 0) : pad A = pad B := by
  apply List.ext_getElem
  · rw [pad_len hA, pad_len hB]
  · intro j h1 h2
    have e1 := pad_getD hA j
    have e2 := pad_getD hB j
    rw [getD_lt h1] at e1
    rw [getD_lt h2] at e2
    rw [e1, e2, h j (by rw [pad_len hA] at h1; omega)]
theorem getD_set (L : List Int) (k j : Nat) (hk : k < L.length) (x : Int) : (L.set k x).getD j 0 = if k = j then x else L.getD j 0 := by
  split
  · rename_i h
    subst h
    rw [getD_lt (by simpa using hk), List.getElem_set_self]
  · rename_i h
    rcases Nat.lt_or_ge j L.length with h1 | h1
    · rw [getD_lt (by simpa using h1), List.getElem_set_ne h, getD_lt h1]
    · rw [getD_ge (by simpa using h1), getD_ge h1]
theorem getD_take (L : List Int) (k j : Nat) : (L.take k).getD j 0 = if j < k then L.getD j 0 else 0 := by
  split
  · rename_i h
    rcases Nat.lt_or_ge j L.length with h1 | h1
    · rw [getD_lt (by simp; omega), getD_lt h1]; simp
    · rw [getD_ge (by simp; omega), getD_ge h1]
  · rename_i h
    rw [getD_ge (by simp; omega)]
theorem pad_setG {L : List Int} (hL : L.length ≤ 16) {k : Nat} (hk : k < 16) (x : Int) {M : List Int} (hM : M.length ≤ 16) (h : ∀ j, j < 16 → M.getD j 0 = if k = j then x else L.getD j 0) : (pad L).set k x = pad M := by
  apply List.ext_getElem
  · rw [List.length_set, pad_len hL, pad_len hM]
  · intro j h1 h2
    have e1 := getD_set (pad L) k j (by rw [pad_len hL]; exact hk) x
    have e2 := pad_getD hM j
    rw [getD_lt h1] at e1
    rw [getD_lt h2] at e2
    rw [e1, e2, h j (by rw [pad_len hM] at h2; omega), pad_getD hL]
theorem less_len (L : List Int) (k : Nat) : (lessL L k).length ≤ L.length := by
  unfold lessL
  split
  · rw [List.length_take, List.length_set]; omega
  · rw [List.length_set]; omega
theorem pad_less {L : List Int} (hv : valid L = true) {k : Nat} (hk : k < L.length) (hc : isC L k = true) : (pad L).set k (L.getD k 0 - 1) = pad (lessL L k) := by
  have hl := (valid_bd hv).2.2.2
  refine pad_setG hl (by omega) _ (Nat.le_trans (less_len L k) hl) fun j _ => ?_
  unfold lessL
  split
  · rename_i h1
    have := less_last hv hk hc h1
    rw [getD_take, getD_set _ _ _ hk]
    by_cases hjk : j < k
    · rw [if_pos hjk, if_neg (by omega)]
    · rw [if_neg hjk]
      split
      · omega
      · rw [getD_ge (by omega)]
  · rw [getD_set _ _ _ hk]
theorem rmv_len (L : List Int) (i : Int) : (rmv L i).length ≤ 16 := by
  unfold rmv
  split
  · rename_i h
    unfold rmvOk at h
    simp only [Bool.and_eq_true] at h
    exact Nat.le_trans (less_len L _) (valid_bd h.1).2.2.2
  · simp
/-- a cell more -/
def addL (L : List Int) (k : Nat) : List Int := if k = L.length then L ++ [1] else L.set k (L.getD k 0 + 1)
def addOk (L : List Int) (i : Int) : Bool := valid L && (decide (0 ≤ i) && decide (i ≤ L.length) && valid (addL L i.toNat))
def addC (L : List Int) (i : Int) : List Int := if addOk L i then addL L i.toNat else []
theorem addC_len (L : List Int) (i : Int) : (addC L i).length ≤ 16 := by
  unfold addC
  split
  · rename_i h
    unfold addOk at h
    simp only [Bool.and_eq_true] at h
    exact (valid_bd h.2.2).2.2.2
  · simp
theorem addL_len (L : List Int) (k : Nat) : (addL L k).length ≤ L.length + 1 := by
  unfold addL; split <;> simp
theorem addL_getD (L : List Int) {k : Nat} (hk : k ≤ L.length) (j : Nat) : (addL L k).getD j 0 = if k = j then L.getD k 0 + 1 else L.getD j 0 := by
  unfold addL
  split
  · rename_i h
    subst h
    split
    · rename_i h
      subst h
      rw [getD_lt (by simp), getD_ge (Nat.le_refl _)]
      simp
    · rename_i h
      rcases Nat.lt_or_ge j L.length with h1 | h1
      · rw [getD_lt (by simp; omega), getD_lt h1, List.getElem_append_left h1]
      · rw [getD_ge (by simp; omega), getD_ge h1]
  · rw [getD_set _ _ _ (by omega)]
theorem sumL_add (L : List Int) {k : Nat} (hk : k ≤ L.length) : sumL (addL L k) = sumL L + 1 := by
  unfold addL
  split
  · rw [sumL_append]; simp [sumL]
  · rw [sumL_set _ _ (by omega), getD_lt (by omega)]; omega
theorem valid_add {L : List Int} (hv : valid L = true) {k : Nat} (hk : k ≤ L.length) : valid (addL L k) = (decide (sumL L ≠ 16) && (decide (k = 0) || decide (L.getD k 0 + 1 ≤ L.getD (k - 1) 0))) := by
  have hp := preS_of_valid hv
  have hb := valid_bd hv
  have hs := sumL_add L hk
  apply Bool.eq_iff_iff.2
  simp only [Bool.and_eq_true, Bool.or_eq_true, decide_eq_true_eq]
  constructor
  · intro h
    have hb2 := valid_bd h
    refine ⟨by omega, ?_⟩
    by_cases h0 : k = 0
    · exact .inl h0
    · right
      have hkl : k < (addL L k).length := by unfold addL; split <;> simp <;> omega
      have := (preS_of_valid h k hkl hkl).2.2 (by omega)
      rw [← getD_lt hkl, ← getD_lt (by omega), addL_getD L hk, addL_getD L hk, if_pos rfl, if_neg (by omega)] at this
      exact this
  · rintro ⟨h1, h2⟩
    apply valid_of_preS
    · intro j hj _
      have hjl : j ≤ L.length := by have := addL_len L k; omega
      have e1 := addL_getD L hk j
      rw [getD_lt hj] at e1
      have hs16 := hb.2.1
      have hle : ∀ q, 0 ≤ L.getD q 0 ∧ L.getD q 0 ≤ 15 := by
        intro q
        rcases Nat.lt_or_ge q L.length with hq | hq
        · have a1 := hp q hq hq
          rw [getD_lt hq]
          have a2 := elem_le_sum (fun x hx => by obtain ⟨n, hn, e⟩ := List.mem_iff_getElem.1 hx; have := hp n hn hn; omega) hq
          omega
        · rw [getD_ge hq]; omega
      have hlek := hle k
      have hlej := hle j
      have hge : k ≠ j → 1 ≤ L.getD j 0 := by
        intro hne
        have : j < L.length := by
          by_cases hkl : k = L.length
          · omega
          · have : (addL L k).length = L.length := by unfold addL; rw [if_neg hkl]; simp
            omega
        exact getD_pos hv this
      refine ⟨by rw [e1]; split <;> omega, by rw [e1]; split <;> omega, fun h0 => ?_⟩
      have e2 := addL_getD L hk (j - 1)
      rw [getD_lt (by omega)] at e2
      rw [e1, e2]
      have hmono : L.getD j 0 ≤ L.getD (j - 1) 0 := by
        rcases Nat.lt_or_ge j L.length with hq | hq
        · rw [getD_lt hq, getD_lt (by omega)]
          exact (hp j hq hq).2.2 h0
        · rw [getD_ge hq]; exact (hle _).1
      by_cases hkj : k = j
      · subst hkj
        rw [if_pos rfl, if_neg (by omega)]
        omega
      · rw [if_neg hkj]
        split
        · rename_i hkj1
          subst hkj1
          omega
        · exact hmono
    · omega
theorem pad_add {L : List Int} (hl : L.length ≤ 16) {k : Nat} (hk : k ≤ L.length) (hk16 : k < 16) (hl2 : (addL L k).length ≤ 16) : (pad L).set k (L.getD k 0 + 1) = pad (addL L k) := pad_setG hl hk16 _ hl2 fun j _ => addL_getD L hk j
end NP
end Go.Proofs.Ytgkghebjaedjmaa
namespace Go.Proofs.Ytgkghebjaedjmaa
namespace NP
set_option linter.unusedVariables false
def two (P Q : List Int) : Bool := valid P && valid Q && decide (sumL P + sumL Q ≤ 16)
def adp (P Q : List Int) : List Int := (List.range (max P.length Q.length)).map fun i => P.getD i 0 + Q.getD i 0
theorem adp_len (P Q : List Int) : (adp P Q).length = max P.length Q.length := by simp [adp]
theorem adp_getD (P Q : List Int) (i : Nat) : (adp P Q).getD i 0 = P.getD i 0 + Q.getD i 0 := by
  rcases Nat.lt_or_ge i (max P.length Q.length) with h | h
  · rw [getD_lt (by rw [adp_len]; exact h)]
    simp [adp]
  · rw [getD_ge (by rw [adp_len]; exact h), getD_ge (by omega), getD_ge (by omega)]
    rfl
theorem getD_nn {L : List Int} (hv : valid L = true) (i : Nat) : 0 ≤ L.getD i 0 ∧ L.getD i 0 ≤ 16 := by
  rcases Nat.lt_or_ge i L.length with h | h
  · rw [getD_lt h]
    have := preS_of_valid hv i h h
    omega
  · rw [getD_ge h]; omega
theorem getD_fall {L : List Int} (hv : valid L = true) (i : Nat) (h : 0 < i) : L.getD i 0 ≤ L.getD (i - 1) 0 := by
  rcases Nat.lt_or_ge i L.length with h1 | h1
  · rw [getD_lt h1, getD_lt (by omega)]
    exact (preS_of_valid hv i h1 h1).2.2 h
  · rw [getD_ge h1]; exact (getD_nn hv _).1
/-- the sum, by places -/
def sumTo (L : List Int) : Nat → Int
  | 0 => 0
  | n + 1 => sumTo L n + L.getD n 0
theorem sumTo_take (L : List Int) (n : Nat) : sumTo L n = sumL (L.take n) := by
  induction n with
  | zero => rfl
  | succ n ih =>
    rw [sumTo, ih]
    rcases Nat.lt_or_ge n L.length with h | h
    · rw [sumL_take_succ L n h, getD_lt h]
    · rw [getD_ge h, List.take_of_length_le h, List.take_of_length_le (by omega)]; omega
theorem sumTo_all (L : List Int) (n : Nat) (h : L.length ≤ n) : sumTo L n = sumL L := by rw [sumTo_take, List.take_of_length_le h]
theorem sumTo_add {A P Q : List Int} (h : ∀ i, A.getD i 0 = P.getD i 0 + Q.getD i 0) (n : Nat) : sumTo A n = sumTo P n + sumTo Q n := by
  induction n with
  | zero => rfl
  | succ n ih => rw [sumTo, sumTo, sumTo, ih, h]; omega
theorem adp_sum (P Q : List Int) : sumL (adp P Q) = sumL P + sumL Q := by
  rw [← sumTo_all (adp P Q) (max P.length Q.length) (by rw [adp_len]; exact Nat.le_refl _), sumTo_add (adp_getD P Q), sumTo_all P _ (Nat.le_max_left _ _), sumTo_all Q _ (Nat.le_max_right _ _)]
theorem two_out {P Q : List Int} (h : two P Q = true) : valid P = true ∧ valid Q = true ∧ sumL P + sumL Q ≤ 16 := by
  unfold two at h
  simp only [Bool.and_eq_true, decide_eq_true_eq] at h
  exact ⟨h.1.1, h.1.2, h.2⟩
theorem valid_adp {P Q : List Int} (h : two P Q = true) : valid (adp P Q) = true := by
  obtain ⟨hp, hq, hs⟩ := two_out h
  have hbp := valid_bd hp
  have hbq := valid_bd hq
  apply valid_of_preS
  · intro j hj _
    have e := adp_getD P Q j
    rw [getD_lt hj] at e
    have h1 := getD_nn hp j
    have h2 := getD_nn hq j
    rw [adp_len] at hj
    have h3 : 1 ≤ P.getD j 0 + Q.getD j 0 := by
      rcases Nat.lt_or_ge j P.length with h | h
      · have := getD_pos hp h; omega
      · have := getD_pos hq (by omega : j < Q.length); omega
    have h4 : P.getD j 0 + Q.getD j 0 ≤ 16 := by
      have a1 : P.getD j 0 ≤ sumL P := by
        rcases Nat.lt_or_ge j P.length with h | h
        · rw [getD_lt h]
          exact (elem_le_sum (fun x hx => by obtain ⟨n, hn, e⟩ := List.mem_iff_getElem.1 hx; have := preS_of_valid hp n hn hn; omega) h).1
        · rw [getD_ge h]; omega
      have a2 : Q.getD j 0 ≤ sumL Q := by
        rcases Nat.lt_or_ge j Q.length with h | h
        · rw [getD_lt h]
          exact (elem_le_sum (fun x hx => by obtain ⟨n, hn, e⟩ := List.mem_iff_getElem.1 hx; have := preS_of_valid hq n hn hn; omega) h).1
        · rw [getD_ge h]; omega
      omega
    refine ⟨by omega, by omega, fun h0 => ?_⟩
    have e2 := adp_getD P Q (j - 1)
    rw [getD_lt (by rw [adp_len]; omega)] at e2
    have := getD_fall hp j h0
    have := getD_fall hq j h0
    omega
  · rw [adp_sum]; exact hs
/-- what stands in the program's diagram when i places have been added to -/
def amid (P Q : List Int) (i : Nat) : List Int := (List.range 16).map fun j => if j < i then P.getD j 0 + Q.getD j 0 else P.getD j 0
theorem amid_len (P Q : List Int) (i : Nat) : (amid P Q i).length = 16 := by simp [amid]
theorem amid_get (P Q : List Int) (i j : Nat) (h : j < (amid P Q i).length) : (amid P Q i)[j] = if j < i then P.getD j 0 + Q.getD j 0 else P.getD j 0 := by simp [amid]
theorem amid_zero {P : List Int} (hp : P.length ≤ 16) (Q : List Int) : amid P Q 0 = pad P := by
  apply List.ext_getElem
  · rw [amid_len, pad_len hp]
  · intro j h1 h2
    rw [amid_get, if_neg (by omega), ← pad_getD hp, getD_lt h2]
theorem amid_set (P Q : List Int) (i : Nat) : (amid P Q i).set i (P.getD i 0 + Q.getD i 0) = amid P Q (i + 1) := by
  apply List.ext_getElem
  · rw [List.length_set, amid_len, amid_len]
  · intro j h1 h2
    by_cases hj : i = j
    · subst hj
      rw [List.getElem_set_self, amid_get, if_pos (by omega)]
    · rw [List.getElem_set_ne hj, amid_get, amid_get]
      split <;> split <;> first | rfl | omega
theorem amid_end {P Q : List Int} (h : two P Q = true) : amid P Q 16 = pad (adp P Q) := by
  have hv := valid_adp h
  have hl := (valid_bd hv).2.2.2
  apply List.ext_getElem
  · rw [amid_len, pad_len hl]
  · intro j h1 h2
    rw [amid_get, if_pos (by rw [amid_len] at h1; exact h1)]
    have e := pad_getD hl j
    rw [getD_lt h2, adp_getD] at e
    exact e.symm
def adpF (P Q : List Int) : List Int := if two P Q then adp P Q else []
theorem adpF_yes {P Q : List Int} (h : two P Q = true) : adpF P Q = adp P Q := by simp [adpF, h]
theorem adpF_no {P Q : List Int} (h : two P Q = false) : adpF P Q = [] := by simp [adpF, h]
theorem adpF_len (P Q : List Int) : (adpF P Q).length ≤ 16 := by
  unfold adpF
  split
  · rename_i h
    exact (valid_bd (valid_adp h)).2.2.2
  · simp
end NP
end Go.Proofs.Ytgkghebjaedjmaa
namespace Go.Proofs.Ytgkghebjaedjmaa
namespace NP
set_option linter.unusedVariables false
/-- how many of the first n rows have a cell on a diagonal -/
def dc (L : List Int) (d : Int) : Nat → Int
  | 0 => 0
  | n + 1 => dc L d n + (if 0 ≤ d + n ∧ d + n < L.getD n 0 then 1 else 0)
theorem dc_bd (L : List Int) (d : Int) (n : Nat) : 0 ≤ dc L d n ∧ dc L d n ≤ n := by
  induction n with
  | zero => simp [dc]
  | succ n ih => simp only [dc]; split <;> omega
theorem dc_succ (L : List Int) (d : Int) (n : Nat) : dc L d (n + 1) = dc L d n + (if 0 ≤ d + n ∧ d + n < L.getD n 0 then 1 else 0) := rfl
theorem dc_congr {L M : List Int} (d : Int) (n : Nat) (h : ∀ i, i < n → L.getD i 0 = M.getD i 0) : dc L d n = dc M d n := by
  induction n with
  | zero => rfl
  | succ n ih => rw [dc_succ, dc_succ, ih (fun i hi => h i (by omega)), h n (by omega)]
theorem dc_more {L : List Int} (d : Int) (n m : Nat) (hm : n ≤ m) (h : ∀ i, n ≤ i → L.getD i 0 = 0) : dc L d m = dc L d n := by
  induction m with
  | zero => obtain rfl : n = 0 := by omega
            rfl
  | succ m ih =>
    rcases Nat.lt_or_ge m n with h1 | h1
    · obtain rfl : n = m + 1 := by omega
      rfl
    · rw [dc_succ, ih h1, h m h1, if_neg (by omega)]
      omega
/-- the diagonals of rows, n of them, R rows -/
def dia (L : List Int) : List Int := (List.range (L.length - 1 + (L.headD 0).toNat)).map fun (t : Nat) => dc L ((t : Int) + 1 - L.length) L.length
def diaF (L : List Int) : List Int := if valid L then dia L else []
theorem diaF_yes {L : List Int} (h : valid L = true) : diaF L = dia L := by simp [diaF, h]
theorem diaF_no {L : List Int} (h : valid L = false) : diaF L = [] := by simp [diaF, h]
theorem diaF_len (L : List Int) : (diaF L).length ≤ 32 := by
  unfold diaF
  split
  · rename_i h
    have := headD_bd h
    have := valid_bd h
    simp only [dia, List.length_map, List.length_range]
    omega
  · simp
/-- what has been counted when i rows are done, and k cells of the next -/
def dac (L : List Int) (T i k : Nat) : List Int := (List.range T).map fun (t : Nat) => dc (pad L) ((t : Int) + 1 - L.length) i + (if 0 ≤ (t : Int) + 1 - L.length + i ∧ (t : Int) + 1 - L.length + i < k then 1 else 0)
theorem dac_len (L : List Int) (T i k : Nat) : (dac L T i k).length = T := by simp [dac]
theorem dac_zero (L : List Int) (T : Nat) : dac L T 0 0 = List.replicate T 0 := by
  apply List.ext_getElem
  · simp [dac]
  · intro j h1 h2
    simp only [dac, List.getElem_map, List.getElem_range, dc, List.getElem_replicate]
    rw [if_neg (by omega)]
    rfl
theorem dac_get (L : List Int) (T i k m : Nat) (hm : m < (dac L T i k).length) (he : m + i + 1 = L.length + k) : (dac L T i k)[m] = dc (pad L) ((m : Int) + 1 - L.length) i := by
  simp only [dac, List.getElem_map, List.getElem_range]
  rw [if_neg (by omega), Int.add_zero]
theorem dac_set (L : List Int) (T i k m : Nat) (hm : m < T) (he : m + i + 1 = L.length + k) : (dac L T i k).set m (dc (pad L) ((m : Int) + 1 - L.length) i + 1) = dac L T i (k + 1) := by
  apply List.ext_getElem
  · simp [dac]
  · intro j h1 h2
    by_cases hj : m = j
    · subst hj
      rw [List.getElem_set_self]
      simp only [dac, List.getElem_map, List.getElem_range]
      rw [if_pos (by omega)]
    · rw [List.getElem_set_ne hj]
      simp only [dac, List.getElem_map, List.getElem_range]
      congr 1
      split <;> split <;> omega
theorem dac_next (L : List Int) (T i k : Nat) (hk : (k : Int) = (pad L).getD i 0) : dac L T i k = dac L T (i + 1) 0 := by
  apply List.ext_getElem
  · simp [dac]
  · intro j h1 h2
    simp only [dac, List.getElem_map, List.getElem_range, dc_succ]
    rw [← hk]
    have : ¬ (0 ≤ (j : Int) + 1 - L.length + ((i + 1 : Nat) : Int) ∧ (j : Int) + 1 - L.length + ((i + 1 : Nat) : Int) < ((0 : Nat) : Int)) := by omega
    rw [if_neg this]
    split <;> omega
theorem dac_end {L : List Int} (hl : L.length ≤ 16) : dac L (L.length - 1 + (L.headD 0).toNat) 16 0 = dia L := by
  apply List.ext_getElem
  · simp [dac, dia]
  · intro j h1 h2
    simp only [dac, dia, List.getElem_map, List.getElem_range]
    rw [if_neg (by omega), dc_more _ L.length 16 hl (fun i hi => by rw [pad_getD hl, getD_out hi])]
    rw [dc_congr _ _ (fun i _ => pad_getD hl i)]
    omega
end NP
end Go.Proofs.Ytgkghebjaedjmaa
