/-
  Walks: the drawing of parts: newReader, sumFor, partsOf, goodParts, bent, someParts: whatever is drawn is a short list of small numbers in new memory.
-/
import Derived.Test.YthafbdpeignccaaL1
import Derived.Test.YthafbdpeignccaaD1
import Derived.Test.YthafbdpeignccaaD2
namespace Go.Proofs.Ythafbdpeignccaa
open Go.RowKit NP
set_option maxRecDepth 8000
set_option linter.unusedVariables false

def Small (M : List Int) : Prop := M.length ≤ 40 ∧ ∀ x ∈ M, -1 ≤ x ∧ x ≤ 17
def SmallParts (M : List Int) : Prop := M.length ≤ 16 ∧ ∀ x ∈ M, 1 ≤ x ∧ x ≤ 16

theorem insK_len (M : List Int) (x : Int) : (insK M x).length = M.length + 1 := by
  unfold insK; simp; omega
theorem insK_mem {M : List Int} {x y : Int} (h : y ∈ insK M x) : y = x ∨ y ∈ M := by
  unfold insK at h
  simp at h
  rcases h with h | h | h
  · exact .inr (List.mem_of_mem_take h)
  · exact .inl h
  · exact .inr (List.mem_of_mem_drop h)
theorem fold_ins (L : List Int) : ∀ M, (L.foldl insK M).length = L.length + M.length ∧ ∀ y ∈ L.foldl insK M, y ∈ L ∨ y ∈ M := by
  induction L with
  | nil => intro M; exact ⟨by simp, fun y hy => .inr hy⟩
  | cons x r ih =>
    intro M
    simp only [List.foldl_cons]
    have h := ih (insK M x)
    refine ⟨by rw [h.1, insK_len]; simp; omega, fun y hy => ?_⟩
    rcases h.2 y hy with h1 | h1
    · exact .inl (by simp [h1])
    · rcases insK_mem h1 with rfl | h2
      · exact .inl (by simp)
      · exact .inr h2
theorem mrg_small {L : List Int} (h : SmallParts L) : SmallParts (mrg L) := by
  have hf := fold_ins L []
  refine ⟨by unfold mrg; rw [hf.1]; simpa using h.1, fun x hx => ?_⟩
  rcases hf.2 x hx with h1 | h1
  · exact h.2 x h1
  · simp at h1


theorem sumFor_any (g q : Nat) (bs : List Int) (w : World) (hq : q ≤ 1000000) (h : Rdr w g bs q) :
    Calls Try.prog 59 #[.pointer (some ⟨g, 0, none⟩)] w fun e w' => ∃ x : Int, e = .returned (.int .i64 x) ∧ (0 ≤ x ∧ x ≤ 16) ∧ Rdr w' g bs (q + 1) ∧ w.grownBy w' (some g) := by
  have hlt := h.lt
  go_enter Try.func59, Try.ntmps59
  go_wp2_with fail
  refine (one_any g q _ _ _ [6, 8, 5, 9, 12, 4, 3, 16, 2, 1, 0, 10] bs _ (by simp) (by simp) hq (h.below ((Below.refl _ _).alloc hlt _)) (rd_new w _ _) (by intro b o e; injection e with e; injection e with e; omega)).mono ?_
  rintro e w1 ⟨k, hk, rfl, h1, hg1, -⟩
  have hx : ∀ x ∈ ([6, 8, 5, 9, 12, 4, 3, 16, 2, 1, 0, 10] : List Int), 0 ≤ x ∧ x ≤ 16 := by decide
  have hx1 := hx _ (List.getElem_mem hk)
  obtain ⟨x, hxx⟩ : ∃ x, x = ([6, 8, 5, 9, 12, 4, 3, 16, 2, 1, 0, 10] : List Int)[k] := ⟨_, rfl⟩
  rw [← hxx] at hx1 ⊢
  clear hx hxx
  go_wp2_with fail
  go_ret
  exact ⟨x, rfl, hx1, h1, chg_trans (World.grownBy_alloc w _ _) hg1⟩

set_option maxHeartbeats 400000 in
theorem partsOf_any (g q : Nat) (n : Int) (bs : List Int) (w : World) (hn0 : 0 ≤ n) (hn : n ≤ 16) (hq : q ≤ 900000) (h : Rdr w g bs q) :
    Calls Try.prog 73 #[.pointer (some ⟨g, 0, none⟩), .int .i64 n] w fun e w' => ∃ a' c' M, e = .returned (.slice a' M.length c') ∧ Own w' w.heap.size w'.heap.size 3 (.slice a' M.length c') (ints M) ∧ SmallParts M ∧ (∃ q', q' ≤ q + 32 ∧ Rdr w' g bs q') ∧ w.grownBy w' (some g) := by
  obtain ⟨i0, hi, hz0, hz1, hz2⟩ := T_int'
  have hlt := h.lt
  go_enter Try.func73, Try.ntmps73
  go_wp2_with fail
  go_loopw [1, 5] (fun nn v wr => ∃ (m : Nat) (q' : Nat) (M : List Int), nn = .int .i64 (m : Int) ∧ M.length + m ≤ 16 ∧ q' + 2 * m ≤ q + 32 ∧ Rdr wr g bs q' ∧ w.grownBy wr (some g) ∧ Own wr w.heap.size wr.heap.size 3 v (ints M) ∧ Hid (∀ x ∈ M, 1 ≤ x ∧ x ≤ 16)) (fun nn _ _ => (intOf nn).toNat)
  case atStart =>
    obtain ⟨m, rfl⟩ := Int.eq_ofNat_of_zero_le hn0
    exact ⟨m, q, [], rfl, by simp; omega, by omega, h.below ((Below.refl _ _).alloc hlt _), World.grownBy_alloc w _ _, (Own.empty w 3).more, Lib.hid (by simp)⟩
  case round =>
    obtain ⟨m, q', M, rfl, hMm, hqm, hr, hg, hown, HM⟩ := hrel
    by_cases hm : 0 < m
    · have hm' : (0 : Int) < (m : Int) := by omega
      have hltr := hr.lt
      have HO := Lib.hid hown
      clear hown
      go_wp2_with fail
      refine (one_any g q' _ _ _ [3, 5, 9, 2, 16] bs _ (by simp) (by simp) (by omega) (hr.below ((Below.refl _ _).alloc hltr _)) (rd_new wr _ _) (by intro b o e; injection e with e; injection e with e; omega)).mono ?_
      rintro e w1 ⟨k, hk, rfl, h1, hg1, -⟩
      have hx : ∀ x ∈ ([3, 5, 9, 2, 16] : List Int), 2 ≤ x ∧ x ≤ 16 := by decide
      have hx1 := hx _ (List.getElem_mem hk)
      obtain ⟨x, hxx⟩ : ∃ x, x = ([3, 5, 9, 2, 16] : List Int)[k] := ⟨_, rfl⟩
      rw [← hxx] at hx1 ⊢
      clear hx hxx hk
      have hzr := hg.size
      have HO1 := Lib.hid ((HO.out.alloc (.cells (ints [3, 5, 9, 2, 16]).toArray 3)).chg hg1 (by omega)).more
      have hgw1 := chg_trans (chg_alloc hg (.cells (ints [3, 5, 9, 2, 16]).toArray 3)) hg1
      clear hg1 HO
      go_wp2_with fail
      all_goals
        refine (pick_any g _ _ bs _ (by omega) (by omega) h1).mono ?_
        rintro e w2 ⟨y, rfl, hy0, hy1, h2, hg2, -⟩
        obtain ⟨y, rfl⟩ := Int.eq_ofNat_of_zero_le hy0
        have hym : y + 1 ≤ m := by have := hy1 (by omega); omega
        clear hy1
        have hown2 := (HO1.out.chg hg2 (by omega)).more
        have hgw2 := chg_trans hgw1 hg2
        have hzw2 := hgw2.size
        clear hgw1 hg2 HO1
        go_wp2_with (at_builtin; refine wpList_append_o _ rfl (.tmp 18) (.tmp 20) 22 rfl w.heap.size w2.heap.size 3 i0 (.int .i64 0) 8 Try.underlying22 hi hz0 hz1 hz2 rfl _ (ints M) rfl (hown2.alloc _) (w2.heap.size + 1) (some ⟨w2.heap.size, 0, none⟩) 1 1 [.int .i64 (1 + (y : Int))] rfl (Rd.one w2 _ _) rfl (by simp; rfl) (by simp; unfold maxLen; omega) (by simp; omega) (by simp; omega) ?_; intro v' w3 ho3 hg3 hat3)
        go_roundw
        case rel =>
          refine ⟨m - (1 + y), q' + 2, M ++ [1 + (y : Int)], by go_num, by simp; omega, by omega, (h2.row (World.grownBy_alloc w2 _ none) (by simp)).row hg3 (fun k hk => by have := hown2.base k hk; omega), chg_row (chg_alloc hgw2 _) hg3 hown2.base, by simpa [ints] using ho3, Lib.hid fun x hx => ?_⟩
          simp at hx
          rcases hx with hx | hx
          · exact HM.out x hx
          · omega
        case measure => simp [intOf]; omega
    · obtain rfl : m = 0 := by omega
      obtain ⟨a0, c0, rfl⟩ := hown.form
      have hs : SmallParts M := ⟨by omega, HM.out⟩
      have HS := Lib.hid (mrg_small hs)
      have hlM : (ints M).length = M.length := by simp
      rw [hlM] at hown ⊢
      have HO := Lib.hid hown
      clear hown hlM
      go_wp2_with fail
      refine (merge_any _ _ _ M _ HO.out.rd (by omega) (by have := hs.1; omega)).mono ?_
      rintro e w1 ⟨a', c', rfl, ho1, hb1⟩
      go_wp2_with fail
      go_ret
      exact ⟨a', c', mrg M, rfl, ho1.lower hg.size, HS.out, ⟨q', by omega, hr.below (hb1.mono hr.lt)⟩, chg_below hg (hb1.mono hg.size)⟩

theorem below_push' {g : Nat} {w0 w w1 : World} {o : Obj} {row : Option Nat} (hb : Below g w0 w) (hB : g < w.heap.size) (hg : (w.alloc o).grownBy w1 row) (hr : ∀ k, row = some k → g ≤ k) : Below g w0 w1 :=
  (hb.alloc (by omega) o).grown hg (by simp; omega) hr

/-- what a draw of parts leaves -/
def Drawn (g : Nat) (bs : List Int) (P : List Int → Prop) (top : Nat) (w : World) (e : Ending) (w' : World) : Prop :=
  ∃ a' c' M, e = .returned (.slice a' M.length c') ∧ Own w' w.heap.size w'.heap.size 3 (.slice a' M.length c') (ints M) ∧ P M ∧ (∃ q', q' ≤ top ∧ Rdr w' g bs q') ∧ w.grownBy w' (some g)

theorem goodParts_any (g q : Nat) (bs : List Int) (w : World) (hq : q ≤ 800000) (h : Rdr w g bs q) :
    Calls Try.prog 67 #[.pointer (some ⟨g, 0, none⟩)] w (Drawn g bs SmallParts (q + 40) w) := by
  go_enter Try.func67, Try.ntmps67
  go_wp2_with fail
  refine (sumFor_any g q bs _ (by omega) h).mono ?_
  rintro e w1 ⟨x, rfl, ⟨hx0, hx1⟩, h1, hg1⟩
  go_wp2_with fail
  refine (partsOf_any g _ x bs _ hx0 hx1 (by omega) h1).mono ?_
  rintro e w2 ⟨a', c', M, rfl, ho, hs, ⟨q', hq', h2⟩, hg2⟩
  go_wp2_with fail
  go_ret
  exact ⟨a', c', M, rfl, ho.lower hg1.size, hs, ⟨q', by omega, h2⟩, chg_trans hg1 hg2⟩

/-- but for block g, nothing below lo has turned -/
structure Chg (g lo : Nat) (w w' : World) : Prop where
  os : w'.os = w.os
  tape : w'.tape = w.tape
  output : w'.output = w.output
  size : w.heap.size ≤ w'.heap.size
  block : ∀ k, k < lo → k ≠ g → w'.heap[k]? = w.heap[k]?
theorem Chg.trans {g lo : Nat} {a b c : World} (h : Chg g lo a b) (k : Chg g lo b c) : Chg g lo a c :=
  ⟨k.os.trans h.os, k.tape.trans h.tape, k.output.trans h.output, Nat.le_trans h.size k.size, fun i hi hne => (k.block i hi hne).trans (h.block i hi hne)⟩
theorem Chg.of {g lo : Nat} {w w' : World} (h : w.grownBy w' (some g)) (hlo : lo ≤ w.heap.size) : Chg g lo w w' :=
  ⟨h.os, h.tape, h.output, h.size, fun k hk hne => h.block k (by omega) (fun e => by injection e with e; exact hne e)⟩
theorem Chg.ofBelow {g lo : Nat} {w w' : World} (h : Below lo w w') : Chg g lo w w' := ⟨h.os, h.tape, h.output, h.size, fun k hk _ => h.block k hk⟩
theorem Chg.below {g lo : Nat} {w w' : World} (h : Chg g lo w w') (hg : g ≤ lo) : Below g w w' := ⟨h.os, h.tape, h.output, h.size, fun k hk => h.block k (by omega) (by omega)⟩
theorem Chg.grown {g : Nat} {w w' : World} (h : Chg g w.heap.size w w') : w.grownBy w' (some g) := ⟨h.os, h.tape, h.output, h.size, fun k hk hne => h.block k hk (fun e => hne (by rw [e]))⟩
theorem Chg.push {g lo : Nat} {w0 w w1 : World} {o : Obj} {row : Option Nat} (hb : Chg g lo w0 w) (hB : lo ≤ w.heap.size) (hg : (w.alloc o).grownBy w1 row) (hr : ∀ k, row = some k → lo ≤ k) : Chg g lo w0 w1 :=
  hb.trans (.ofBelow (((Below.refl lo w).alloc hB o).grown hg (by simp; omega) hr))

set_option maxHeartbeats 400000 in
theorem bent_any (g q lo : Nat) (a : Option Addr) (c : Nat) (M : List Int) (bs : List Int) (w : World) (hq : q ≤ 900000) (h : Rdr w g bs q) (hs : SmallParts M) (ho : Own w lo w.heap.size 3 (.slice a M.length c) (ints M)) (hlo : g < lo) (hloW : lo ≤ w.heap.size) :
    Calls Try.prog 72 #[.pointer (some ⟨g, 0, none⟩), .slice a M.length c] w fun e w' => ∃ a' c' M', e = .returned (.slice a' M'.length c') ∧ Own w' lo w'.heap.size 3 (.slice a' M'.length c') (ints M') ∧ Small M' ∧ (∃ q', q' ≤ q + 4 ∧ Rdr w' g bs q') ∧ Chg g lo w w' := by
  obtain ⟨i0, hi, hz0, hz1, hz2⟩ := T_int'
  have hlt := h.lt
  have hM16 := hs.1
  have HSM : Hid (Small M) := Lib.hid ⟨by omega, fun x hx => by have := hs.2 x hx; omega⟩
  have HS := Lib.hid hs
  clear hs
  have HO := Lib.hid ho
  clear ho
  go_enter Try.func72, Try.ntmps72
  go_wp2_with fail
  refine (pick_any g _ _ bs _ (by omega) (by omega) h).mono ?_
  rintro e w1 ⟨y, rfl, hy0, hy1, h1, hg1, -⟩
  clear hy1
  have hb1 : Chg g lo w w1 := .of hg1 hloW
  have hown1 := (HO.out.chg hg1 hlo).more
  clear HO hg1
  have hlt1 := h1.lt
  by_cases h0 : y = 0
  · subst h0
    by_cases hM0 : 0 < M.length
    · have hM0' : (0 : Int) < (M.length : Int) := by omega
      have HO1 := Lib.hid hown1
      clear hown1
      go_wp2_with fail
      refine (pick_any g _ _ bs _ (by omega) (by omega) h1).mono ?_
      rintro e w2 ⟨y2, rfl, hy20, hy21, h2, hg2, -⟩
      obtain ⟨y2, rfl⟩ := Int.eq_ofNat_of_zero_le hy20
      have hyM : y2 < M.length := by have := hy21 (by omega); omega
      clear hy21
      have HO2 := Lib.hid (HO1.out.chg hg2 hlo).more
      have hlt2 := h2.lt
      have hb2 : Chg g lo w w2 := hb1.trans (.of hg2 (by have := hb1.size; omega))
      clear HO1 hg2
      go_wp2_with fail
      refine (one_any g _ _ _ _ [0, -1, 17, 9] bs _ (by simp) (by simp) (by omega) (h2.below ((Below.refl _ _).alloc hlt2 _)) (rd_new w2 _ _) (by intro b o e; injection e with e; injection e with e; omega)).mono ?_
      rintro e w3 ⟨k, hk, rfl, h3, hg3, -⟩
      have hx : ∀ x ∈ ([0, -1, 17, 9] : List Int), -1 ≤ x ∧ x ≤ 17 := by decide
      have hx1 := hx _ (List.getElem_mem hk)
      obtain ⟨x, hxx⟩ : ∃ x, x = ([0, -1, 17, 9] : List Int)[k] := ⟨_, rfl⟩
      rw [← hxx] at hx1 ⊢
      clear hx hxx hk
      have hown3 := ((HO2.out.alloc (.cells (ints [0, -1, 17, 9]).toArray 3)).chg hg3 hlo).more
      have hsz2 := hb2.size
      have hb3 : Chg g lo w w3 := (hb2.trans (.ofBelow ((Below.refl lo w2).alloc (by omega) _))).trans (.of hg3 (by simp; omega))
      clear HO2 hg3
      obtain ⟨g2, u, rfl, hlo2, hhi2, hc2, hf2⟩ := hown3.spot (k := y2) (by simpa using hyM)
      have HO3 := Lib.hid hown3
      clear hown3
      have hcs : ∀ v, Chg g lo w (w3.setCell ⟨g2, y2, none⟩ v) := fun v => hb3.trans (.ofBelow ((Below.refl lo w3).setCell (by show lo ≤ g2; omega) v))
      have HCS := Lib.hid hcs
      clear hcs
      have HRS : Hid (∀ v, Rdr (w3.setCell ⟨g2, y2, none⟩ v) g bs (q + 1 + 1 + 1)) := Lib.hid fun v => h3.below ((Below.refl _ _).setCell (by show g + 1 ≤ g2; omega) v)
      go_wp2_with fail
      go_ret
      have e := HO3.out.set y2 (.int .i64 x)
      have hset : (ints M).set y2 (.int .i64 x) = ints (M.set y2 x) := by simp [ints, List.map_set]
      rw [hset] at e
      refine ⟨some ⟨g2, 0, none⟩, c, M.set y2 x, by simp, by simpa using e.more, ⟨by simpa using HSM.out.1, fun z hz => ?_⟩, ⟨_, by omega, HRS.out _⟩, HCS.out _⟩
      rcases List.mem_or_eq_of_mem_set hz with hz | rfl
      · exact HSM.out.2 z hz
      · exact hx1
    · have hM0' : (M.length : Int) ≤ 0 := by omega
      have hd0 : decide (0 < M.length) = false := decide_eq_false hM0
      have HO1 := Lib.hid hown1
      clear hown1
      go_wp2_with fail
      go_ret
      exact ⟨a, c, M, rfl, HO1.out, HSM.out, ⟨q + 1, by omega, h1⟩, hb1⟩
  · have e0 : (y == 0) = false := by simp; omega
    by_cases h1' : y = 1
    · subst h1'
      have hlo1 : lo ≤ w1.heap.size := by
        rcases hown1.row.2 with ⟨_, h⟩ | ⟨g2, cap, cur, _, hb, hg, _⟩
        · exact Nat.le_trans hloW hb1.size
        · have := (Array.getElem?_eq_some_iff.1 hg).1; omega
      have hlen2 : (ints M).length = M.length := by simp
      go_wp2_with (at_builtin; refine wpList_append_o _ rfl (.tmp 23) (.tmp 24) 22 rfl lo w1.heap.size 3 i0 (.int .i64 0) 8 Try.underlying22 hi hz0 hz1 hz2 rfl _ (ints M) rfl (hown1.alloc _) (w1.heap.size + 1) (some ⟨w1.heap.size, 0, none⟩) 1 1 (ints [9]) rfl (rd_new w1 _ _) rfl (ints_one _) (by rw [hlen2]; unfold maxLen; omega) (by rw [hlen2]; omega) (by simp; omega) ?_; intro v' w3 ho3 hg3 hat3)
      go_ret
      have e : ints M ++ ints [9] = ints (M ++ [9]) := by simp [ints]
      rw [e] at ho3
      obtain ⟨a', c', rfl⟩ := ho3.form
      have hl3 : (ints (M ++ [9])).length = (M ++ [9]).length := by simp
      rw [hl3] at ho3 ⊢
      refine ⟨a', c', M ++ [9], rfl, ho3, ⟨by simp; omega, fun x hx => ?_⟩, ⟨q + 1, by omega, (h1.row (World.grownBy_alloc w1 _ none) (by simp)).row hg3 (fun k hk => by have := hown1.base k hk; omega)⟩, Chg.push hb1 hlo1 hg3 hown1.base⟩
      rcases List.mem_append.1 hx with hx | hx
      · exact HSM.out.2 x hx
      · have : ∀ x ∈ ([9] : List Int), -1 ≤ x ∧ x ≤ 17 := by decide
        exact this x hx
    · have e1 : (y == 1) = false := by simp; omega
      by_cases h2' : y = 2
      · subst h2'
        have hlo1 : lo ≤ w1.heap.size := by
          rcases hown1.row.2 with ⟨_, h⟩ | ⟨g2, cap, cur, _, hb, hg, _⟩
          · exact Nat.le_trans hloW hb1.size
          · have := (Array.getElem?_eq_some_iff.1 hg).1; omega
        have hlen2 : (ints M).length = M.length := by simp
        go_wp2_with (at_builtin; refine wpList_append_o _ rfl (.tmp 28) (.tmp 29) 22 rfl lo w1.heap.size 3 i0 (.int .i64 0) 8 Try.underlying22 hi hz0 hz1 hz2 rfl _ (ints M) rfl (hown1.alloc _) (w1.heap.size + 1) (some ⟨w1.heap.size, 0, none⟩) 16 16 (ints [1, 1, 1, 1, 1, 1, 1, 1, 1, 1, 1, 1, 1, 1, 1, 1]) rfl (rd_new w1 _ _) rfl (ints_one _) (by rw [hlen2]; unfold maxLen; omega) (by rw [hlen2]; omega) (by simp; omega) ?_; intro v' w3 ho3 hg3 hat3)
        go_ret
        have e : ints M ++ ints [1, 1, 1, 1, 1, 1, 1, 1, 1, 1, 1, 1, 1, 1, 1, 1] = ints (M ++ [1, 1, 1, 1, 1, 1, 1, 1, 1, 1, 1, 1, 1, 1, 1, 1]) := by simp [ints]
        rw [e] at ho3
        obtain ⟨a', c', rfl⟩ := ho3.form
        have hl3 : (ints (M ++ [1, 1, 1, 1, 1, 1, 1, 1, 1, 1, 1, 1, 1, 1, 1, 1])).length = (M ++ [1, 1, 1, 1, 1, 1, 1, 1, 1, 1, 1, 1, 1, 1, 1, 1]).length := by simp
        rw [hl3] at ho3 ⊢
        refine ⟨a', c', M ++ [1, 1, 1, 1, 1, 1, 1, 1, 1, 1, 1, 1, 1, 1, 1, 1], rfl, ho3, ⟨by simp; omega, fun x hx => ?_⟩, ⟨q + 1, by omega, (h1.row (World.grownBy_alloc w1 _ none) (by simp)).row hg3 (fun k hk => by have := hown1.base k hk; omega)⟩, Chg.push hb1 hlo1 hg3 hown1.base⟩
        rcases List.mem_append.1 hx with hx | hx
        · exact HSM.out.2 x hx
        · have : ∀ x ∈ ([1, 1, 1, 1, 1, 1, 1, 1, 1, 1, 1, 1, 1, 1, 1, 1] : List Int), -1 ≤ x ∧ x ≤ 17 := by decide
          exact this x hx
      · have e2 : (y == 2) = false := by simp; omega
        have HO1 := Lib.hid hown1
        clear hown1
        go_wp2_with fail
        go_ret
        exact ⟨a, c, M, rfl, HO1.out, HSM.out, ⟨q + 1, by omega, h1⟩, hb1⟩

theorem someParts_grown (g q : Nat) (bs : List Int) (w : World) (hq : q ≤ 700000) (h : Rdr w g bs q) :
    Calls Try.prog 58 #[.pointer (some ⟨g, 0, none⟩)] w fun e w' => ∃ a' c' M, e = .returned (.slice a' M.length c') ∧ Own w' w.heap.size w'.heap.size 3 (.slice a' M.length c') (ints M) ∧ Small M ∧ (∃ q', q' ≤ q + 50 ∧ Rdr w' g bs q') ∧ w.grownBy w' (some g) := by
  have hlt := h.lt
  go_enter Try.func58, Try.ntmps58
  go_wp2_with fail
  refine (goodParts_any g q bs _ (by omega) h).mono ?_
  rintro e w1 ⟨a', c', M, rfl, ho, hs, ⟨q', hq', h1⟩, hg1⟩
  have hb1 : Chg g w.heap.size w w1 := .of hg1 (Nat.le_refl _)
  have hz := hg1.size
  clear hg1
  go_wp2_with fail
  refine (bent_any g q' w.heap.size _ _ M bs _ (by omega) h1 hs ho hlt hz).mono ?_
  rintro e w2 ⟨a2, c2, M2, rfl, ho2, hs2, ⟨q2, hq2, h2⟩, hb2⟩
  go_wp2_with fail
  go_ret
  exact ⟨a2, c2, M2, rfl, ho2, hs2, ⟨q2, by omega, h2⟩, (hb1.trans hb2).grown⟩
theorem someParts_any (g q : Nat) (bs : List Int) (w : World) (hq : q ≤ 700000) (h : Rdr w g bs q) :
    Calls Try.prog 58 #[.pointer (some ⟨g, 0, none⟩)] w fun e w' => ∃ a' c' M, e = .returned (.slice a' M.length c') ∧ Own w' w.heap.size w'.heap.size 3 (.slice a' M.length c') (ints M) ∧ Small M ∧ (∃ q', q' ≤ q + 50 ∧ Rdr w' g bs q') ∧ Below g w w' := by
  have hlt := h.lt
  refine (someParts_grown g q bs w hq h).mono ?_
  rintro e w' ⟨a', c', M, he, ho, hs, hr, hg⟩
  refine ⟨a', c', M, he, ho, hs, hr, ?_⟩
  rcases chg_low hg with hb | hb
  · exact hb
  · omega








theorem DrawHooksOf_any (a : Option Addr) (c B : Nat) (bs : List Int) (w : World) (h : Rd w B a (bs.map (Value.int .u8))) (hB : B ≤ w.heap.size) (hb : ∀ n ∈ bs, (Lit.int .u8 n).wf = true) (hl : bs.length ≤ 1048576) (hc : bs.length ≤ c) :
    Calls Try.prog 32 #[.slice a bs.length c] w fun e w' => ∃ a' c' M, e = .returned (.slice a' M.length c') ∧ Own w' w.heap.size w'.heap.size 3 (.slice a' M.length c') (ints M) ∧ Small M ∧ Below w.heap.size w w' := by
  go_enter Try.func32, Try.ntmps32
  go_wp2_with fail
  refine (newReader_any _ _ B bs _ h hB hb hl hc).mono ?_
  rintro e w1 ⟨rfl, h1, hb1, -⟩
  go_wp2_with fail
  refine (someParts_any _ 0 _ _ (by omega) h1).mono ?_
  rintro e w2 ⟨a', c', M, rfl, ho, hs, -, hb2⟩
  go_wp2_with fail
  go_ret
  exact ⟨a', c', M, rfl, ho.lower hb1.size, hs, hb1.trans hb2⟩




end Go.Proofs.Ythafbdpeignccaa
