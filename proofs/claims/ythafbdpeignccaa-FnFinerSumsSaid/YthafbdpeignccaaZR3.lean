/-
  Walks: the drawing of parts: newReader, sumFor, partsOf, goodParts, bent, someParts: whatever is drawn is a short list of small numbers in new memory. A door: the drawing of parts (D3a), with the words of W4. Plain mathematics of united and added parts: conjugates turn one into the other. Plain mathematics of orders: rows trimmed of zeros, meets, dominance and conjugates, ranks and cranks. Plain mathematics: in how many ways parts grow, by hooks; levels of growths. Arrays of numbers compared. Two rows of numbers in one value: built, compared, parted. A region that draws its order, of whose first operations each yields the same value in every world of a kind, guarded ones among them: they may be carried out in their text's order. Walks of the program: whether a diagram drops to another, covers it. A region that draws its order and ends in a store. A function value that tells of each diagram whether something holds of its parts.
-/
import Derived.Test.YthafbdpeignccaaZR1
import Derived.Test.YthafbdpeignccaaZR2
import Derived.ChangeKeysEq
import Derived.Orders
import Derived.RegionTactic
namespace Go.Proofs.Ythafbdpeignccaa
open Go.RowKit NP
set_option maxRecDepth 8000
set_option linter.unusedVariables false

def Small (M : List Int) : Prop := M.length ≤ 40 ∧ ∀ x ∈ M, -1 ≤ x ∧ x ≤ 17
def SmallParts (M : List Int) : Prop := M.length ≤ 16 ∧ ∀ x ∈ M, 1 ≤ x ∧ x ≤ 16

theorem insK_len (M : List Int) (x : Int) : (insK M x).length = M.length + 1 := by
  unfold insK; simp; omega
theorem insK_mem {M : List Int} {x y : Int} (h : y ∈ insK M x) : y = x ∨ y ∈ M := by
  unfold insK at h
  simp at h
  rcases h with h | h | h
  · exact .inr (List.mem_of_mem_take h)
  · exact .inl h
  · exact .inr (List.mem_of_mem_drop h)
theorem fold_ins (L : List Int) : ∀ M, (L.foldl insK M).length = L.length + M.length ∧ ∀ y ∈ L.foldl insK M, y ∈ L ∨ y ∈ M := by
  induction L with
  | nil => intro M; exact ⟨by simp, fun y hy => .inr hy⟩
  | cons x r ih =>
    intro M
    simp only [List.foldl_cons]
    have h := ih (insK M x)
    refine ⟨by rw [h.1, insK_len]; simp; omega, fun y hy => ?_⟩
    rcases h.2 y hy with h1 | h1
    · exact .inl (by simp [h1])
    · rcases insK_mem h1 with rfl | h2
      · exact .inl (by simp)
      · exact .inr h2
theorem mrg_small {L : List Int} (h : SmallParts L) : SmallParts (mrg L) := by
  have hf := fold_ins L []
  refine ⟨by unfold mrg; rw [hf.1]; simpa using h.1, fun x hx => ?_⟩
  rcases hf.2 x hx with h1 | h1
  · exact h.2 x h1
  · simp at h1


theorem sumFor_any (g q : Nat) (bs : List Int) (w : World) (hq : q ≤ 1000000) (h : Rdr w g bs q) :
    Calls Try.prog 59 #[.pointer (some ⟨g, 0, none⟩)] w fun e w' => ∃ x : Int, e = .returned (.int .i64 x) ∧ (0 ≤ x ∧ x ≤ 16) ∧ Rdr w' g bs (q + 1) ∧ w.grownBy w' (some g) := by
  have hlt := h.lt
  go_enter Try.func59, Try.ntmps59
  go_wp2_with fail
  refine (one_any g q _ _ _ [6, 8, 5, 9, 12, 4, 3, 16, 2, 1, 0, 10] bs _ (by simp) (by simp) hq (h.below ((Below.refl _ _).alloc hlt _)) (rd_new w _ _) (by intro b o e; injection e with e; injection e with e; omega)).mono ?_
  rintro e w1 ⟨k, hk, rfl, h1, hg1, -⟩
  have hx : ∀ x ∈ ([6, 8, 5, 9, 12, 4, 3, 16, 2, 1, 0, 10] : List Int), 0 ≤ x ∧ x ≤ 16 := by decide
  have hx1 := hx _ (List.getElem_mem hk)
  obtain ⟨x, hxx⟩ : ∃ x, x = ([6, 8, 5, 9, 12, 4, 3, 16, 2, 1, 0, 10] : List Int)[k] := ⟨_, rfl⟩
  rw [← hxx] at hx1 ⊢
  clear hx hxx
  go_wp2_with fail
  go_ret
  exact ⟨x, rfl, hx1, h1, chg_trans (World.grownBy_alloc w _ _) hg1⟩

set_option maxHeartbeats 400000 in
theorem partsOf_any (g q : Nat) (n : Int) (bs : List Int) (w : World) (hn0 : 0 ≤ n) (hn : n ≤ 16) (hq : q ≤ 900000) (h : Rdr w g bs q) :
    Calls Try.prog 73 #[.pointer (some ⟨g, 0, none⟩), .int .i64 n] w fun e w' => ∃ a' c' M, e = .returned (.slice a' M.length c') ∧ Own w' w.heap.size w'.heap.size 3 (.slice a' M.length c') (ints M) ∧ SmallParts M ∧ (∃ q', q' ≤ q + 32 ∧ Rdr w' g bs q') ∧ w.grownBy w' (some g) := by
  obtain ⟨i0, hi, hz0, hz1, hz2⟩ := T_int'
  have hlt := h.lt
  go_enter Try.func73, Try.ntmps73
  go_wp2_with fail
  go_loopw [1, 5] (fun nn v wr => ∃ (m : Nat) (q' : Nat) (M : List Int), nn = .int .i64 (m : Int) ∧ M.length + m ≤ 16 ∧ q' + 2 * m ≤ q + 32 ∧ Rdr wr g bs q' ∧ w.grownBy wr (some g) ∧ Own wr w.heap.size wr.heap.size 3 v (ints M) ∧ Hid (∀ x ∈ M, 1 ≤ x ∧ x ≤ 16)) (fun nn _ _ => (intOf nn).toNat)
  case atStart =>
    obtain ⟨m, rfl⟩ := Int.eq_ofNat_of_zero_le hn0
    exact ⟨m, q, [], rfl, by simp; omega, by omega, h.below ((Below.refl _ _).alloc hlt _), World.grownBy_alloc w _ _, (Own.empty w 3).more, Lib.hid (by simp)⟩
  case round =>
    obtain ⟨m, q', M, rfl, hMm, hqm, hr, hg, hown, HM⟩ := hrel
    by_cases hm : 0 < m
    · have hm' : (0 : Int) < (m : Int) := by omega
      have hltr := hr.lt
      have HO := Lib.hid hown
      clear hown
      go_wp2_with fail
      refine (one_any g q' _ _ _ [3, 5, 9, 2, 16] bs _ (by simp) (by simp) (by omega) (hr.below ((Below.refl _ _).alloc hltr _)) (rd_new wr _ _) (by intro b o e; injection e with e; injection e with e; omega)).mono ?_
      rintro e w1 ⟨k, hk, rfl, h1, hg1, -⟩
      have hx : ∀ x ∈ ([3, 5, 9, 2, 16] : List Int), 2 ≤ x ∧ x ≤ 16 := by decide
      have hx1 := hx _ (List.getElem_mem hk)
      obtain ⟨x, hxx⟩ : ∃ x, x = ([3, 5, 9, 2, 16] : List Int)[k] := ⟨_, rfl⟩
      rw [← hxx] at hx1 ⊢
      clear hx hxx hk
      have hzr := hg.size
      have HO1 := Lib.hid ((HO.out.alloc (.cells (ints [3, 5, 9, 2, 16]).toArray 3)).chg hg1 (by omega)).more
      have hgw1 := chg_trans (chg_alloc hg (.cells (ints [3, 5, 9, 2, 16]).toArray 3)) hg1
      clear hg1 HO
      go_wp2_with fail
      all_goals
        refine (pick_any g _ _ bs _ (by omega) (by omega) h1).mono ?_
        rintro e w2 ⟨y, rfl, hy0, hy1, h2, hg2, -⟩
        obtain ⟨y, rfl⟩ := Int.eq_ofNat_of_zero_le hy0
        have hym : y + 1 ≤ m := by have := hy1 (by omega); omega
        clear hy1
        have hown2 := (HO1.out.chg hg2 (by omega)).more
        have hgw2 := chg_trans hgw1 hg2
        have hzw2 := hgw2.size
        clear hgw1 hg2 HO1
        go_wp2_with (at_builtin; refine wpList_append_o _ rfl (.tmp 18) (.tmp 20) 22 rfl w.heap.size w2.heap.size 3 i0 (.int .i64 0) 8 Try.underlying22 hi hz0 hz1 hz2 rfl _ (ints M) rfl (hown2.alloc _) (w2.heap.size + 1) (some ⟨w2.heap.size, 0, none⟩) 1 1 [.int .i64 (1 + (y : Int))] rfl (Rd.one w2 _ _) rfl (by simp; rfl) (by simp; unfold maxLen; omega) (by simp; omega) (by simp; omega) ?_; intro v' w3 ho3 hg3 hat3)
        go_roundw
        case rel =>
          refine ⟨m - (1 + y), q' + 2, M ++ [1 + (y : Int)], by go_num, by simp; omega, by omega, (h2.row (World.grownBy_alloc w2 _ none) (by simp)).row hg3 (fun k hk => by have := hown2.base k hk; omega), chg_row (chg_alloc hgw2 _) hg3 hown2.base, by simpa [ints] using ho3, Lib.hid fun x hx => ?_⟩
          simp at hx
          rcases hx with hx | hx
          · exact HM.out x hx
          · omega
        case measure => simp [intOf]; omega
    · obtain rfl : m = 0 := by omega
      obtain ⟨a0, c0, rfl⟩ := hown.form
      have hs : SmallParts M := ⟨by omega, HM.out⟩
      have HS := Lib.hid (mrg_small hs)
      have hlM : (ints M).length = M.length := by simp
      rw [hlM] at hown ⊢
      have HO := Lib.hid hown
      clear hown hlM
      go_wp2_with fail
      refine (merge_any _ _ _ M _ HO.out.rd (by omega) (by have := hs.1; omega)).mono ?_
      rintro e w1 ⟨a', c', rfl, ho1, hb1⟩
      go_wp2_with fail
      go_ret
      exact ⟨a', c', mrg M, rfl, ho1.lower hg.size, HS.out, ⟨q', by omega, hr.below (hb1.mono hr.lt)⟩, chg_below hg (hb1.mono hg.size)⟩

theorem below_push' {g : Nat} {w0 w w1 : World} {o : Obj} {row : Option Nat} (hb : Below g w0 w) (hB : g < w.heap.size) (hg : (w.alloc o).grownBy w1 row) (hr : ∀ k, row = some k → g ≤ k) : Below g w0 w1 :=
  (hb.alloc (by omega) o).grown hg (by simp; omega) hr

/-- what a draw of parts leaves -/
def Drawn (g : Nat) (bs : List Int) (P : List Int → Prop) (top : Nat) (w : World) (e : Ending) (w' : World) : Prop :=
  ∃ a' c' M, e = .returned (.slice a' M.length c') ∧ Own w' w.heap.size w'.heap.size 3 (.slice a' M.length c') (ints M) ∧ P M ∧ (∃ q', q' ≤ top ∧ Rdr w' g bs q') ∧ w.grownBy w' (some g)

theorem goodParts_any (g q : Nat) (bs : List Int) (w : World) (hq : q ≤ 800000) (h : Rdr w g bs q) :
    Calls Try.prog 67 #[.pointer (some ⟨g, 0, none⟩)] w (Drawn g bs SmallParts (q + 40) w) := by
  go_enter Try.func67, Try.ntmps67
  go_wp2_with fail
  refine (sumFor_any g q bs _ (by omega) h).mono ?_
  rintro e w1 ⟨x, rfl, ⟨hx0, hx1⟩, h1, hg1⟩
  go_wp2_with fail
  refine (partsOf_any g _ x bs _ hx0 hx1 (by omega) h1).mono ?_
  rintro e w2 ⟨a', c', M, rfl, ho, hs, ⟨q', hq', h2⟩, hg2⟩
  go_wp2_with fail
  go_ret
  exact ⟨a', c', M, rfl, ho.lower hg1.size, hs, ⟨q', by omega, h2⟩, chg_trans hg1 hg2⟩

/-- but for block g, nothing below lo has turned -/
structure Chg (g lo : Nat) (w w' : World) : Prop where
  os : w'.os = w.os
  tape : w'.tape = w.tape
  output : w'.output = w.output
  size : w.heap.size ≤ w'.heap.size
  block : ∀ k, k < lo → k ≠ g → w'.heap[k]? = w.heap[k]?
theorem Chg.trans {g lo : Nat} {a b c : World} (h : Chg g lo a b) (k : Chg g lo b c) : Chg g lo a c :=
  ⟨k.os.trans h.os, k.tape.trans h.tape, k.output.trans h.output, Nat.le_trans h.size k.size, fun i hi hne => (k.block i hi hne).trans (h.block i hi hne)⟩
theorem Chg.of {g lo : Nat} {w w' : World} (h : w.grownBy w' (some g)) (hlo : lo ≤ w.heap.size) : Chg g lo w w' :=
  ⟨h.os, h.tape, h.output, h.size, fun k hk hne => h.block k (by omega) (fun e => by injection e with e; exact hne e)⟩
theorem Chg.ofBelow {g lo : Nat} {w w' : World} (h : Below lo w w') : Chg g lo w w' := ⟨h.os, h.tape, h.output, h.size, fun k hk _ => h.block k hk⟩
theorem Chg.below {g lo : Nat} {w w' : World} (h : Chg g lo w w') (hg : g ≤ lo) : Below g w w' := ⟨h.os, h.tape, h.output, h.size, fun k hk => h.block k (by omega) (by omega)⟩
theorem Chg.grown {g : Nat} {w w' : World} (h : Chg g w.heap.size w w') : w.grownBy w' (some g) := ⟨h.os, h.tape, h.output, h.size, fun k hk hne => h.block k hk (fun e => hne (by rw [e]))⟩
theorem Chg.push {g lo : Nat} {w0 w w1 : World} {o : Obj} {row : Option Nat} (hb : Chg g lo w0 w) (hB : lo ≤ w.heap.size) (hg : (w.alloc o).grownBy w1 row) (hr : ∀ k, row = some k → lo ≤ k) : Chg g lo w0 w1 :=
  hb.trans (.ofBelow (((Below.refl lo w).alloc hB o).grown hg (by simp; omega) hr))

set_option maxHeartbeats 400000 in
theorem bent_any (g q lo : Nat) (a : Option Addr) (c : Nat) (M : List Int) (bs : List Int) (w : World) (hq : q ≤ 900000) (h : Rdr w g bs q) (hs : SmallParts M) (ho : Own w lo w.heap.size 3 (.slice a M.length c) (ints M)) (hlo : g < lo) (hloW : lo ≤ w.heap.size) :
    Calls Try.prog 72 #[.pointer (some ⟨g, 0, none⟩), .slice a M.length c] w fun e w' => ∃ a' c' M', e = .returned (.slice a' M'.length c') ∧ Own w' lo w'.heap.size 3 (.slice a' M'.length c') (ints M') ∧ Small M' ∧ (∃ q', q' ≤ q + 4 ∧ Rdr w' g bs q') ∧ Chg g lo w w' := by
  obtain ⟨i0, hi, hz0, hz1, hz2⟩ := T_int'
  have hlt := h.lt
  have hM16 := hs.1
  have HSM : Hid (Small M) := Lib.hid ⟨by omega, fun x hx => by have := hs.2 x hx; omega⟩
  have HS := Lib.hid hs
  clear hs
  have HO := Lib.hid ho
  clear ho
  go_enter Try.func72, Try.ntmps72
  go_wp2_with fail
  refine (pick_any g _ _ bs _ (by omega) (by omega) h).mono ?_
  rintro e w1 ⟨y, rfl, hy0, hy1, h1, hg1, -⟩
  clear hy1
  have hb1 : Chg g lo w w1 := .of hg1 hloW
  have hown1 := (HO.out.chg hg1 hlo).more
  clear HO hg1
  have hlt1 := h1.lt
  by_cases h0 : y = 0
  · subst h0
    by_cases hM0 : 0 < M.length
    · have hM0' : (0 : Int) < (M.length : Int) := by omega
      have HO1 := Lib.hid hown1
      clear hown1
      go_wp2_with fail
      refine (pick_any g _ _ bs _ (by omega) (by omega) h1).mono ?_
      rintro e w2 ⟨y2, rfl, hy20, hy21, h2, hg2, -⟩
      obtain ⟨y2, rfl⟩ := Int.eq_ofNat_of_zero_le hy20
      have hyM : y2 < M.length := by have := hy21 (by omega); omega
      clear hy21
      have HO2 := Lib.hid (HO1.out.chg hg2 hlo).more
      have hlt2 := h2.lt
      have hb2 : Chg g lo w w2 := hb1.trans (.of hg2 (by have := hb1.size; omega))
      clear HO1 hg2
      go_wp2_with fail
      refine (one_any g _ _ _ _ [0, -1, 17, 9] bs _ (by simp) (by simp) (by omega) (h2.below ((Below.refl _ _).alloc hlt2 _)) (rd_new w2 _ _) (by intro b o e; injection e with e; injection e with e; omega)).mono ?_
      rintro e w3 ⟨k, hk, rfl, h3, hg3, -⟩
      have hx : ∀ x ∈ ([0, -1, 17, 9] : List Int), -1 ≤ x ∧ x ≤ 17 := by decide
      have hx1 := hx _ (List.getElem_mem hk)
      obtain ⟨x, hxx⟩ : ∃ x, x = ([0, -1, 17, 9] : List Int)[k] := ⟨_, rfl⟩
      rw [← hxx] at hx1 ⊢
      clear hx hxx hk
      have hown3 := ((HO2.out.alloc (.cells (ints [0, -1, 17, 9]).toArray 3)).chg hg3 hlo).more
      have hsz2 := hb2.size
      have hb3 : Chg g lo w w3 := (hb2.trans (.ofBelow ((Below.refl lo w2).alloc (by omega) _))).trans (.of hg3 (by simp; omega))
      clear HO2 hg3
      obtain ⟨g2, u, rfl, hlo2, hhi2, hc2, hf2⟩ := hown3.spot (k := y2) (by simpa using hyM)
      have HO3 := Lib.hid hown3
      clear hown3
      have hcs : ∀ v, Chg g lo w (w3.setCell ⟨g2, y2, none⟩ v) := fun v => hb3.trans (.ofBelow ((Below.refl lo w3).setCell (by show lo ≤ g2; omega) v))
      have HCS := Lib.hid hcs
      clear hcs
      have HRS : Hid (∀ v, Rdr (w3.setCell ⟨g2, y2, none⟩ v) g bs (q + 1 + 1 + 1)) := Lib.hid fun v => h3.below ((Below.refl _ _).setCell (by show g + 1 ≤ g2; omega) v)
      go_wp2_with fail
      go_ret
      have e := HO3.out.set y2 (.int .i64 x)
      have hset : (ints M).set y2 (.int .i64 x) = ints (M.set y2 x) := by simp [ints, List.map_set]
      rw [hset] at e
      refine ⟨some ⟨g2, 0, none⟩, c, M.set y2 x, by simp, by simpa using e.more, ⟨by simpa using HSM.out.1, fun z hz => ?_⟩, ⟨_, by omega, HRS.out _⟩, HCS.out _⟩
      rcases List.mem_or_eq_of_mem_set hz with hz | rfl
      · exact HSM.out.2 z hz
      · exact hx1
    · have hM0' : (M.length : Int) ≤ 0 := by omega
      have hd0 : decide (0 < M.length) = false := decide_eq_false hM0
      have HO1 := Lib.hid hown1
      clear hown1
      go_wp2_with fail
      go_ret
      exact ⟨a, c, M, rfl, HO1.out, HSM.out, ⟨q + 1, by omega, h1⟩, hb1⟩
  · have e0 : (y == 0) = false := by simp; omega
    by_cases h1' : y = 1
    · subst h1'
      have hlo1 : lo ≤ w1.heap.size := by
        rcases hown1.row.2 with ⟨_, h⟩ | ⟨g2, cap, cur, _, hb, hg, _⟩
        · exact Nat.le_trans hloW hb1.size
        · have := (Array.getElem?_eq_some_iff.1 hg).1; omega
      have hlen2 : (ints M).length = M.length := by simp
      go_wp2_with (at_builtin; refine wpList_append_o _ rfl (.tmp 23) (.tmp 24) 22 rfl lo w1.heap.size 3 i0 (.int .i64 0) 8 Try.underlying22 hi hz0 hz1 hz2 rfl _ (ints M) rfl (hown1.alloc _) (w1.heap.size + 1) (some ⟨w1.heap.size, 0, none⟩) 1 1 (ints [9]) rfl (rd_new w1 _ _) rfl (ints_one _) (by rw [hlen2]; unfold maxLen; omega) (by rw [hlen2]; omega) (by simp; omega) ?_; intro v' w3 ho3 hg3 hat3)
      go_ret
      have e : ints M ++ ints [9] = ints (M ++ [9]) := by simp [ints]
      rw [e] at ho3
      obtain ⟨a', c', rfl⟩ := ho3.form
      have hl3 : (ints (M ++ [9])).length = (M ++ [9]).length := by simp
      rw [hl3] at ho3 ⊢
      refine ⟨a', c', M ++ [9], rfl, ho3, ⟨by simp; omega, fun x hx => ?_⟩, ⟨q + 1, by omega, (h1.row (World.grownBy_alloc w1 _ none) (by simp)).row hg3 (fun k hk => by have := hown1.base k hk; omega)⟩, Chg.push hb1 hlo1 hg3 hown1.base⟩
      rcases List.mem_append.1 hx with hx | hx
      · exact HSM.out.2 x hx
      · have : ∀ x ∈ ([9] : List Int), -1 ≤ x ∧ x ≤ 17 := by decide
        exact this x hx
    · have e1 : (y == 1) = false := by simp; omega
      by_cases h2' : y = 2
      · subst h2'
        have hlo1 : lo ≤ w1.heap.size := by
          rcases hown1.row.2 with ⟨_, h⟩ | ⟨g2, cap, cur, _, hb, hg, _⟩
          · exact Nat.le_trans hloW hb1.size
          · have := (Array.getElem?_eq_some_iff.1 hg).1; omega
        have hlen2 : (ints M).length = M.length := by simp
        go_wp2_with (at_builtin; refine wpList_append_o _ rfl (.tmp 28) (.tmp 29) 22 rfl lo w1.heap.size 3 i0 (.int .i64 0) 8 Try.underlying22 hi hz0 hz1 hz2 rfl _ (ints M) rfl (hown1.alloc _) (w1.heap.size + 1) (some ⟨w1.heap.size, 0, none⟩) 16 16 (ints [1, 1, 1, 1, 1, 1, 1, 1, 1, 1, 1, 1, 1, 1, 1, 1]) rfl (rd_new w1 _ _) rfl (ints_one _) (by rw [hlen2]; unfold maxLen; omega) (by rw [hlen2]; omega) (by simp; omega) ?_; intro v' w3 ho3 hg3 hat3)
        go_ret
        have e : ints M ++ ints [1, 1, 1, 1, 1, 1, 1, 1, 1, 1, 1, 1, 1, 1, 1, 1] = ints (M ++ [1, 1, 1, 1, 1, 1, 1, 1, 1, 1, 1, 1, 1, 1, 1, 1]) := by simp [ints]
        rw [e] at ho3
        obtain ⟨a', c', rfl⟩ := ho3.form
        have hl3 : (ints (M ++ [1, 1, 1, 1, 1, 1, 1, 1, 1, 1, 1, 1, 1, 1, 1, 1])).length = (M ++ [1, 1, 1, 1, 1, 1, 1, 1, 1, 1, 1, 1, 1, 1, 1, 1]).length := by simp
        rw [hl3] at ho3 ⊢
        refine ⟨a', c', M ++ [1, 1, 1, 1, 1, 1, 1, 1, 1, 1, 1, 1, 1, 1, 1, 1], rfl, ho3, ⟨by simp; omega, fun x hx => ?_⟩, ⟨q + 1, by omega, (h1.row (World.grownBy_alloc w1 _ none) (by simp)).row hg3 (fun k hk => by have := hown1.base k hk; omega)⟩, Chg.push hb1 hlo1 hg3 hown1.base⟩
        rcases List.mem_append.1 hx with hx | hx
        · exact HSM.out.2 x hx
        · have : ∀ x ∈ ([1, 1, 1, 1, 1, 1, 1, 1, 1, 1, 1, 1, 1, 1, 1, 1] : List Int), -1 ≤ x ∧ x ≤ 17 := by decide
          exact this x hx
      · have e2 : (y == 2) = false := by simp; omega
        have HO1 := Lib.hid hown1
        clear hown1
        go_wp2_with fail
        go_ret
        exact ⟨a, c, M, rfl, HO1.out, HSM.out, ⟨q + 1, by omega, h1⟩, hb1⟩

theorem someParts_grown (g q : Nat) (bs : List Int) (w : World) (hq : q ≤ 700000) (h : Rdr w g bs q) :
    Calls Try.prog 58 #[.pointer (some ⟨g, 0, none⟩)] w fun e w' => ∃ a' c' M, e = .returned (.slice a' M.length c') ∧ Own w' w.heap.size w'.heap.size 3 (.slice a' M.length c') (ints M) ∧ Small M ∧ (∃ q', q' ≤ q + 50 ∧ Rdr w' g bs q') ∧ w.grownBy w' (some g) := by
  have hlt := h.lt
  go_enter Try.func58, Try.ntmps58
  go_wp2_with fail
  refine (goodParts_any g q bs _ (by omega) h).mono ?_
  rintro e w1 ⟨a', c', M, rfl, ho, hs, ⟨q', hq', h1⟩, hg1⟩
  have hb1 : Chg g w.heap.size w w1 := .of hg1 (Nat.le_refl _)
  have hz := hg1.size
  clear hg1
  go_wp2_with fail
  refine (bent_any g q' w.heap.size _ _ M bs _ (by omega) h1 hs ho hlt hz).mono ?_
  rintro e w2 ⟨a2, c2, M2, rfl, ho2, hs2, ⟨q2, hq2, h2⟩, hb2⟩
  go_wp2_with fail
  go_ret
  exact ⟨a2, c2, M2, rfl, ho2, hs2, ⟨q2, by omega, h2⟩, (hb1.trans hb2).grown⟩
theorem someParts_any (g q : Nat) (bs : List Int) (w : World) (hq : q ≤ 700000) (h : Rdr w g bs q) :
    Calls Try.prog 58 #[.pointer (some ⟨g, 0, none⟩)] w fun e w' => ∃ a' c' M, e = .returned (.slice a' M.length c') ∧ Own w' w.heap.size w'.heap.size 3 (.slice a' M.length c') (ints M) ∧ Small M ∧ (∃ q', q' ≤ q + 50 ∧ Rdr w' g bs q') ∧ Below g w w' := by
  have hlt := h.lt
  refine (someParts_grown g q bs w hq h).mono ?_
  rintro e w' ⟨a', c', M, he, ho, hs, hr, hg⟩
  refine ⟨a', c', M, he, ho, hs, hr, ?_⟩
  rcases chg_low hg with hb | hb
  · exact hb
  · omega








theorem DrawHooksOf_any (a : Option Addr) (c B : Nat) (bs : List Int) (w : World) (h : Rd w B a (bs.map (Value.int .u8))) (hB : B ≤ w.heap.size) (hb : ∀ n ∈ bs, (Lit.int .u8 n).wf = true) (hl : bs.length ≤ 1048576) (hc : bs.length ≤ c) :
    Calls Try.prog 32 #[.slice a bs.length c] w fun e w' => ∃ a' c' M, e = .returned (.slice a' M.length c') ∧ Own w' w.heap.size w'.heap.size 3 (.slice a' M.length c') (ints M) ∧ Small M ∧ Below w.heap.size w w' := by
  go_enter Try.func32, Try.ntmps32
  go_wp2_with fail
  refine (newReader_any _ _ B bs _ h hB hb hl hc).mono ?_
  rintro e w1 ⟨rfl, h1, hb1, -⟩
  go_wp2_with fail
  refine (someParts_any _ 0 _ _ (by omega) h1).mono ?_
  rintro e w2 ⟨a', c', M, rfl, ho, hs, -, hb2⟩
  go_wp2_with fail
  go_ret
  exact ⟨a', c', M, rfl, ho.lower hb1.size, hs, hb1.trans hb2⟩




end Go.Proofs.Ythafbdpeignccaa

namespace Go.Proofs.Ythafbdpeignccaa
namespace NP
set_option linter.unusedVariables false
theorem mono_split {A B : List Int} (h : mono (A ++ B)) : mono A ∧ mono B ∧ ∀ x ∈ A, ∀ y ∈ B, y ≤ x := by
  induction A with
  | nil => exact ⟨trivial, h, fun x hx => by simp at hx⟩
  | cons x r ih =>
    obtain ⟨h1, h2⟩ := h
    obtain ⟨h3, h4, h5⟩ := ih h2
    refine ⟨⟨fun y hy => h1 y (List.mem_append_left _ hy), h3⟩, h4, fun z hz y hy => ?_⟩
    rcases List.mem_cons.1 hz with rfl | hz
    · exact h1 y (List.mem_append_right _ hy)
    · exact h5 z hz y hy
theorem mono_head {D : List Int} (h : mono D) (i : Nat) (hi : i < D.length) : D[i] ≤ D[0]'(by omega) := by
  match D, h with
  | [], _ => simp at hi
  | y :: t, h =>
    match i, hi with
    | 0, _ => exact Int.le_refl _
    | i + 1, hi => exact h.1 _ (List.getElem_mem _)
theorem insK_mono {M : List Int} (h : mono M) (x : Int) : mono (insK M x) := by
  have hs := ff_spec (fun (j : Nat) => decide (x ≤ M.getD j 0)) M.length
  have e := List.take_append_drop (posOf x M) M
  rw [← e] at h
  obtain ⟨h1, h2, h3⟩ := mono_split h
  have hd : ∀ y ∈ M.drop (posOf x M), y ≤ x := fun y hy => by
    obtain ⟨i, hi, rfl⟩ := List.getElem_of_mem hy
    simp at hi
    rcases hs.2.2 with hs2 | hs2
    · have : posOf x M = M.length := hs2
      omega
    · have hp : posOf x M < M.length := by omega
      have hx : ¬ x ≤ M.getD (posOf x M) 0 := of_decide_eq_false hs2
      rw [getD_lt hp] at hx
      have h4 := mono_head h2 i (by simp; omega)
      simp at h4
      rw [List.getElem_drop]
      omega
  unfold insK
  refine mono_append h1 ⟨hd, h2⟩ fun a ha b hb => ?_
  rcases List.mem_cons.1 hb with rfl | hb
  · obtain ⟨i, hi, rfl⟩ := List.getElem_of_mem ha
    simp at hi
    have := of_decide_eq_true (hs.2.1 i (by unfold posOf at hi; omega))
    rw [getD_lt (by omega)] at this
    rw [List.getElem_take]
    exact this
  · exact h3 a ha b hb
theorem insK_eqc (M : List Int) (x k : Int) : eqc k (insK M x) = eqc k M + (if x = k then 1 else 0) := by
  have e : eqc k M = eqc k (M.take (posOf x M)) + eqc k (M.drop (posOf x M)) := by rw [← eqc_append, List.take_append_drop]
  unfold insK
  rw [eqc_append, eqc_cons, e]
  omega
theorem insK_sum (M : List Int) (x : Int) : sumL (insK M x) = sumL M + x := by
  have e : sumL M = sumL (M.take (posOf x M)) + sumL (M.drop (posOf x M)) := by rw [← sumL_append, List.take_append_drop]
  unfold insK
  rw [sumL_append, sumL, e]
  omega
theorem fold_facts (L : List Int) : ∀ M, mono M → mono (L.foldl insK M) ∧ (∀ k, eqc k (L.foldl insK M) = eqc k M + eqc k L) ∧ sumL (L.foldl insK M) = sumL M + sumL L := by
  induction L with
  | nil => intro M h; exact ⟨h, fun k => by simp [eqc], by simp [sumL]⟩
  | cons x r ih =>
    intro M h
    obtain ⟨h1, h2, h3⟩ := ih (insK M x) (insK_mono h x)
    refine ⟨h1, fun k => ?_, ?_⟩
    · rw [List.foldl_cons, h2, insK_eqc, eqc_cons]; omega
    · rw [List.foldl_cons, h3, insK_sum, sumL]; omega
theorem mrg_mono (L : List Int) : mono (mrg L) := (fold_facts L [] trivial).1
theorem mrg_eqc (L : List Int) (k : Int) : eqc k (mrg L) = eqc k L := by have := (fold_facts L [] trivial).2.1 k; unfold mrg; simpa [eqc] using this
theorem mrg_sum (L : List Int) : sumL (mrg L) = sumL L := by have := (fold_facts L [] trivial).2.2; unfold mrg; simpa [sumL] using this
theorem mrg_len (L : List Int) : (mrg L).length = L.length := by have := (fold_ins L []).1; unfold mrg; simpa using this
theorem mrg_mem {L : List Int} {y : Int} (h : y ∈ mrg L) : y ∈ L := by
  rcases (fold_ins L []).2 y h with h | h
  · exact h
  · simp at h
theorem cnt_eqc {A B : List Int} (h : ∀ k, eqc k A = eqc k B) (hl : A.length = B.length) (t : Int) : cnt t A = cnt t B := by
  induction A generalizing B with
  | nil =>
    have : B = [] := List.eq_nil_of_length_eq_zero (by simp at hl; omega)
    subst this; rfl
  | cons x r ih =>
    have hx : x ∈ B := eqc_mem (by rw [← h x]; exact eqc_pos (by simp))
    obtain ⟨b1, b2, rfl⟩ := List.append_of_mem hx
    have h2 := ih (B := b1 ++ b2) (fun k => by
      have := h k
      rw [eqc_cons, eqc_append, eqc_cons] at this
      rw [eqc_append]; omega) (by simp at hl ⊢; omega)
    rw [cnt, h2, cnt_append, cnt_append, cnt]
    omega
theorem mono_get {L : List Int} (h : mono L) (j : Nat) (hj : j + 1 < L.length) : L[j + 1] ≤ L[j] := by
  induction L generalizing j with
  | nil => simp at hj
  | cons x r ih =>
    match j with
    | 0 => simp; exact h.1 _ (List.getElem_mem _)
    | j + 1 => simpa using ih h.2 j (by simp at hj; omega)
theorem valid_mono {M : List Int} (h : mono M) (h1 : ∀ x ∈ M, 1 ≤ x) (hs : sumL M ≤ 16) : valid M = true := by
  refine valid_of_preS (fun j hj _ => ?_) hs
  have hb := (elem_le_sum (fun x hx => by have := h1 x hx; omega) hj).1
  refine ⟨h1 _ (List.getElem_mem hj), by omega, fun h0 => ?_⟩
  have := mono_get h (j - 1) (by omega)
  simp only [show j - 1 + 1 = j by omega] at this
  exact this
def uni (P Q : List Int) : List Int := mrg (P ++ Q)
theorem valid_ge1 {L : List Int} (h : valid L = true) : ∀ x ∈ L, 1 ≤ x := fun x hx => by
  obtain ⟨k, hk, rfl⟩ := List.getElem_of_mem hx
  exact (preS_of_valid h k hk hk).1
theorem uni_ge1 {P Q : List Int} (h : two P Q = true) : ∀ x ∈ uni P Q, 1 ≤ x := fun x hx => by
  obtain ⟨hp, hq, _⟩ := two_out h
  rcases List.mem_append.1 (mrg_mem hx) with hx | hx
  · exact valid_ge1 hp x hx
  · exact valid_ge1 hq x hx
theorem valid_uni {P Q : List Int} (h : two P Q = true) : valid (uni P Q) = true :=
  valid_mono (mrg_mono _) (uni_ge1 h) (by unfold uni; rw [mrg_sum, sumL_append]; exact (two_out h).2.2)
theorem um_uni {P Q : List Int} (h : two P Q = true) : (um (fun i => P.getD i 0) (fun i => Q.getD i 0) 16).1 = pad (uni P Q) :=
  um_end h (mrg_mono _) (fun k => by unfold uni; rw [mrg_eqc, eqc_append]) (by unfold uni; rw [mrg_len]; simp) (uni_ge1 h)
def uniF (P Q : List Int) : List Int := if two P Q then uni P Q else []
theorem uniF_yes {P Q : List Int} (h : two P Q = true) : uniF P Q = uni P Q := by simp [uniF, h]
theorem uniF_no {P Q : List Int} (h : two P Q = false) : uniF P Q = [] := by simp [uniF, h]
theorem uniF_len (P Q : List Int) : (uniF P Q).length ≤ 16 := by
  unfold uniF
  split
  · rename_i h
    exact (valid_bd (valid_uni h)).2.2.2
  · simp
/-- parts with the same numbers at all places are the same -/
theorem valid_ext {A B : List Int} (hA : valid A = true) (hB : valid B = true) (h : ∀ j, A.getD j 0 = B.getD j 0) : A = B := by
  have hl : A.length = B.length := by
    rcases Nat.lt_trichotomy A.length B.length with h1 | h1 | h1
    · have := h A.length
      rw [getD_ge (Nat.le_refl _)] at this
      have := getD_pos hB h1
      omega
    · exact h1
    · have := h B.length
      rw [getD_ge (L := B) (Nat.le_refl _)] at this
      have := getD_pos hA h1
      omega
  apply List.ext_getElem hl
  intro j h1 h2
  have := h j
  rwa [getD_lt h1, getD_lt h2] at this
theorem conj_getD {L : List Int} (h : valid L = true) (j : Nat) : (conj L).getD j 0 = cnt ((j : Int) + 1) L := by
  rcases Nat.lt_or_ge j (conj L).length with h1 | h1
  · rw [getD_lt h1, conj_get]
  · rw [getD_ge h1]
    rw [conj_len] at h1
    exact (cnt_none fun x hx => by have := head_ge h x hx; omega).symm
theorem two_conj {P Q : List Int} (h : two P Q = true) : two (conj P) (conj Q) = true := by
  obtain ⟨hp, hq, hs⟩ := two_out h
  unfold two
  rw [valid_conj hp, valid_conj hq, sumL_conj hp, sumL_conj hq, decide_eq_true hs]
  rfl
theorem cnt_uni (P Q : List Int) (t : Int) : cnt t (uni P Q) = cnt t P + cnt t Q := by
  rw [← cnt_append]
  exact cnt_eqc (fun k => by unfold uni; rw [mrg_eqc]) (by unfold uni; rw [mrg_len]) t
theorem conj_uni {P Q : List Int} (h : two P Q = true) : conj (uni P Q) = adp (conj P) (conj Q) := by
  obtain ⟨hp, hq, hs⟩ := two_out h
  refine valid_ext (valid_conj (valid_uni h)) (valid_adp (two_conj h)) fun j => ?_
  rw [conj_getD (valid_uni h), adp_getD, conj_getD hp, conj_getD hq, cnt_uni]
theorem conj_adp {P Q : List Int} (h : two P Q = true) : conj (adp P Q) = uni (conj P) (conj Q) := by
  obtain ⟨hp, hq, hs⟩ := two_out h
  have h2 := two_conj h
  have e := conj_uni h2
  rw [conj_conj hp, conj_conj hq] at e
  rw [← e, conj_conj (valid_uni h2)]
theorem adp_comm (P Q : List Int) : adp P Q = adp Q P := by
  unfold adp
  rw [Nat.max_comm]
  apply List.map_congr_left
  intro i _
  omega
theorem two_comm (P Q : List Int) : two P Q = two Q P := by
  unfold two
  rw [Int.add_comm (sumL P), Bool.and_comm (valid P)]
theorem uni_len (P Q : List Int) : (uni P Q).length = P.length + Q.length := by unfold uni; rw [mrg_len]; simp
end NP
end Go.Proofs.Ythafbdpeignccaa
namespace Go.Proofs.Ythafbdpeignccaa
namespace NP
set_option linter.unusedVariables false
/-- the first n values that are above 0 -/
def tr (f : Nat → Int) (n : Nat) : List Int := ((List.range n).map f).filter fun x => decide (0 < x)
def sf (f : Nat → Int) : Nat → Int
  | 0 => 0
  | n + 1 => sf f n + f n
theorem tr_succ (f : Nat → Int) (n : Nat) : tr f (n + 1) = tr f n ++ if 0 < f n then [f n] else [] := by
  unfold tr
  rw [List.range_succ, List.map_append, List.filter_append]
  congr 1
  simp only [List.map_cons, List.map_nil, List.filter_cons, List.filter_nil, decide_eq_true_eq]
theorem tr_len (f : Nat → Int) (n : Nat) : (tr f n).length ≤ n := by
  have h := List.length_filter_le (fun x => decide (0 < x)) ((List.range n).map f)
  simpa [tr] using h
theorem tr_full {f : Nat → Int} {n : Nat} (h : ∀ i, i < n → 0 < f i) : tr f n = (List.range n).map f := by
  unfold tr
  rw [List.filter_eq_self]
  intro x hx
  simp only [List.mem_map, List.mem_range] at hx
  obtain ⟨i, hi, rfl⟩ := hx
  simpa using h i hi
theorem map_getD (f : Nat → Int) (n j : Nat) : ((List.range n).map f).getD j 0 = if j < n then f j else 0 := by
  by_cases h : j < n
  · rw [if_pos h, List.getD_eq_getElem?_getD, List.getElem?_eq_getElem (by simpa using h)]
    simp
  · rw [if_neg h, List.getD_eq_getElem?_getD, List.getElem?_eq_none (by simp; omega)]
    rfl
theorem fall_le {f : Nat → Int} (hf : ∀ i, f (i + 1) ≤ f i) {i j : Nat} (h : i ≤ j) : f j ≤ f i := by
  induction j with
  | zero => obtain rfl : i = 0 := by omega
            exact Int.le_refl _
  | succ j ih =>
    by_cases e : i = j + 1
    · rw [e]; exact Int.le_refl _
    · exact Int.le_trans (hf j) (ih (by omega))
theorem tr_getD {f : Nat → Int} (hf : ∀ i, f (i + 1) ≤ f i) (h0 : ∀ i, 0 ≤ f i) (n j : Nat) : (tr f n).getD j 0 = if j < n then f j else 0 := by
  induction n with
  | zero => rfl
  | succ n ih =>
    by_cases h : 0 < f n
    · rw [tr_full (fun i hi => Int.lt_of_lt_of_le h (fall_le hf (by omega))), map_getD]
    · rw [tr_succ, if_neg h, List.append_nil, ih]
      have := h0 n
      by_cases h1 : j < n
      · rw [if_pos h1, if_pos (by omega)]
      · rw [if_neg h1]
        by_cases h2 : j = n
        · subst h2; rw [if_pos (by omega)]; omega
        · rw [if_neg (by omega)]
theorem tr_pos {f : Nat → Int} {n : Nat} {x : Int} (h : x ∈ tr f n) : 0 < x := by
  unfold tr at h
  rw [List.mem_filter] at h
  simpa using h.2
theorem sum_tr {f : Nat → Int} (h0 : ∀ i, 0 ≤ f i) (n : Nat) : sumL (tr f n) = sf f n := by
  induction n with
  | zero => rfl
  | succ n ih =>
    rw [tr_succ, sumL_append, ih, sf]
    have := h0 n
    by_cases h : 0 < f n
    · rw [if_pos h]; simp [sumL]
    · rw [if_neg h]; simp [sumL]; omega
theorem sf_le {f : Nat → Int} (h0 : ∀ i, 0 ≤ f i) {i n : Nat} (h : i < n) : f i ≤ sf f n ∧ 0 ≤ sf f n := by
  induction n with
  | zero => omega
  | succ n ih =>
    have h1 := h0 n
    have hn : 0 ≤ sf f n := by
      clear ih h h1
      induction n with
      | zero => exact Int.le_refl _
      | succ n ih => have := h0 n; rw [sf]; omega
    rw [sf]
    by_cases e : i = n
    · subst e; omega
    · have := ih (by omega); omega
theorem valid_tr {f : Nat → Int} (hf : ∀ i, f (i + 1) ≤ f i) (h0 : ∀ i, 0 ≤ f i) {n : Nat} (hs : sf f n ≤ 16) : valid (tr f n) = true := by
  apply valid_of_preS
  · intro j hj _
    have e := tr_getD hf h0 n j
    have hp := tr_pos (List.getElem_mem hj)
    rw [getD_lt hj] at e
    have hjn : j < n := by have := tr_len f n; omega
    rw [if_pos hjn] at e
    have hb := sf_le h0 hjn
    refine ⟨by omega, by omega, fun h1 => ?_⟩
    have e2 := tr_getD hf h0 n (j - 1)
    rw [getD_lt (by omega), if_pos (by omega)] at e2
    have := hf (j - 1)
    rw [show j - 1 + 1 = j by omega] at this
    omega
  · rw [sum_tr h0]; exact hs
theorem pad_tr {f : Nat → Int} (hf : ∀ i, f (i + 1) ≤ f i) (h0 : ∀ i, 0 ≤ f i) : pad (tr f 16) = (List.range 16).map f := by
  have hl := tr_len f 16
  apply List.ext_getElem
  · rw [pad_len hl]; simp
  · intro j h1 h2
    have e := pad_getD hl j
    rw [getD_lt h1, tr_getD hf h0] at e
    simp at h2
    rw [e, if_pos h2]
    simp
theorem tr_more {f : Nat → Int} {n m : Nat} (h : n ≤ m) (hz : ∀ i, n ≤ i → f i = 0) : tr f m = tr f n := by
  induction m with
  | zero => obtain rfl : n = 0 := by omega
            rfl
  | succ m ih =>
    by_cases e : n = m + 1
    · rw [e]
    · rw [tr_succ, ih (by omega), hz m (by omega), if_neg (by omega), List.append_nil]
theorem tr_self {L : List Int} (hv : valid L = true) {n : Nat} (h : L.length ≤ n) : tr (fun i => L.getD i 0) n = L := by
  rw [tr_more h (fun i hi => getD_ge hi), tr_full (fun i hi => by have := getD_pos hv hi; omega)]
  apply List.ext_getElem
  · simp
  · intro j h1 h2
    rw [List.getElem_map, List.getElem_range, getD_lt h2]
theorem tr_congr {f g : Nat → Int} {n : Nat} (h : ∀ i, i < n → f i = g i) : tr f n = tr g n := by
  unfold tr
  rw [List.map_congr_left fun i hi => h i (by simpa using hi)]
theorem getD_fall' {L : List Int} (hv : valid L = true) (i : Nat) : L.getD (i + 1) 0 ≤ L.getD i 0 := getD_fall hv (i + 1) (by omega)

/-! what both have, and what has both -/
def lo2 (P Q : List Int) (i : Nat) : Int := min (P.getD i 0) (Q.getD i 0)
def hi2 (P Q : List Int) (i : Nat) : Int := max (P.getD i 0) (Q.getD i 0)
def cutL (P Q : List Int) : List Int := tr (lo2 P Q) 16
def cutH (P Q : List Int) : List Int := tr (hi2 P Q) 16
section
variable {P Q : List Int}
theorem lo2_fall (hp : valid P = true) (hq : valid Q = true) (i : Nat) : lo2 P Q (i + 1) ≤ lo2 P Q i := by
  have := getD_fall' hp i; have := getD_fall' hq i; unfold lo2; omega
theorem hi2_fall (hp : valid P = true) (hq : valid Q = true) (i : Nat) : hi2 P Q (i + 1) ≤ hi2 P Q i := by
  have := getD_fall' hp i; have := getD_fall' hq i; unfold hi2; omega
theorem lo2_nn (hp : valid P = true) (hq : valid Q = true) (i : Nat) : 0 ≤ lo2 P Q i := by
  have := getD_nn hp i; have := getD_nn hq i; unfold lo2; omega
theorem hi2_nn (hp : valid P = true) (hq : valid Q = true) (i : Nat) : 0 ≤ hi2 P Q i := by
  have := getD_nn hp i; have := getD_nn hq i; unfold hi2; omega
theorem sf_sumTo (L : List Int) (n : Nat) : sf (fun i => L.getD i 0) n = sumTo L n := by
  induction n with
  | zero => rfl
  | succ n ih => rw [sf, sumTo, ih]
theorem sf_cut (P Q : List Int) (n : Nat) : sf (lo2 P Q) n + sf (hi2 P Q) n = sumTo P n + sumTo Q n := by
  induction n with
  | zero => rfl
  | succ n ih => rw [sf, sf, sumTo, sumTo]; unfold lo2 hi2 at *; omega
theorem sf_lo_le (hp : valid P = true) (hq : valid Q = true) (n : Nat) : sf (lo2 P Q) n ≤ sumTo P n := by
  induction n with
  | zero => exact Int.le_refl _
  | succ n ih => rw [sf, sumTo]; have : lo2 P Q n ≤ P.getD n 0 := by unfold lo2; omega
                 omega
end
/-- the cut rows fit -/
def cutOk (P Q : List Int) : Bool := valid P && valid Q && decide (sf (hi2 P Q) 16 ≤ 16)
def cutLF (P Q : List Int) : List Int := if cutOk P Q then cutL P Q else []
def cutHF (P Q : List Int) : List Int := if cutOk P Q then cutH P Q else []
theorem cutOk_out {P Q : List Int} (h : cutOk P Q = true) : valid P = true ∧ valid Q = true ∧ sf (hi2 P Q) 16 ≤ 16 := by
  unfold cutOk at h
  simp only [Bool.and_eq_true, decide_eq_true_eq] at h
  exact ⟨h.1.1, h.1.2, h.2⟩
theorem valid_cutL {P Q : List Int} (hp : valid P = true) (hq : valid Q = true) : valid (cutL P Q) = true := by
  have h1 := sf_lo_le hp hq 16
  rw [sumTo_all P 16 (valid_bd hp).2.2.2] at h1
  exact valid_tr (lo2_fall hp hq) (lo2_nn hp hq) (by have := (valid_bd hp).2.1; omega)
theorem valid_cutH {P Q : List Int} (h : cutOk P Q = true) : valid (cutH P Q) = true := by
  obtain ⟨hp, hq, hs⟩ := cutOk_out h
  exact valid_tr (hi2_fall hp hq) (hi2_nn hp hq) hs

/-- are the rows of Q inside of those of P -/
def ins (P Q : List Int) : Bool := valid P && valid Q && (List.range 16).all fun i => decide (Q.getD i 0 ≤ P.getD i 0)
theorem ins_iff {P Q : List Int} : ins P Q = true ↔ valid P = true ∧ valid Q = true ∧ ∀ i, Q.getD i 0 ≤ P.getD i 0 := by
  unfold ins
  simp only [Bool.and_eq_true, List.all_eq_true, List.mem_range, decide_eq_true_eq]
  constructor
  · rintro ⟨⟨hp, hq⟩, h⟩
    refine ⟨hp, hq, fun i => ?_⟩
    rcases Nat.lt_or_ge i 16 with hi | hi
    · exact h i hi
    · rw [getD_ge (Nat.le_trans (valid_bd hq).2.2.2 hi)]; exact (getD_nn hp i).1
  · rintro ⟨hp, hq, h⟩
    exact ⟨⟨hp, hq⟩, fun i _ => h i⟩

/-! first sums -/
def mf (P Q : List Int) (k : Nat) : Int := min (sumTo P k) (sumTo Q k)
def mi (P Q : List Int) (i : Nat) : Int := mf P Q (i + 1) - mf P Q i
def mt (P Q : List Int) : List Int := tr (mi P Q) 16
theorem sf_mi (P Q : List Int) (n : Nat) : sf (mi P Q) n = mf P Q n := by
  induction n with
  | zero => simp [sf, mf, sumTo]
  | succ n ih => rw [sf, ih]; unfold mi; omega
section
variable {P Q : List Int}
theorem mi_fall (hp : valid P = true) (hq : valid Q = true) (i : Nat) : mi P Q (i + 1) ≤ mi P Q i := by
  have := getD_fall' hp i; have := getD_fall' hq i; unfold mi mf; simp only [sumTo]; omega
theorem mi_nn (hp : valid P = true) (hq : valid Q = true) (i : Nat) : 0 ≤ mi P Q i := by
  have := getD_nn hp i; have := getD_nn hq i; unfold mi mf; simp only [sumTo]; omega
theorem mf_end (hp : valid P = true) (hq : valid Q = true) : mf P Q 16 = min (sumL P) (sumL Q) := by
  unfold mf; rw [sumTo_all P 16 (valid_bd hp).2.2.2, sumTo_all Q 16 (valid_bd hq).2.2.2]
theorem valid_mt (hp : valid P = true) (hq : valid Q = true) : valid (mt P Q) = true := by
  refine valid_tr (mi_fall hp hq) (mi_nn hp hq) ?_
  rw [sf_mi, mf_end hp hq]
  have := (valid_bd hp).2.1
  omega
theorem pad_mt (hp : valid P = true) (hq : valid Q = true) : pad (mt P Q) = (List.range 16).map (mi P Q) := pad_tr (mi_fall hp hq) (mi_nn hp hq)
theorem sum_mt (hp : valid P = true) (hq : valid Q = true) : sumL (mt P Q) = min (sumL P) (sumL Q) := by
  unfold mt
  rw [sum_tr (mi_nn hp hq), sf_mi, mf_end hp hq]
theorem sumTo_mt (hp : valid P = true) (hq : valid Q = true) {k : Nat} (hk : k ≤ 16) : sumTo (mt P Q) k = mf P Q k := by
  induction k with
  | zero => simp [sumTo, mf]
  | succ k ih =>
    rw [sumTo, ih (by omega)]
    unfold mt
    rw [tr_getD (mi_fall hp hq) (mi_nn hp hq), if_pos (by omega)]
    unfold mi
    omega
theorem eq_of_sumTo (hp : valid P = true) (hq : valid Q = true) (h : ∀ k, k ≤ 16 → sumTo P k = sumTo Q k) : P = Q := by
  refine valid_ext hp hq fun j => ?_
  rcases Nat.lt_or_ge j 16 with hj | hj
  · have h1 := h j (by omega)
    have h2 := h (j + 1) (by omega)
    simp only [sumTo] at h2
    omega
  · rw [getD_ge (Nat.le_trans (valid_bd hp).2.2.2 hj), getD_ge (Nat.le_trans (valid_bd hq).2.2.2 hj)]
theorem mt_right (hp : valid P = true) (hq : valid Q = true) : mt P Q = Q ↔ ∀ k, k ≤ 16 → sumTo Q k ≤ sumTo P k := by
  constructor
  · intro h k hk
    have := sumTo_mt hp hq hk
    rw [h] at this
    unfold mf at this
    omega
  · intro h
    refine eq_of_sumTo (valid_mt hp hq) hq fun k hk => ?_
    rw [sumTo_mt hp hq hk]
    have := h k hk
    unfold mf
    omega
theorem mt_comm (P Q : List Int) : mt P Q = mt Q P := by
  unfold mt
  refine tr_congr fun i _ => ?_
  unfold mi mf
  omega
end
/-- P dominates Q -/
def dom (P Q : List Int) : Bool := valid P && valid Q && decide (sumL P = sumL Q) && (List.range 17).all fun k => decide (sumTo Q k ≤ sumTo P k)
theorem dom_iff {P Q : List Int} : dom P Q = true ↔ valid P = true ∧ valid Q = true ∧ sumL P = sumL Q ∧ ∀ k, k ≤ 16 → sumTo Q k ≤ sumTo P k := by
  unfold dom
  simp only [Bool.and_eq_true, List.all_eq_true, List.mem_range, decide_eq_true_eq]
  constructor
  · rintro ⟨⟨⟨hp, hq⟩, hs⟩, h⟩; exact ⟨hp, hq, hs, fun k hk => h k (by omega)⟩
  · rintro ⟨hp, hq, hs, h⟩; exact ⟨⟨⟨hp, hq⟩, hs⟩, fun k hk => h k (by omega)⟩

/-! the other way round -/
def csum (j : Nat) (L : List Int) : Int := sumL ((List.range j).map fun (t : Nat) => cnt ((t : Int) + 1) L)
theorem csum_cons (j : Nat) (x : Int) (r : List Int) : csum j (x :: r) = tsum j x + csum j r := by
  unfold csum
  induction j with
  | zero => rfl
  | succ j ih =>
    have e2 : tsum (j + 1) x = tsum j x + if (j : Int) + 1 ≤ x then 1 else 0 := by
      simp [tsum, List.range_succ, sumL_append, sumL]
    rw [List.range_succ, List.map_append, sumL_append, ih, List.map_append, sumL_append, e2]
    simp [cnt, sumL]; omega
theorem csum_nil (j : Nat) : csum j [] = 0 := by
  unfold csum
  induction j with
  | zero => rfl
  | succ j ih => rw [List.range_succ, List.map_append, sumL_append, ih]; simp [cnt, sumL]
theorem sumTo_conj {L : List Int} (hv : valid L = true) (j : Nat) : sumTo (conj L) j = csum j L := by
  unfold csum
  induction j with
  | zero => rfl
  | succ j ih => rw [sumTo, ih, conj_getD hv, List.range_succ, List.map_append, sumL_append]; simp [sumL]
theorem tsum_full (n : Nat) (x : Int) (h : (n : Int) ≤ x) : tsum n x = n := by
  induction n with
  | zero => simp [tsum, sumL]
  | succ n ih =>
    have e2 : tsum (n + 1) x = tsum n x + if (n : Int) + 1 ≤ x then 1 else 0 := by
      simp [tsum, List.range_succ, sumL_append, sumL]
    rw [e2, ih (by omega), if_pos (by omega)]
    omega
theorem cells_le (j : Nat) : ∀ (L : List Int) (k : Nat), (∀ x ∈ L, 0 ≤ x) → sumL (L.take k) + csum j L ≤ sumL L + (k : Int) * (j : Int)
  | [], k, _ => by
    rw [csum_nil]
    have : (0 : Int) ≤ (k : Int) * (j : Int) := Int.mul_nonneg (by omega) (by omega)
    simp [sumL]; exact this
  | x :: r, 0, h => by
    have ih := cells_le j r 0 fun y hy => h y (by simp [hy])
    have h1 := (tsum_le j x (h x (by simp))).1
    rw [csum_cons]
    simp [sumL] at ih ⊢
    omega
  | x :: r, k + 1, h => by
    have ih := cells_le j r k fun y hy => h y (by simp [hy])
    have h1 := (tsum_le j x (h x (by simp))).2
    rw [csum_cons]
    have e : ((k + 1 : Nat) : Int) * (j : Int) = (k : Int) * (j : Int) + (j : Int) := by rw [Int.natCast_add, Int.add_mul]; simp
    rw [e]
    simp only [List.take_succ_cons, sumL]
    omega
theorem cells_eq (j : Nat) : ∀ (L : List Int), mono L → (∀ x ∈ L, 0 ≤ x) → sumL (L.take (cnt ((j : Int) + 1) L).toNat) + csum j L = sumL L + cnt ((j : Int) + 1) L * (j : Int)
  | [], _, _ => by simp [csum_nil, cnt, sumL]
  | x :: r, hm, h => by
    by_cases hx : (j : Int) + 1 ≤ x
    · have ih := cells_eq j r hm.2 fun y hy => h y (by simp [hy])
      have hc := cnt_bd ((j : Int) + 1) r
      have e : cnt ((j : Int) + 1) (x :: r) = cnt ((j : Int) + 1) r + 1 := by rw [cnt, if_pos hx]; omega
      rw [e, csum_cons, tsum_full j x (by omega), show (cnt ((j : Int) + 1) r + 1).toNat = (cnt ((j : Int) + 1) r).toNat + 1 by omega, List.take_succ_cons, Int.add_mul]
      simp only [sumL]
      omega
    · have e : cnt ((j : Int) + 1) (x :: r) = 0 := cnt_none fun y hy => by
        rcases List.mem_cons.1 hy with rfl | hy
        · omega
        · have := hm.1 y hy; omega
      rw [e]
      have h2 : csum j (x :: r) = sumL (x :: r) := csum_eq j _ fun y hy => ⟨h y hy, by
        rcases List.mem_cons.1 hy with rfl | hy
        · omega
        · have := hm.1 y hy; omega⟩
      rw [h2]
      simp [sumL]
theorem dual {P Q : List Int} (hp : valid P = true) (hq : valid Q = true) (hs : sumL P = sumL Q) (h : ∀ k, k ≤ 16 → sumTo Q k ≤ sumTo P k) (j : Nat) : sumTo (conj P) j ≤ sumTo (conj Q) j := by
  rw [sumTo_conj hp, sumTo_conj hq]
  have hc := cnt_bd ((j : Int) + 1) Q
  have h1 := cells_eq j Q (mono_valid hq) (valid_nonneg hq)
  have h2 := cells_le j P (cnt ((j : Int) + 1) Q).toNat (valid_nonneg hp)
  have h3 := h (cnt ((j : Int) + 1) Q).toNat (by have := (valid_bd hq).2.2.2; omega)
  rw [sumTo_take, sumTo_take] at h3
  rw [show (((cnt ((j : Int) + 1) Q).toNat : Nat) : Int) = cnt ((j : Int) + 1) Q by omega] at h2
  omega
theorem dom_conj {P Q : List Int} (hp : valid P = true) (hq : valid Q = true) : dom (conj Q) (conj P) = dom P Q := by
  have key : ∀ {P Q : List Int}, dom P Q = true → dom (conj Q) (conj P) = true := by
    intro P Q h
    obtain ⟨hp, hq, hs, hk⟩ := dom_iff.1 h
    exact dom_iff.2 ⟨valid_conj hq, valid_conj hp, by rw [sumL_conj hp, sumL_conj hq, hs], fun k _ => dual hp hq hs hk k⟩
  rw [Bool.eq_iff_iff]
  refine ⟨fun h => ?_, key⟩
  have := key h
  rwa [conj_conj hp, conj_conj hq] at this
theorem conj_inj {P Q : List Int} (hp : valid P = true) (hq : valid Q = true) : conj P = conj Q ↔ P = Q :=
  ⟨fun h => by rw [← conj_conj hp, h, conj_conj hq], fun h => by rw [h]⟩
theorem pad_inj {P Q : List Int} (hp : valid P = true) (hq : valid Q = true) : pad P = pad Q ↔ P = Q :=
  ⟨fun h => valid_ext hp hq fun j => by rw [← pad_getD (valid_bd hp).2.2.2, h, pad_getD (valid_bd hq).2.2.2], fun h => by rw [h]⟩
/-- what is above both -/
def jn (P Q : List Int) : List Int := conj (mt (conj P) (conj Q))
theorem valid_jn {P Q : List Int} (hp : valid P = true) (hq : valid Q = true) : valid (jn P Q) = true := valid_conj (valid_mt (valid_conj hp) (valid_conj hq))
/-- the program's question: they are their own bounds -/
theorem dom_bounds {P Q : List Int} (hp : valid P = true) (hq : valid Q = true) : dom P Q = (decide (mt P Q = Q) && decide (jn P Q = P)) := by
  have h2 : jn P Q = P ↔ ∀ k, k ≤ 16 → sumTo (conj P) k ≤ sumTo (conj Q) k := by
    rw [← mt_right (valid_conj hq) (valid_conj hp), mt_comm, ← conj_inj (valid_jn hp hq) hp]
    unfold jn
    rw [conj_conj (valid_mt (valid_conj hp) (valid_conj hq))]
  rw [Bool.eq_iff_iff, Bool.and_eq_true, decide_eq_true_eq, decide_eq_true_eq, dom_iff, mt_right hp hq, h2]
  constructor
  · rintro ⟨_, _, hs, h⟩; exact ⟨h, fun k _ => dual hp hq hs h k⟩
  · rintro ⟨h, h'⟩
    refine ⟨hp, hq, ?_, h⟩
    have a1 := h 16 (by omega)
    have a2 := h' 16 (by omega)
    rw [sumTo_all _ 16 (valid_bd hp).2.2.2, sumTo_all _ 16 (valid_bd hq).2.2.2] at a1
    rw [sumTo_all _ 16 (valid_bd (valid_conj hp)).2.2.2, sumTo_all _ 16 (valid_bd (valid_conj hq)).2.2.2, sumL_conj hp, sumL_conj hq] at a2
    omega
theorem ins_bounds {P Q : List Int} (hp : valid P = true) (hq : valid Q = true) : ins P Q = (decide ((List.range 16).map (lo2 P Q) = pad Q) && decide ((List.range 16).map (hi2 P Q) = pad P)) := by
  rw [Bool.eq_iff_iff, Bool.and_eq_true, decide_eq_true_eq, decide_eq_true_eq, ins_iff]
  have hpl := (valid_bd hp).2.2.2
  have hql := (valid_bd hq).2.2.2
  constructor
  · rintro ⟨_, _, h⟩
    constructor
    · apply List.ext_getElem
      · rw [pad_len hql]; simp
      · intro j h1 h2
        rw [← getD_lt h2, pad_getD hql]
        simp only [List.getElem_map, List.getElem_range]
        have := h j
        unfold lo2; omega
    · apply List.ext_getElem
      · rw [pad_len hpl]; simp
      · intro j h1 h2
        rw [← getD_lt h2, pad_getD hpl]
        simp only [List.getElem_map, List.getElem_range]
        have := h j
        unfold hi2; omega
  · rintro ⟨h, _⟩
    refine ⟨hp, hq, fun i => ?_⟩
    rcases Nat.lt_or_ge i 16 with hi | hi
    · have e := congrArg (fun l => l.getD i 0) h
      rw [map_getD, if_pos hi, pad_getD hql] at e
      unfold lo2 at e
      omega
    · rw [getD_ge (by omega)]; exact (getD_nn hp i).1

/-! ranks and cranks -/
def rnk (L : List Int) : Int := if valid L then L.headD 0 - L.length else 0
def crk (L : List Int) : Int := if valid L then (if eqc 1 L = 0 then L.headD 0 else cnt (eqc 1 L + 1) L - eqc 1 L) else 0
theorem rnk_yes {L : List Int} (h : valid L = true) : rnk L = L.headD 0 - L.length := by simp [rnk, h]
theorem rnk_no {L : List Int} (h : valid L = false) : rnk L = 0 := by simp [rnk, h]
theorem crk_yes {L : List Int} (h : valid L = true) : crk L = if eqc 1 L = 0 then L.headD 0 else cnt (eqc 1 L + 1) L - eqc 1 L := by simp [crk, h]
theorem crk_no {L : List Int} (h : valid L = false) : crk L = 0 := by simp [crk, h]
end NP
end Go.Proofs.Ythafbdpeignccaa
namespace Go.Proofs.Ythafbdpeignccaa
namespace NP
theorem head_le_sum {L : List Int} (h : valid L = true) : 0 ≤ L.headD 0 ∧ L.headD 0 ≤ sumL L ∧ (0 < L.length → 1 ≤ L.headD 0) := by
  cases L with
  | nil => simp [sumL]
  | cons x r =>
    have h0 := valid_nonneg h
    have h1 := (elem_le_sum h0 (q := 0) (by simp)).1
    have h2 := valid_ge1 h x (by simp)
    simp at h1 ⊢
    omega
theorem rnk_facts {P : List Int} (h : valid P = true) : rnk (conj P) = -rnk P ∧ rnk P < max (sumL P) 1 ∧ -rnk P < max (sumL P) 1 ∧ -16 ≤ rnk P ∧ rnk P ≤ 16 := by
  have hb := valid_bd h
  have h1 := head_le_sum h
  have hc := head_conj h
  have hcb := headD_bd (valid_conj h)
  rw [rnk_yes h, rnk_yes (valid_conj h), conj_len]
  by_cases h0 : 0 < P.length
  · have := h1.2.2 h0
    omega
  · obtain rfl : P = [] := List.eq_nil_of_length_eq_zero (by omega)
    simp [conj, sumL]
    omega
end NP
end Go.Proofs.Ythafbdpeignccaa
namespace Go.Proofs.Ythafbdpeignccaa
namespace NP
theorem cnt_le_sum {L : List Int} (h : ∀ x ∈ L, 1 ≤ x) (t : Int) : cnt t L ≤ sumL L ∧ 0 ≤ sumL L := by
  induction L with
  | nil => simp [cnt, sumL]
  | cons x r ih =>
    have h1 := ih fun y hy => h y (by simp [hy])
    have h2 := h x (by simp)
    rw [cnt, sumL]
    split <;> omega
theorem eqc_le_sum {L : List Int} (h : ∀ x ∈ L, 1 ≤ x) (t : Int) : eqc t L ≤ sumL L := by
  induction L with
  | nil => simp [eqc, sumL]
  | cons x r ih =>
    have h1 := ih fun y hy => h y (by simp [hy])
    have h2 := h x (by simp)
    rw [eqc_cons, sumL]
    split <;> omega
theorem crk_facts {P : List Int} (h : valid P = true) (h0 : 0 < P.length) : crk P ≤ sumL P ∧ -crk P ≤ sumL P ∧ (P[P.length - 1]'(by omega) = 1 ∨ crk P = P[0]) ∧ -16 ≤ crk P ∧ crk P ≤ 16 ∧ 1 ≤ P[P.length - 1]'(by omega) ∧ P[P.length - 1]'(by omega) ≤ 16 := by
  have hb := valid_bd h
  have h1 := head_le_sum h
  have hg := valid_ge1 h
  have hc := cnt_le_sum hg (eqc 1 P + 1)
  have hcb := cnt_bd (eqc 1 P + 1) P
  have he := eqc_le_sum hg 1
  have heb := eqc_bd 1 P
  have hl := hg _ (List.getElem_mem (show P.length - 1 < P.length by omega))
  have hl2 := preS_of_valid h (P.length - 1) (by omega) (by omega)
  have h0' : P.headD 0 = P[0] := headD_get P h0
  rw [crk_yes h]
  by_cases hz : eqc 1 P = 0
  · rw [if_pos hz]
    refine ⟨h1.2.1, by omega, .inr h0', by omega, by omega, hl, hl2.2.1⟩
  · rw [if_neg hz]
    have hm : (1 : Int) ∈ P := eqc_mem (by omega)
    obtain ⟨q, hq, e⟩ := List.mem_iff_getElem.1 hm
    have hf := falls_all h (P.length - 1) q (by omega) (by omega)
    refine ⟨by omega, by omega, .inl (by omega), by omega, by omega, hl, hl2.2.1⟩
end NP
end Go.Proofs.Ythafbdpeignccaa
namespace Go.Proofs.Ythafbdpeignccaa
open Go.RowKit NP
set_option linter.unusedVariables false
def hookN (N : List Nat) : Nat := (List.range N.length).foldl (fun a i => (List.range (N.getD i 0)).foldl (fun b k => b * (N.getD i 0 - k + (N.countP fun x => Nat.blt k x) - i - 1)) a) 1
def factN (n : Nat) : Nat := (List.range n).foldl (fun a i => a * (i + 1)) 1
def gNat (N : List Nat) : Nat := factN (N.foldl (· + ·) 0) / hookN N
/-- in how many ways parts grow from none -/
def gF (L : List Int) : Int := (gNat (L.map Int.toNat) : Int)
def sumBy (f : Int → Int) : List Int → Int
  | [] => 0
  | x :: r => f x + sumBy f r
def gTab (N : List Nat) : Bool :=
  let L := N.map Int.ofNat
  Nat.blt 12 (N.foldl (· + ·) 0) || (decide (gF L = if N.isEmpty then 1 else sumBy (fun k => gF (lessL L k.toNat)) (crn L)) && decide (1 ≤ gF L) && decide (gF L ≤ 10000) && decide (gF (conj L) = gF L))
set_option maxRecDepth 100000 in
theorem gTab_all : all16.all gTab = true := by decide +kernel
theorem sum_ofNat (N : List Nat) : sumL (N.map Int.ofNat) = ((N.foldl (· + ·) 0 : Nat) : Int) := by
  have : ∀ (N : List Nat) (a : Nat), ((N.foldl (· + ·) a : Nat) : Int) = (a : Int) + sumL (N.map Int.ofNat) := by
    intro N
    induction N with
    | nil => intro a; simp [sumL]
    | cons x r ih => intro a; rw [List.foldl_cons, ih, List.map_cons, sumL]; simp only [Int.ofNat_eq_natCast]; omega
  rw [this N 0]; omega
theorem gF_facts {L : List Int} (hv : valid L = true) (h : sumL L ≤ 12) : (gF L = if L = [] then 1 else sumBy (fun k => gF (lessL L k.toNat)) (crn L)) ∧ 1 ≤ gF L ∧ gF L ≤ 10000 ∧ gF (conj L) = gF L := by
  obtain ⟨N, hN, rfl⟩ := of_all gTab_all hv
  rw [sum_ofNat] at h
  have hlt : ¬ Nat.blt 12 (N.foldl (· + ·) 0) = true := by rw [Nat.blt_eq]; omega
  unfold gTab at hN
  simp only [Bool.or_eq_true, Bool.and_eq_true, decide_eq_true_eq] at hN
  obtain ⟨⟨⟨h1, h2⟩, h3⟩, h4⟩ := hN.resolve_left hlt
  refine ⟨?_, h2, h3, h4⟩
  rw [h1]
  cases N <;> simp
/-- one more growth among a level's -/
def addG : List (List Int × Int) → List Int → Int → List (List Int × Int)
  | [], S, w => [(S, w)]
  | (T, x) :: r, S, w => if T = S then (T, x + w) :: r else (T, x) :: addG r S w
theorem addG_at {G : List (List Int × Int)} {S : List Int} {w : Int} : ∀ {k : Nat} (hk : k < G.length), (∀ j (h : j < G.length), j < k → G[j].1 ≠ S) → G[k].1 = S → addG G S w = G.set k (S, G[k].2 + w) := by
  induction G with
  | nil => intro k hk; simp at hk
  | cons g r ih =>
    obtain ⟨T, x⟩ := g
    intro k hk hn he
    cases k with
    | zero =>
      simp only [List.getElem_cons_zero] at he
      subst he
      simp [addG]
    | succ k =>
      have h0 := hn 0 (by simp) (by omega)
      simp only [List.getElem_cons_zero] at h0
      simp only [List.getElem_cons_succ, List.set_cons_succ, addG, if_neg h0]
      rw [ih (by simpa using hk) (fun j h1 h2 => by have := hn (j + 1) (by simpa using h1) (by omega); simpa using this) (by simpa using he)]
theorem addG_new {G : List (List Int × Int)} {S : List Int} {w : Int} (hn : ∀ j (h : j < G.length), G[j].1 ≠ S) : addG G S w = G ++ [(S, w)] := by
  induction G with
  | nil => rfl
  | cons g r ih =>
    obtain ⟨T, x⟩ := g
    have h0 := hn 0 (by simp)
    simp only [List.getElem_cons_zero] at h0
    simp only [addG, if_neg h0, List.cons_append]
    rw [ih fun j h => by have := hn (j + 1) (by simpa using h); simpa using this]
/-- the ways of all, weighed -/
def gSum : List (List Int × Int) → Int
  | [] => 0
  | g :: r => g.2 * gF g.1 + gSum r
theorem gSum_append (A B : List (List Int × Int)) : gSum (A ++ B) = gSum A + gSum B := by
  induction A with
  | nil => simp [gSum]
  | cons g r ih => simp only [List.cons_append, gSum, ih]; omega
theorem gSum_add (G : List (List Int × Int)) (S : List Int) (w : Int) : gSum (addG G S w) = gSum G + w * gF S := by
  induction G with
  | nil => simp [addG, gSum]
  | cons g r ih =>
    obtain ⟨T, x⟩ := g
    unfold addG
    split
    · rename_i h
      subst h
      simp only [gSum, Int.add_mul]; omega
    · simp only [gSum, ih]; omega
/-- what a level holds: parts of a sum, each in some way, no parts twice -/
def gLv (m : Int) (G : List (List Int × Int)) : Prop := (∀ g ∈ G, valid g.1 = true ∧ sumL g.1 = m ∧ 1 ≤ g.2) ∧ G.Pairwise fun a b => a.1 ≠ b.1
theorem addG_mem {G : List (List Int × Int)} {S : List Int} {w : Int} {g : List Int × Int} (h : g ∈ addG G S w) : g.1 = S ∨ ∃ g' ∈ G, g'.1 = g.1 := by
  induction G with
  | nil => simp [addG] at h; left; rw [h]
  | cons g0 r ih =>
    obtain ⟨T, x⟩ := g0
    unfold addG at h
    split at h
    · rename_i e
      rcases List.mem_cons.1 h with rfl | h
      · exact .inl e
      · exact .inr ⟨g, by simp [h], rfl⟩
    · rcases List.mem_cons.1 h with rfl | h
      · exact .inr ⟨(T, x), by simp, rfl⟩
      · rcases ih h with h1 | ⟨g', h1, h2⟩
        · exact .inl h1
        · exact .inr ⟨g', by simp [h1], h2⟩
theorem gLv_add {m : Int} {G : List (List Int × Int)} (h : gLv m G) {S : List Int} {w : Int} (hS : valid S = true) (hs : sumL S = m) (hw : 1 ≤ w) : gLv m (addG G S w) := by
  induction G with
  | nil => exact ⟨fun g hg => by simp [addG] at hg; subst hg; exact ⟨hS, hs, hw⟩, by simp [addG]⟩
  | cons g0 r ih =>
    obtain ⟨T, x⟩ := g0
    obtain ⟨h1, h2⟩ := h
    rw [List.pairwise_cons] at h2
    have hr : gLv m r := ⟨fun g hg => h1 g (by simp [hg]), h2.2⟩
    have h0 := h1 (T, x) (by simp)
    unfold addG
    split
    · rename_i e
      refine ⟨fun g hg => ?_, ?_⟩
      · rcases List.mem_cons.1 hg with rfl | hg
        · exact ⟨h0.1, h0.2.1, by have := h0.2.2; simp only at this ⊢; omega⟩
        · exact h1 g (by simp [hg])
      · rw [List.pairwise_cons]; exact h2
    · rename_i e
      obtain ⟨h3, h4⟩ := ih hr
      refine ⟨fun g hg => ?_, ?_⟩
      · rcases List.mem_cons.1 hg with rfl | hg
        · exact h0
        · exact h3 g hg
      · rw [List.pairwise_cons]
        refine ⟨fun g hg => ?_, h4⟩
        rcases addG_mem hg with h5 | ⟨g', h5, h6⟩
        · rw [h5]; exact e
        · rw [← h6]; exact h2.1 g' h5
theorem mul_ge1 {a b : Int} (ha : 1 ≤ a) (hb : 1 ≤ b) : a ≤ a * b ∧ 1 ≤ a * b := by
  have h1 := Int.mul_le_mul_of_nonneg_left hb (show 0 ≤ a by omega)
  omega
/-- each way, and how many there are, are at most the sum -/
theorem gLv_bd {m : Int} (hm : m ≤ 12) {G : List (List Int × Int)} (h : gLv m G) : (G.length : Int) ≤ gSum G ∧ ∀ g ∈ G, g.2 ≤ gSum G := by
  induction G with
  | nil => exact ⟨by simp [gSum], fun g hg => by simp at hg⟩
  | cons g0 r ih =>
    obtain ⟨h1, h2⟩ := h
    rw [List.pairwise_cons] at h2
    obtain ⟨h3, h4⟩ := ih ⟨fun g hg => h1 g (by simp [hg]), h2.2⟩
    have h0 := h1 g0 (by simp)
    have h5 := gF_facts h0.1 (by omega)
    have h6 := mul_ge1 h0.2.2 h5.2.1
    refine ⟨by rw [List.length_cons, gSum]; omega, fun g hg => ?_⟩
    rw [gSum]
    rcases List.mem_cons.1 hg with rfl | hg
    · omega
    · have := h4 g hg; omega
/-- the first n corners of parts put among the level below -/
def lvK (S : List Int) (w : Int) (A : List (List Int × Int)) (n : Nat) : List (List Int × Int) := ((crn S).take n).foldl (fun A k => addG A (lessL S k.toNat) w) A
def lvN (G : List (List Int × Int)) (n : Nat) : List (List Int × Int) := (G.take n).foldl (fun A g => lvK g.1 g.2 A (crn g.1).length) []
theorem lvK_succ (S : List Int) (w : Int) (A : List (List Int × Int)) (n : Nat) (h : n < (crn S).length) : lvK S w A (n + 1) = addG (lvK S w A n) (lessL S (crn S)[n].toNat) w := by
  unfold lvK
  rw [List.take_succ_eq_append_getElem h, List.foldl_append]; rfl
theorem lvN_succ (G : List (List Int × Int)) (n : Nat) (h : n < G.length) : lvN G (n + 1) = lvK G[n].1 G[n].2 (lvN G n) (crn G[n].1).length := by
  unfold lvN
  rw [List.take_succ_eq_append_getElem h, List.foldl_append]; rfl
theorem crn_at {L : List Int} {n : Nat} (h : n < (crn L).length) : ∃ k : Nat, (crn L)[n] = (k : Int) ∧ k < L.length ∧ isC L k = true := by
  have hm : (crn L)[n] ∈ crn L := List.getElem_mem h
  unfold crn crnTo at hm
  rw [List.mem_map] at hm
  obtain ⟨k, hk, e⟩ := hm
  rw [List.mem_filter, List.mem_range] at hk
  exact ⟨k, e.symm, hk.1, hk.2⟩
theorem lvK_ok {m : Int} {S : List Int} (hS : valid S = true) (hs : sumL S = m + 1) {w : Int} (hw : 1 ≤ w) {A : List (List Int × Int)} (hA : gLv m A) : ∀ n, n ≤ (crn S).length → gLv m (lvK S w A n) ∧ gSum (lvK S w A n) = gSum A + w * sumBy (fun k => gF (lessL S k.toNat)) ((crn S).take n)
  | 0, _ => ⟨by simpa [lvK] using hA, by simp [lvK, sumBy]⟩
  | n + 1, h => by
    obtain ⟨h1, h2⟩ := lvK_ok hS hs hw hA n (by omega)
    have hn : n < (crn S).length := by omega
    obtain ⟨k, hk, hkl, hkc⟩ := crn_at hn
    rw [lvK_succ S w A n hn]
    have e : (crn S)[n].toNat = k := by rw [hk]; simp
    rw [e]
    refine ⟨gLv_add h1 (valid_less hS hkl hkc) (by rw [less_sum hS hkl hkc]; omega) hw, ?_⟩
    rw [gSum_add, h2, List.take_succ_eq_append_getElem hn]
    have : ∀ (f : Int → Int) (a b : List Int), sumBy f (a ++ b) = sumBy f a + sumBy f b := by
      intro f a b
      induction a with
      | nil => simp [sumBy]
      | cons x r ih => simp only [List.cons_append, sumBy, ih]; omega
    rw [this, Int.mul_add]
    simp only [sumBy, e, Int.add_zero]
    omega
theorem lvN_ok {m : Int} (hm : 0 ≤ m ∧ m + 1 ≤ 12) {G : List (List Int × Int)} (hG : gLv (m + 1) G) : ∀ n, n ≤ G.length → gLv m (lvN G n) ∧ gSum (lvN G n) = gSum (G.take n)
  | 0, _ => ⟨⟨fun g hg => by simp [lvN] at hg, by simp [lvN]⟩, by simp [lvN]⟩
  | n + 1, h => by
    obtain ⟨h1, h2⟩ := lvN_ok hm hG n (by omega)
    have hn : n < G.length := by omega
    have hg := hG.1 G[n] (List.getElem_mem hn)
    obtain ⟨h3, h4⟩ := lvK_ok hg.1 hg.2.1 hg.2.2 h1 (crn G[n].1).length (Nat.le_refl _)
    rw [lvN_succ G n hn]
    refine ⟨h3, ?_⟩
    rw [h4, h2, List.take_succ_eq_append_getElem hn, gSum_append, List.take_length]
    have h5 := (gF_facts hg.1 (by omega)).1
    rw [if_neg (by intro e; rw [e] at hg; simp [sumL] at hg; omega)] at h5
    simp only [gSum]
    rw [← h5]; omega
/-- the sums grow -/
theorem gSum_take {m : Int} (hm : m ≤ 12) {G : List (List Int × Int)} (hG : gLv m G) (n : Nat) : gSum (G.take n) ≤ gSum G := by
  have h : gLv m (G.drop n) := ⟨fun g hg => hG.1 g (List.mem_of_mem_drop hg), hG.2.sublist (List.drop_sublist n G)⟩
  have h1 := (gLv_bd hm h).1
  have h2 := gSum_append (G.take n) (G.drop n)
  rw [List.take_append_drop] at h2
  omega
theorem lvK_le {m : Int} (hm : m + 1 ≤ 12) {S : List Int} (hS : valid S = true) (hs : sumL S = m + 1) {w : Int} (hw : 1 ≤ w) {A : List (List Int × Int)} (hA : gLv m A) {n : Nat} (hn : n ≤ (crn S).length) : gSum (lvK S w A n) ≤ gSum (lvK S w A (crn S).length) := by
  have : ∀ d, n + d ≤ (crn S).length → gSum (lvK S w A n) ≤ gSum (lvK S w A (n + d)) := by
    intro d
    induction d with
    | zero => intro _; exact Int.le_refl _
    | succ d ih =>
      intro hd
      have h1 := ih (by omega)
      obtain ⟨k, hk, hkl, hkc⟩ := crn_at (show n + d < (crn S).length by omega)
      rw [show n + (d + 1) = n + d + 1 from rfl, lvK_succ S w A (n + d) (by omega), gSum_add]
      have e : (crn S)[n + d].toNat = k := by rw [hk]; simp
      rw [e]
      have h2 := (gF_facts (valid_less hS hkl hkc) (by rw [less_sum hS hkl hkc]; omega)).2.1
      have h3 := mul_ge1 hw h2
      omega
  have h := this ((crn S).length - n) (by omega)
  rwa [show n + ((crn S).length - n) = (crn S).length from by omega] at h
/-- the level when t cells are gone -/
def lvT (P : List Int) : Nat → List (List Int × Int)
  | 0 => [(P, 1)]
  | t + 1 => lvN (lvT P t) (lvT P t).length
theorem lvT_ok {P : List Int} (hv : valid P = true) (h : sumL P ≤ 12) : ∀ t : Nat, (t : Int) ≤ sumL P → gLv (sumL P - t) (lvT P t) ∧ gSum (lvT P t) = gF P
  | 0, _ => ⟨⟨fun g hg => by simp [lvT] at hg; subst hg; exact ⟨hv, by simp, by simp⟩, by simp [lvT]⟩, by simp [lvT, gSum]⟩
  | t + 1, ht => by
    obtain ⟨h1, h2⟩ := lvT_ok hv h t (by omega)
    have e : sumL P - (t : Int) = (sumL P - ((t + 1 : Nat) : Int)) + 1 := by omega
    rw [e] at h1
    obtain ⟨h3, h4⟩ := lvN_ok (by omega) h1 (lvT P t).length (Nat.le_refl _)
    exact ⟨h3, by rw [lvT, h4, List.take_length, h2]⟩
theorem lvT_end {P : List Int} (hv : valid P = true) (h : sumL P ≤ 12) {t : Nat} (ht : (t : Int) = sumL P) : ∃ S, lvT P t = [(S, gF P)] := by
  obtain ⟨⟨h1, h2⟩, h3⟩ := lvT_ok hv h t (by omega)
  rw [show sumL P - (t : Int) = 0 from by omega] at h1
  have hnil : ∀ g ∈ lvT P t, g.1 = [] := fun g hg => by
    obtain ⟨a, b, _⟩ := h1 g hg
    cases hg1 : g.1 with
    | nil => rfl
    | cons x r =>
      rw [hg1] at a b
      have := (valid_bd a).2.2.1
      simp at this
      omega
  have hpos := (gF_facts hv h).2.1
  match hG : lvT P t, h2, h3, hnil with
  | [], _, h3, _ => simp [gSum] at h3; omega
  | [g], _, h3, hnil =>
    have e := hnil g (by simp)
    have e2 : gF [] = 1 := by decide
    simp only [gSum, e, e2] at h3
    exact ⟨g.1, by congr 1; cases g; simp only at h3 ⊢; rw [show (gF P) = _ from h3.symm]; simp⟩
  | g :: g' :: r, h2, _, hnil =>
    rw [List.pairwise_cons] at h2
    exact absurd ((hnil g (by simp)).trans (hnil g' (by simp)).symm) (h2.1 g' (by simp))
end Go.Proofs.Ythafbdpeignccaa
namespace Go.Proofs.Ythafbdpeignccaa
open Go.RowKit
theorem run_eqItems_arr {P : Program} {e : TypeId} (he : P.underlying e = some (.int .i64)) (hp : P.plainKey e = true) (d : Nat) (D E : List Int) (w : World) :
    ∀ l : List Nat, (∀ k ∈ l, k < D.length ∧ k < E.length) → (Op.eqItems (d + 1) e 1 (arr D) (arr E) l).run P w = .ok (l.all fun k => D.getD k 0 == E.getD k 0) w
  | [], _ => by simp [Op.eqItems]
  | k :: l, h => by
    obtain ⟨h1, h2⟩ := h k (by simp)
    have ih := run_eqItems_arr he hp d D E w l fun j hj => h j (by simp [hj])
    have p1 : (part e (arr D) (k * 1)).run P w = .ok (.int .i64 D[k]) w := run_part_plain w hp (by rw [Nat.mul_one]; exact arr_get D k h1)
    have p2 : (part e (arr E) (k * 1)).run P w = .ok (.int .i64 E[k]) w := run_part_plain w hp (by rw [Nat.mul_one]; exact arr_get E k h2)
    have p3 := run_equalIn_int (P := P) w d e .i64 .i64 D[k] E[k] he
    have g1 : D.getD k 0 = D[k] := by rw [List.getD_eq_getElem?_getD, List.getElem?_eq_getElem h1]; rfl
    have g2 : E.getD k 0 = E[k] := by rw [List.getD_eq_getElem?_getD, List.getElem?_eq_getElem h2]; rfl
    simp only [Op.eqItems, Sem.run_bind, p1, p2, p3, Result.andThen_ok, List.all_cons, g1, g2]
    cases hq : (D[k] == E[k])
    · simp
    · simpa using ih
theorem all_getD_eq {D E : List Int} (h : D.length = E.length) : ((List.range D.length).all fun k => D.getD k 0 == E.getD k 0) = decide (D = E) := by
  rw [Bool.eq_iff_iff, List.all_eq_true, decide_eq_true_eq]
  constructor
  · intro hh
    apply List.ext_getElem h
    intro i h1 h2
    have := hh i (by simpa using h1)
    rw [List.getD_eq_getElem?_getD, List.getElem?_eq_getElem h1, List.getD_eq_getElem?_getD, List.getElem?_eq_getElem h2] at this
    simpa using this
  · rintro rfl k _
    simp
theorem run_equal_arr {P : Program} {t e : TypeId} {n : Nat} {i : TypeInfo} (ht : P.underlying t = some (.array n e)) (he : P.underlying e = some (.int .i64)) (hp : P.plainKey e = true) (hi : P.info? e = some i) (hc : P.cellsOf e = 1) (D E : List Int) (hD : D.length = n) (hE : E.length = n) (w : World) :
    (Op.equalIn 10000 t (.agg (arr D)) (.agg (arr E))).run P w = .ok (decide (D = E)) w := by
  rw [show (10000 : Nat) = 9998 + 1 + 1 from rfl, run_equalIn_array w (9998 + 1) (arr D) (arr E) ht hi, hc, run_eqItems_arr he hp 9998 D E w _ (fun k hk => by simp at hk; omega), ← hD, all_getD_eq (by omega)]
end Go.Proofs.Ythafbdpeignccaa
namespace Go.Proofs.Ythafbdpeignccaa
open Go.RowKit
set_option linter.unusedVariables false
set_option linter.unusedSimpArgs false
theorem run_equal_arrD {P : Program} {t e : TypeId} {n : Nat} {i : TypeInfo} (d : Nat) (ht : P.underlying t = some (.array n e)) (he : P.underlying e = some (.int .i64)) (hp : P.plainKey e = true) (hi : P.info? e = some i) (hc : P.cellsOf e = 1) (D E : List Int) (hD : D.length = n) (hE : E.length = n) (w : World) :
    (Op.equalIn (d + 1 + 1) t (.agg (arr D)) (.agg (arr E))).run P w = .ok (decide (D = E)) w := by
  rw [run_equalIn_array w (d + 1) (arr D) (arr E) ht hi, hc, run_eqItems_arr he hp d D E w _ (fun k hk => by simp at hk; omega), ← hD, all_getD_eq (by omega)]
theorem arr_ext0 (B A : List Int) (n : Nat) (hB : B.length = n) : (arr (B ++ A)).extract 0 n = arr B := by
  apply Array.toList_inj.1
  simp [arr, ints, ← hB]
theorem arr_ext1 (B A : List Int) (n m : Nat) (hB : B.length = n) (hA : A.length = m) : (arr (B ++ A)).extract n (n + m) = arr A := by
  apply Array.toList_inj.1
  simp only [arr, ints, ← hB, ← hA, List.map_append]
  simp
  exact List.take_of_length_le (by simp)

theorem T_info_bounds : (Try.prog.info? 99).map (·.size) = some 32 := by kernel_rfl
theorem T_isAgg_d (w : World) : (isAgg 59).run Try.prog w = .ok true w := by
  unfold isAgg
  rw [Sem.run_bind, run_underlying Try.underlying59 w]
  rfl
theorem T_part0 (B A : List Int) (hB : B.length = 16) (w : World) : (part 59 (arr (B ++ A)) 0).run Try.prog w = .ok (.agg (arr B)) w := by
  have hs : (sizeOf 59).run Try.prog w = .ok 16 w := by
    cases hq : Try.prog.info? 59 with
    | none => have := T_info35; rw [hq] at this; cases this
    | some i => have := T_info35; rw [hq] at this; simp [sizeOf, typeInfo, hq]; simpa using this
  simp only [part, Sem.run_bind, T_isAgg_d, Result.andThen_ok, if_true, hs, Sem.run_pure, Nat.zero_add]
  rw [arr_ext0 B A 16 hB]
theorem T_part1 (B A : List Int) (hB : B.length = 16) (hA : A.length = 16) (w : World) : (part 59 (arr (B ++ A)) 16).run Try.prog w = .ok (.agg (arr A)) w := by
  have hs : (sizeOf 59).run Try.prog w = .ok 16 w := by
    cases hq : Try.prog.info? 59 with
    | none => have := T_info35; rw [hq] at this; cases this
    | some i => have := T_info35; rw [hq] at this; simp [sizeOf, typeInfo, hq]; simpa using this
  simp only [part, Sem.run_bind, T_isAgg_d, Result.andThen_ok, if_true, hs, Sem.run_pure]
  rw [arr_ext1 B A 16 16 hB hA]
theorem T_eqD (d : Nat) (D E : List Int) (hD : D.length = 16) (hE : E.length = 16) (w : World) : (Op.equalIn (d + 1 + 1) 59 (.agg (arr D)) (.agg (arr E))).run Try.prog w = .ok (decide (D = E)) w := by
  obtain ⟨i, hi⟩ := info_of_underlying Try.underlying3
  exact run_equal_arrD d Try.underlying59 Try.underlying3 (by kernel_rfl) hi (by kernel_rfl) D E hD hE w
theorem T_fields : (Try.prog.fieldsOf 99).toList.map (fun f => (f.name, f.type, f.offset)) = [("below", 59, 0), ("above", 59, 16)] := by kernel_rfl
theorem T_eqb (B A E D : List Int) (hB : B.length = 16) (hA : A.length = 16) (hE : E.length = 16) (hD : D.length = 16) (w : World) :
    (Op.equalIn 10000 99 (.agg (arr (B ++ A))) (.agg (arr (E ++ D)))).run Try.prog w = .ok (decide (B = E) && decide (A = D)) w := by
  rw [show (10000 : Nat) = 9997 + 1 + 1 + 1 from rfl, run_equalIn_struct w (9997 + 1 + 1) 99 (arr (B ++ A)) (arr (E ++ D)) (by kernel_rfl) (by kernel_rfl)]
  have hf := T_fields
  generalize (Try.prog.fieldsOf 99).toList = fs at hf
  match fs, hf with
  | [], hf => simp at hf
  | [_], hf => simp at hf
  | _ :: _ :: _ :: _, hf => simp at hf
  | [f, g], hf =>
    simp only [List.map_cons, List.map_nil, List.cons.injEq, Prod.mk.injEq, and_true] at hf
    obtain ⟨⟨n1, t1, o1⟩, n2, t2, o2⟩ := hf
    have k1 : f.name ≠ "_" := by rw [n1]; decide
    have k2 : g.name ≠ "_" := by rw [n2]; decide
    simp only [Op.eqFields, if_pos k1, if_pos k2, Sem.run_bind, t1, t2, o1, o2, T_part0 B A hB, T_part0 E D hE, T_part1 B A hB hA, T_part1 E D hE hD, T_eqD 9997 B E hB hE, T_eqD 9997 A D hA hD, Result.andThen_ok]
    by_cases h1 : B = E
    · by_cases h2 : A = D
      · simp [h1, h2, T_eqD 9997 D D hD hD, T_part1 E D hE hD, Sem.run_bind]
      · simp [h1, h2, T_part1 E A hE hA, T_part1 E D hE hD, T_eqD 9997 A D hA hD, Sem.run_bind]
    · simp [h1]
theorem T_build0 (e0 e1 e2 e3 e4 e5 e6 e7 e8 e9 e10 e11 e12 e13 e14 e15 d0 d1 d2 d3 d4 d5 d6 d7 d8 d9 d10 d11 d12 d13 d14 d15 : Int) (w : World) : (Instr.build 99 #[(0, .agg (arr [e0, e1, e2, e3, e4, e5, e6, e7, e8, e9, e10, e11, e12, e13, e14, e15])), (1, .agg (arr [d0, d1, d2, d3, d4, d5, d6, d7, d8, d9, d10, d11, d12, d13, d14, d15]))]).run Try.prog w = .ok (.agg (arr ([e0, e1, e2, e3, e4, e5, e6, e7, e8, e9, e10, e11, e12, e13, e14, e15] ++ [d0, d1, d2, d3, d4, d5, d6, d7, d8, d9, d10, d11, d12, d13, d14, d15]))) w := by kernel_rfl
theorem T_build (E D : List Int) (hE : E.length = 16) (hD : D.length = 16) (w : World) :
    (Instr.build 99 #[(0, .agg (arr E)), (1, .agg (arr D))]).run Try.prog w = .ok (.agg (arr (E ++ D))) w := by
  match E, hE with
  | [e0, e1, e2, e3, e4, e5, e6, e7, e8, e9, e10, e11, e12, e13, e14, e15], _ =>
    match D, hD with
    | [d0, d1, d2, d3, d4, d5, d6, d7, d8, d9, d10, d11, d12, d13, d14, d15], _ => exact (T_build0 e0 e1 e2 e3 e4 e5 e6 e7 e8 e9 e10 e11 e12 e13 e14 e15 d0 d1 d2 d3 d4 d5 d6 d7 d8 d9 d10 d11 d12 d13 d14 d15 w)

theorem exec_build {P : Program} {ρ : Operand → Value} {o : Oper} {w : World} {v u1 u2 : Value} (t : TypeId) (x y : Operand) (ho : o.op = .build t #[(0, x), (1, y)]) (hx : ρ x = u1) (hy : ρ y = u2) (h : (Instr.build t #[(0, u1), (1, u2)]).run P w = .ok v w) :
    (execOp ρ o).run P w = .ok (.value v) w := by
  unfold execOp
  simp only [ho, Sem.run_bind, List.map_toArray, List.map_cons, List.map_nil, hx, hy]
  rw [h]
  rfl
theorem exec_eql {P : Program} {ρ : Operand → Value} {o : Oper} {w : World} {xs ys : Array Value} {r : Bool} (t T : TypeId) (x y : Operand) (ho : o.op = .binOp .eql t x y T) (hx : ρ x = .agg xs) (hy : ρ y = .agg ys) (hg : P.eqGuardType P.depth t = false)
    (h : (Op.equalIn 10000 t (.agg xs) (.agg ys)).run P w = .ok r w) : (execOp ρ o).run P w = .ok (.value (.bool r)) w := by
  have h1 : (eqGuard .eql t x y (.agg xs) (.agg ys)).run P w = .ok () w := by
    simp [eqGuard, Sem.run_bind, run_program, hg]
  have h2 : (binOp .eql t (.agg xs) (.agg ys)).run P w = .ok (.bool r) w := by
    have e : binOp .eql t (.agg xs) (.agg ys) = (do let b ← Op.equalIn 10000 t (.agg xs) (.agg ys); pure (Value.bool b)) := rfl
    rw [e, Sem.run_bind, h]
    rfl
  unfold execOp
  simp only [ho, hx, hy, Sem.run_bind, h1, Result.andThen_ok, h2]
  rfl
theorem T_field0 (B A : List Int) (hB : B.length = 16) (w : World) : (Instr.field 99 (.agg (arr (B ++ A))) 0).run Try.prog w = .ok (.agg (arr B)) w := by
  have hp := T_part0 B A hB
  simp [Instr.field, Sem.run_bind, run_underlying Try.underlying99, asAgg, hp]
theorem T_field1 (B A : List Int) (hB : B.length = 16) (hA : A.length = 16) (w : World) : (Instr.field 99 (.agg (arr (B ++ A))) 1).run Try.prog w = .ok (.agg (arr A)) w := by
  have hp := T_part1 B A hB hA
  simp [Instr.field, Sem.run_bind, run_underlying Try.underlying99, asAgg, hp]
end Go.Proofs.Ythafbdpeignccaa
namespace Go.Proofs.Ythafbdpeignccaa
open Go.RowKit
set_option linter.unusedVariables false
/-- the slots that an operation looks at: its operands', and its guard's -/
def usesG (ops : Array Oper) (o : Oper) : List Nat :=
  (o.op.operands.toList.filterMap fun x => match x with | .tmp t => some t | _ => none) ++ (match o.guard with | none => [] | some (j, _) => ((ops[j]?).bind (·.dst)).toList)
/-- of the operations ahead of the one numbered z each edge leads back, each one that fills a slot that one of them looks at is waited for; whatever is numbered z or above waits for all of them -/
def regOkG (md : Region.Mode) (ops : Array Oper) (z : Nat) : Bool :=
  decide (z ≤ ops.size) &&
  (List.range ops.size).all fun i => match ops[i]? with
    | none => false
    | some o => (match o.op with | .defer _ => false | .select _ _ => false | _ => true) &&
      (if i < z then (o.after.toList.all fun e => !Region.binds md e || decide (e.on < i)) &&
        ((usesG ops o).all fun t => (List.range z).all fun j => match (ops[j]?).bind (·.dst) with
            | some d => !(d == t) || o.after.toList.any fun e => Region.binds md e && e.on == j
            | none => true)
      else if i = z then true else o.after.toList.any fun e => Region.binds md e && decide (z ≤ e.on) && decide (e.on < i))
/-- each operation ahead of the one numbered z is waited for by a later one, none above z -/
def regUpG (md : Region.Mode) (ops : Array Oper) (z : Nat) : Bool :=
  z == ops.size || (List.range z).all fun j => (List.range (z + 1)).any fun i => decide (j < i) && match ops[i]? with
    | none => false
    | some o => o.after.toList.any fun e => Region.binds md e && e.on == j
section
variable {P : Program} {md : Region.Mode} {ops : Array Oper} {Q : Exit → Act → World → Prop} {z : Nat} {S : World → Prop} {az : Act}
/-- the state is as the one at the end but for what isn't listed yet -/
def AgreeG (ops : Array Oper) (z : Nat) (az : Act) (listed : Array Bool) (a : Act) : Prop :=
  a.defers = az.defers ∧ a.tmps.size = az.tmps.size ∧ ∀ t, (∀ j, j < z → listed.getD j true = false → (ops[j]?).bind (·.dst) ≠ some t) → a.tmps[t]? = az.tmps[t]?
theorem AgreeG.slot {listed : Array Bool} {a : Act} {i : Nat} {o : Oper} (hok : regOkG md ops z = true) (hi : i < z) (ho : ops[i]? = some o) (hA : AgreeG ops z az listed a)
    (hp : ∀ e ∈ o.after, Region.binds md e = true → listed.getD e.on false = true) : ∀ t ∈ usesG ops o, a.tmps[t]? = az.tmps[t]? := by
  intro t ht
  unfold regOkG at hok
  simp only [Bool.and_eq_true, decide_eq_true_eq, List.all_eq_true, List.mem_range] at hok
  have h1 := hok.2 i (by omega)
  rw [ho] at h1
  simp only [hi, if_true, Bool.and_eq_true, List.all_eq_true, Array.mem_toList_iff] at h1
  have h2 := h1.2.2 t ht
  exact hA.2.2 t (fun j hj hu hd => by
      simp only [List.mem_range] at h2
      have h4 := h2 j hj
      rw [hd] at h4
      simp only [BEq.rfl, Bool.not_true, Bool.false_or, List.any_eq_true, Bool.and_eq_true, beq_iff_eq, Array.mem_toList_iff] at h4
      obtain ⟨e, he, hb, hej⟩ := h4
      have h5 := hp e he hb
      rw [hej] at h5
      rcases Nat.lt_or_ge j listed.size with h' | h'
      · simp [h'] at h5 hu; rw [hu] at h5; cases h5
      · simp [Array.getElem?_eq_none h'] at h5)
theorem AgreeG.eval {listed : Array Bool} {a : Act} {i : Nat} {o : Oper} (hok : regOkG md ops z = true) (hi : i < z) (ho : ops[i]? = some o) (hA : AgreeG ops z az listed a)
    (hp : ∀ e ∈ o.after, Region.binds md e = true → listed.getD e.on false = true) : ∀ x ∈ o.op.operands, a.eval x = az.eval x := by
  intro x hx
  cases x with
  | tmp t =>
    simp only [Act.eval]
    have h3 := hA.slot hok hi ho hp t (List.mem_append_left _ (List.mem_filterMap.2 ⟨.tmp t, by simpa using hx, rfl⟩))
    simp only [Array.getD_eq_getD_getElem?, h3]
  | const v => rfl
  | global g => rfl
  | func f => rfl
theorem AgreeG.wanted {listed : Array Bool} {a : Act} {i : Nat} {o : Oper} (hok : regOkG md ops z = true) (hi : i < z) (ho : ops[i]? = some o) (hA : AgreeG ops z az listed a)
    (hp : ∀ e ∈ o.after, Region.binds md e = true → listed.getD e.on false = true) : Region.wanted o (yielded ops a.tmps) = Region.wanted o (yielded ops az.tmps) := by
  have hs := hA.slot hok hi ho hp
  unfold Region.wanted
  cases hg : o.guard with
  | none => rfl
  | some g =>
    obtain ⟨j, b⟩ := g
    simp only
    have e : yielded ops a.tmps j = yielded ops az.tmps j := by
      unfold yielded
      cases hd : (ops[j]?).bind (·.dst) with
      | none => rfl
      | some d =>
        have h3 := hs d (List.mem_append_right _ (by simp [hg, hd]))
        simp only [Option.bind_some, h3]
    rw [e]
theorem AgreeG.put {listed : Array Bool} {a : Act} {i : Nat} {o : Oper} {v : Value} (hls : i < listed.size) (ho : ops[i]? = some o) (hA : AgreeG ops z az listed a) (hv : az.put o.dst v = az) :
    AgreeG ops z az (listed.setIfInBounds i true) (a.put o.dst v) := by
  refine ⟨?_, ?_, ?_⟩
  · rw [← hA.1]; cases o.dst <;> rfl
  · rw [← hA.2.1]; cases o.dst <;> simp [Act.put]
  · intro t ht
    have old : (o.dst ≠ some t) → a.tmps[t]? = az.tmps[t]? := fun hne => hA.2.2 t fun j hj hu hd => by
      by_cases hji : j = i
      · subst hji; rw [ho] at hd; exact hne hd
      · exact ht j hj (by rw [getD_set_ne true (Ne.symm hji)]; exact hu) hd
    cases hd : o.dst with
    | none => simp only [Act.put]; exact old (by rw [hd]; simp)
    | some d =>
      rw [hd] at hv
      simp only [Act.put] at hv ⊢
      by_cases hdt : d = t
      · subst hdt
        have h2 : (az.tmps.setIfInBounds d v)[d]? = az.tmps[d]? := by
          have := congrArg Act.tmps hv
          simp only at this
          rw [this]
        rw [← h2]
        rw [Array.getElem?_setIfInBounds, Array.getElem?_setIfInBounds, hA.2.1]
        simp
      · rw [Array.getElem?_setIfInBounds_ne hdt]
        exact old (by rw [hd]; simp; exact hdt)
theorem wp_agree {a : Act} {w : World} {o : Oper} {K : Act → World → Prop} (hsel : ∀ cs b, o.op ≠ .select cs b) (he : ∀ x ∈ o.op.operands, a.eval x = az.eval x)
    (hK : ∀ v w', az.put o.dst v = az → S w' → K (a.put o.dst v) w')
    (h : o.wp P az w (fun a' w' => a' = az ∧ S w') (fun _ _ _ => False)) : o.wp P a w K Q := by
  have e1 := execOp_congr (ρ := a.eval) (ρ' := az.eval) o hsel he
  unfold Oper.wp at *
  rw [e1]
  have hh := h
  clear h
  generalize (execOp az.eval o).run P w = r at *
  cases r with
  | ok x w' =>
    cases x <;> simp only [Oper.upon] at hh ⊢
    case value u => exact hK u w' hh.1 hh.2
    case skip => exact hK _ w' hh.1 hh.2
    case defer d =>
      have h1 := congrArg (fun a : Act => a.defers.length) hh.1
      have h2 : ∀ (b : Act) (dst : Option Tmp) (v : Value), (b.put dst v).defers = b.defers := fun b dst v => by cases dst <;> rfl
      simp only [h2, List.length_cons] at h1
      omega
    case enter f args =>
      refine Calls.mono hh fun e w'' he => ?_
      cases e with
      | returned u => exact hK u w'' he.1 he.2
      | panicked c => exact he.elim
      | outgrown => obtain ⟨_, _, hf⟩ := he; exact hf.elim
    case row row args => exact Rows.mono hh fun u w'' he => hK u w'' he.1 he.2
  | halt x w' =>
    cases x <;> simp only [Oper.upon] at hh ⊢
/-- the listed ones stay listed with all that they wait for -/
def DownG (md : Region.Mode) (ops : Array Oper) (z : Nat) (listed : Array Bool) : Prop :=
  ∀ i o, i < z → ops[i]? = some o → listed.getD i true = true → ∀ e ∈ o.after, Region.binds md e = true → listed.getD e.on false = true
theorem wpAny_fixed_go (hok : regOkG md ops z = true) (hup : regUpG md ops z = true) (listedz : Array Bool)
    (hz : ∀ j, listedz[j]? = if j < z then some true else if j < ops.size then some false else none)
    (hstep : ∀ i o, i < z → ops[i]? = some o → ∀ w, S w → if Region.wanted o (yielded ops az.tmps) = true then o.wp P az w (fun a' w' => a' = az ∧ S w') (fun _ _ _ => False) else az.put o.dst undef = az)
    (hrest : ∀ w, S w → wpAny P md ops Q (ops.size - z) listedz az w) :
    ∀ (k : Nat) (listed : Array Bool) (a : Act) (w : World), listed.size = ops.size → ((List.range z).filter fun j => !listed.getD j true).length = k →
      (∀ i, z ≤ i → i < ops.size → listed.getD i true = false) → DownG md ops z listed → AgreeG ops z az listed a → S w → wpAny P md ops Q (ops.size - z + k) listed a w := by
  have hok' := hok
  unfold regOkG at hok'
  simp only [Bool.and_eq_true, decide_eq_true_eq, List.all_eq_true, List.mem_range] at hok'
  obtain ⟨hzs, hall⟩ := hok'
  have gd : ∀ (l : Array Bool) (j : Nat), l.getD j false = true → l.getD j true = true := fun l j h => by
    rcases Nat.lt_or_ge j l.size with h' | h'
    · simp [h'] at h ⊢; exact h
    · simp [Array.getElem?_eq_none h'] at h
  -- whoever comes up is ahead of z while one of these isn't listed
  have below : ∀ (listed : Array Bool) (i : Nat), (∀ i, z ≤ i → i < ops.size → listed.getD i true = false) → DownG md ops z listed → (∃ j, j < z ∧ listed.getD j true = false) → i ∈ Region.ready md ops listed → i < z := by
    intro listed i htop hdown ⟨j, hj, hjf⟩ hi
    obtain ⟨hu, o, ho, hp⟩ := mem_ready.1 hi
    have his : i < ops.size := (Array.getElem?_eq_some_iff.1 ho).1
    by_cases hiz : i < z
    · exact hiz
    exfalso
    have hup' := hup
    unfold regUpG at hup'
    rw [Bool.or_eq_true] at hup'
    replace hup' := hup'.resolve_left (by simp; omega)
    simp only [List.all_eq_true, List.mem_range, List.any_eq_true, Bool.and_eq_true, decide_eq_true_eq] at hup'
    by_cases hie : i = z
    · subst hie
      have key : ∀ m j, i - j = m → j < i → listed.getD j false = true := by
        intro m
        induction m using Nat.strongRecOn with
        | ind m ih =>
          intro j hm hj
          obtain ⟨i', hi', hji, hE⟩ := hup' j hj
          cases ho' : ops[i']? with
          | none => rw [ho'] at hE; cases hE
          | some o' =>
            rw [ho'] at hE
            simp only [List.any_eq_true, Bool.and_eq_true, beq_iff_eq, Array.mem_toList_iff] at hE
            obtain ⟨e, he, hb, hej⟩ := hE
            by_cases h0 : i' = i
            · subst h0
              rw [ho] at ho'; injection ho' with ho'; subst ho'
              rw [← hej]; exact hp e he hb
            · have h1 := ih (i - i') (by omega) i' rfl (by omega)
              rw [← hej]; exact hdown i' o' (by omega) ho' (gd _ _ h1) e he hb
      have := gd _ _ (key _ j rfl hj)
      rw [hjf] at this; cases this
    · have h1 := hall i his
      rw [ho] at h1
      simp only [hiz, if_false, hie, Bool.and_eq_true, List.any_eq_true, decide_eq_true_eq, Array.mem_toList_iff] at h1
      obtain ⟨-, e, he, ⟨hb, hze⟩, hei⟩ := h1
      have h2 := gd _ _ (hp e he hb)
      rw [htop e.on hze (by omega)] at h2
      cases h2
  intro k
  induction k with
  | zero =>
    intro listed a w hls hk htop hdown hA hS
    have hl : ∀ j, j < z → listed.getD j true = true := fun j hj => by
      have h1 := List.length_eq_zero_iff.1 hk
      have h2 := List.filter_eq_nil_iff.1 h1 j (List.mem_range.2 hj)
      simpa using h2
    have e1 : listed = listedz := by
      apply Array.ext_getElem?
      intro j
      rw [hz j]
      by_cases hj : j < z
      · have := hl j hj
        rw [if_pos hj]
        have h' : j < listed.size := by omega
        simp [h'] at this ⊢; exact this
      · rw [if_neg hj]
        by_cases hj2 : j < ops.size
        · have := htop j (by omega) hj2
          rw [if_pos hj2]
          have h' : j < listed.size := by omega
          simp [h'] at this ⊢; exact this
        · rw [if_neg hj2]; exact Array.getElem?_eq_none (by omega)
    have e2 : a = az := by
      obtain ⟨h1, h2, h3⟩ := hA
      cases a; cases az
      simp only at h1 h2 h3
      congr
      exact Array.ext_getElem? fun t => h3 t fun j hj hu => by rw [hl j hj] at hu; cases hu
    subst e1 e2
    exact hrest w hS
  | succ k ih =>
    intro listed a w hls hk htop hdown hA hS
    obtain ⟨j0, hj0⟩ : ∃ j, j ∈ (List.range z).filter fun j => !listed.getD j true := List.exists_mem_of_length_pos (by omega)
    have hex : ∃ j, j < z ∧ listed.getD j true = false := by
      rw [List.mem_filter, List.mem_range] at hj0
      exact ⟨j0, hj0.1, by simpa using hj0.2⟩
    -- somebody comes up: the first that isn't listed
    have hne : Region.ready md ops listed ≠ [] := by
      intro h0
      have key : ∀ j, j < z → listed.getD j true = true := by
        intro j
        induction j using Nat.strongRecOn with
        | ind j ihj =>
          intro hj
          by_cases hu : listed.getD j true = true
          · exact hu
          exfalso
          have ho : ∃ o, ops[j]? = some o := ⟨ops[j]'(by omega), Array.getElem?_eq_getElem (by omega)⟩
          obtain ⟨o, ho⟩ := ho
          have h1 := hall j (by omega)
          rw [ho] at h1
          simp only [hj, if_true, Bool.and_eq_true, List.all_eq_true, Array.mem_toList_iff] at h1
          have hm : j ∈ Region.ready md ops listed := mem_ready.2 ⟨by simpa using hu, o, ho, fun e he hb => by
            have h2 := h1.2.1 e he
            simp only [hb, Bool.not_true, Bool.false_or, decide_eq_true_eq] at h2
            have h3 := ihj e.on h2 (by omega)
            have h' : e.on < listed.size := by omega
            simp [h'] at h3 ⊢; exact h3⟩
          rw [h0] at hm
          cases hm
      obtain ⟨j, hj, hf⟩ := hex
      rw [key j hj] at hf; cases hf
    rw [show ops.size - z + (k + 1) = (ops.size - z + k) + 1 from by omega]
    refine wpAny_all rfl hne fun i hi => ?_
    have hiz := below listed i htop hdown hex hi
    obtain ⟨hu, o, ho, hp⟩ := mem_ready.1 hi
    have h1 := hall i (by omega)
    rw [ho] at h1
    simp only [hiz, if_true, Bool.and_eq_true] at h1
    have hsel : ∀ cs b, o.op ≠ .select cs b := fun c b e => by simp [e] at h1
    have hst := hstep i o hiz ho w hS
    unfold wpOp
    rw [ho]
    simp only [hA.wanted hok hiz ho hp]
    suffices hnext : ∀ v w', az.put o.dst v = az → S w' → wpAny P md ops Q (ops.size - z + k) (listed.setIfInBounds i true) (a.put o.dst v) w' by
      by_cases hw : Region.wanted o (yielded ops az.tmps) = true
      · rw [if_pos hw] at hst ⊢
        exact .inl (wp_agree hsel (hA.eval hok hiz ho hp) hnext hst)
      · rw [if_neg hw] at hst ⊢
        exact hnext _ _ hst hS
    intro v w' hv hS'
    refine ih _ _ _ (by simpa using hls) ?_ ?_ ?_ (hA.put (by omega) ho hv) hS'
    · have hsplit : ((List.range z).filter fun j => !listed.getD j true).length = ((List.range z).filter fun j => !(listed.setIfInBounds i true).getD j true).length + 1 := by
        have hcount : ∀ (L : List Nat), L.Nodup → i ∈ L → (L.filter fun j => !listed.getD j true).length = (L.filter fun j => !(listed.setIfInBounds i true).getD j true).length + 1 := by
          intro L
          induction L with
          | nil => intro _ h; cases h
          | cons x L ihL =>
            intro hnd hm
            have hnd' := List.nodup_cons.1 hnd
            by_cases hx : x = i
            · subst hx
              have e1 : (x :: L).filter (fun j => !listed.getD j true) = x :: L.filter (fun j => !listed.getD j true) := List.filter_cons_of_pos (by simp only [hu]; rfl)
              have e2 : (listed.setIfInBounds x true).getD x true = true := by
                have h' : x < listed.size := by omega
                simp [h']
              have e3 : (x :: L).filter (fun j => !(listed.setIfInBounds x true).getD j true) = L.filter (fun j => !(listed.setIfInBounds x true).getD j true) := List.filter_cons_of_neg (by simp only [e2]; simp)
              rw [e1, e3, List.length_cons]
              congr 2
              refine List.filter_congr fun j hj => ?_
              rw [getD_set_ne true (fun e => hnd'.1 (by rw [e]; exact hj))]
            · have hm' : i ∈ L := (List.mem_cons.1 hm).resolve_left (Ne.symm hx)
              have := ihL hnd'.2 hm'
              have e2 : (listed.setIfInBounds i true).getD x true = listed.getD x true := getD_set_ne true (Ne.symm hx)
              by_cases hxu : listed.getD x true = true
              · rw [List.filter_cons_of_neg (by simp only [hxu]; simp), List.filter_cons_of_neg (by simp only [e2, hxu]; simp)]; exact this
              · have hxf : listed.getD x true = false := by simpa using hxu
                rw [List.filter_cons_of_pos (by simp only [hxf]; rfl), List.filter_cons_of_pos (by simp only [e2, hxf]; rfl), List.length_cons, List.length_cons]
                omega
        exact hcount _ List.nodup_range (List.mem_range.2 hiz)
      omega
    · intro j hj hjs
      rw [getD_set_ne true (by omega)]; exact htop j hj hjs
    · intro j o' hj ho' hl e he hb
      by_cases hji : j = i
      · subst hji
        rw [ho] at ho'; injection ho' with ho'; subst ho'
        exact getD_set_true (hp e he hb)
      · rw [getD_set_ne true (Ne.symm hji)] at hl
        exact getD_set_true (hdown j o' hj ho' hl e he hb)
/-- the first z operations, each of which yields its value in whatever world of the kind S; then the rest -/
theorem wpAny_fixed (z : Nat) (S : World → Prop) (az : Act) (hok : regOkG md ops z = true) (hup : regUpG md ops z = true) (a : Act) (w : World) (hA : AgreeG ops z az (Array.replicate ops.size false) a) (hS : S w)
    (listedz : Array Bool) (hz : listedz = Array.replicate z true ++ Array.replicate (ops.size - z) false)
    (hstep : ∀ i o, i < z → ops[i]? = some o → ∀ w, S w → if Region.wanted o (yielded ops az.tmps) = true then o.wp P az w (fun a' w' => a' = az ∧ S w') (fun _ _ _ => False) else az.put o.dst undef = az)
    (hrest : ∀ w, S w → wpAny P md ops Q (ops.size - z) listedz az w) : wpAny P md ops Q ops.size (Array.replicate ops.size false) a w := by
  have hzs : z ≤ ops.size := by
    unfold regOkG at hok
    simp only [Bool.and_eq_true, decide_eq_true_eq] at hok
    exact hok.1
  have h := wpAny_fixed_go (P := P) (Q := Q) (S := S) (az := az) hok hup listedz (fun j => by
    rw [hz, Array.getElem?_append]
    simp only [Array.size_replicate, Array.getElem?_replicate]
    by_cases hj : j < z
    · simp [hj]
    · simp only [hj, if_false]
      by_cases h2 : j < ops.size
      · rw [if_pos (by omega), if_pos h2]
      · rw [if_neg (by omega), if_neg h2]) hstep hrest z (Array.replicate ops.size false) a w (by simp) (by
      rw [List.filter_eq_self.2]
      · simp
      · intro j hj
        have hj := List.mem_range.1 hj
        have h' : j < ops.size := by omega
        simp [h']) (fun i _ h2 => by simp [h2]) (fun i o hi ho hl => by
        have h' : i < ops.size := by omega
        simp [h'] at hl) hA hS
  rwa [show ops.size - z + z = ops.size from by omega] at h
/-- the values of the operations from the one numbered i on, put one after another -/
def putsOfG (ops : Array Oper) : Nat → List Value → Act → Act
  | _, [], a => a
  | i, v :: vs, a => putsOfG ops (i + 1) vs (a.put ((ops[i]?).bind (·.dst)) v)
theorem putsOfG_spec (ops : Array Oper) : ∀ (vs : List Value) (i : Nat) (a : Act), (putsOfG ops i vs a).defers = a.defers ∧ (putsOfG ops i vs a).tmps.size = a.tmps.size ∧ ∀ t, (∀ j, i ≤ j → j < i + vs.length → (ops[j]?).bind (·.dst) ≠ some t) → (putsOfG ops i vs a).tmps[t]? = a.tmps[t]? := by
  intro vs
  induction vs with
  | nil => intro i a; exact ⟨rfl, rfl, fun _ _ => rfl⟩
  | cons v vs ih =>
    intro i a
    obtain ⟨h1, h2, h3⟩ := ih (i + 1) (a.put ((ops[i]?).bind (·.dst)) v)
    unfold putsOfG
    refine ⟨?_, ?_, ?_⟩
    · rw [h1]; cases (ops[i]?).bind (·.dst) <;> rfl
    · rw [h2]; cases (ops[i]?).bind (·.dst) <;> simp [Act.put]
    · intro t ht
      rw [h3 t (fun j hj hj2 => ht j (by omega) (by simp; omega))]
      have h0 := ht i (Nat.le_refl _) (by simp)
      cases hd : (ops[i]?).bind (·.dst) with
      | none => rfl
      | some d =>
        rw [hd] at h0
        simp only [Act.put]
        exact Array.getElem?_setIfInBounds_ne (fun e => h0 (by rw [e]))
def StepsG (P : Program) (ops : Array Oper) (S : World → Prop) (az : Act) (L : List Nat) : Prop :=
  ∀ i ∈ L, ∀ o, ops[i]? = some o → ∀ w, S w → if Region.wanted o (yielded ops az.tmps) = true then o.wp P az w (fun a' w' => a' = az ∧ S w') (fun _ _ _ => False) else az.put o.dst undef = az
theorem StepsG.nil : StepsG P ops S az [] := fun _ h => by cases h
theorem StepsG.one {i : Nat} {L : List Nat} {o : Oper} (ho : ops[i]? = some o) (h : ∀ w, S w → if Region.wanted o (yielded ops az.tmps) = true then o.wp P az w (fun a' w' => a' = az ∧ S w') (fun _ _ _ => False) else az.put o.dst undef = az) (hs : StepsG P ops S az L) : StepsG P ops S az (i :: L) := by
  intro j hj o' ho'
  rcases List.mem_cons.1 hj with rfl | hj
  · rw [ho] at ho'; injection ho' with ho'; subst ho'; exact h
  · exact hs j hj o' ho'
theorem StepsG.cons {i : Nat} {L : List Nat} {o : Oper} (ho : ops[i]? = some o) (hw : Region.wanted o (yielded ops az.tmps) = true) (h : ∀ w, S w → o.wp P az w (fun a' w' => a' = az ∧ S w') (fun _ _ _ => False)) (hs : StepsG P ops S az L) : StepsG P ops S az (i :: L) :=
  .one ho (fun w hS => by rw [if_pos hw]; exact h w hS) hs
theorem StepsG.skip {i : Nat} {L : List Nat} {o : Oper} (ho : ops[i]? = some o) (hw : Region.wanted o (yielded ops az.tmps) = false) (h : az.put o.dst undef = az) (hs : StepsG P ops S az L) : StepsG P ops S az (i :: L) :=
  .one ho (fun w hS => by rw [if_neg (by rw [hw]; simp)]; exact h) hs
/-- the first operations, each of which yields its value in whatever world of the kind S (vs: the values); then the rest -/
theorem wpAny_vals (zl : List Nat) (vs : List Value) (S : World → Prop) (a az : Act) (w : World) (haz : putsOfG ops 0 vs a = az) (hok : regOkG md ops vs.length = true) (hup : regUpG md ops vs.length = true) (hS : S w)
    (listedz : Array Bool) (hz : listedz = Array.replicate vs.length true ++ Array.replicate (ops.size - vs.length) false)
    (hzl : List.range vs.length = zl) (hstep : StepsG P ops S az zl)
    (hrest : ∀ w, S w → wpAny P md ops Q (ops.size - vs.length) listedz az w) : wpAny P md ops Q ops.size (Array.replicate ops.size false) a w := by
  subst hzl
  obtain ⟨h1, h2, h3⟩ := putsOfG_spec ops vs 0 a
  rw [haz] at h1 h2 h3
  have hzs : vs.length ≤ ops.size := by
    unfold regOkG at hok
    simp only [Bool.and_eq_true, decide_eq_true_eq] at hok
    exact hok.1
  refine wpAny_fixed vs.length S az hok hup a w ⟨h1.symm, h2.symm, fun t ht => (h3 t fun j _ hj => ht j (by omega) ?_).symm⟩ hS listedz hz (fun i o hi => hstep i (List.mem_range.2 hi) o) hrest
  have h' : j < ops.size := by omega
  simp [h']
/-- a drawn region, all of whose operations yield their values (vs) in whatever world of the kind S -/
theorem wp_region_vals {id : Nat} {a : Act} {w : World} (zl : List Nat) (vs : List Value) (S : World → Prop) (az : Act) (hm : P.follows .mixedOrders = true) (hS : ∀ y, Dr w y → S y) (haz : putsOfG ops 0 vs a = az) (hlen : vs.length = ops.size)
    (hok : regOkG .any ops vs.length = true) (hup : regUpG .any ops vs.length = true) (hzl : List.range vs.length = zl) (hstep : StepsG P ops S az zl) (hrest : ∀ w', S w' → Q .normal az w') : (Code.region id ops true).wp P Q a w := by
  refine wp_region_any hm ?_
  refine wpAny_vals zl vs S a az _ haz hok hup (hS _ (Dr.n w 1)) _ rfl hzl hstep fun w' hw => ?_
  rw [hlen, Nat.sub_self]
  refine ⟨?_, hrest w' hw⟩
  unfold Region.ready
  rw [List.filter_eq_nil_iff]
  intro i hi
  have h := List.mem_range.1 hi
  simp [h]
/-- the same, the last ones by hand -/
theorem wp_region_vals_rest {id : Nat} {a : Act} {w : World} (zl : List Nat) (vs : List Value) (S : World → Prop) (az : Act) (hm : P.follows .mixedOrders = true) (hS : ∀ y, Dr w y → S y) (haz : putsOfG ops 0 vs a = az)
    (hok : regOkG .any ops vs.length = true) (hup : regUpG .any ops vs.length = true) (hzl : List.range vs.length = zl) (hstep : StepsG P ops S az zl) (hrest : ∀ w', S w' → wpAny P .any ops Q (ops.size - vs.length) (Array.replicate vs.length true ++ Array.replicate (ops.size - vs.length) false) az w') : (Code.region id ops true).wp P Q a w := by
  refine wp_region_any hm ?_
  exact wpAny_vals zl vs S a az _ haz hok hup (hS _ (Dr.n w 1)) _ rfl hzl hstep hrest
end
end Go.Proofs.Ythafbdpeignccaa
namespace Go.Proofs.Ythafbdpeignccaa
open Go.RowKit NP
set_option maxRecDepth 8000
set_option linter.unusedVariables false
set_option linter.unusedSimpArgs false
theorem T_guardD : Try.prog.eqGuardType Try.prog.depth 59 = false := by kernel_rfl
theorem wpList_eqlD {ops : Array Oper} {rest : List Oper} {o : Oper} {a : Act} {w : World} {Q : Exit → Act → World → Prop} (hgd : o.guard = none) (x y : Operand) (T : TypeId) (ho : o.op = .binOp .eql 59 x y T) (D E : List Int) (hD : D.length = 16) (hE : E.length = 16) (hx : a.eval x = .agg (arr D)) (hy : a.eval y = .agg (arr E))
    (h : wpList Try.prog ops Q rest (a.put o.dst (.bool (decide (D = E)))) w) : wpList Try.prog ops Q (o :: rest) a w :=
  wpList_plain hgd fun _ hK => by
    unfold Oper.wp
    rw [exec_eql 59 T x y ho hx hy T_guardD (T_eqD 9998 D E hD hE w)]
    exact hK _ _ h
/-- a cell of one row to the next one -/
def dropL (D : List Int) (i : Nat) : List Int := (D.set i (D.getD i 0 - 1)).set (i + 1) (D.getD (i + 1) 0 + 1)
def dropB (D E : List Int) : Bool := (List.range 15).any fun i => decide (dropL D i = E)
theorem dropL_len (D : List Int) (i : Nat) : (dropL D i).length = D.length := by simp [dropL]
end Go.Proofs.Ythafbdpeignccaa
namespace Go.Proofs.Ythafbdpeignccaa
open Go.RowKit
set_option linter.unusedVariables false
section
variable {P : Program} {ops : Array Oper} {Q : Exit → Act → World → Prop}
/-- all but the last yield their values (vs) in whatever world of the kind S; the last one stores -/
theorem wp_region_store {id : Nat} {a : Act} {w : World} (zl : List Nat) (vs : List Value) (S : World → Prop) (az : Act) (hm : P.follows .mixedOrders = true) (hS : ∀ y, Dr w y → S y) (haz : putsOfG ops 0 vs a = az)
    (hok : regOkG .any ops vs.length = true) (hup : regUpG .any ops vs.length = true) (hzl : List.range vs.length = zl) (hsz : ops.size = vs.length + 1)
    (hr1 : Region.ready .any ops (Array.replicate vs.length true ++ Array.replicate 1 false) = [vs.length]) (hr2 : Region.ready .any ops ((Array.replicate vs.length true ++ Array.replicate 1 false).setIfInBounds vs.length true) = [])
    (o : Oper) (ho : ops[vs.length]? = some o) (hg : o.guard = none) (hd : o.dst = none) (ty : TypeId) (x y : Operand) (hop : o.op = .store ty x y) (p : Addr) (v : Value) (hx : az.eval x = .pointer (some p)) (hy : az.eval y = v)
    (hrun : ∀ w', S w' → (storeVar ty p v).run P w' = .ok () (w'.setCell p v)) (hstep : StepsG P ops S az zl) (hrest : ∀ w', S w' → Q .normal az (w'.setCell p v)) : (Code.region id ops true).wp P Q a w := by
  refine wp_region_vals_rest zl vs S az hm hS haz hok hup hzl hstep fun w' hw => ?_
  rw [hsz, show vs.length + 1 - vs.length = 0 + 1 from by omega]
  refine wpAny_ready hr1 (by simp) ?_
  refine AllReady.cons ho (fun K hK => ?_) AllReady.nil
  rw [if_pos (by simp [Region.wanted, hg])]
  simp only [Oper.wp, execOp, hop, hx, hy, Instr.storeAt, Instr.sureAddr, Sem.run_bind, Sem.run_pure, Result.andThen_ok, hrun w' hw, Oper.upon]
  refine hK _ _ (wpAny_done hr2 ?_ _)
  rw [hd]
  exact hrest w' hw
end
end Go.Proofs.Ythafbdpeignccaa
namespace Go.Proofs.Ythafbdpeignccaa
open Go.RowKit NP
set_option maxRecDepth 8000
/-- a function value that tells of each diagram of parts whether K holds of them, in every later world -/
def IsK (w : World) (v : Value) (K : List Int → Bool) : Prop := ∃ (f : Nat) (p c : Array Value), v = .func (.func f) p c ∧ (∀ (args : Array Value) (w : World), (callFunc f args).run Try.prog w = .ok (.enter f args) w) ∧ ∀ w1, Below w.heap.size w w1 → ∀ L, valid L = true →
  Calls Try.prog f (p.push (.agg (arr (pad L))) ++ c) w1 fun e w2 => e = .returned (.bool (K L)) ∧ Below w1.heap.size w1 w2
end Go.Proofs.Ythafbdpeignccaa
