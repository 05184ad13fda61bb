/-
  Walks: the drawing of parts: newReader, sumFor, partsOf, goodParts, bent, someParts: whatever is drawn is a short list of small numbers in new memory. A door: the drawing of parts (D3a), with the words of W4. Plain mathematics of united and added parts: conjugates turn one into the other. Mathematics: squares cut off and put back; doubled parts. Plain mathematics of arms and legs (Frobenius). Plain mathematics: arms and legs of the parts that were made of them. Mathematics: kinds of parts; stairs, hooks of own conjugates, Franklin's map. Arrays of numbers compared. Plain mathematics of orders: rows trimmed of zeros, meets, dominance and conjugates, ranks and cranks. Walks: ranks: the program's and the model's.
-/
import Derived.Test.YtifhnjnpbpgjfaaZk1
import Derived.Test.YtifhnjnpbpgjfaaZk2
import Derived.Test.YtifhnjnpbpgjfaaZk3
import Derived.ChangeKeysEq
import Derived.Deep.RegionHeld3
import Derived.Deep.MidRow
import Derived.StillTailTactics
namespace Go.Proofs.Ytifhnjnpbpgjfaa
open Go.RowKit NP
set_option maxRecDepth 8000
set_option linter.unusedVariables false

def Small (M : List Int) : Prop := M.length ≤ 40 ∧ ∀ x ∈ M, -1 ≤ x ∧ x ≤ 17
def SmallParts (M : List Int) : Prop := M.length ≤ 16 ∧ ∀ x ∈ M, 1 ≤ x ∧ x ≤ 16

theorem insK_len (M : List Int) (x : Int) : (insK M x).length = M.length + 1 := by
  unfold insK; simp; omega
theorem insK_mem {M : List Int} {x y : Int} (h : y ∈ insK M x) : y = x ∨ y ∈ M := by
  unfold insK at h
  simp at h
  rcases h with h | h | h
  · exact .inr (List.mem_of_mem_take h)
  · exact .inl h
  · exact .inr (List.mem_of_mem_drop h)
theorem fold_ins (L : List Int) : ∀ M, (L.foldl insK M).length = L.length + M.length ∧ ∀ y ∈ L.foldl insK M, y ∈ L ∨ y ∈ M := by
  induction L with
  | nil => intro M; exact ⟨by simp, fun y hy => .inr hy⟩
  | cons x r ih =>
    intro M
    simp only [List.foldl_cons]
    have h := ih (insK M x)
    refine ⟨by rw [h.1, insK_len]; simp; omega, fun y hy => ?_⟩
    rcases h.2 y hy with h1 | h1
    · exact .inl (by simp [h1])
    · rcases insK_mem h1 with rfl | h2
      · exact .inl (by simp)
      · exact .inr h2
theorem mrg_small {L : List Int} (h : SmallParts L) : SmallParts (mrg L) := by
  have hf := fold_ins L []
  refine ⟨by unfold mrg; rw [hf.1]; simpa using h.1, fun x hx => ?_⟩
  rcases hf.2 x hx with h1 | h1
  · exact h.2 x h1
  · simp at h1


theorem sumFor_any (g q : Nat) (bs : List Int) (w : World) (hq : q ≤ 1000000) (h : Rdr w g bs q) :
    Calls Try.prog 85 #[.pointer (some ⟨g, 0, none⟩)] w fun e w' => ∃ x : Int, e = .returned (.int .i64 x) ∧ (0 ≤ x ∧ x ≤ 16) ∧ Rdr w' g bs (q + 1) ∧ w.grownBy w' (some g) := by
  have hlt := h.lt
  go_enter Try.func85, Try.ntmps85
  go_wp2_with fail
  refine (one_any g q _ _ _ [6, 8, 5, 9, 12, 4, 3, 16, 2, 1, 0, 10] bs _ (by simp) (by simp) hq (h.below ((Below.refl _ _).alloc hlt _)) (rd_new w _ _) (by intro b o e; injection e with e; injection e with e; omega)).mono ?_
  rintro e w1 ⟨k, hk, rfl, h1, hg1, -⟩
  have hx : ∀ x ∈ ([6, 8, 5, 9, 12, 4, 3, 16, 2, 1, 0, 10] : List Int), 0 ≤ x ∧ x ≤ 16 := by decide
  have hx1 := hx _ (List.getElem_mem hk)
  obtain ⟨x, hxx⟩ : ∃ x, x = ([6, 8, 5, 9, 12, 4, 3, 16, 2, 1, 0, 10] : List Int)[k] := ⟨_, rfl⟩
  rw [← hxx] at hx1 ⊢
  clear hx hxx
  go_wp2_with fail
  go_ret
  exact ⟨x, rfl, hx1, h1, chg_trans (World.grownBy_alloc w _ _) hg1⟩

set_option maxHeartbeats 400000 in
theorem partsOf_any (g q : Nat) (n : Int) (bs : List Int) (w : World) (hn0 : 0 ≤ n) (hn : n ≤ 16) (hq : q ≤ 900000) (h : Rdr w g bs q) :
    Calls Try.prog 84 #[.pointer (some ⟨g, 0, none⟩), .int .i64 n] w fun e w' => ∃ a' c' M, e = .returned (.slice a' M.length c') ∧ Own w' w.heap.size w'.heap.size 3 (.slice a' M.length c') (ints M) ∧ SmallParts M ∧ (∃ q', q' ≤ q + 32 ∧ Rdr w' g bs q') ∧ w.grownBy w' (some g) := by
  obtain ⟨i0, hi, hz0, hz1, hz2⟩ := T_int'
  have hlt := h.lt
  go_enter Try.func84, Try.ntmps84
  go_wp2_with fail
  go_loopw [1, 5] (fun nn v wr => ∃ (m : Nat) (q' : Nat) (M : List Int), nn = .int .i64 (m : Int) ∧ M.length + m ≤ 16 ∧ q' + 2 * m ≤ q + 32 ∧ Rdr wr g bs q' ∧ w.grownBy wr (some g) ∧ Own wr w.heap.size wr.heap.size 3 v (ints M) ∧ Hid (∀ x ∈ M, 1 ≤ x ∧ x ≤ 16)) (fun nn _ _ => (intOf nn).toNat)
  case atStart =>
    obtain ⟨m, rfl⟩ := Int.eq_ofNat_of_zero_le hn0
    exact ⟨m, q, [], rfl, by simp; omega, by omega, h.below ((Below.refl _ _).alloc hlt _), World.grownBy_alloc w _ _, (Own.empty w 3).more, Lib.hid (by simp)⟩
  case round =>
    obtain ⟨m, q', M, rfl, hMm, hqm, hr, hg, hown, HM⟩ := hrel
    by_cases hm : 0 < m
    · have hm' : (0 : Int) < (m : Int) := by omega
      have hltr := hr.lt
      have HO := Lib.hid hown
      clear hown
      go_wp2_with fail
      refine (one_any g q' _ _ _ [3, 5, 9, 2, 16] bs _ (by simp) (by simp) (by omega) (hr.below ((Below.refl _ _).alloc hltr _)) (rd_new wr _ _) (by intro b o e; injection e with e; injection e with e; omega)).mono ?_
      rintro e w1 ⟨k, hk, rfl, h1, hg1, -⟩
      have hx : ∀ x ∈ ([3, 5, 9, 2, 16] : List Int), 2 ≤ x ∧ x ≤ 16 := by decide
      have hx1 := hx _ (List.getElem_mem hk)
      obtain ⟨x, hxx⟩ : ∃ x, x = ([3, 5, 9, 2, 16] : List Int)[k] := ⟨_, rfl⟩
      rw [← hxx] at hx1 ⊢
      clear hx hxx hk
      have hzr := hg.size
      have HO1 := Lib.hid ((HO.out.alloc (.cells (ints [3, 5, 9, 2, 16]).toArray 3)).chg hg1 (by omega)).more
      have hgw1 := chg_trans (chg_alloc hg (.cells (ints [3, 5, 9, 2, 16]).toArray 3)) hg1
      clear hg1 HO
      go_wp2_with fail
      all_goals
        refine (pick_any g _ _ bs _ (by omega) (by omega) h1).mono ?_
        rintro e w2 ⟨y, rfl, hy0, hy1, h2, hg2, -⟩
        obtain ⟨y, rfl⟩ := Int.eq_ofNat_of_zero_le hy0
        have hym : y + 1 ≤ m := by have := hy1 (by omega); omega
        clear hy1
        have hown2 := (HO1.out.chg hg2 (by omega)).more
        have hgw2 := chg_trans hgw1 hg2
        have hzw2 := hgw2.size
        clear hgw1 hg2 HO1
        go_wp2_with (at_builtin; refine wpList_append_o _ rfl (.tmp 18) (.tmp 20) 25 rfl w.heap.size w2.heap.size 3 i0 (.int .i64 0) 8 Try.underlying25 hi hz0 hz1 hz2 rfl _ (ints M) rfl (hown2.alloc _) (w2.heap.size + 1) (some ⟨w2.heap.size, 0, none⟩) 1 1 [.int .i64 (1 + (y : Int))] rfl (Rd.one w2 _ _) rfl (by simp; rfl) (by simp; unfold maxLen; omega) (by simp; omega) (by simp; omega) ?_; intro v' w3 ho3 hg3 hat3)
        go_roundw
        case rel =>
          refine ⟨m - (1 + y), q' + 2, M ++ [1 + (y : Int)], by go_num, by simp; omega, by omega, (h2.row (World.grownBy_alloc w2 _ none) (by simp)).row hg3 (fun k hk => by have := hown2.base k hk; omega), chg_row (chg_alloc hgw2 _) hg3 hown2.base, by simpa [ints] using ho3, Lib.hid fun x hx => ?_⟩
          simp at hx
          rcases hx with hx | hx
          · exact HM.out x hx
          · omega
        case measure => simp [intOf]; omega
    · obtain rfl : m = 0 := by omega
      obtain ⟨a0, c0, rfl⟩ := hown.form
      have hs : SmallParts M := ⟨by omega, HM.out⟩
      have HS := Lib.hid (mrg_small hs)
      have hlM : (ints M).length = M.length := by simp
      rw [hlM] at hown ⊢
      have HO := Lib.hid hown
      clear hown hlM
      go_wp2_with fail
      refine (merge_any _ _ _ M _ HO.out.rd (by omega) (by have := hs.1; omega)).mono ?_
      rintro e w1 ⟨a', c', rfl, ho1, hb1⟩
      go_wp2_with fail
      go_ret
      exact ⟨a', c', mrg M, rfl, ho1.lower hg.size, HS.out, ⟨q', by omega, hr.below (hb1.mono hr.lt)⟩, chg_below hg (hb1.mono hg.size)⟩

theorem below_push' {g : Nat} {w0 w w1 : World} {o : Obj} {row : Option Nat} (hb : Below g w0 w) (hB : g < w.heap.size) (hg : (w.alloc o).grownBy w1 row) (hr : ∀ k, row = some k → g ≤ k) : Below g w0 w1 :=
  (hb.alloc (by omega) o).grown hg (by simp; omega) hr

/-- what a draw of parts leaves -/
def Drawn (g : Nat) (bs : List Int) (P : List Int → Prop) (top : Nat) (w : World) (e : Ending) (w' : World) : Prop :=
  ∃ a' c' M, e = .returned (.slice a' M.length c') ∧ Own w' w.heap.size w'.heap.size 3 (.slice a' M.length c') (ints M) ∧ P M ∧ (∃ q', q' ≤ top ∧ Rdr w' g bs q') ∧ w.grownBy w' (some g)

theorem goodParts_any (g q : Nat) (bs : List Int) (w : World) (hq : q ≤ 800000) (h : Rdr w g bs q) :
    Calls Try.prog 73 #[.pointer (some ⟨g, 0, none⟩)] w (Drawn g bs SmallParts (q + 40) w) := by
  go_enter Try.func73, Try.ntmps73
  go_wp2_with fail
  refine (sumFor_any g q bs _ (by omega) h).mono ?_
  rintro e w1 ⟨x, rfl, ⟨hx0, hx1⟩, h1, hg1⟩
  go_wp2_with fail
  refine (partsOf_any g _ x bs _ hx0 hx1 (by omega) h1).mono ?_
  rintro e w2 ⟨a', c', M, rfl, ho, hs, ⟨q', hq', h2⟩, hg2⟩
  go_wp2_with fail
  go_ret
  exact ⟨a', c', M, rfl, ho.lower hg1.size, hs, ⟨q', by omega, h2⟩, chg_trans hg1 hg2⟩

/-- but for block g, nothing below lo has turned -/
structure Chg (g lo : Nat) (w w' : World) : Prop where
  os : w'.os = w.os
  tape : w'.tape = w.tape
  output : w'.output = w.output
  size : w.heap.size ≤ w'.heap.size
  block : ∀ k, k < lo → k ≠ g → w'.heap[k]? = w.heap[k]?
theorem Chg.trans {g lo : Nat} {a b c : World} (h : Chg g lo a b) (k : Chg g lo b c) : Chg g lo a c :=
  ⟨k.os.trans h.os, k.tape.trans h.tape, k.output.trans h.output, Nat.le_trans h.size k.size, fun i hi hne => (k.block i hi hne).trans (h.block i hi hne)⟩
theorem Chg.of {g lo : Nat} {w w' : World} (h : w.grownBy w' (some g)) (hlo : lo ≤ w.heap.size) : Chg g lo w w' :=
  ⟨h.os, h.tape, h.output, h.size, fun k hk hne => h.block k (by omega) (fun e => by injection e with e; exact hne e)⟩
theorem Chg.ofBelow {g lo : Nat} {w w' : World} (h : Below lo w w') : Chg g lo w w' := ⟨h.os, h.tape, h.output, h.size, fun k hk _ => h.block k hk⟩
theorem Chg.below {g lo : Nat} {w w' : World} (h : Chg g lo w w') (hg : g ≤ lo) : Below g w w' := ⟨h.os, h.tape, h.output, h.size, fun k hk => h.block k (by omega) (by omega)⟩
theorem Chg.grown {g : Nat} {w w' : World} (h : Chg g w.heap.size w w') : w.grownBy w' (some g) := ⟨h.os, h.tape, h.output, h.size, fun k hk hne => h.block k hk (fun e => hne (by rw [e]))⟩
theorem Chg.push {g lo : Nat} {w0 w w1 : World} {o : Obj} {row : Option Nat} (hb : Chg g lo w0 w) (hB : lo ≤ w.heap.size) (hg : (w.alloc o).grownBy w1 row) (hr : ∀ k, row = some k → lo ≤ k) : Chg g lo w0 w1 :=
  hb.trans (.ofBelow (((Below.refl lo w).alloc hB o).grown hg (by simp; omega) hr))

set_option maxHeartbeats 400000 in
theorem bent_any (g q lo : Nat) (a : Option Addr) (c : Nat) (M : List Int) (bs : List Int) (w : World) (hq : q ≤ 900000) (h : Rdr w g bs q) (hs : SmallParts M) (ho : Own w lo w.heap.size 3 (.slice a M.length c) (ints M)) (hlo : g < lo) (hloW : lo ≤ w.heap.size) :
    Calls Try.prog 49 #[.pointer (some ⟨g, 0, none⟩), .slice a M.length c] w fun e w' => ∃ a' c' M', e = .returned (.slice a' M'.length c') ∧ Own w' lo w'.heap.size 3 (.slice a' M'.length c') (ints M') ∧ Small M' ∧ (∃ q', q' ≤ q + 4 ∧ Rdr w' g bs q') ∧ Chg g lo w w' := by
  obtain ⟨i0, hi, hz0, hz1, hz2⟩ := T_int'
  have hlt := h.lt
  have hM16 := hs.1
  have HSM : Hid (Small M) := Lib.hid ⟨by omega, fun x hx => by have := hs.2 x hx; omega⟩
  have HS := Lib.hid hs
  clear hs
  have HO := Lib.hid ho
  clear ho
  go_enter Try.func49, Try.ntmps49
  go_wp2_with fail
  refine (pick_any g _ _ bs _ (by omega) (by omega) h).mono ?_
  rintro e w1 ⟨y, rfl, hy0, hy1, h1, hg1, -⟩
  clear hy1
  have hb1 : Chg g lo w w1 := .of hg1 hloW
  have hown1 := (HO.out.chg hg1 hlo).more
  clear HO hg1
  have hlt1 := h1.lt
  by_cases h0 : y = 0
  · subst h0
    by_cases hM0 : 0 < M.length
    · have hM0' : (0 : Int) < (M.length : Int) := by omega
      have HO1 := Lib.hid hown1
      clear hown1
      go_wp2_with fail
      refine (pick_any g _ _ bs _ (by omega) (by omega) h1).mono ?_
      rintro e w2 ⟨y2, rfl, hy20, hy21, h2, hg2, -⟩
      obtain ⟨y2, rfl⟩ := Int.eq_ofNat_of_zero_le hy20
      have hyM : y2 < M.length := by have := hy21 (by omega); omega
      clear hy21
      have HO2 := Lib.hid (HO1.out.chg hg2 hlo).more
      have hlt2 := h2.lt
      have hb2 : Chg g lo w w2 := hb1.trans (.of hg2 (by have := hb1.size; omega))
      clear HO1 hg2
      go_wp2_with fail
      refine (one_any g _ _ _ _ [0, -1, 17, 9] bs _ (by simp) (by simp) (by omega) (h2.below ((Below.refl _ _).alloc hlt2 _)) (rd_new w2 _ _) (by intro b o e; injection e with e; injection e with e; omega)).mono ?_
      rintro e w3 ⟨k, hk, rfl, h3, hg3, -⟩
      have hx : ∀ x ∈ ([0, -1, 17, 9] : List Int), -1 ≤ x ∧ x ≤ 17 := by decide
      have hx1 := hx _ (List.getElem_mem hk)
      obtain ⟨x, hxx⟩ : ∃ x, x = ([0, -1, 17, 9] : List Int)[k] := ⟨_, rfl⟩
      rw [← hxx] at hx1 ⊢
      clear hx hxx hk
      have hown3 := ((HO2.out.alloc (.cells (ints [0, -1, 17, 9]).toArray 3)).chg hg3 hlo).more
      have hsz2 := hb2.size
      have hb3 : Chg g lo w w3 := (hb2.trans (.ofBelow ((Below.refl lo w2).alloc (by omega) _))).trans (.of hg3 (by simp; omega))
      clear HO2 hg3
      obtain ⟨g2, u, rfl, hlo2, hhi2, hc2, hf2⟩ := hown3.spot (k := y2) (by simpa using hyM)
      have HO3 := Lib.hid hown3
      clear hown3
      have hcs : ∀ v, Chg g lo w (w3.setCell ⟨g2, y2, none⟩ v) := fun v => hb3.trans (.ofBelow ((Below.refl lo w3).setCell (by show lo ≤ g2; omega) v))
      have HCS := Lib.hid hcs
      clear hcs
      have HRS : Hid (∀ v, Rdr (w3.setCell ⟨g2, y2, none⟩ v) g bs (q + 1 + 1 + 1)) := Lib.hid fun v => h3.below ((Below.refl _ _).setCell (by show g + 1 ≤ g2; omega) v)
      go_wp2_with fail
      go_ret
      have e := HO3.out.set y2 (.int .i64 x)
      have hset : (ints M).set y2 (.int .i64 x) = ints (M.set y2 x) := by simp [ints, List.map_set]
      rw [hset] at e
      refine ⟨some ⟨g2, 0, none⟩, c, M.set y2 x, by simp, by simpa using e.more, ⟨by simpa using HSM.out.1, fun z hz => ?_⟩, ⟨_, by omega, HRS.out _⟩, HCS.out _⟩
      rcases List.mem_or_eq_of_mem_set hz with hz | rfl
      · exact HSM.out.2 z hz
      · exact hx1
    · have hM0' : (M.length : Int) ≤ 0 := by omega
      have hd0 : decide (0 < M.length) = false := decide_eq_false hM0
      have HO1 := Lib.hid hown1
      clear hown1
      go_wp2_with fail
      go_ret
      exact ⟨a, c, M, rfl, HO1.out, HSM.out, ⟨q + 1, by omega, h1⟩, hb1⟩
  · have e0 : (y == 0) = false := by simp; omega
    by_cases h1' : y = 1
    · subst h1'
      have hlo1 : lo ≤ w1.heap.size := by
        rcases hown1.row.2 with ⟨_, h⟩ | ⟨g2, cap, cur, _, hb, hg, _⟩
        · exact Nat.le_trans hloW hb1.size
        · have := (Array.getElem?_eq_some_iff.1 hg).1; omega
      have hlen2 : (ints M).length = M.length := by simp
      go_wp2_with (at_builtin; refine wpList_append_o _ rfl (.tmp 23) (.tmp 24) 25 rfl lo w1.heap.size 3 i0 (.int .i64 0) 8 Try.underlying25 hi hz0 hz1 hz2 rfl _ (ints M) rfl (hown1.alloc _) (w1.heap.size + 1) (some ⟨w1.heap.size, 0, none⟩) 1 1 (ints [9]) rfl (rd_new w1 _ _) rfl (ints_one _) (by rw [hlen2]; unfold maxLen; omega) (by rw [hlen2]; omega) (by simp; omega) ?_; intro v' w3 ho3 hg3 hat3)
      go_ret
      have e : ints M ++ ints [9] = ints (M ++ [9]) := by simp [ints]
      rw [e] at ho3
      obtain ⟨a', c', rfl⟩ := ho3.form
      have hl3 : (ints (M ++ [9])).length = (M ++ [9]).length := by simp
      rw [hl3] at ho3 ⊢
      refine ⟨a', c', M ++ [9], rfl, ho3, ⟨by simp; omega, fun x hx => ?_⟩, ⟨q + 1, by omega, (h1.row (World.grownBy_alloc w1 _ none) (by simp)).row hg3 (fun k hk => by have := hown1.base k hk; omega)⟩, Chg.push hb1 hlo1 hg3 hown1.base⟩
      rcases List.mem_append.1 hx with hx | hx
      · exact HSM.out.2 x hx
      · have : ∀ x ∈ ([9] : List Int), -1 ≤ x ∧ x ≤ 17 := by decide
        exact this x hx
    · have e1 : (y == 1) = false := by simp; omega
      by_cases h2' : y = 2
      · subst h2'
        have hlo1 : lo ≤ w1.heap.size := by
          rcases hown1.row.2 with ⟨_, h⟩ | ⟨g2, cap, cur, _, hb, hg, _⟩
          · exact Nat.le_trans hloW hb1.size
          · have := (Array.getElem?_eq_some_iff.1 hg).1; omega
        have hlen2 : (ints M).length = M.length := by simp
        go_wp2_with (at_builtin; refine wpList_append_o _ rfl (.tmp 28) (.tmp 29) 25 rfl lo w1.heap.size 3 i0 (.int .i64 0) 8 Try.underlying25 hi hz0 hz1 hz2 rfl _ (ints M) rfl (hown1.alloc _) (w1.heap.size + 1) (some ⟨w1.heap.size, 0, none⟩) 16 16 (ints [1, 1, 1, 1, 1, 1, 1, 1, 1, 1, 1, 1, 1, 1, 1, 1]) rfl (rd_new w1 _ _) rfl (ints_one _) (by rw [hlen2]; unfold maxLen; omega) (by rw [hlen2]; omega) (by simp; omega) ?_; intro v' w3 ho3 hg3 hat3)
        go_ret
        have e : ints M ++ ints [1, 1, 1, 1, 1, 1, 1, 1, 1, 1, 1, 1, 1, 1, 1, 1] = ints (M ++ [1, 1, 1, 1, 1, 1, 1, 1, 1, 1, 1, 1, 1, 1, 1, 1]) := by simp [ints]
        rw [e] at ho3
        obtain ⟨a', c', rfl⟩ := ho3.form
        have hl3 : (ints (M ++ [1, 1, 1, 1, 1, 1, 1, 1, 1, 1, 1, 1, 1, 1, 1, 1])).length = (M ++ [1, 1, 1, 1, 1, 1, 1, 1, 1, 1, 1, 1, 1, 1, 1, 1]).length := by simp
        rw [hl3] at ho3 ⊢
        refine ⟨a', c', M ++ [1, 1, 1, 1, 1, 1, 1, 1, 1, 1, 1, 1, 1, 1, 1, 1], rfl, ho3, ⟨by simp; omega, fun x hx => ?_⟩, ⟨q + 1, by omega, (h1.row (World.grownBy_alloc w1 _ none) (by simp)).row hg3 (fun k hk => by have := hown1.base k hk; omega)⟩, Chg.push hb1 hlo1 hg3 hown1.base⟩
        rcases List.mem_append.1 hx with hx | hx
        · exact HSM.out.2 x hx
        · have : ∀ x ∈ ([1, 1, 1, 1, 1, 1, 1, 1, 1, 1, 1, 1, 1, 1, 1, 1] : List Int), -1 ≤ x ∧ x ≤ 17 := by decide
          exact this x hx
      · have e2 : (y == 2) = false := by simp; omega
        have HO1 := Lib.hid hown1
        clear hown1
        go_wp2_with fail
        go_ret
        exact ⟨a, c, M, rfl, HO1.out, HSM.out, ⟨q + 1, by omega, h1⟩, hb1⟩

theorem someParts_grown (g q : Nat) (bs : List Int) (w : World) (hq : q ≤ 700000) (h : Rdr w g bs q) :
    Calls Try.prog 51 #[.pointer (some ⟨g, 0, none⟩)] w fun e w' => ∃ a' c' M, e = .returned (.slice a' M.length c') ∧ Own w' w.heap.size w'.heap.size 3 (.slice a' M.length c') (ints M) ∧ Small M ∧ (∃ q', q' ≤ q + 50 ∧ Rdr w' g bs q') ∧ w.grownBy w' (some g) := by
  have hlt := h.lt
  go_enter Try.func51, Try.ntmps51
  go_wp2_with fail
  refine (goodParts_any g q bs _ (by omega) h).mono ?_
  rintro e w1 ⟨a', c', M, rfl, ho, hs, ⟨q', hq', h1⟩, hg1⟩
  have hb1 : Chg g w.heap.size w w1 := .of hg1 (Nat.le_refl _)
  have hz := hg1.size
  clear hg1
  go_wp2_with fail
  refine (bent_any g q' w.heap.size _ _ M bs _ (by omega) h1 hs ho hlt hz).mono ?_
  rintro e w2 ⟨a2, c2, M2, rfl, ho2, hs2, ⟨q2, hq2, h2⟩, hb2⟩
  go_wp2_with fail
  go_ret
  exact ⟨a2, c2, M2, rfl, ho2, hs2, ⟨q2, by omega, h2⟩, (hb1.trans hb2).grown⟩
theorem someParts_any (g q : Nat) (bs : List Int) (w : World) (hq : q ≤ 700000) (h : Rdr w g bs q) :
    Calls Try.prog 51 #[.pointer (some ⟨g, 0, none⟩)] w fun e w' => ∃ a' c' M, e = .returned (.slice a' M.length c') ∧ Own w' w.heap.size w'.heap.size 3 (.slice a' M.length c') (ints M) ∧ Small M ∧ (∃ q', q' ≤ q + 50 ∧ Rdr w' g bs q') ∧ Below g w w' := by
  have hlt := h.lt
  refine (someParts_grown g q bs w hq h).mono ?_
  rintro e w' ⟨a', c', M, he, ho, hs, hr, hg⟩
  refine ⟨a', c', M, he, ho, hs, hr, ?_⟩
  rcases chg_low hg with hb | hb
  · exact hb
  · omega












end Go.Proofs.Ytifhnjnpbpgjfaa

namespace Go.Proofs.Ytifhnjnpbpgjfaa
namespace NP
set_option linter.unusedVariables false
theorem mono_split {A B : List Int} (h : mono (A ++ B)) : mono A ∧ mono B ∧ ∀ x ∈ A, ∀ y ∈ B, y ≤ x := by
  induction A with
  | nil => exact ⟨trivial, h, fun x hx => by simp at hx⟩
  | cons x r ih =>
    obtain ⟨h1, h2⟩ := h
    obtain ⟨h3, h4, h5⟩ := ih h2
    refine ⟨⟨fun y hy => h1 y (List.mem_append_left _ hy), h3⟩, h4, fun z hz y hy => ?_⟩
    rcases List.mem_cons.1 hz with rfl | hz
    · exact h1 y (List.mem_append_right _ hy)
    · exact h5 z hz y hy
theorem mono_head {D : List Int} (h : mono D) (i : Nat) (hi : i < D.length) : D[i] ≤ D[0]'(by omega) := by
  match D, h with
  | [], _ => simp at hi
  | y :: t, h =>
    match i, hi with
    | 0, _ => exact Int.le_refl _
    | i + 1, hi => exact h.1 _ (List.getElem_mem _)
theorem insK_mono {M : List Int} (h : mono M) (x : Int) : mono (insK M x) := by
  have hs := ff_spec (fun (j : Nat) => decide (x ≤ M.getD j 0)) M.length
  have e := List.take_append_drop (posOf x M) M
  rw [← e] at h
  obtain ⟨h1, h2, h3⟩ := mono_split h
  have hd : ∀ y ∈ M.drop (posOf x M), y ≤ x := fun y hy => by
    obtain ⟨i, hi, rfl⟩ := List.getElem_of_mem hy
    simp at hi
    rcases hs.2.2 with hs2 | hs2
    · have : posOf x M = M.length := hs2
      omega
    · have hp : posOf x M < M.length := by omega
      have hx : ¬ x ≤ M.getD (posOf x M) 0 := of_decide_eq_false hs2
      rw [getD_lt hp] at hx
      have h4 := mono_head h2 i (by simp; omega)
      simp at h4
      rw [List.getElem_drop]
      omega
  unfold insK
  refine mono_append h1 ⟨hd, h2⟩ fun a ha b hb => ?_
  rcases List.mem_cons.1 hb with rfl | hb
  · obtain ⟨i, hi, rfl⟩ := List.getElem_of_mem ha
    simp at hi
    have := of_decide_eq_true (hs.2.1 i (by unfold posOf at hi; omega))
    rw [getD_lt (by omega)] at this
    rw [List.getElem_take]
    exact this
  · exact h3 a ha b hb
theorem insK_eqc (M : List Int) (x k : Int) : eqc k (insK M x) = eqc k M + (if x = k then 1 else 0) := by
  have e : eqc k M = eqc k (M.take (posOf x M)) + eqc k (M.drop (posOf x M)) := by rw [← eqc_append, List.take_append_drop]
  unfold insK
  rw [eqc_append, eqc_cons, e]
  omega
theorem insK_sum (M : List Int) (x : Int) : sumL (insK M x) = sumL M + x := by
  have e : sumL M = sumL (M.take (posOf x M)) + sumL (M.drop (posOf x M)) := by rw [← sumL_append, List.take_append_drop]
  unfold insK
  rw [sumL_append, sumL, e]
  omega
theorem fold_facts (L : List Int) : ∀ M, mono M → mono (L.foldl insK M) ∧ (∀ k, eqc k (L.foldl insK M) = eqc k M + eqc k L) ∧ sumL (L.foldl insK M) = sumL M + sumL L := by
  induction L with
  | nil => intro M h; exact ⟨h, fun k => by simp [eqc], by simp [sumL]⟩
  | cons x r ih =>
    intro M h
    obtain ⟨h1, h2, h3⟩ := ih (insK M x) (insK_mono h x)
    refine ⟨h1, fun k => ?_, ?_⟩
    · rw [List.foldl_cons, h2, insK_eqc, eqc_cons]; omega
    · rw [List.foldl_cons, h3, insK_sum, sumL]; omega
theorem mrg_mono (L : List Int) : mono (mrg L) := (fold_facts L [] trivial).1
theorem mrg_eqc (L : List Int) (k : Int) : eqc k (mrg L) = eqc k L := by have := (fold_facts L [] trivial).2.1 k; unfold mrg; simpa [eqc] using this
theorem mrg_sum (L : List Int) : sumL (mrg L) = sumL L := by have := (fold_facts L [] trivial).2.2; unfold mrg; simpa [sumL] using this
theorem mrg_len (L : List Int) : (mrg L).length = L.length := by have := (fold_ins L []).1; unfold mrg; simpa using this
theorem mrg_mem {L : List Int} {y : Int} (h : y ∈ mrg L) : y ∈ L := by
  rcases (fold_ins L []).2 y h with h | h
  · exact h
  · simp at h
theorem cnt_eqc {A B : List Int} (h : ∀ k, eqc k A = eqc k B) (hl : A.length = B.length) (t : Int) : cnt t A = cnt t B := by
  induction A generalizing B with
  | nil =>
    have : B = [] := List.eq_nil_of_length_eq_zero (by simp at hl; omega)
    subst this; rfl
  | cons x r ih =>
    have hx : x ∈ B := eqc_mem (by rw [← h x]; exact eqc_pos (by simp))
    obtain ⟨b1, b2, rfl⟩ := List.append_of_mem hx
    have h2 := ih (B := b1 ++ b2) (fun k => by
      have := h k
      rw [eqc_cons, eqc_append, eqc_cons] at this
      rw [eqc_append]; omega) (by simp at hl ⊢; omega)
    rw [cnt, h2, cnt_append, cnt_append, cnt]
    omega
theorem mono_get {L : List Int} (h : mono L) (j : Nat) (hj : j + 1 < L.length) : L[j + 1] ≤ L[j] := by
  induction L generalizing j with
  | nil => simp at hj
  | cons x r ih =>
    match j with
    | 0 => simp; exact h.1 _ (List.getElem_mem _)
    | j + 1 => simpa using ih h.2 j (by simp at hj; omega)
theorem valid_mono {M : List Int} (h : mono M) (h1 : ∀ x ∈ M, 1 ≤ x) (hs : sumL M ≤ 16) : valid M = true := by
  refine valid_of_preS (fun j hj _ => ?_) hs
  have hb := (elem_le_sum (fun x hx => by have := h1 x hx; omega) hj).1
  refine ⟨h1 _ (List.getElem_mem hj), by omega, fun h0 => ?_⟩
  have := mono_get h (j - 1) (by omega)
  simp only [show j - 1 + 1 = j by omega] at this
  exact this
def uni (P Q : List Int) : List Int := mrg (P ++ Q)
theorem valid_ge1 {L : List Int} (h : valid L = true) : ∀ x ∈ L, 1 ≤ x := fun x hx => by
  obtain ⟨k, hk, rfl⟩ := List.getElem_of_mem hx
  exact (preS_of_valid h k hk hk).1
theorem uni_ge1 {P Q : List Int} (h : two P Q = true) : ∀ x ∈ uni P Q, 1 ≤ x := fun x hx => by
  obtain ⟨hp, hq, _⟩ := two_out h
  rcases List.mem_append.1 (mrg_mem hx) with hx | hx
  · exact valid_ge1 hp x hx
  · exact valid_ge1 hq x hx
theorem valid_uni {P Q : List Int} (h : two P Q = true) : valid (uni P Q) = true :=
  valid_mono (mrg_mono _) (uni_ge1 h) (by unfold uni; rw [mrg_sum, sumL_append]; exact (two_out h).2.2)
theorem um_uni {P Q : List Int} (h : two P Q = true) : (um (fun i => P.getD i 0) (fun i => Q.getD i 0) 16).1 = pad (uni P Q) :=
  um_end h (mrg_mono _) (fun k => by unfold uni; rw [mrg_eqc, eqc_append]) (by unfold uni; rw [mrg_len]; simp) (uni_ge1 h)
def uniF (P Q : List Int) : List Int := if two P Q then uni P Q else []
theorem uniF_yes {P Q : List Int} (h : two P Q = true) : uniF P Q = uni P Q := by simp [uniF, h]
theorem uniF_no {P Q : List Int} (h : two P Q = false) : uniF P Q = [] := by simp [uniF, h]
theorem uniF_len (P Q : List Int) : (uniF P Q).length ≤ 16 := by
  unfold uniF
  split
  · rename_i h
    exact (valid_bd (valid_uni h)).2.2.2
  · simp
/-- parts with the same numbers at all places are the same -/
theorem valid_ext {A B : List Int} (hA : valid A = true) (hB : valid B = true) (h : ∀ j, A.getD j 0 = B.getD j 0) : A = B := by
  have hl : A.length = B.length := by
    rcases Nat.lt_trichotomy A.length B.length with h1 | h1 | h1
    · have := h A.length
      rw [getD_ge (Nat.le_refl _)] at this
      have := getD_pos hB h1
      omega
    · exact h1
    · have := h B.length
      rw [getD_ge (L := B) (Nat.le_refl _)] at this
      have := getD_pos hA h1
      omega
  apply List.ext_getElem hl
  intro j h1 h2
  have := h j
  rwa [getD_lt h1, getD_lt h2] at this
theorem conj_getD {L : List Int} (h : valid L = true) (j : Nat) : (conj L).getD j 0 = cnt ((j : Int) + 1) L := by
  rcases Nat.lt_or_ge j (conj L).length with h1 | h1
  · rw [getD_lt h1, conj_get]
  · rw [getD_ge h1]
    rw [conj_len] at h1
    exact (cnt_none fun x hx => by have := head_ge h x hx; omega).symm
theorem two_conj {P Q : List Int} (h : two P Q = true) : two (conj P) (conj Q) = true := by
  obtain ⟨hp, hq, hs⟩ := two_out h
  unfold two
  rw [valid_conj hp, valid_conj hq, sumL_conj hp, sumL_conj hq, decide_eq_true hs]
  rfl
theorem cnt_uni (P Q : List Int) (t : Int) : cnt t (uni P Q) = cnt t P + cnt t Q := by
  rw [← cnt_append]
  exact cnt_eqc (fun k => by unfold uni; rw [mrg_eqc]) (by unfold uni; rw [mrg_len]) t
theorem conj_uni {P Q : List Int} (h : two P Q = true) : conj (uni P Q) = adp (conj P) (conj Q) := by
  obtain ⟨hp, hq, hs⟩ := two_out h
  refine valid_ext (valid_conj (valid_uni h)) (valid_adp (two_conj h)) fun j => ?_
  rw [conj_getD (valid_uni h), adp_getD, conj_getD hp, conj_getD hq, cnt_uni]
theorem conj_adp {P Q : List Int} (h : two P Q = true) : conj (adp P Q) = uni (conj P) (conj Q) := by
  obtain ⟨hp, hq, hs⟩ := two_out h
  have h2 := two_conj h
  have e := conj_uni h2
  rw [conj_conj hp, conj_conj hq] at e
  rw [← e, conj_conj (valid_uni h2)]
theorem adp_comm (P Q : List Int) : adp P Q = adp Q P := by
  unfold adp
  rw [Nat.max_comm]
  apply List.map_congr_left
  intro i _
  omega
theorem two_comm (P Q : List Int) : two P Q = two Q P := by
  unfold two
  rw [Int.add_comm (sumL P), Bool.and_comm (valid P)]
theorem uni_len (P Q : List Int) : (uni P Q).length = P.length + Q.length := by unfold uni; rw [mrg_len]; simp
end NP
end Go.Proofs.Ytifhnjnpbpgjfaa
namespace Go.Proofs.Ytifhnjnpbpgjfaa
namespace NP
def sqRT (L : List Int) (d : Int) (k : Nat) : List Int := ((List.range k).filter fun i => decide (d < L.getD i 0)).map fun i => L.getD i 0 - d
theorem sqRT_succ (L : List Int) (d : Int) (k : Nat) : sqRT L d (k + 1) = sqRT L d k ++ if d < L.getD k 0 then [L.getD k 0 - d] else [] := by
  unfold sqRT
  rw [List.range_succ, List.filter_append, List.map_append]
  obtain ⟨f, hf⟩ : ∃ f : Nat → Int, ∀ i, L.getD i 0 = f i := ⟨_, fun _ => rfl⟩
  simp only [hf]
  congr 1
  by_cases h : d < f k <;> simp [h]
theorem sqRT_len (L : List Int) (d : Int) (k : Nat) : (sqRT L d k).length ≤ k := by
  unfold sqRT
  rw [List.length_map]
  exact Nat.le_trans (List.length_filter_le _ _) (by simp)
def sqR (L : List Int) : List Int := sqRT L (durS L) (durS L)
def sqB (L : List Int) : List Int := L.drop (durS L)
def sqRF (L : List Int) : List Int := if valid L then sqR L else []
def sqBF (L : List Int) : List Int := if valid L then sqB L else []
def sqD (L : List Int) : Int := if valid L then (durS L : Int) else 0
theorem sqRF_yes {L : List Int} (h : valid L = true) : sqRF L = sqR L := by simp [sqRF, h]
theorem sqRF_no {L : List Int} (h : valid L = false) : sqRF L = [] := by simp [sqRF, h]
theorem sqBF_yes {L : List Int} (h : valid L = true) : sqBF L = sqB L := by simp [sqBF, h]
theorem sqBF_no {L : List Int} (h : valid L = false) : sqBF L = [] := by simp [sqBF, h]
theorem sqD_yes {L : List Int} (h : valid L = true) : sqD L = (durS L : Int) := by simp [sqD, h]
theorem sqD_no {L : List Int} (h : valid L = false) : sqD L = 0 := by simp [sqD, h]
/-- what stands in the rows of the square, less the square -/
def sqArr (L : List Int) : List Int := (List.range 16).map fun j => if j < durS L then L.getD j 0 - (durS L : Int) else 0
def sqOk (d : Int) (R B : List Int) : Bool := decide (0 ≤ d) && decide (d ≤ 16) && valid R && valid B && decide ((R.length : Int) ≤ d) && decide (B.getD 0 0 ≤ d) && decide (d * d + sumL R + sumL B ≤ 16)
def sqPut (d : Int) (R B : List Int) : List Int := adp (List.replicate d.toNat d) R ++ B
def sqPutF (d : Int) (R B : List Int) : List Int := if sqOk d R B then sqPut d R B else []
theorem sqPutF_yes {d : Int} {R B : List Int} (h : sqOk d R B = true) : sqPutF d R B = sqPut d R B := by simp [sqPutF, h]
theorem sqPutF_no {d : Int} {R B : List Int} (h : sqOk d R B = false) : sqPutF d R B = [] := by simp [sqPutF, h]
theorem sqOk_iff (d : Int) (R B : List Int) : sqOk d R B = true ↔ 0 ≤ d ∧ d ≤ 16 ∧ valid R = true ∧ valid B = true ∧ (R.length : Int) ≤ d ∧ B.getD 0 0 ≤ d ∧ d * d + sumL R + sumL B ≤ 16 := by
  simp [sqOk, and_assoc]

def sqTab (N : List Nat) : Bool :=
  let L := N.map Int.ofNat
  valid (sqR L) && valid (sqB L) && decide (pad (sqR L) = sqArr L) && decide (sqR (conj L) = conj (sqB L)) && decide (sqB (conj L) = conj (sqR L)) && sqOk (durS L) (sqR L) (sqB L) && decide (sqPut (durS L) (sqR L) (sqB L) = L)
set_option maxRecDepth 100000 in
theorem sqTab_all : all16.all sqTab = true := by decide +kernel
theorem sq_facts {L : List Int} (h : valid L = true) : valid (sqR L) = true ∧ valid (sqB L) = true ∧ pad (sqR L) = sqArr L ∧ sqR (conj L) = conj (sqB L) ∧ sqB (conj L) = conj (sqR L) ∧ sqOk (durS L) (sqR L) (sqB L) = true ∧ sqPut (durS L) (sqR L) (sqB L) = L := by
  obtain ⟨N, hN, rfl⟩ := of_all sqTab_all h
  simp only [sqTab, Bool.and_eq_true, decide_eq_true_eq] at hN
  obtain ⟨⟨⟨⟨⟨⟨h1, h2⟩, h3⟩, h4⟩, h5⟩, h6⟩, h7⟩ := hN
  exact ⟨h1, h2, h3, h4, h5, h6, h7⟩
theorem sqRF_len (L : List Int) : (sqRF L).length ≤ 16 := by
  unfold sqRF
  split
  · rename_i h; exact (valid_bd (sq_facts h).1).2.2.2
  · simp
theorem sqBF_len (L : List Int) : (sqBF L).length ≤ 16 := by
  unfold sqBF
  split
  · rename_i h; exact (valid_bd (sq_facts h).2.1).2.2.2
  · simp

/-- the square itself -/
def sqs (n : Nat) : List Int := List.replicate n (n : Int)
theorem sqs_valid {n : Nat} (h : n ≤ 4) : valid (sqs n) = true := by
  match n, h with
  | 0, _ => rfl
  | 1, _ => rfl
  | 2, _ => rfl
  | 3, _ => rfl
  | 4, _ => rfl
theorem sumL_rep (n : Nat) (x : Int) : sumL (List.replicate n x) = (n : Int) * x := by
  induction n with
  | zero => simp [sumL]
  | succ n ih =>
    rw [List.replicate_succ]
    show x + sumL _ = _
    rw [ih, Int.natCast_add, Int.add_mul]
    simp
    omega
theorem sqs_sum (n : Nat) : sumL (sqs n) = (n : Int) * (n : Int) := sumL_rep n n
theorem sqs_getD (n i : Nat) : (sqs n).getD i 0 = if i < n then (n : Int) else 0 := by
  unfold sqs
  rw [List.getD_eq_getElem?_getD, List.getElem?_replicate]
  split <;> rfl
theorem sq4 {n : Nat} {x : Int} (hx : 0 ≤ x) (h : (n : Int) * (n : Int) + x ≤ 16) : n ≤ 4 := by
  rcases Nat.lt_or_ge 4 n with h1 | h1
  · have h2 : (5 : Int) * 5 ≤ (n : Int) * (n : Int) := Int.mul_le_mul (by omega) (by omega) (by omega) (by omega)
    omega
  · exact h1
theorem sq_put {n : Nat} {R B : List Int} (h : sqOk n R B = true) :
    two (sqs n) R = true ∧ two (adp (sqs n) R) B = true ∧ sqPut n R B = adp (sqs n) R ++ B ∧ mono (adp (sqs n) R ++ B) ∧ (adp (sqs n) R).length = n ∧ (∀ x ∈ adp (sqs n) R ++ B, 1 ≤ x) ∧ valid (sqPut n R B) = true := by
  obtain ⟨h0, h16, hvR, hvB, hRl, hB0, hs⟩ := (sqOk_iff _ _ _).1 h
  have bR := valid_bd hvR
  have bB := valid_bd hvB
  have h4 : n ≤ 4 := sq4 (x := sumL R + sumL B) (by omega) (by omega)
  have hv := sqs_valid h4
  have hss := sqs_sum n
  have t1 : two (sqs n) R = true := by simp [two, hv, hvR, hss]; omega
  have hvP := valid_adp t1
  have hsP := adp_sum (sqs n) R
  have t2 : two (adp (sqs n) R) B = true := by simp [two, hvP, hvB, hsP, hss]; omega
  have hlP : (adp (sqs n) R).length = n := by rw [adp_len]; simp [sqs]; omega
  have hge : ∀ x ∈ adp (sqs n) R, (n : Int) ≤ x := fun x hx => by
    obtain ⟨i, hi, rfl⟩ := List.getElem_of_mem hx
    have e := adp_getD (sqs n) R i
    rw [getD_lt hi, sqs_getD, if_pos (by omega)] at e
    have := (getD_nn hvR i).1
    omega
  have hle : ∀ y ∈ B, y ≤ (n : Int) := fun y hy => by
    have := head_ge hvB y hy
    have e : B.headD 0 = B.getD 0 0 := by cases B <;> rfl
    omega
  have hm : mono (adp (sqs n) R ++ B) := mono_append (mono_valid hvP) (mono_valid hvB) fun x hx y hy => by
    have := hge x hx
    have := hle y hy
    omega
  have h1 : ∀ x ∈ adp (sqs n) R ++ B, 1 ≤ x := fun x hx => by
    rcases List.mem_append.1 hx with hx | hx
    · exact valid_ge1 hvP x hx
    · exact valid_ge1 hvB x hx
  have hput : sqPut n R B = adp (sqs n) R ++ B := by unfold sqPut sqs; simp
  refine ⟨t1, t2, hput, hm, hlP, h1, ?_⟩
  rw [hput]
  exact valid_mono hm h1 (by rw [sumL_append, hsP, hss]; omega)
theorem sq_um {n : Nat} {R B : List Int} (h : sqOk n R B = true) : (um (fun i => (adp (sqs n) R).getD i 0) (fun i => B.getD i 0) 16).1 = pad (sqPut n R B) := by
  obtain ⟨_, t2, hp, hm, _, h1, _⟩ := sq_put h
  rw [hp]
  exact um_end t2 hm (fun k => eqc_append k _ _) (List.length_append) h1
theorem getD_app (A B : List Int) (j : Nat) : (A ++ B).getD j 0 = if j < A.length then A.getD j 0 else B.getD (j - A.length) 0 := by
  rw [List.getD_eq_getElem?_getD, List.getElem?_append]
  split <;> rw [List.getD_eq_getElem?_getD]
theorem sq_back {n : Nat} {R B : List Int} (h : sqOk n R B = true) : durS (sqPut n R B) = n ∧ sqR (sqPut n R B) = R ∧ sqB (sqPut n R B) = B := by
  obtain ⟨t1, t2, hp, hm, hl, h1, hv⟩ := sq_put h
  obtain ⟨h0, h16, hvR, hvB, hRl, hB0, hs⟩ := (sqOk_iff _ _ _).1 h
  have hg : ∀ j, j < n → (sqPut n R B).getD j 0 = (n : Int) + R.getD j 0 := fun j hj => by
    rw [hp, getD_app, if_pos (by omega), adp_getD, sqs_getD, if_pos hj]
  have hd : durS (sqPut n R B) = n := durS_unique (fun j hj => by rw [hg j hj]; have := (getD_nn hvR j).1; omega) (by
    rw [hp, getD_app, if_neg (by omega), hl, Nat.sub_self]
    omega)
  have hRt : ∀ k, k ≤ n → sqRT (sqPut n R B) (n : Int) k = R.take k := by
    intro k
    induction k with
    | zero => intro _; simp [sqRT]
    | succ k ih =>
      intro hk
      rw [sqRT_succ, ih (by omega), hg k (by omega)]
      by_cases hkR : k < R.length
      · have := getD_pos hvR hkR
        rw [if_pos (by omega), List.take_succ_eq_append_getElem hkR, getD_lt hkR]
        congr 2
        omega
      · rw [getD_ge (L := R) (by omega), if_neg (by omega), List.append_nil, List.take_of_length_le (by omega), List.take_of_length_le (by omega)]
  refine ⟨hd, ?_, ?_⟩
  · unfold sqR
    rw [hd, hRt n (Nat.le_refl _), List.take_of_length_le (by omega)]
  · unfold sqB
    rw [hd, hp, List.drop_append, List.drop_eq_nil_of_le (by omega), hl, Nat.sub_self]
    rfl
theorem sqPutF_len (d : Int) (R B : List Int) : (sqPutF d R B).length ≤ 16 := by
  unfold sqPutF
  split
  · rename_i h
    obtain ⟨n, rfl⟩ := Int.eq_ofNat_of_zero_le ((sqOk_iff _ _ _).1 h).1
    exact (valid_bd (sq_put h).2.2.2.2.2.2).2.2.2
  · simp

/-- doubled parts -/
def dbl (P : List Int) : List Int := P.map fun x => 2 * x
theorem adp_self (P : List Int) : adp P P = dbl P := by
  apply List.ext_getElem
  · simp [adp, dbl]
  · intro i h1 h2
    have hi : i < P.length := by simpa [dbl] using h2
    simp [adp, dbl, List.getElem?_eq_getElem hi]
    omega
theorem two_self (P : List Int) : two P P = (valid P && decide (2 * sumL P ≤ 16)) := by
  unfold two
  cases valid P <;> simp
  constructor <;> intro h <;> omega
theorem dbl_take (P : List Int) (k : Nat) (h : k < P.length) : dbl (P.take (k + 1)) = dbl (P.take k) ++ [2 * P[k]] := by
  unfold dbl
  rw [List.take_succ_eq_append_getElem h, List.map_append]
  rfl
end NP
end Go.Proofs.Ytifhnjnpbpgjfaa
namespace Go.Proofs.Ytifhnjnpbpgjfaa
namespace NP
set_option linter.unusedVariables false
/-- arms of the first d places -/
def armsTo (L : List Int) (d : Nat) : List Int := (List.range d).map fun (i : Nat) => L.getD i 0 - ((i : Int) + 1)
theorem armsTo_len (L : List Int) (d : Nat) : (armsTo L d).length = d := by simp [armsTo]
theorem armsTo_succ (L : List Int) (d : Nat) : armsTo L (d + 1) = armsTo L d ++ [L.getD d 0 - ((d : Int) + 1)] := by
  unfold armsTo; rw [List.range_succ, List.map_append]; rfl
theorem armsTo_getD (L : List Int) (d i : Nat) (h : i < d) : (armsTo L d).getD i 0 = L.getD i 0 - ((i : Int) + 1) := by
  rw [getD_lt (by rw [armsTo_len]; exact h)]; simp [armsTo]
theorem armsTo_congr {L M : List Int} (h : ∀ i, L.getD i 0 = M.getD i 0) (d : Nat) : armsTo L d = armsTo M d := by
  unfold armsTo; exact List.map_congr_left fun i _ => by rw [h]
def froA (L : List Int) : List Int := armsTo L (durS L)
def froB (L : List Int) : List Int := armsTo (conj L) (durS L)
def froAF (L : List Int) : List Int := if valid L then froA L else []
def froBF (L : List Int) : List Int := if valid L then froB L else []
theorem froAF_yes {L : List Int} (h : valid L = true) : froAF L = froA L := by simp [froAF, h]
theorem froAF_no {L : List Int} (h : valid L = false) : froAF L = [] := by simp [froAF, h]
theorem froBF_yes {L : List Int} (h : valid L = true) : froBF L = froB L := by simp [froBF, h]
theorem froBF_no {L : List Int} (h : valid L = false) : froBF L = [] := by simp [froBF, h]
theorem durS_le {L : List Int} (h : valid L = true) : durS L ≤ 16 := Nat.le_trans (durS_spec L).1 (valid_bd h).2.2.2
theorem froAF_len (L : List Int) : (froAF L).length ≤ 16 := by
  unfold froAF
  split
  · rename_i h; unfold froA; rw [armsTo_len]; exact durS_le h
  · simp
theorem froBF_len (L : List Int) : (froBF L).length ≤ 16 := by
  unfold froBF
  split
  · rename_i h; unfold froB; rw [armsTo_len]; exact durS_le h
  · simp
/-- how many of the first n places q holds at -/
def nb (q : Nat → Bool) : Nat → Nat
  | 0 => 0
  | n + 1 => nb q n + if q n then 1 else 0
theorem nb_le (q : Nat → Bool) (n : Nat) : nb q n ≤ n := by
  induction n with
  | zero => exact Nat.le_refl _
  | succ n ih => simp only [nb]; split <;> omega
theorem nb_to {q : Nat → Bool} {m : Nat} (n : Nat) (h : ∀ i, i < n → (q i = true ↔ i < m)) : nb q n = min n m := by
  induction n with
  | zero => simp [nb]
  | succ n ih =>
    rw [nb, ih fun i hi => h i (by omega)]
    have := h n (by omega)
    split
    · rename_i hq; have := this.1 hq; omega
    · rename_i hq
      have : ¬ n < m := fun hc => hq (this.2 hc)
      omega
theorem nb_mono {q r : Nat → Bool} (n : Nat) (h : ∀ i, i < n → q i = true → r i = true) : nb q n ≤ nb r n := by
  induction n with
  | zero => exact Nat.le_refl _
  | succ n ih =>
    have h1 := ih fun i hi => h i (by omega)
    have h2 := h n (by omega)
    simp only [nb]
    split
    · rename_i hq; rw [if_pos (h2 hq)]; omega
    · split <;> omega
theorem nb_all {q : Nat → Bool} (n : Nat) (h : ∀ i, i < n → q i = true) : nb q n = n := by
  rw [nb_to (m := n) n fun i hi => ⟨fun _ => hi, fun _ => h i hi⟩]; omega
/-- strictly falling numbers of at least 0, all less than m -/
def dnB (m : Int) (A : List Int) : Bool := decide (∀ i, i < A.length → (0 ≤ A.getD i 0 ∧ A.getD i 0 < m ∧ (0 < i → A.getD i 0 < A.getD (i - 1) 0)))
theorem dnB_iff (m : Int) (A : List Int) : dnB m A = true ↔ ∀ i, i < A.length → (0 ≤ A.getD i 0 ∧ A.getD i 0 < m ∧ (0 < i → A.getD i 0 < A.getD (i - 1) 0)) := by simp [dnB]
theorem dnB_at {m : Int} {A : List Int} {i : Nat} (hi : i < A.length) (h : ¬ (0 ≤ A.getD i 0 ∧ A.getD i 0 < m ∧ (0 < i → A.getD i 0 < A.getD (i - 1) 0))) : dnB m A = false := by
  cases hd : dnB m A with
  | false => rfl
  | true => exact absurd ((dnB_iff m A).1 hd i hi) h
/-- those of the arms ahead are greater by their distance -/
theorem dn_gap {m : Int} {A : List Int} (h : dnB m A = true) : ∀ i j, j ≤ i → i < A.length → A.getD i 0 + ((i : Int) - j) ≤ A.getD j 0 := by
  intro i
  induction i with
  | zero => intro j hj hi; obtain rfl : j = 0 := (by omega); omega
  | succ i ih =>
    intro j hj hi
    rcases Nat.lt_or_ge j (i + 1) with h1 | h1
    · have h2 := ((dnB_iff m A).1 h (i + 1) hi).2.2 (by omega)
      simp only [Nat.add_sub_cancel] at h2
      have := ih j (by omega) (by omega)
      omega
    · obtain rfl : j = i + 1 := by omega
      omega
theorem dn_low {m : Int} {A : List Int} (h : dnB m A = true) (i : Nat) (hi : i < A.length) : (A.length : Int) - 1 - i ≤ A.getD i 0 := by
  have h1 := dn_gap h (A.length - 1) i (by omega) (by omega)
  have h2 := ((dnB_iff m A).1 h (A.length - 1) (by omega)).1
  omega
def pofOk (A B : List Int) : Bool := dnB 16 A && dnB 16 B && decide (A.length = B.length) && decide (sumL A + sumL B + (A.length : Int) ≤ 16)
/-- how many of the legs come down to row j -/
def leg (B : List Int) (j : Nat) : Nat := nb (fun i => decide ((j : Int) ≤ B.getD i 0 + i)) B.length
def pofG (A B : List Int) (j : Nat) : Int := if j < A.length then A.getD j 0 + j + 1 else leg B j
def pofN (A B : List Int) : Nat := if A.length = 0 then 0 else (B.getD 0 0 + 1).toNat
/-- the parts of arms and legs -/
def pof (A B : List Int) : List Int := (List.range (pofN A B)).map fun (j : Nat) => pofG A B j
theorem pof_len (A B : List Int) : (pof A B).length = pofN A B := by simp [pof]
theorem pof_getD (A B : List Int) (j : Nat) : (pof A B).getD j 0 = if j < pofN A B then pofG A B j else 0 := by
  by_cases h : j < pofN A B
  · rw [getD_lt (by rw [pof_len]; exact h), if_pos h]; simp [pof]
  · rw [getD_ge (by rw [pof_len]; omega), if_neg h]
theorem pofOk_out {A B : List Int} (h : pofOk A B = true) : dnB 16 A = true ∧ dnB 16 B = true ∧ A.length = B.length ∧ sumL A + sumL B + (A.length : Int) ≤ 16 := by
  unfold pofOk at h
  simp only [Bool.and_eq_true, decide_eq_true_eq] at h
  exact ⟨h.1.1.1, h.1.1.2, h.1.2, h.2⟩
def pre2 (A B : List Int) : Prop := dnB 16 A = true ∧ dnB 16 B = true ∧ A.length = B.length
theorem pofOk_pre {A B : List Int} (h : pofOk A B = true) : pre2 A B := ⟨(pofOk_out h).1, (pofOk_out h).2.1, (pofOk_out h).2.2.1⟩
theorem leg_anti (B : List Int) {j k : Nat} (h : j ≤ k) : leg B k ≤ leg B j := nb_mono _ fun i _ hi => by
  have := of_decide_eq_true hi
  exact decide_eq_true (by omega)
theorem leg_zero {B : List Int} (hB : dnB 16 B = true) {j : Nat} (h : B.getD 0 0 < j) : leg B j = 0 := by
  have : leg B j = min B.length 0 := nb_to _ fun i hi => ⟨fun hq => by
    have h1 := of_decide_eq_true hq
    have h2 := dn_gap hB i 0 (by omega) hi
    omega, fun hq => by omega⟩
  omega
theorem leg_le (B : List Int) (j : Nat) : leg B j ≤ B.length := nb_le _ _
theorem leg_pos {B : List Int} (h0 : 0 < B.length) {j : Nat} (h : (j : Int) ≤ B.getD 0 0) : 1 ≤ leg B j := by
  have e : nb (fun i => decide ((j : Int) ≤ B.getD i 0 + i)) 1 = 1 := by
    have e0 : (fun (i : Nat) => decide ((j : Int) ≤ B.getD i 0 + i)) 0 = true := decide_eq_true (by show (j : Int) ≤ B.getD 0 0 + ((0 : Nat) : Int); omega)
    show 0 + (if (fun (i : Nat) => decide ((j : Int) ≤ B.getD i 0 + i)) 0 = true then 1 else 0) = 1
    rw [if_pos e0]
  have : ∀ n, 1 ≤ n → 1 ≤ nb (fun i => decide ((j : Int) ≤ B.getD i 0 + i)) n := by
    intro n hn
    induction n with
    | zero => omega
    | succ n ih =>
      rcases Nat.eq_zero_or_pos n with h1 | h1
      · subst h1; exact Nat.le_of_eq e.symm
      · have := ih h1; simp only [nb]; split <;> omega
  exact this _ h0
theorem pofN_ge {A B : List Int} (h : pre2 A B) : A.length ≤ pofN A B ∧ pofN A B ≤ 16 := by
  obtain ⟨hA, hB, hl⟩ := id h
  unfold pofN
  split
  · omega
  · have h1 := dn_low hB 0 (by omega)
    have h2 := (dnB_iff 16 B).1 hB 0 (by omega)
    omega
theorem pof_pos {A B : List Int} (h : pre2 A B) {j : Nat} (hj : j < pofN A B) : 1 ≤ pofG A B j ∧ pofG A B j ≤ 32 := by
  obtain ⟨hA, hB, hl⟩ := id h
  have hN := pofN_ge h
  unfold pofG
  split
  · rename_i hj2
    have := (dnB_iff 16 A).1 hA j hj2
    omega
  · rename_i hj2
    unfold pofN at hj
    split at hj
    · omega
    · have h1 := leg_pos (B := B) (by omega) (j := j) (by omega)
      have h2 := leg_le B j
      omega
theorem pof_fall {A B : List Int} (h : pre2 A B) {j : Nat} (hj : j + 1 < pofN A B) : pofG A B (j + 1) ≤ pofG A B j := by
  obtain ⟨hA, hB, hl⟩ := id h
  unfold pofG
  by_cases h1 : j + 1 < A.length
  · rw [if_pos h1, if_pos (by omega)]
    have := dn_gap hA (j + 1) j (by omega) h1
    omega
  · rw [if_neg h1]
    by_cases h2 : j < A.length
    · rw [if_pos h2]
      have := (dnB_iff 16 A).1 hA j h2
      have h3 := leg_le B (j + 1)
      omega
    · rw [if_neg h2]
      have := leg_anti B (show j ≤ j + 1 by omega)
      omega
/-- what row i of the diagonal gives to row j -/
def ctr (A B : List Int) (i j : Nat) : Int := (if j = i then 1 + A.getD i 0 else 0) + (if i + 1 ≤ j ∧ (j : Int) ≤ i + B.getD i 0 then 1 else 0)
def fro (A B : List Int) : Nat → Nat → Int
  | 0, _ => 0
  | n + 1, j => fro A B n j + ctr A B n j
/-- the program's diagram, when n rows of the diagonal are done, the arm of the next (t) and k cells of its leg -/
def fmid (A B : List Int) (n : Nat) (t : Bool) (k : Nat) : List Int := (List.range 16).map fun j => fro A B n j + (if t = true ∧ j = n then 1 + A.getD n 0 else 0) + (if n + 1 ≤ j ∧ j < n + 1 + k then 1 else 0)
theorem fmid_len (A B : List Int) (n : Nat) (t : Bool) (k : Nat) : (fmid A B n t k).length = 16 := by simp [fmid]
theorem fmid_get (A B : List Int) (n : Nat) (t : Bool) (k j : Nat) (h : j < (fmid A B n t k).length) : (fmid A B n t k)[j] = fro A B n j + (if t = true ∧ j = n then 1 + A.getD n 0 else 0) + (if n + 1 ≤ j ∧ j < n + 1 + k then 1 else 0) := by simp [fmid]
theorem fmid_zero (A B : List Int) : fmid A B 0 false 0 = List.replicate 16 0 := by
  apply List.ext_getElem
  · rw [fmid_len]; rfl
  · intro j h1 h2
    rw [fmid_get, List.getElem_replicate]
    simp [fro]
    omega
theorem fmid_arm (A B : List Int) (n : Nat) : (fmid A B n false 0).set n (fro A B n n + (1 + A.getD n 0)) = fmid A B n true 0 := by
  apply List.ext_getElem
  · rw [List.length_set, fmid_len, fmid_len]
  · intro j h1 h2
    by_cases hj : n = j
    · subst hj
      rw [List.getElem_set_self, fmid_get, if_pos ⟨rfl, rfl⟩, if_neg (show ¬ (n + 1 ≤ n ∧ n < n + 1 + 0) by omega)]
      omega
    · rw [List.getElem_set_ne hj, fmid_get, fmid_get]
      have : ¬ j = n := fun e => hj e.symm
      simp [this]
theorem fmid_leg (A B : List Int) (n k : Nat) : (fmid A B n true k).set (n + 1 + k) (fro A B n (n + 1 + k) + 1) = fmid A B n true (k + 1) := by
  apply List.ext_getElem
  · rw [List.length_set, fmid_len, fmid_len]
  · intro j h1 h2
    by_cases hj : n + 1 + k = j
    · subst hj
      rw [List.getElem_set_self, fmid_get, if_neg (by omega), if_pos (by omega)]
      omega
    · rw [List.getElem_set_ne hj, fmid_get, fmid_get]
      congr 1
      by_cases h3 : n + 1 ≤ j ∧ j < n + 1 + k
      · rw [if_pos h3, if_pos (by omega)]
      · rw [if_neg h3, if_neg (by omega)]
theorem fmid_next (A B : List Int) (n k : Nat) (hk : (k : Int) = B.getD n 0) : fmid A B n true k = fmid A B (n + 1) false 0 := by
  apply List.ext_getElem
  · rw [fmid_len, fmid_len]
  · intro j h1 h2
    rw [fmid_get, fmid_get]
    simp only [fro, ctr, true_and, Bool.false_eq_true, false_and, if_false]
    rw [if_neg (by omega : ¬ (n + 1 + 1 ≤ j ∧ j < n + 1 + 1 + 0))]
    (repeat' split) <;> omega
theorem fro_eq (A B : List Int) (j : Nat) : ∀ n, fro A B n j = (if j < n then 1 + A.getD j 0 else 0) + (nb (fun i => decide (i + 1 ≤ j) && decide ((j : Int) ≤ i + B.getD i 0)) n : Nat) := by
  intro n
  induction n with
  | zero => rfl
  | succ n ih =>
    rw [fro, ih, ctr, nb]
    have e : (if n + 1 ≤ j ∧ (j : Int) ≤ n + B.getD n 0 then (1 : Int) else 0) = (((if (decide (n + 1 ≤ j) && decide ((j : Int) ≤ n + B.getD n 0)) = true then 1 else 0 : Nat)) : Int) := by
      by_cases hc : n + 1 ≤ j ∧ (j : Int) ≤ n + B.getD n 0
      · rw [if_pos hc, if_pos (by rw [decide_eq_true hc.1, decide_eq_true hc.2]; rfl)]; rfl
      · rw [if_neg hc, if_neg (by intro hq; rw [Bool.and_eq_true, decide_eq_true_eq, decide_eq_true_eq] at hq; exact hc hq)]; rfl
    rw [e]
    by_cases h1 : j = n
    · subst h1
      rw [if_pos rfl, if_neg (show ¬ j < j by omega), if_pos (show j < j + 1 by omega)]
      omega
    · rw [if_neg h1]
      by_cases h2 : j < n
      · rw [if_pos h2, if_pos (show j < n + 1 by omega)]; omega
      · rw [if_neg h2, if_neg (show ¬ j < n + 1 by omega)]; omega
theorem fro_bd {A B : List Int} (hA : dnB 16 A = true) {n j : Nat} (hn : n ≤ A.length) (hn16 : n ≤ 16) : 0 ≤ fro A B n j ∧ fro A B n j ≤ 40 := by
  rw [fro_eq]
  have := nb_le (fun i => decide (i + 1 ≤ j) && decide ((j : Int) ≤ i + B.getD i 0)) n
  split
  · rename_i h
    have := (dnB_iff 16 A).1 hA j (by omega)
    omega
  · omega
theorem fro_end {A B : List Int} (h : pre2 A B) (j : Nat) : fro A B A.length j = if j < pofN A B then pofG A B j else 0 := by
  obtain ⟨hA, hB, hl⟩ := id h
  have hN := pofN_ge h
  rw [fro_eq]
  by_cases h1 : j < A.length
  · rw [if_pos h1, if_pos (by omega), pofG, if_pos h1]
    have : nb (fun i => decide (i + 1 ≤ j) && decide ((j : Int) ≤ i + B.getD i 0)) A.length = min A.length j := nb_to _ fun i hi => by
      have := dn_low hB i (by omega)
      rw [Bool.and_eq_true, decide_eq_true_eq, decide_eq_true_eq]
      omega
    rw [this]
    omega
  · rw [if_neg h1]
    have e : nb (fun i => decide (i + 1 ≤ j) && decide ((j : Int) ≤ i + B.getD i 0)) A.length = leg B j := by
      unfold leg
      rw [← hl]
      have : ∀ n, n ≤ A.length → nb (fun i => decide (i + 1 ≤ j) && decide ((j : Int) ≤ i + B.getD i 0)) n = nb (fun i => decide ((j : Int) ≤ B.getD i 0 + i)) n := by
        intro n
        induction n with
        | zero => intro _; rfl
        | succ n ih =>
          intro hn
          rw [nb, nb, ih (by omega)]
          congr 1
          rw [decide_eq_true (by omega : n + 1 ≤ j), Bool.true_and, Int.add_comm]
      exact this _ (Nat.le_refl _)
    rw [e]
    by_cases h2 : j < pofN A B
    · rw [if_pos h2, pofG, if_neg h1]; omega
    · rw [if_neg h2]
      unfold pofN at h2
      split at h2
      · rename_i h0
        unfold leg
        rw [← hl, h0]
        rfl
      · have h5 := (dnB_iff 16 B).1 hB 0 (by omega)
        rw [leg_zero hB (by omega)]; omega
theorem fmid_end {A B : List Int} (h : pre2 A B) : fmid A B A.length false 0 = pad (pof A B) := by
  have hN := pofN_ge h
  have hl : (pof A B).length ≤ 16 := by rw [pof_len]; exact hN.2
  apply List.ext_getElem
  · rw [fmid_len, pad_len hl]
  · intro j h1 h2
    rw [fmid_get]
    have e := pad_getD hl j
    rw [getD_lt h2, pof_getD] at e
    rw [e, fro_end h]
    simp
    omega
/-- the sum of the program's diagram -/
theorem sumTo_ctr (A B : List Int) (i : Nat) (hi : i < 16) (hA : 0 ≤ B.getD i 0) (hB : i + B.getD i 0 ≤ 15) : ∀ n, (n : Nat) ≤ 16 → sumTo ((List.range 16).map fun j => ctr A B i j) n = (if i < n then 1 + A.getD i 0 else 0) + (if (n : Int) ≤ i + 1 then 0 else if (n : Int) ≤ i + 1 + B.getD i 0 then (n : Int) - (i + 1) else B.getD i 0) := by
  intro n
  induction n with
  | zero => intro _; simp [sumTo]; omega
  | succ n ih =>
    intro hn
    have e : ((List.range 16).map fun j => ctr A B i j).getD n 0 = ctr A B i n := by rw [getD_lt (by simp; omega)]; simp
    rw [sumTo, ih (by omega), e, ctr]
    (repeat' split) <;> omega
theorem sumTo_fro (A B : List Int) (m : Nat) : ∀ d, sumTo ((List.range 16).map fun j => fro A B (d + 1) j) m = sumTo ((List.range 16).map fun j => fro A B d j) m + sumTo ((List.range 16).map fun j => ctr A B d j) m := by
  intro d
  induction m with
  | zero => rfl
  | succ m ih =>
    rw [sumTo, sumTo, sumTo, ih]
    have e : ∀ (f : Nat → Int), ((List.range 16).map f).getD m 0 = if m < 16 then f m else 0 := fun f => by
      by_cases h : m < 16
      · rw [getD_lt (by simp; exact h), if_pos h]; simp
      · rw [getD_ge (by simp; omega), if_neg h]
    rw [e, e, e]
    split
    · rw [fro]; omega
    · omega
theorem pof_sum {A B : List Int} (h : pre2 A B) : sumL (pof A B) = sumL A + sumL B + A.length := by
  obtain ⟨hA, hB, hl⟩ := id h
  have hN := pofN_ge h
  have key : ∀ d, d ≤ A.length → sumTo ((List.range 16).map fun j => fro A B d j) 16 = sumTo A d + sumTo B d + d := by
    intro d
    induction d with
    | zero =>
      intro _
      have : ∀ n, sumTo ((List.range 16).map fun j => fro A B 0 j) n = 0 := by
        intro n
        induction n with
        | zero => rfl
        | succ n ih =>
          rw [sumTo, ih]
          rcases Nat.lt_or_ge n 16 with h | h
          · rw [getD_lt (by simp; exact h)]; simp [fro]
          · rw [getD_ge (by simp; omega)]; rfl
      rw [this]; rfl
    | succ d ih =>
      intro hd
      have h1 := (dnB_iff 16 B).1 hB d (by omega)
      have h2 := dn_gap hB d 0 (by omega) (by omega)
      have h3 := (dnB_iff 16 B).1 hB 0 (by omega)
      rw [sumTo_fro, ih (by omega), sumTo_ctr A B d (by omega) h1.1 (by omega) 16 (Nat.le_refl _), sumTo, sumTo]
      (repeat' split) <;> omega
  have e := key A.length (Nat.le_refl _)
  rw [sumTo_all A _ (Nat.le_refl _), sumTo_all B _ (by omega)] at e
  have e2 : ((List.range 16).map fun j => fro A B A.length j) = pad (pof A B) := by
    rw [← fmid_end h]
    unfold fmid
    apply List.map_congr_left
    intro j _
    simp
    omega
  rw [e2] at e
  have hl2 : (pof A B).length ≤ 16 := by rw [pof_len]; exact hN.2
  have e3 : sumTo (pad (pof A B)) 16 = sumTo (pof A B) 16 := by
    have : ∀ n, sumTo (pad (pof A B)) n = sumTo (pof A B) n := by
      intro n
      induction n with
      | zero => rfl
      | succ n ih => rw [sumTo, sumTo, ih, pad_getD hl2]
    exact this 16
  rw [e3, sumTo_all _ 16 hl2] at e
  exact e
theorem valid_pof {A B : List Int} (h0 : pofOk A B = true) : valid (pof A B) = true := by
  have h := pofOk_pre h0
  have hN := pofN_ge h
  have hs := pof_sum h
  have ho := (pofOk_out h0).2.2.2
  apply valid_of_preS _ (by omega)
  have hge : ∀ x ∈ pof A B, 0 ≤ x := fun x hx => by
    obtain ⟨k, hk, rfl⟩ := List.getElem_of_mem hx
    rw [← getD_lt hk, pof_getD]
    split
    · rename_i h1; have := pof_pos h h1; omega
    · omega
  intro j hj _
  have hj2 : j < pofN A B := by rw [pof_len] at hj; exact hj
  have hb := (elem_le_sum hge hj).1
  have e : (pof A B)[j] = pofG A B j := by rw [← getD_lt hj, pof_getD, if_pos hj2]
  have hp := pof_pos h hj2
  refine ⟨by omega, by omega, fun hj0 => ?_⟩
  have e2 : (pof A B)[j - 1]'(by omega) = pofG A B (j - 1) := by rw [← getD_lt (by omega), pof_getD, if_pos (by omega)]
  have := pof_fall h (j := j - 1) (by omega)
  rw [show j - 1 + 1 = j by omega] at this
  omega
def pofF (A B : List Int) : List Int := if pofOk A B then pof A B else []
theorem pofF_yes {A B : List Int} (h : pofOk A B = true) : pofF A B = pof A B := by simp [pofF, h]
theorem pofF_no {A B : List Int} (h : pofOk A B = false) : pofF A B = [] := by simp [pofF, h]
theorem pofF_len (A B : List Int) : (pofF A B).length ≤ 16 := by
  unfold pofF
  split
  · rename_i h; rw [pof_len]; exact (pofN_ge (pofOk_pre h)).2
  · simp
theorem conj_getD' {L : List Int} (h : valid L = true) (j : Nat) : (conj L).getD j 0 = cnt ((j : Int) + 1) L := by
  rcases Nat.lt_or_ge j (conj L).length with h1 | h1
  · rw [getD_lt h1, conj_get]
  · rw [getD_ge h1]
    rw [conj_len] at h1
    exact (cnt_none fun x hx => by have := head_ge h x hx; omega).symm
theorem dur_lt {L : List Int} {i : Nat} (h : i < durS L) : (i : Int) < L.getD i 0 := (durS_spec L).2.1 i h
theorem froA_dn {L : List Int} (hv : valid L = true) : dnB 16 (froA L) = true := by
  rw [dnB_iff]
  intro i hi
  unfold froA at hi ⊢
  rw [armsTo_len] at hi
  rw [armsTo_getD _ _ _ hi]
  have h1 := dur_lt hi
  have h2 := getD_nn hv i
  refine ⟨by omega, by omega, fun h0 => ?_⟩
  rw [armsTo_getD _ _ _ (by omega)]
  have := getD_fall hv i h0
  omega
theorem froA_conj {L : List Int} (hv : valid L = true) : froA (conj L) = froB L := by unfold froA froB; rw [durS_conj hv]
theorem froB_conj {L : List Int} (hv : valid L = true) : froB (conj L) = froA L := by unfold froA froB; rw [durS_conj hv, conj_conj hv]
theorem fro_pre {L : List Int} (hv : valid L = true) : pre2 (froA L) (froB L) :=
  ⟨froA_dn hv, by rw [← froA_conj hv]; exact froA_dn (valid_conj hv), by unfold froA froB; rw [armsTo_len, armsTo_len]⟩
theorem pof_fro {L : List Int} (hv : valid L = true) : pof (froA L) (froB L) = L := by
  have hA : (froA L).length = durS L := armsTo_len _ _
  have hB : (froB L).length = durS L := armsTo_len _ _
  have hds := durS_spec L
  have hlen : pofN (froA L) (froB L) = L.length := by
    unfold pofN
    rw [hA]
    have h0 := durS_pos hv
    split
    · omega
    · unfold froB
      rw [armsTo_getD _ _ _ (by omega)]
      have hc := head_conj hv
      have e : (conj L).getD 0 0 = (conj L).headD 0 := by cases conj L <;> rfl
      rw [e]
      have := headD_bd (valid_conj hv)
      omega
  apply List.ext_getElem
  · rw [pof_len, hlen]
  · intro j h1 h2
    rw [← getD_lt h1, ← getD_lt h2, pof_getD, if_pos (by omega), pofG, hA]
    by_cases hj : j < durS L
    · rw [if_pos hj]
      unfold froA
      rw [armsTo_getD _ _ _ hj]
      omega
    · rw [if_neg hj]
      have hle : L.getD j 0 ≤ durS L := by
        have h3 : L.getD j 0 ≤ L.getD (durS L) 0 := by
          rw [getD_lt h2, getD_lt (by omega)]
          exact falls_all hv j (durS L) h2 (by omega)
        have := hds.2.2
        omega
      have hnn := getD_nn hv j
      have : leg (froB L) j = min (durS L) (L.getD j 0).toNat := by
        unfold leg
        rw [hB]
        refine nb_to _ fun i hi => ?_
        have e : (froB L).getD i 0 = (conj L).getD i 0 - ((i : Int) + 1) := by unfold froB; exact armsTo_getD _ _ _ hi
        rw [decide_eq_true_eq, e, conj_getD' hv]
        have := cnt_ge_iff hv h2 ((i : Int) + 1)
        rw [getD_lt h2] at hnn ⊢
        omega
      rw [this]
      omega
theorem pofOk_fro {L : List Int} (hv : valid L = true) : pofOk (froA L) (froB L) = true := by
  have hp := fro_pre hv
  have hs := pof_sum hp
  rw [pof_fro hv] at hs
  have := (valid_bd hv).2.1
  unfold pofOk
  rw [hp.1, hp.2.1, decide_eq_true hp.2.2, decide_eq_true (by omega)]
  rfl
end NP
end Go.Proofs.Ytifhnjnpbpgjfaa
namespace Go.Proofs.Ytifhnjnpbpgjfaa
namespace NP
set_option linter.unusedVariables false
theorem nb_ge {q : Nat → Bool} {m : Nat} (n : Nat) (hm : m ≤ n) (h : ∀ i, i < m → q i = true) : m ≤ nb q n := by
  induction n with
  | zero => omega
  | succ n ih =>
    simp only [nb]
    rcases Nat.lt_or_ge n m with h1 | h1
    · have e := nb_all (q := q) n fun i hi => h i (by omega)
      rw [e, if_pos (h n h1)]; omega
    · have := ih h1
      omega
theorem nb_few {q : Nat → Bool} {m : Nat} (n : Nat) (h : ∀ i, i < n → q i = true → i < m) : nb q n ≤ m := by
  have key : nb q n ≤ nb (fun i => decide (i < m)) n := nb_mono n fun i hi hq => decide_eq_true (h i hi hq)
  have e : nb (fun i => decide (i < m)) n = min n m := nb_to n fun i _ => by simp
  omega
theorem pof_dur {A B : List Int} (h : pofOk A B = true) : durS (pof A B) = A.length := by
  have hp := pofOk_pre h
  have hN := pofN_ge hp
  refine durS_unique (fun j hj => ?_) ?_
  · rw [pof_getD, if_pos (by omega), pofG, if_pos hj]
    have := (dnB_iff 16 A).1 hp.1 j hj
    omega
  · rw [pof_getD]
    split
    · rw [pofG, if_neg (by omega)]
      have := leg_le B A.length
      have := hp.2.2
      omega
    · omega
theorem froA_pof {A B : List Int} (h : pofOk A B = true) : froA (pof A B) = A := by
  have hp := pofOk_pre h
  have hN := pofN_ge hp
  unfold froA
  rw [pof_dur h]
  apply List.ext_getElem
  · rw [armsTo_len]
  · intro j h1 h2
    rw [← getD_lt h1, ← getD_lt h2, armsTo_getD _ _ _ h2, pof_getD, if_pos (by omega), pofG, if_pos h2]
    omega
theorem cnt_pof {A B : List Int} (h : pofOk A B = true) {i : Nat} (hi : i < A.length) : cnt ((i : Int) + 1) (pof A B) = B.getD i 0 + i + 1 := by
  have hp := pofOk_pre h
  have hN := pofN_ge hp
  have hv := valid_pof h
  have hl := hp.2.2
  have hb := (dnB_iff 16 B).1 hp.2.1 i (by omega)
  have hlow := dn_low hp.2.1 i (by omega)
  have hgap := dn_gap hp.2.1 i 0 (by omega) (by omega)
  have hb0 := (dnB_iff 16 B).1 hp.2.1 0 (by omega)
  have hNe : (pofN A B : Int) = B.getD 0 0 + 1 := by unfold pofN; rw [if_neg (by omega)]; omega
  obtain ⟨m, hm⟩ : ∃ m : Nat, (m : Int) = B.getD i 0 + i + 1 := ⟨(B.getD i 0 + i + 1).toNat, by omega⟩
  have hmN : m ≤ pofN A B := by omega
  have hlen := pof_len A B
  have lo : (m : Int) ≤ cnt ((i : Int) + 1) (pof A B) := by
    have h1 : m - 1 < (pof A B).length := by omega
    have h2 := (cnt_ge_iff hv h1 ((i : Int) + 1)).2 (by
      rw [← getD_lt h1, pof_getD, if_pos (by omega), pofG]
      split
      · have := dn_low hp.1 (m - 1) (by omega)
        omega
      · have : i + 1 ≤ leg B (m - 1) := nb_ge _ (by omega) fun i' hi' => decide_eq_true (by
          have := dn_gap hp.2.1 i i' (by omega) (by omega)
          omega)
        omega)
    omega
  have hi' : cnt ((i : Int) + 1) (pof A B) ≤ m := by
    rcases Nat.lt_or_ge m (pofN A B) with h1 | h1
    · have h2 : m < (pof A B).length := by omega
      have h3 := cnt_ge_iff hv h2 ((i : Int) + 1)
      have h4 : ¬ ((i : Int) + 1 ≤ (pof A B)[m]) := by
        rw [← getD_lt h2, pof_getD, if_pos h1, pofG, if_neg (by omega)]
        have : leg B m ≤ i := nb_few _ fun i' hi' hq => by
          have hq' := of_decide_eq_true hq
          rcases Nat.lt_or_ge i' i with h5 | h5
          · exact h5
          · have := dn_gap hp.2.1 i' i h5 hi'
            omega
        omega
      have : ¬ ((m : Int) + 1 ≤ cnt ((i : Int) + 1) (pof A B)) := fun hc => h4 (h3.1 hc)
      omega
    · have := (cnt_bd ((i : Int) + 1) (pof A B)).2
      omega
  omega
theorem froB_pof {A B : List Int} (h : pofOk A B = true) : froB (pof A B) = B := by
  have hp := pofOk_pre h
  unfold froB
  rw [pof_dur h]
  apply List.ext_getElem
  · rw [armsTo_len]; exact hp.2.2
  · intro j h1 h2
    have hj : j < A.length := by rw [armsTo_len] at h1; exact h1
    rw [← getD_lt h1, ← getD_lt h2, armsTo_getD _ _ _ hj, conj_getD' (valid_pof h), cnt_pof h hj]
    omega
end NP
end Go.Proofs.Ytifhnjnpbpgjfaa
namespace Go.Proofs.Ytifhnjnpbpgjfaa
namespace NP
set_option linter.unusedVariables false
def allTo (p : Nat → Bool) (n : Nat) : Bool := (List.range n).all p
theorem allTo_iff (p : Nat → Bool) (n : Nat) : allTo p n = true ↔ ∀ j, j < n → p j = true := by simp [allTo]
theorem allTo_no {p : Nat → Bool} {n j : Nat} (hj : j < n) (h : p j = false) : allTo p n = false := by
  cases e : allTo p n with
  | false => rfl
  | true => rw [(allTo_iff p n).1 e j hj] at h; exact h
theorem allTo_yes {p : Nat → Bool} {n : Nat} (h : ∀ j, j < n → p j = true) : allTo p n = true := (allTo_iff p n).2 h

def kRem (m r : Int) (L : List Int) : Bool := allTo (fun j => L.getD j 0 % m == r || L.getD j 0 % m == m - r) L.length
def kFall (s t : Int) (L : List Int) : Bool := allTo (fun j => decide ((if L.getD j 0 % 3 = 0 then t else s) ≤ L.getD j 0 - L.getD (j + 1) 0)) (L.length - 1)
def kSelf (L : List Int) : Bool := decide (L = conj L)
def kNoOne (L : List Int) : Bool := allTo (fun j => decide (L.getD j 0 ≠ 1)) L.length
def kNone (m : Nat) (L : List Int) : Bool := allTo (fun j => decide (L.getD j 0 ≠ L.getD (j + (m - 1)) 0)) (L.length - (m - 1))

/-- a stair -/
def stairs (s : Nat) : List Int := (List.range s).map fun (i : Nat) => (s : Int) - (i : Int)
theorem stairs_len (s : Nat) : (stairs s).length = s := by simp [stairs]
theorem stairs_getD (s i : Nat) : (stairs s).getD i 0 = if i < s then (s : Int) - (i : Int) else 0 := by
  unfold stairs
  rw [List.getD_eq_getElem?_getD, List.getElem?_map]
  by_cases h : i < s
  · rw [List.getElem?_range h, if_pos h]; rfl
  · rw [List.getElem?_eq_none (by simp; omega), if_neg h]; rfl
theorem stairs_sum {s : Nat} (h : s ≤ 16) : sumL (stairs s) = (s : Int) * ((s : Int) + 1) / 2 := by
  have : ∀ s : Nat, s < 17 → sumL (stairs s) = (s : Int) * ((s : Int) + 1) / 2 := by decide +kernel
  exact this s (by omega)
theorem stairs_mul {s : Nat} (h : s ≤ 16) : 0 ≤ (s : Int) * ((s : Int) + 1) ∧ (s : Int) * ((s : Int) + 1) ≤ 272 := by
  have : ∀ s : Nat, s < 17 → 0 ≤ (s : Int) * ((s : Int) + 1) ∧ (s : Int) * ((s : Int) + 1) ≤ 272 := by decide +kernel
  exact this s (by omega)
theorem stairs_five {s : Nat} (h : s ≤ 16) (h2 : (s : Int) * ((s : Int) + 1) / 2 ≤ 16) : s ≤ 5 := by
  have : ∀ s : Nat, s < 17 → (s : Int) * ((s : Int) + 1) / 2 ≤ 16 → s ≤ 5 := by decide +kernel
  exact this s (by omega) h2
theorem stairs_valid {s : Nat} (h : s ≤ 5) : valid (stairs s) = true := by
  have : ∀ s : Nat, s < 6 → valid (stairs s) = true := by decide +kernel
  exact this s (by omega)
def stOk (P : List Int) (k : Int) : Bool := valid P && decide ((P.length : Int) ≤ k) && decide (k ≤ 16) && decide (sumL P + k * (k + 1) / 2 ≤ 16)
def stPut (P : List Int) (k : Int) : List Int := adp P (stairs k.toNat)
def stPutF (P : List Int) (k : Int) : List Int := if stOk P k then stPut P k else []
theorem stPutF_yes {P : List Int} {k : Int} (h : stOk P k = true) : stPutF P k = stPut P k := by simp [stPutF, h]
theorem stPutF_no {P : List Int} {k : Int} (h : stOk P k = false) : stPutF P k = [] := by simp [stPutF, h]
theorem stOk_iff (P : List Int) (k : Int) : stOk P k = true ↔ valid P = true ∧ (P.length : Int) ≤ k ∧ k ≤ 16 ∧ sumL P + k * (k + 1) / 2 ≤ 16 := by
  unfold stOk; simp only [Bool.and_eq_true, decide_eq_true_eq, and_assoc]
theorem st_put {P : List Int} {s : Nat} (h : stOk P s = true) : s ≤ 5 ∧ two P (stairs s) = true ∧ valid (stPut P s) = true ∧ stPut P s = adp P (stairs s) := by
  obtain ⟨hv, hl, h16, hs⟩ := (stOk_iff _ _).1 h
  have hb := valid_bd hv
  have h5 : s ≤ 5 := stairs_five (by omega) (by omega)
  have ht : two P (stairs s) = true := by
    unfold two
    rw [hv, stairs_valid h5, stairs_sum (by omega)]
    simp only [Bool.and_self, Bool.true_and, decide_eq_true_eq]
    exact hs
  have he : stPut P s = adp P (stairs s) := by unfold stPut; rw [Int.toNat_natCast]
  exact ⟨h5, ht, he ▸ valid_adp ht, he⟩
theorem stPutF_len (P : List Int) (k : Int) : (stPutF P k).length ≤ 16 := by
  unfold stPutF
  split
  · rename_i h
    have h1 := (stOk_iff _ _).1 h
    obtain ⟨s, rfl⟩ := Int.eq_ofNat_of_zero_le (show 0 ≤ k by omega)
    exact (valid_bd (st_put h).2.2.1).2.2.2
  · simp

/-- what is left on a stair -/
def stT (L : List Int) (k : Nat) : List Int := ((List.range k).filter fun (i : Nat) => decide (0 < L.getD i 0 - ((L.length : Int) - (i : Int)))).map fun (i : Nat) => L.getD i 0 - ((L.length : Int) - (i : Int))
theorem stT_succ (L : List Int) (k : Nat) : stT L (k + 1) = stT L k ++ if 0 < L.getD k 0 - ((L.length : Int) - (k : Int)) then [L.getD k 0 - ((L.length : Int) - (k : Int))] else [] := by
  unfold stT
  rw [List.range_succ, List.filter_append, List.map_append]
  obtain ⟨f, hf⟩ : ∃ f : Nat → Int, ∀ i, L.getD i 0 - ((L.length : Int) - (i : Int)) = f i := ⟨_, fun _ => rfl⟩
  simp only [hf]
  congr 1
  by_cases h : 0 < f k <;> simp [h]
theorem stT_len (L : List Int) (k : Nat) : (stT L k).length ≤ k := by
  unfold stT
  rw [List.length_map]
  exact Nat.le_trans (List.length_filter_le _ _) (by simp)
def stCut (L : List Int) : List Int := stT L L.length
def stArr (L : List Int) : List Int := (List.range 16).map fun (j : Nat) => if j < L.length then L.getD j 0 - ((L.length : Int) - (j : Int)) else 0
def dis (L : List Int) : Bool := valid L && kFall 1 1 L
theorem dis_iff (L : List Int) : dis L = true ↔ valid L = true ∧ kFall 1 1 L = true := by unfold dis; simp
def stCutF (L : List Int) : List Int := if dis L then stCut L else []
theorem stCutF_yes {L : List Int} (h : dis L = true) : stCutF L = stCut L := by simp [stCutF, h]
theorem stCutF_no {L : List Int} (h : dis L = false) : stCutF L = [] := by simp [stCutF, h]
def stN (L : List Int) : Int := if dis L then (L.length : Int) else 0
theorem stN_yes {L : List Int} (h : dis L = true) : stN L = (L.length : Int) := by simp [stN, h]
theorem stN_no {L : List Int} (h : dis L = false) : stN L = 0 := by simp [stN, h]
def stTab (N : List Nat) : Bool :=
  let L := N.map Int.ofNat
  !kFall 1 1 L || valid (stCut L) && decide (pad (stCut L) = stArr L) && stOk (stCut L) L.length && decide (stPut (stCut L) L.length = L) && decide (L.length ≤ 5)
set_option maxRecDepth 100000 in
theorem stTab_all : all16.all stTab = true := by decide +kernel
theorem st_facts {L : List Int} (h : dis L = true) : valid (stCut L) = true ∧ pad (stCut L) = stArr L ∧ stOk (stCut L) L.length = true ∧ stPut (stCut L) L.length = L ∧ L.length ≤ 5 := by
  obtain ⟨hv, hk⟩ := (dis_iff L).1 h
  obtain ⟨N, hN, rfl⟩ := of_all stTab_all hv
  simp only [stTab, Bool.or_eq_true, Bool.and_eq_true, decide_eq_true_eq, hk, Bool.not_true, Bool.false_eq_true, false_or] at hN
  obtain ⟨⟨⟨⟨h1, h2⟩, h3⟩, h4⟩, h5⟩ := hN
  exact ⟨h1, h2, h3, h4, h5⟩
theorem stCutF_len (L : List Int) : (stCutF L).length ≤ 16 := by
  unfold stCutF
  split
  · rename_i h; exact (valid_bd (st_facts h).1).2.2.2
  · simp
def stTab2 (N : List Nat) : Bool :=
  let P := N.map Int.ofNat
  (List.range 6).all fun s => !stOk P s || dis (stPut P s) && decide (stCut (stPut P s) = P) && decide ((stPut P s).length = s)
set_option maxRecDepth 100000 in
theorem stTab2_all : all16.all stTab2 = true := by decide +kernel
theorem st_back {P : List Int} {s : Nat} (h : stOk P s = true) : dis (stPut P s) = true ∧ stCut (stPut P s) = P ∧ (stPut P s).length = s := by
  obtain ⟨hv, -, -, -⟩ := (stOk_iff _ _).1 h
  have h5 := (st_put h).1
  obtain ⟨N, hN, rfl⟩ := of_all stTab2_all hv
  have hs := List.all_eq_true.1 hN s (by simp; omega)
  simp only [Bool.or_eq_true, Bool.and_eq_true, decide_eq_true_eq, h, Bool.not_true, Bool.false_eq_true, false_or] at hs
  exact ⟨hs.1.1, hs.1.2, hs.2⟩

/-- hooks of the diagonal of own conjugates -/
def h2o (L : List Int) : List Int := (froA L).map fun a => a + 1 + a
def slf (L : List Int) : Bool := valid L && kSelf L
theorem slf_iff (L : List Int) : slf L = true ↔ valid L = true ∧ kSelf L = true := by unfold slf; simp
def h2oF (L : List Int) : List Int := if slf L then h2o L else []
theorem h2oF_yes {L : List Int} (h : slf L = true) : h2oF L = h2o L := by simp [h2oF, h]
theorem h2oF_no {L : List Int} (h : slf L = false) : h2oF L = [] := by simp [h2oF, h]
def halves (P : List Int) : List Int := P.map fun x => x / 2
def o2h (P : List Int) : List Int := pof (halves P) (halves P)
def dod (L : List Int) : Bool := valid L && (kRem 2 1 L && kFall 1 1 L)
theorem dod_iff (L : List Int) : dod L = true ↔ valid L = true ∧ kRem 2 1 L = true ∧ kFall 1 1 L = true := by unfold dod; simp
def o2hF (L : List Int) : List Int := if dod L then o2h L else []
theorem o2hF_yes {L : List Int} (h : dod L = true) : o2hF L = o2h L := by simp [o2hF, h]
theorem o2hF_no {L : List Int} (h : dod L = false) : o2hF L = [] := by simp [o2hF, h]
def hoTab (N : List Nat) : Bool :=
  let L := N.map Int.ofNat
  (!kSelf L || dod (h2o L) && decide (o2h (h2o L) = L) && decide ((h2o L).length = durS L) && decide (sumL (h2o L) = sumL L)) &&
  (!(kRem 2 1 L && kFall 1 1 L) || pofOk (halves L) (halves L) && slf (o2h L) && decide (h2o (o2h L) = L))
set_option maxRecDepth 100000 in
theorem hoTab_all : all16.all hoTab = true := by decide +kernel
theorem h2o_facts {L : List Int} (h : slf L = true) : dod (h2o L) = true ∧ o2h (h2o L) = L ∧ (h2o L).length = durS L ∧ sumL (h2o L) = sumL L := by
  obtain ⟨hv, hk⟩ := (slf_iff L).1 h
  obtain ⟨N, hN, rfl⟩ := of_all hoTab_all hv
  simp only [hoTab, Bool.or_eq_true, Bool.and_eq_true, decide_eq_true_eq, hk, Bool.not_true, Bool.false_eq_true, false_or] at hN
  exact ⟨hN.1.1.1.1, hN.1.1.1.2, hN.1.1.2, hN.1.2⟩
theorem o2h_facts {L : List Int} (h : dod L = true) : pofOk (halves L) (halves L) = true ∧ slf (o2h L) = true ∧ h2o (o2h L) = L := by
  obtain ⟨hv, hk1, hk2⟩ := (dod_iff L).1 h
  obtain ⟨N, hN, rfl⟩ := of_all hoTab_all hv
  simp only [hoTab, Bool.or_eq_true, Bool.and_eq_true, decide_eq_true_eq, hk1, hk2, Bool.and_self, Bool.not_true, Bool.false_eq_true, false_or] at hN
  exact ⟨hN.2.1.1, hN.2.1.2, hN.2.2⟩
theorem h2oF_len (L : List Int) : (h2oF L).length ≤ 16 := by
  unfold h2oF
  split
  · rename_i h; exact (valid_bd ((dod_iff _).1 (h2o_facts h).1).1).2.2.2
  · simp
theorem o2hF_len (L : List Int) : (o2hF L).length ≤ 16 := by
  unfold o2hF
  split
  · rename_i h; exact (valid_bd ((slf_iff _).1 (o2h_facts h).2.1).1).2.2.2
  · simp

/-- Franklin's map -/
def slp (L : List Int) : Nat := ff (fun n => decide (L.getD n 0 = L.getD 0 0 - (n : Int))) L.length
def lastP (L : List Int) : Int := L.getD (L.length - 1) 0
def frA (L : List Int) : List Int := (List.range (L.length - 1)).map fun (j : Nat) => L.getD j 0 + if (j : Int) < lastP L then 1 else 0
def frB (L : List Int) : List Int := ((List.range L.length).map fun (j : Nat) => L.getD j 0 - if j < slp L then 1 else 0) ++ [(slp L : Int)]
def fr (L : List Int) : List Int := if lastP L ≤ (slp L : Int) then frA L else frB L
def mayS (L : List Int) : Bool := decide (0 < L.length) && (decide (slp L < L.length) || (decide (lastP L ≠ (L.length : Int)) && decide (lastP L ≠ (L.length : Int) + 1)))
def frOk (L : List Int) : Bool := valid L && (kFall 1 1 L && mayS L)
theorem frOk_iff (L : List Int) : frOk L = true ↔ valid L = true ∧ kFall 1 1 L = true ∧ mayS L = true := by unfold frOk; simp
def frF (L : List Int) : List Int := if frOk L then fr L else []
theorem frF_yes {L : List Int} (h : frOk L = true) : frF L = fr L := by simp [frF, h]
theorem frF_no {L : List Int} (h : frOk L = false) : frF L = [] := by simp [frF, h]
def frTab (N : List Nat) : Bool :=
  let L := N.map Int.ofNat
  !(kFall 1 1 L && mayS L) || frOk (fr L) && decide (fr (fr L) = L) && decide (sumL (fr L) = sumL L) && (decide ((fr L).length = L.length + 1) || decide ((fr L).length + 1 = L.length)) &&
   decide (slp L ≤ L.length) && decide (1 ≤ lastP L) && decide (L.length ≤ 5) && (!decide (lastP L ≤ (slp L : Int)) || decide (lastP L ≤ (L.length : Int) - 1))
set_option maxRecDepth 100000 in
theorem frTab_all : all16.all frTab = true := by decide +kernel
theorem fr_facts {L : List Int} (h : frOk L = true) : frOk (fr L) = true ∧ fr (fr L) = L ∧ sumL (fr L) = sumL L ∧ ((fr L).length = L.length + 1 ∨ (fr L).length + 1 = L.length) ∧ slp L ≤ L.length ∧ 1 ≤ lastP L ∧ L.length ≤ 5 ∧ (lastP L ≤ (slp L : Int) → lastP L ≤ (L.length : Int) - 1) := by
  obtain ⟨hv, hk1, hk2⟩ := (frOk_iff L).1 h
  obtain ⟨N, hN, rfl⟩ := of_all frTab_all hv
  simp only [frTab, Bool.or_eq_true, Bool.and_eq_true, decide_eq_true_eq, hk1, hk2, Bool.and_self, Bool.not_true, Bool.false_eq_true, false_or] at hN
  obtain ⟨⟨⟨⟨⟨⟨⟨h1, h2⟩, h3⟩, h4⟩, h5⟩, h6⟩, h7⟩, h8⟩ := hN
  exact ⟨h1, h2, h3, h4, h5, h6, h7, fun hc => by simpa [hc] using h8⟩
theorem frF_len (L : List Int) : (frF L).length ≤ 16 := by
  unfold frF
  split
  · rename_i h; exact (valid_bd ((frOk_iff _).1 (fr_facts h).1).1).2.2.2
  · simp
end NP
end Go.Proofs.Ytifhnjnpbpgjfaa
namespace Go.Proofs.Ytifhnjnpbpgjfaa
open Go.RowKit
theorem run_eqItems_arr {P : Program} {e : TypeId} (he : P.underlying e = some (.int .i64)) (hp : P.plainKey e = true) (d : Nat) (D E : List Int) (w : World) :
    ∀ l : List Nat, (∀ k ∈ l, k < D.length ∧ k < E.length) → (Op.eqItems (d + 1) e 1 (arr D) (arr E) l).run P w = .ok (l.all fun k => D.getD k 0 == E.getD k 0) w
  | [], _ => by simp [Op.eqItems]
  | k :: l, h => by
    obtain ⟨h1, h2⟩ := h k (by simp)
    have ih := run_eqItems_arr he hp d D E w l fun j hj => h j (by simp [hj])
    have p1 : (part e (arr D) (k * 1)).run P w = .ok (.int .i64 D[k]) w := run_part_plain w hp (by rw [Nat.mul_one]; exact arr_get D k h1)
    have p2 : (part e (arr E) (k * 1)).run P w = .ok (.int .i64 E[k]) w := run_part_plain w hp (by rw [Nat.mul_one]; exact arr_get E k h2)
    have p3 := run_equalIn_int (P := P) w d e .i64 .i64 D[k] E[k] he
    have g1 : D.getD k 0 = D[k] := by rw [List.getD_eq_getElem?_getD, List.getElem?_eq_getElem h1]; rfl
    have g2 : E.getD k 0 = E[k] := by rw [List.getD_eq_getElem?_getD, List.getElem?_eq_getElem h2]; rfl
    simp only [Op.eqItems, Sem.run_bind, p1, p2, p3, Result.andThen_ok, List.all_cons, g1, g2]
    cases hq : (D[k] == E[k])
    · simp
    · simpa using ih
theorem all_getD_eq {D E : List Int} (h : D.length = E.length) : ((List.range D.length).all fun k => D.getD k 0 == E.getD k 0) = decide (D = E) := by
  rw [Bool.eq_iff_iff, List.all_eq_true, decide_eq_true_eq]
  constructor
  · intro hh
    apply List.ext_getElem h
    intro i h1 h2
    have := hh i (by simpa using h1)
    rw [List.getD_eq_getElem?_getD, List.getElem?_eq_getElem h1, List.getD_eq_getElem?_getD, List.getElem?_eq_getElem h2] at this
    simpa using this
  · rintro rfl k _
    simp
theorem run_equal_arr {P : Program} {t e : TypeId} {n : Nat} {i : TypeInfo} (ht : P.underlying t = some (.array n e)) (he : P.underlying e = some (.int .i64)) (hp : P.plainKey e = true) (hi : P.info? e = some i) (hc : P.cellsOf e = 1) (D E : List Int) (hD : D.length = n) (hE : E.length = n) (w : World) :
    (Op.equalIn 10000 t (.agg (arr D)) (.agg (arr E))).run P w = .ok (decide (D = E)) w := by
  rw [show (10000 : Nat) = 9998 + 1 + 1 from rfl, run_equalIn_array w (9998 + 1) (arr D) (arr E) ht hi, hc, run_eqItems_arr he hp 9998 D E w _ (fun k hk => by simp at hk; omega), ← hD, all_getD_eq (by omega)]
end Go.Proofs.Ytifhnjnpbpgjfaa
namespace Go.Proofs.Ytifhnjnpbpgjfaa
namespace NP
set_option linter.unusedVariables false
/-- the first n values that are above 0 -/
def tr (f : Nat → Int) (n : Nat) : List Int := ((List.range n).map f).filter fun x => decide (0 < x)
def sf (f : Nat → Int) : Nat → Int
  | 0 => 0
  | n + 1 => sf f n + f n
theorem tr_succ (f : Nat → Int) (n : Nat) : tr f (n + 1) = tr f n ++ if 0 < f n then [f n] else [] := by
  unfold tr
  rw [List.range_succ, List.map_append, List.filter_append]
  congr 1
  simp only [List.map_cons, List.map_nil, List.filter_cons, List.filter_nil, decide_eq_true_eq]
theorem tr_len (f : Nat → Int) (n : Nat) : (tr f n).length ≤ n := by
  have h := List.length_filter_le (fun x => decide (0 < x)) ((List.range n).map f)
  simpa [tr] using h
theorem tr_full {f : Nat → Int} {n : Nat} (h : ∀ i, i < n → 0 < f i) : tr f n = (List.range n).map f := by
  unfold tr
  rw [List.filter_eq_self]
  intro x hx
  simp only [List.mem_map, List.mem_range] at hx
  obtain ⟨i, hi, rfl⟩ := hx
  simpa using h i hi
theorem map_getD (f : Nat → Int) (n j : Nat) : ((List.range n).map f).getD j 0 = if j < n then f j else 0 := by
  by_cases h : j < n
  · rw [if_pos h, List.getD_eq_getElem?_getD, List.getElem?_eq_getElem (by simpa using h)]
    simp
  · rw [if_neg h, List.getD_eq_getElem?_getD, List.getElem?_eq_none (by simp; omega)]
    rfl
theorem fall_le {f : Nat → Int} (hf : ∀ i, f (i + 1) ≤ f i) {i j : Nat} (h : i ≤ j) : f j ≤ f i := by
  induction j with
  | zero => obtain rfl : i = 0 := by omega
            exact Int.le_refl _
  | succ j ih =>
    by_cases e : i = j + 1
    · rw [e]; exact Int.le_refl _
    · exact Int.le_trans (hf j) (ih (by omega))
theorem tr_getD {f : Nat → Int} (hf : ∀ i, f (i + 1) ≤ f i) (h0 : ∀ i, 0 ≤ f i) (n j : Nat) : (tr f n).getD j 0 = if j < n then f j else 0 := by
  induction n with
  | zero => rfl
  | succ n ih =>
    by_cases h : 0 < f n
    · rw [tr_full (fun i hi => Int.lt_of_lt_of_le h (fall_le hf (by omega))), map_getD]
    · rw [tr_succ, if_neg h, List.append_nil, ih]
      have := h0 n
      by_cases h1 : j < n
      · rw [if_pos h1, if_pos (by omega)]
      · rw [if_neg h1]
        by_cases h2 : j = n
        · subst h2; rw [if_pos (by omega)]; omega
        · rw [if_neg (by omega)]
theorem tr_pos {f : Nat → Int} {n : Nat} {x : Int} (h : x ∈ tr f n) : 0 < x := by
  unfold tr at h
  rw [List.mem_filter] at h
  simpa using h.2
theorem sum_tr {f : Nat → Int} (h0 : ∀ i, 0 ≤ f i) (n : Nat) : sumL (tr f n) = sf f n := by
  induction n with
  | zero => rfl
  | succ n ih =>
    rw [tr_succ, sumL_append, ih, sf]
    have := h0 n
    by_cases h : 0 < f n
    · rw [if_pos h]; simp [sumL]
    · rw [if_neg h]; simp [sumL]; omega
theorem sf_le {f : Nat → Int} (h0 : ∀ i, 0 ≤ f i) {i n : Nat} (h : i < n) : f i ≤ sf f n ∧ 0 ≤ sf f n := by
  induction n with
  | zero => omega
  | succ n ih =>
    have h1 := h0 n
    have hn : 0 ≤ sf f n := by
      clear ih h h1
      induction n with
      | zero => exact Int.le_refl _
      | succ n ih => have := h0 n; rw [sf]; omega
    rw [sf]
    by_cases e : i = n
    · subst e; omega
    · have := ih (by omega); omega
theorem valid_tr {f : Nat → Int} (hf : ∀ i, f (i + 1) ≤ f i) (h0 : ∀ i, 0 ≤ f i) {n : Nat} (hs : sf f n ≤ 16) : valid (tr f n) = true := by
  apply valid_of_preS
  · intro j hj _
    have e := tr_getD hf h0 n j
    have hp := tr_pos (List.getElem_mem hj)
    rw [getD_lt hj] at e
    have hjn : j < n := by have := tr_len f n; omega
    rw [if_pos hjn] at e
    have hb := sf_le h0 hjn
    refine ⟨by omega, by omega, fun h1 => ?_⟩
    have e2 := tr_getD hf h0 n (j - 1)
    rw [getD_lt (by omega), if_pos (by omega)] at e2
    have := hf (j - 1)
    rw [show j - 1 + 1 = j by omega] at this
    omega
  · rw [sum_tr h0]; exact hs
theorem pad_tr {f : Nat → Int} (hf : ∀ i, f (i + 1) ≤ f i) (h0 : ∀ i, 0 ≤ f i) : pad (tr f 16) = (List.range 16).map f := by
  have hl := tr_len f 16
  apply List.ext_getElem
  · rw [pad_len hl]; simp
  · intro j h1 h2
    have e := pad_getD hl j
    rw [getD_lt h1, tr_getD hf h0] at e
    simp at h2
    rw [e, if_pos h2]
    simp
theorem tr_more {f : Nat → Int} {n m : Nat} (h : n ≤ m) (hz : ∀ i, n ≤ i → f i = 0) : tr f m = tr f n := by
  induction m with
  | zero => obtain rfl : n = 0 := by omega
            rfl
  | succ m ih =>
    by_cases e : n = m + 1
    · rw [e]
    · rw [tr_succ, ih (by omega), hz m (by omega), if_neg (by omega), List.append_nil]
theorem tr_self {L : List Int} (hv : valid L = true) {n : Nat} (h : L.length ≤ n) : tr (fun i => L.getD i 0) n = L := by
  rw [tr_more h (fun i hi => getD_ge hi), tr_full (fun i hi => by have := getD_pos hv hi; omega)]
  apply List.ext_getElem
  · simp
  · intro j h1 h2
    rw [List.getElem_map, List.getElem_range, getD_lt h2]
theorem tr_congr {f g : Nat → Int} {n : Nat} (h : ∀ i, i < n → f i = g i) : tr f n = tr g n := by
  unfold tr
  rw [List.map_congr_left fun i hi => h i (by simpa using hi)]
theorem getD_fall' {L : List Int} (hv : valid L = true) (i : Nat) : L.getD (i + 1) 0 ≤ L.getD i 0 := getD_fall hv (i + 1) (by omega)

/-! what both have, and what has both -/
def lo2 (P Q : List Int) (i : Nat) : Int := min (P.getD i 0) (Q.getD i 0)
def hi2 (P Q : List Int) (i : Nat) : Int := max (P.getD i 0) (Q.getD i 0)
def cutL (P Q : List Int) : List Int := tr (lo2 P Q) 16
def cutH (P Q : List Int) : List Int := tr (hi2 P Q) 16
section
variable {P Q : List Int}
theorem lo2_fall (hp : valid P = true) (hq : valid Q = true) (i : Nat) : lo2 P Q (i + 1) ≤ lo2 P Q i := by
  have := getD_fall' hp i; have := getD_fall' hq i; unfold lo2; omega
theorem hi2_fall (hp : valid P = true) (hq : valid Q = true) (i : Nat) : hi2 P Q (i + 1) ≤ hi2 P Q i := by
  have := getD_fall' hp i; have := getD_fall' hq i; unfold hi2; omega
theorem lo2_nn (hp : valid P = true) (hq : valid Q = true) (i : Nat) : 0 ≤ lo2 P Q i := by
  have := getD_nn hp i; have := getD_nn hq i; unfold lo2; omega
theorem hi2_nn (hp : valid P = true) (hq : valid Q = true) (i : Nat) : 0 ≤ hi2 P Q i := by
  have := getD_nn hp i; have := getD_nn hq i; unfold hi2; omega
theorem sf_sumTo (L : List Int) (n : Nat) : sf (fun i => L.getD i 0) n = sumTo L n := by
  induction n with
  | zero => rfl
  | succ n ih => rw [sf, sumTo, ih]
theorem sf_cut (P Q : List Int) (n : Nat) : sf (lo2 P Q) n + sf (hi2 P Q) n = sumTo P n + sumTo Q n := by
  induction n with
  | zero => rfl
  | succ n ih => rw [sf, sf, sumTo, sumTo]; unfold lo2 hi2 at *; omega
theorem sf_lo_le (hp : valid P = true) (hq : valid Q = true) (n : Nat) : sf (lo2 P Q) n ≤ sumTo P n := by
  induction n with
  | zero => exact Int.le_refl _
  | succ n ih => rw [sf, sumTo]; have : lo2 P Q n ≤ P.getD n 0 := by unfold lo2; omega
                 omega
end
/-- the cut rows fit -/
def cutOk (P Q : List Int) : Bool := valid P && valid Q && decide (sf (hi2 P Q) 16 ≤ 16)
def cutLF (P Q : List Int) : List Int := if cutOk P Q then cutL P Q else []
def cutHF (P Q : List Int) : List Int := if cutOk P Q then cutH P Q else []
theorem cutOk_out {P Q : List Int} (h : cutOk P Q = true) : valid P = true ∧ valid Q = true ∧ sf (hi2 P Q) 16 ≤ 16 := by
  unfold cutOk at h
  simp only [Bool.and_eq_true, decide_eq_true_eq] at h
  exact ⟨h.1.1, h.1.2, h.2⟩
theorem valid_cutL {P Q : List Int} (hp : valid P = true) (hq : valid Q = true) : valid (cutL P Q) = true := by
  have h1 := sf_lo_le hp hq 16
  rw [sumTo_all P 16 (valid_bd hp).2.2.2] at h1
  exact valid_tr (lo2_fall hp hq) (lo2_nn hp hq) (by have := (valid_bd hp).2.1; omega)
theorem valid_cutH {P Q : List Int} (h : cutOk P Q = true) : valid (cutH P Q) = true := by
  obtain ⟨hp, hq, hs⟩ := cutOk_out h
  exact valid_tr (hi2_fall hp hq) (hi2_nn hp hq) hs

/-- are the rows of Q inside of those of P -/
def ins (P Q : List Int) : Bool := valid P && valid Q && (List.range 16).all fun i => decide (Q.getD i 0 ≤ P.getD i 0)
theorem ins_iff {P Q : List Int} : ins P Q = true ↔ valid P = true ∧ valid Q = true ∧ ∀ i, Q.getD i 0 ≤ P.getD i 0 := by
  unfold ins
  simp only [Bool.and_eq_true, List.all_eq_true, List.mem_range, decide_eq_true_eq]
  constructor
  · rintro ⟨⟨hp, hq⟩, h⟩
    refine ⟨hp, hq, fun i => ?_⟩
    rcases Nat.lt_or_ge i 16 with hi | hi
    · exact h i hi
    · rw [getD_ge (Nat.le_trans (valid_bd hq).2.2.2 hi)]; exact (getD_nn hp i).1
  · rintro ⟨hp, hq, h⟩
    exact ⟨⟨hp, hq⟩, fun i _ => h i⟩

/-! first sums -/
def mf (P Q : List Int) (k : Nat) : Int := min (sumTo P k) (sumTo Q k)
def mi (P Q : List Int) (i : Nat) : Int := mf P Q (i + 1) - mf P Q i
def mt (P Q : List Int) : List Int := tr (mi P Q) 16
theorem sf_mi (P Q : List Int) (n : Nat) : sf (mi P Q) n = mf P Q n := by
  induction n with
  | zero => simp [sf, mf, sumTo]
  | succ n ih => rw [sf, ih]; unfold mi; omega
section
variable {P Q : List Int}
theorem mi_fall (hp : valid P = true) (hq : valid Q = true) (i : Nat) : mi P Q (i + 1) ≤ mi P Q i := by
  have := getD_fall' hp i; have := getD_fall' hq i; unfold mi mf; simp only [sumTo]; omega
theorem mi_nn (hp : valid P = true) (hq : valid Q = true) (i : Nat) : 0 ≤ mi P Q i := by
  have := getD_nn hp i; have := getD_nn hq i; unfold mi mf; simp only [sumTo]; omega
theorem mf_end (hp : valid P = true) (hq : valid Q = true) : mf P Q 16 = min (sumL P) (sumL Q) := by
  unfold mf; rw [sumTo_all P 16 (valid_bd hp).2.2.2, sumTo_all Q 16 (valid_bd hq).2.2.2]
theorem valid_mt (hp : valid P = true) (hq : valid Q = true) : valid (mt P Q) = true := by
  refine valid_tr (mi_fall hp hq) (mi_nn hp hq) ?_
  rw [sf_mi, mf_end hp hq]
  have := (valid_bd hp).2.1
  omega
theorem pad_mt (hp : valid P = true) (hq : valid Q = true) : pad (mt P Q) = (List.range 16).map (mi P Q) := pad_tr (mi_fall hp hq) (mi_nn hp hq)
theorem sum_mt (hp : valid P = true) (hq : valid Q = true) : sumL (mt P Q) = min (sumL P) (sumL Q) := by
  unfold mt
  rw [sum_tr (mi_nn hp hq), sf_mi, mf_end hp hq]
theorem sumTo_mt (hp : valid P = true) (hq : valid Q = true) {k : Nat} (hk : k ≤ 16) : sumTo (mt P Q) k = mf P Q k := by
  induction k with
  | zero => simp [sumTo, mf]
  | succ k ih =>
    rw [sumTo, ih (by omega)]
    unfold mt
    rw [tr_getD (mi_fall hp hq) (mi_nn hp hq), if_pos (by omega)]
    unfold mi
    omega
theorem eq_of_sumTo (hp : valid P = true) (hq : valid Q = true) (h : ∀ k, k ≤ 16 → sumTo P k = sumTo Q k) : P = Q := by
  refine valid_ext hp hq fun j => ?_
  rcases Nat.lt_or_ge j 16 with hj | hj
  · have h1 := h j (by omega)
    have h2 := h (j + 1) (by omega)
    simp only [sumTo] at h2
    omega
  · rw [getD_ge (Nat.le_trans (valid_bd hp).2.2.2 hj), getD_ge (Nat.le_trans (valid_bd hq).2.2.2 hj)]
theorem mt_right (hp : valid P = true) (hq : valid Q = true) : mt P Q = Q ↔ ∀ k, k ≤ 16 → sumTo Q k ≤ sumTo P k := by
  constructor
  · intro h k hk
    have := sumTo_mt hp hq hk
    rw [h] at this
    unfold mf at this
    omega
  · intro h
    refine eq_of_sumTo (valid_mt hp hq) hq fun k hk => ?_
    rw [sumTo_mt hp hq hk]
    have := h k hk
    unfold mf
    omega
theorem mt_comm (P Q : List Int) : mt P Q = mt Q P := by
  unfold mt
  refine tr_congr fun i _ => ?_
  unfold mi mf
  omega
end
/-- P dominates Q -/
def dom (P Q : List Int) : Bool := valid P && valid Q && decide (sumL P = sumL Q) && (List.range 17).all fun k => decide (sumTo Q k ≤ sumTo P k)
theorem dom_iff {P Q : List Int} : dom P Q = true ↔ valid P = true ∧ valid Q = true ∧ sumL P = sumL Q ∧ ∀ k, k ≤ 16 → sumTo Q k ≤ sumTo P k := by
  unfold dom
  simp only [Bool.and_eq_true, List.all_eq_true, List.mem_range, decide_eq_true_eq]
  constructor
  · rintro ⟨⟨⟨hp, hq⟩, hs⟩, h⟩; exact ⟨hp, hq, hs, fun k hk => h k (by omega)⟩
  · rintro ⟨hp, hq, hs, h⟩; exact ⟨⟨⟨hp, hq⟩, hs⟩, fun k hk => h k (by omega)⟩

/-! the other way round -/
def csum (j : Nat) (L : List Int) : Int := sumL ((List.range j).map fun (t : Nat) => cnt ((t : Int) + 1) L)
theorem csum_cons (j : Nat) (x : Int) (r : List Int) : csum j (x :: r) = tsum j x + csum j r := by
  unfold csum
  induction j with
  | zero => rfl
  | succ j ih =>
    have e2 : tsum (j + 1) x = tsum j x + if (j : Int) + 1 ≤ x then 1 else 0 := by
      simp [tsum, List.range_succ, sumL_append, sumL]
    rw [List.range_succ, List.map_append, sumL_append, ih, List.map_append, sumL_append, e2]
    simp [cnt, sumL]; omega
theorem csum_nil (j : Nat) : csum j [] = 0 := by
  unfold csum
  induction j with
  | zero => rfl
  | succ j ih => rw [List.range_succ, List.map_append, sumL_append, ih]; simp [cnt, sumL]
theorem sumTo_conj {L : List Int} (hv : valid L = true) (j : Nat) : sumTo (conj L) j = csum j L := by
  unfold csum
  induction j with
  | zero => rfl
  | succ j ih => rw [sumTo, ih, conj_getD hv, List.range_succ, List.map_append, sumL_append]; simp [sumL]
theorem tsum_full (n : Nat) (x : Int) (h : (n : Int) ≤ x) : tsum n x = n := by
  induction n with
  | zero => simp [tsum, sumL]
  | succ n ih =>
    have e2 : tsum (n + 1) x = tsum n x + if (n : Int) + 1 ≤ x then 1 else 0 := by
      simp [tsum, List.range_succ, sumL_append, sumL]
    rw [e2, ih (by omega), if_pos (by omega)]
    omega
theorem cells_le (j : Nat) : ∀ (L : List Int) (k : Nat), (∀ x ∈ L, 0 ≤ x) → sumL (L.take k) + csum j L ≤ sumL L + (k : Int) * (j : Int)
  | [], k, _ => by
    rw [csum_nil]
    have : (0 : Int) ≤ (k : Int) * (j : Int) := Int.mul_nonneg (by omega) (by omega)
    simp [sumL]; exact this
  | x :: r, 0, h => by
    have ih := cells_le j r 0 fun y hy => h y (by simp [hy])
    have h1 := (tsum_le j x (h x (by simp))).1
    rw [csum_cons]
    simp [sumL] at ih ⊢
    omega
  | x :: r, k + 1, h => by
    have ih := cells_le j r k fun y hy => h y (by simp [hy])
    have h1 := (tsum_le j x (h x (by simp))).2
    rw [csum_cons]
    have e : ((k + 1 : Nat) : Int) * (j : Int) = (k : Int) * (j : Int) + (j : Int) := by rw [Int.natCast_add, Int.add_mul]; simp
    rw [e]
    simp only [List.take_succ_cons, sumL]
    omega
theorem cells_eq (j : Nat) : ∀ (L : List Int), mono L → (∀ x ∈ L, 0 ≤ x) → sumL (L.take (cnt ((j : Int) + 1) L).toNat) + csum j L = sumL L + cnt ((j : Int) + 1) L * (j : Int)
  | [], _, _ => by simp [csum_nil, cnt, sumL]
  | x :: r, hm, h => by
    by_cases hx : (j : Int) + 1 ≤ x
    · have ih := cells_eq j r hm.2 fun y hy => h y (by simp [hy])
      have hc := cnt_bd ((j : Int) + 1) r
      have e : cnt ((j : Int) + 1) (x :: r) = cnt ((j : Int) + 1) r + 1 := by rw [cnt, if_pos hx]; omega
      rw [e, csum_cons, tsum_full j x (by omega), show (cnt ((j : Int) + 1) r + 1).toNat = (cnt ((j : Int) + 1) r).toNat + 1 by omega, List.take_succ_cons, Int.add_mul]
      simp only [sumL]
      omega
    · have e : cnt ((j : Int) + 1) (x :: r) = 0 := cnt_none fun y hy => by
        rcases List.mem_cons.1 hy with rfl | hy
        · omega
        · have := hm.1 y hy; omega
      rw [e]
      have h2 : csum j (x :: r) = sumL (x :: r) := csum_eq j _ fun y hy => ⟨h y hy, by
        rcases List.mem_cons.1 hy with rfl | hy
        · omega
        · have := hm.1 y hy; omega⟩
      rw [h2]
      simp [sumL]
theorem dual {P Q : List Int} (hp : valid P = true) (hq : valid Q = true) (hs : sumL P = sumL Q) (h : ∀ k, k ≤ 16 → sumTo Q k ≤ sumTo P k) (j : Nat) : sumTo (conj P) j ≤ sumTo (conj Q) j := by
  rw [sumTo_conj hp, sumTo_conj hq]
  have hc := cnt_bd ((j : Int) + 1) Q
  have h1 := cells_eq j Q (mono_valid hq) (valid_nonneg hq)
  have h2 := cells_le j P (cnt ((j : Int) + 1) Q).toNat (valid_nonneg hp)
  have h3 := h (cnt ((j : Int) + 1) Q).toNat (by have := (valid_bd hq).2.2.2; omega)
  rw [sumTo_take, sumTo_take] at h3
  rw [show (((cnt ((j : Int) + 1) Q).toNat : Nat) : Int) = cnt ((j : Int) + 1) Q by omega] at h2
  omega
theorem dom_conj {P Q : List Int} (hp : valid P = true) (hq : valid Q = true) : dom (conj Q) (conj P) = dom P Q := by
  have key : ∀ {P Q : List Int}, dom P Q = true → dom (conj Q) (conj P) = true := by
    intro P Q h
    obtain ⟨hp, hq, hs, hk⟩ := dom_iff.1 h
    exact dom_iff.2 ⟨valid_conj hq, valid_conj hp, by rw [sumL_conj hp, sumL_conj hq, hs], fun k _ => dual hp hq hs hk k⟩
  rw [Bool.eq_iff_iff]
  refine ⟨fun h => ?_, key⟩
  have := key h
  rwa [conj_conj hp, conj_conj hq] at this
theorem conj_inj {P Q : List Int} (hp : valid P = true) (hq : valid Q = true) : conj P = conj Q ↔ P = Q :=
  ⟨fun h => by rw [← conj_conj hp, h, conj_conj hq], fun h => by rw [h]⟩
theorem pad_inj {P Q : List Int} (hp : valid P = true) (hq : valid Q = true) : pad P = pad Q ↔ P = Q :=
  ⟨fun h => valid_ext hp hq fun j => by rw [← pad_getD (valid_bd hp).2.2.2, h, pad_getD (valid_bd hq).2.2.2], fun h => by rw [h]⟩
/-- what is above both -/
def jn (P Q : List Int) : List Int := conj (mt (conj P) (conj Q))
theorem valid_jn {P Q : List Int} (hp : valid P = true) (hq : valid Q = true) : valid (jn P Q) = true := valid_conj (valid_mt (valid_conj hp) (valid_conj hq))
/-- the program's question: they are their own bounds -/
theorem dom_bounds {P Q : List Int} (hp : valid P = true) (hq : valid Q = true) : dom P Q = (decide (mt P Q = Q) && decide (jn P Q = P)) := by
  have h2 : jn P Q = P ↔ ∀ k, k ≤ 16 → sumTo (conj P) k ≤ sumTo (conj Q) k := by
    rw [← mt_right (valid_conj hq) (valid_conj hp), mt_comm, ← conj_inj (valid_jn hp hq) hp]
    unfold jn
    rw [conj_conj (valid_mt (valid_conj hp) (valid_conj hq))]
  rw [Bool.eq_iff_iff, Bool.and_eq_true, decide_eq_true_eq, decide_eq_true_eq, dom_iff, mt_right hp hq, h2]
  constructor
  · rintro ⟨_, _, hs, h⟩; exact ⟨h, fun k _ => dual hp hq hs h k⟩
  · rintro ⟨h, h'⟩
    refine ⟨hp, hq, ?_, h⟩
    have a1 := h 16 (by omega)
    have a2 := h' 16 (by omega)
    rw [sumTo_all _ 16 (valid_bd hp).2.2.2, sumTo_all _ 16 (valid_bd hq).2.2.2] at a1
    rw [sumTo_all _ 16 (valid_bd (valid_conj hp)).2.2.2, sumTo_all _ 16 (valid_bd (valid_conj hq)).2.2.2, sumL_conj hp, sumL_conj hq] at a2
    omega
theorem ins_bounds {P Q : List Int} (hp : valid P = true) (hq : valid Q = true) : ins P Q = (decide ((List.range 16).map (lo2 P Q) = pad Q) && decide ((List.range 16).map (hi2 P Q) = pad P)) := by
  rw [Bool.eq_iff_iff, Bool.and_eq_true, decide_eq_true_eq, decide_eq_true_eq, ins_iff]
  have hpl := (valid_bd hp).2.2.2
  have hql := (valid_bd hq).2.2.2
  constructor
  · rintro ⟨_, _, h⟩
    constructor
    · apply List.ext_getElem
      · rw [pad_len hql]; simp
      · intro j h1 h2
        rw [← getD_lt h2, pad_getD hql]
        simp only [List.getElem_map, List.getElem_range]
        have := h j
        unfold lo2; omega
    · apply List.ext_getElem
      · rw [pad_len hpl]; simp
      · intro j h1 h2
        rw [← getD_lt h2, pad_getD hpl]
        simp only [List.getElem_map, List.getElem_range]
        have := h j
        unfold hi2; omega
  · rintro ⟨h, _⟩
    refine ⟨hp, hq, fun i => ?_⟩
    rcases Nat.lt_or_ge i 16 with hi | hi
    · have e := congrArg (fun l => l.getD i 0) h
      rw [map_getD, if_pos hi, pad_getD hql] at e
      unfold lo2 at e
      omega
    · rw [getD_ge (by omega)]; exact (getD_nn hp i).1

/-! ranks and cranks -/
def rnk (L : List Int) : Int := if valid L then L.headD 0 - L.length else 0
def crk (L : List Int) : Int := if valid L then (if eqc 1 L = 0 then L.headD 0 else cnt (eqc 1 L + 1) L - eqc 1 L) else 0
theorem rnk_yes {L : List Int} (h : valid L = true) : rnk L = L.headD 0 - L.length := by simp [rnk, h]
theorem rnk_no {L : List Int} (h : valid L = false) : rnk L = 0 := by simp [rnk, h]
theorem crk_yes {L : List Int} (h : valid L = true) : crk L = if eqc 1 L = 0 then L.headD 0 else cnt (eqc 1 L + 1) L - eqc 1 L := by simp [crk, h]
theorem crk_no {L : List Int} (h : valid L = false) : crk L = 0 := by simp [crk, h]
end NP
end Go.Proofs.Ytifhnjnpbpgjfaa
namespace Go.Proofs.Ytifhnjnpbpgjfaa
namespace NP
theorem head_le_sum {L : List Int} (h : valid L = true) : 0 ≤ L.headD 0 ∧ L.headD 0 ≤ sumL L ∧ (0 < L.length → 1 ≤ L.headD 0) := by
  cases L with
  | nil => simp [sumL]
  | cons x r =>
    have h0 := valid_nonneg h
    have h1 := (elem_le_sum h0 (q := 0) (by simp)).1
    have h2 := valid_ge1 h x (by simp)
    simp at h1 ⊢
    omega
theorem rnk_facts {P : List Int} (h : valid P = true) : rnk (conj P) = -rnk P ∧ rnk P < max (sumL P) 1 ∧ -rnk P < max (sumL P) 1 ∧ -16 ≤ rnk P ∧ rnk P ≤ 16 := by
  have hb := valid_bd h
  have h1 := head_le_sum h
  have hc := head_conj h
  have hcb := headD_bd (valid_conj h)
  rw [rnk_yes h, rnk_yes (valid_conj h), conj_len]
  by_cases h0 : 0 < P.length
  · have := h1.2.2 h0
    omega
  · obtain rfl : P = [] := List.eq_nil_of_length_eq_zero (by omega)
    simp [conj, sumL]
    omega
end NP
end Go.Proofs.Ytifhnjnpbpgjfaa
namespace Go.Proofs.Ytifhnjnpbpgjfaa
namespace NP
theorem cnt_le_sum {L : List Int} (h : ∀ x ∈ L, 1 ≤ x) (t : Int) : cnt t L ≤ sumL L ∧ 0 ≤ sumL L := by
  induction L with
  | nil => simp [cnt, sumL]
  | cons x r ih =>
    have h1 := ih fun y hy => h y (by simp [hy])
    have h2 := h x (by simp)
    rw [cnt, sumL]
    split <;> omega
theorem eqc_le_sum {L : List Int} (h : ∀ x ∈ L, 1 ≤ x) (t : Int) : eqc t L ≤ sumL L := by
  induction L with
  | nil => simp [eqc, sumL]
  | cons x r ih =>
    have h1 := ih fun y hy => h y (by simp [hy])
    have h2 := h x (by simp)
    rw [eqc_cons, sumL]
    split <;> omega
theorem crk_facts {P : List Int} (h : valid P = true) (h0 : 0 < P.length) : crk P ≤ sumL P ∧ -crk P ≤ sumL P ∧ (P[P.length - 1]'(by omega) = 1 ∨ crk P = P[0]) ∧ -16 ≤ crk P ∧ crk P ≤ 16 ∧ 1 ≤ P[P.length - 1]'(by omega) ∧ P[P.length - 1]'(by omega) ≤ 16 := by
  have hb := valid_bd h
  have h1 := head_le_sum h
  have hg := valid_ge1 h
  have hc := cnt_le_sum hg (eqc 1 P + 1)
  have hcb := cnt_bd (eqc 1 P + 1) P
  have he := eqc_le_sum hg 1
  have heb := eqc_bd 1 P
  have hl := hg _ (List.getElem_mem (show P.length - 1 < P.length by omega))
  have hl2 := preS_of_valid h (P.length - 1) (by omega) (by omega)
  have h0' : P.headD 0 = P[0] := headD_get P h0
  rw [crk_yes h]
  by_cases hz : eqc 1 P = 0
  · rw [if_pos hz]
    refine ⟨h1.2.1, by omega, .inr h0', by omega, by omega, hl, hl2.2.1⟩
  · rw [if_neg hz]
    have hm : (1 : Int) ∈ P := eqc_mem (by omega)
    obtain ⟨q, hq, e⟩ := List.mem_iff_getElem.1 hm
    have hf := falls_all h (P.length - 1) q (by omega) (by omega)
    refine ⟨by omega, by omega, .inl (by omega), by omega, by omega, hl, hl2.2.1⟩
end NP
end Go.Proofs.Ytifhnjnpbpgjfaa
namespace Go.Proofs.Ytifhnjnpbpgjfaa
open Go.RowKit NP
set_option maxRecDepth 8000
set_option linter.unusedVariables false
set_option linter.unusedSimpArgs false
theorem Blk.range {w : World} {g : Nat} {t : TypeId} {vs : List Value} (h : Blk w g t vs.toArray) : w.rangeAt g 0 vs := fun j v hv => by
  rw [Nat.zero_add, h.cell j]; simpa using hv
theorem range_below {w w' : World} {b o : Nat} {cs : List Value} (h : w.rangeAt b o cs) (hb : Below w.heap.size w w') : w'.rangeAt b o cs := fun j v hv => by
  have := h j v hv
  exact (hb.cell (p := ⟨b, o + j, none⟩) (World.block_lt_of_cell? w _ this)).trans this
theorem keep_cr {w0 w w' : World} {g : Nat} {x : Value} {cs : List Value} (h : w.cell? ⟨g, 0, none⟩ = some x ∧ w.rangeAt g 0 cs ∧ Below w0.heap.size w0 w) (hb : Below w.heap.size w w') :
    w'.cell? ⟨g, 0, none⟩ = some x ∧ w'.rangeAt g 0 cs ∧ Below w0.heap.size w0 w' :=
  ⟨(hb.cell (p := ⟨g, 0, none⟩) (World.block_lt_of_cell? w _ h.1)).trans h.1, range_below h.2.1 hb, h.2.2.trans (hb.mono h.2.2.size)⟩
theorem cntD_le (D : List Int) : cntD D ≤ 16 := (ff_spec _ 16).1
theorem cntD_pad {M : List Int} (hM : valid M = true) : cntD (pad M) = M.length := by
  have hbd := valid_bd hM
  have hlen : M.length ≤ 16 := hbd.2.2.2
  unfold cntD
  refine ff_eq (fun j hj => ?_) hlen ?_
  · have h1 := preS_of_valid hM j hj hj
    rw [List.getD_eq_getElem?_getD, List.getElem?_eq_getElem (by rw [pad_len hlen]; omega), Option.getD_some, pad_get hlen hj]
    simp; omega
  · rcases Nat.lt_or_ge M.length 16 with h | h
    · right
      rw [List.getD_eq_getElem?_getD, List.getElem?_eq_getElem (by rw [pad_len hlen]; omega), Option.getD_some, pad_get0 hlen (Nat.le_refl _) h]
      simp
    · left; omega
theorem getD0 (L : List Int) : L.getD 0 0 = L.headD 0 := by cases L <;> rfl
theorem cntD_zeros : cntD (List.replicate 16 0) = 0 := by decide
theorem dg_bd (L : List Int) : ∀ k (h : k < (dg L).length), 0 ≤ (dg L)[k] ∧ (dg L)[k] ≤ 16 := by
  cases hv : valid L with
  | true => rw [dg_yes hv]; exact pad_nonneg hv
  | false => rw [dg_no hv]; intro k h; rw [List.getElem_replicate]; omega
theorem rnk_dg (L : List Int) : (dg L).getD 0 0 - cntD (dg L) = rnk L := by
  cases hv : valid L with
  | true => rw [dg_yes hv, cntD_pad hv, pad_getD (valid_bd hv).2.2.2, getD0, rnk_yes hv]
  | false => rw [dg_no hv, cntD_zeros, rnk_no hv]; rfl
theorem info_diag (D : List Int) (hD : D.length = 16) : (Try.prog.info? 62).map (·.size) = some (ints D).length := by rw [List.length_map, hD]; exact T_info35




end Go.Proofs.Ytifhnjnpbpgjfaa
