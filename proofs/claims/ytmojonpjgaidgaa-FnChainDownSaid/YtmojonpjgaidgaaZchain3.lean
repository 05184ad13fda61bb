/-
  Walks: the drawing of parts: newReader, sumFor, partsOf, goodParts, bent, someParts: whatever is drawn is a short list of small numbers in new memory. A door: the drawing of parts (D3a), with the words of W4. Plain mathematics of united and added parts: conjugates turn one into the other. Plain mathematics of orders: rows trimmed of zeros, meets, dominance and conjugates, ranks and cranks. Walks: ranks: the program's and the model's. Walks of the program: all diagrams, one after the other. Walks of the program: the iterator over all diagrams with a sum. Words for lists of lists: readable (RdLL), the call's own (OwnLL). A function value that tells of each diagram whether something holds of its parts.
-/
import Derived.Test.YtmojonpjgaidgaaZchain1
import Derived.Test.YtmojonpjgaidgaaZchain2
import Derived.Deep.RegionHeld3
import Derived.Deep.MidRow
import Derived.StillTailTactics
namespace Go.Proofs.Ytmojonpjgaidgaa
open Go.RowKit NP
set_option maxRecDepth 8000
set_option linter.unusedVariables false

def Small (M : List Int) : Prop := M.length ≤ 40 ∧ ∀ x ∈ M, -1 ≤ x ∧ x ≤ 17
def SmallParts (M : List Int) : Prop := M.length ≤ 16 ∧ ∀ x ∈ M, 1 ≤ x ∧ x ≤ 16

theorem insK_len (M : List Int) (x : Int) : (insK M x).length = M.length + 1 := by
  unfold insK; simp; omega
theorem insK_mem {M : List Int} {x y : Int} (h : y ∈ insK M x) : y = x ∨ y ∈ M := by
  unfold insK at h
  simp at h
  rcases h with h | h | h
  · exact .inr (List.mem_of_mem_take h)
  · exact .inl h
  · exact .inr (List.mem_of_mem_drop h)
theorem fold_ins (L : List Int) : ∀ M, (L.foldl insK M).length = L.length + M.length ∧ ∀ y ∈ L.foldl insK M, y ∈ L ∨ y ∈ M := by
  induction L with
  | nil => intro M; exact ⟨by simp, fun y hy => .inr hy⟩
  | cons x r ih =>
    intro M
    simp only [List.foldl_cons]
    have h := ih (insK M x)
    refine ⟨by rw [h.1, insK_len]; simp; omega, fun y hy => ?_⟩
    rcases h.2 y hy with h1 | h1
    · exact .inl (by simp [h1])
    · rcases insK_mem h1 with rfl | h2
      · exact .inl (by simp)
      · exact .inr h2
theorem mrg_small {L : List Int} (h : SmallParts L) : SmallParts (mrg L) := by
  have hf := fold_ins L []
  refine ⟨by unfold mrg; rw [hf.1]; simpa using h.1, fun x hx => ?_⟩
  rcases hf.2 x hx with h1 | h1
  · exact h.2 x h1
  · simp at h1


theorem sumFor_any (g q : Nat) (bs : List Int) (w : World) (hq : q ≤ 1000000) (h : Rdr w g bs q) :
    Calls Try.prog 58 #[.pointer (some ⟨g, 0, none⟩)] w fun e w' => ∃ x : Int, e = .returned (.int .i64 x) ∧ (0 ≤ x ∧ x ≤ 16) ∧ Rdr w' g bs (q + 1) ∧ w.grownBy w' (some g) := by
  have hlt := h.lt
  go_enter Try.func58, Try.ntmps58
  go_wp2_with fail
  refine (one_any g q _ _ _ [6, 8, 5, 9, 12, 4, 3, 16, 2, 1, 0, 10] bs _ (by simp) (by simp) hq (h.below ((Below.refl _ _).alloc hlt _)) (rd_new w _ _) (by intro b o e; injection e with e; injection e with e; omega)).mono ?_
  rintro e w1 ⟨k, hk, rfl, h1, hg1, -⟩
  have hx : ∀ x ∈ ([6, 8, 5, 9, 12, 4, 3, 16, 2, 1, 0, 10] : List Int), 0 ≤ x ∧ x ≤ 16 := by decide
  have hx1 := hx _ (List.getElem_mem hk)
  obtain ⟨x, hxx⟩ : ∃ x, x = ([6, 8, 5, 9, 12, 4, 3, 16, 2, 1, 0, 10] : List Int)[k] := ⟨_, rfl⟩
  rw [← hxx] at hx1 ⊢
  clear hx hxx
  go_wp2_with fail
  go_ret
  exact ⟨x, rfl, hx1, h1, chg_trans (World.grownBy_alloc w _ _) hg1⟩

set_option maxHeartbeats 400000 in
theorem partsOf_any (g q : Nat) (n : Int) (bs : List Int) (w : World) (hn0 : 0 ≤ n) (hn : n ≤ 16) (hq : q ≤ 900000) (h : Rdr w g bs q) :
    Calls Try.prog 43 #[.pointer (some ⟨g, 0, none⟩), .int .i64 n] w fun e w' => ∃ a' c' M, e = .returned (.slice a' M.length c') ∧ Own w' w.heap.size w'.heap.size 3 (.slice a' M.length c') (ints M) ∧ SmallParts M ∧ (∃ q', q' ≤ q + 32 ∧ Rdr w' g bs q') ∧ w.grownBy w' (some g) := by
  obtain ⟨i0, hi, hz0, hz1, hz2⟩ := T_int'
  have hlt := h.lt
  go_enter Try.func43, Try.ntmps43
  go_wp2_with fail
  go_loopw [1, 5] (fun nn v wr => ∃ (m : Nat) (q' : Nat) (M : List Int), nn = .int .i64 (m : Int) ∧ M.length + m ≤ 16 ∧ q' + 2 * m ≤ q + 32 ∧ Rdr wr g bs q' ∧ w.grownBy wr (some g) ∧ Own wr w.heap.size wr.heap.size 3 v (ints M) ∧ Hid (∀ x ∈ M, 1 ≤ x ∧ x ≤ 16)) (fun nn _ _ => (intOf nn).toNat)
  case atStart =>
    obtain ⟨m, rfl⟩ := Int.eq_ofNat_of_zero_le hn0
    exact ⟨m, q, [], rfl, by simp; omega, by omega, h.below ((Below.refl _ _).alloc hlt _), World.grownBy_alloc w _ _, (Own.empty w 3).more, Lib.hid (by simp)⟩
  case round =>
    obtain ⟨m, q', M, rfl, hMm, hqm, hr, hg, hown, HM⟩ := hrel
    by_cases hm : 0 < m
    · have hm' : (0 : Int) < (m : Int) := by omega
      have hltr := hr.lt
      have HO := Lib.hid hown
      clear hown
      go_wp2_with fail
      refine (one_any g q' _ _ _ [3, 5, 9, 2, 16] bs _ (by simp) (by simp) (by omega) (hr.below ((Below.refl _ _).alloc hltr _)) (rd_new wr _ _) (by intro b o e; injection e with e; injection e with e; omega)).mono ?_
      rintro e w1 ⟨k, hk, rfl, h1, hg1, -⟩
      have hx : ∀ x ∈ ([3, 5, 9, 2, 16] : List Int), 2 ≤ x ∧ x ≤ 16 := by decide
      have hx1 := hx _ (List.getElem_mem hk)
      obtain ⟨x, hxx⟩ : ∃ x, x = ([3, 5, 9, 2, 16] : List Int)[k] := ⟨_, rfl⟩
      rw [← hxx] at hx1 ⊢
      clear hx hxx hk
      have hzr := hg.size
      have HO1 := Lib.hid ((HO.out.alloc (.cells (ints [3, 5, 9, 2, 16]).toArray 3)).chg hg1 (by omega)).more
      have hgw1 := chg_trans (chg_alloc hg (.cells (ints [3, 5, 9, 2, 16]).toArray 3)) hg1
      clear hg1 HO
      go_wp2_with fail
      all_goals
        refine (pick_any g _ _ bs _ (by omega) (by omega) h1).mono ?_
        rintro e w2 ⟨y, rfl, hy0, hy1, h2, hg2, -⟩
        obtain ⟨y, rfl⟩ := Int.eq_ofNat_of_zero_le hy0
        have hym : y + 1 ≤ m := by have := hy1 (by omega); omega
        clear hy1
        have hown2 := (HO1.out.chg hg2 (by omega)).more
        have hgw2 := chg_trans hgw1 hg2
        have hzw2 := hgw2.size
        clear hgw1 hg2 HO1
        go_wp2_with (at_builtin; refine wpList_append_o _ rfl (.tmp 18) (.tmp 20) 22 rfl w.heap.size w2.heap.size 3 i0 (.int .i64 0) 8 Try.underlying22 hi hz0 hz1 hz2 rfl _ (ints M) rfl (hown2.alloc _) (w2.heap.size + 1) (some ⟨w2.heap.size, 0, none⟩) 1 1 [.int .i64 (1 + (y : Int))] rfl (Rd.one w2 _ _) rfl (by simp; rfl) (by simp; unfold maxLen; omega) (by simp; omega) (by simp; omega) ?_; intro v' w3 ho3 hg3 hat3)
        go_roundw
        case rel =>
          refine ⟨m - (1 + y), q' + 2, M ++ [1 + (y : Int)], by go_num, by simp; omega, by omega, (h2.row (World.grownBy_alloc w2 _ none) (by simp)).row hg3 (fun k hk => by have := hown2.base k hk; omega), chg_row (chg_alloc hgw2 _) hg3 hown2.base, by simpa [ints] using ho3, Lib.hid fun x hx => ?_⟩
          simp at hx
          rcases hx with hx | hx
          · exact HM.out x hx
          · omega
        case measure => simp [intOf]; omega
    · obtain rfl : m = 0 := by omega
      obtain ⟨a0, c0, rfl⟩ := hown.form
      have hs : SmallParts M := ⟨by omega, HM.out⟩
      have HS := Lib.hid (mrg_small hs)
      have hlM : (ints M).length = M.length := by simp
      rw [hlM] at hown ⊢
      have HO := Lib.hid hown
      clear hown hlM
      go_wp2_with fail
      refine (merge_any _ _ _ M _ HO.out.rd (by omega) (by have := hs.1; omega)).mono ?_
      rintro e w1 ⟨a', c', rfl, ho1, hb1⟩
      go_wp2_with fail
      go_ret
      exact ⟨a', c', mrg M, rfl, ho1.lower hg.size, HS.out, ⟨q', by omega, hr.below (hb1.mono hr.lt)⟩, chg_below hg (hb1.mono hg.size)⟩

theorem below_push' {g : Nat} {w0 w w1 : World} {o : Obj} {row : Option Nat} (hb : Below g w0 w) (hB : g < w.heap.size) (hg : (w.alloc o).grownBy w1 row) (hr : ∀ k, row = some k → g ≤ k) : Below g w0 w1 :=
  (hb.alloc (by omega) o).grown hg (by simp; omega) hr

/-- what a draw of parts leaves -/
def Drawn (g : Nat) (bs : List Int) (P : List Int → Prop) (top : Nat) (w : World) (e : Ending) (w' : World) : Prop :=
  ∃ a' c' M, e = .returned (.slice a' M.length c') ∧ Own w' w.heap.size w'.heap.size 3 (.slice a' M.length c') (ints M) ∧ P M ∧ (∃ q', q' ≤ top ∧ Rdr w' g bs q') ∧ w.grownBy w' (some g)

theorem goodParts_any (g q : Nat) (bs : List Int) (w : World) (hq : q ≤ 800000) (h : Rdr w g bs q) :
    Calls Try.prog 65 #[.pointer (some ⟨g, 0, none⟩)] w (Drawn g bs SmallParts (q + 40) w) := by
  go_enter Try.func65, Try.ntmps65
  go_wp2_with fail
  refine (sumFor_any g q bs _ (by omega) h).mono ?_
  rintro e w1 ⟨x, rfl, ⟨hx0, hx1⟩, h1, hg1⟩
  go_wp2_with fail
  refine (partsOf_any g _ x bs _ hx0 hx1 (by omega) h1).mono ?_
  rintro e w2 ⟨a', c', M, rfl, ho, hs, ⟨q', hq', h2⟩, hg2⟩
  go_wp2_with fail
  go_ret
  exact ⟨a', c', M, rfl, ho.lower hg1.size, hs, ⟨q', by omega, h2⟩, chg_trans hg1 hg2⟩

/-- but for block g, nothing below lo has turned -/
structure Chg (g lo : Nat) (w w' : World) : Prop where
  os : w'.os = w.os
  tape : w'.tape = w.tape
  output : w'.output = w.output
  size : w.heap.size ≤ w'.heap.size
  block : ∀ k, k < lo → k ≠ g → w'.heap[k]? = w.heap[k]?
theorem Chg.trans {g lo : Nat} {a b c : World} (h : Chg g lo a b) (k : Chg g lo b c) : Chg g lo a c :=
  ⟨k.os.trans h.os, k.tape.trans h.tape, k.output.trans h.output, Nat.le_trans h.size k.size, fun i hi hne => (k.block i hi hne).trans (h.block i hi hne)⟩
theorem Chg.of {g lo : Nat} {w w' : World} (h : w.grownBy w' (some g)) (hlo : lo ≤ w.heap.size) : Chg g lo w w' :=
  ⟨h.os, h.tape, h.output, h.size, fun k hk hne => h.block k (by omega) (fun e => by injection e with e; exact hne e)⟩
theorem Chg.ofBelow {g lo : Nat} {w w' : World} (h : Below lo w w') : Chg g lo w w' := ⟨h.os, h.tape, h.output, h.size, fun k hk _ => h.block k hk⟩
theorem Chg.below {g lo : Nat} {w w' : World} (h : Chg g lo w w') (hg : g ≤ lo) : Below g w w' := ⟨h.os, h.tape, h.output, h.size, fun k hk => h.block k (by omega) (by omega)⟩
theorem Chg.grown {g : Nat} {w w' : World} (h : Chg g w.heap.size w w') : w.grownBy w' (some g) := ⟨h.os, h.tape, h.output, h.size, fun k hk hne => h.block k hk (fun e => hne (by rw [e]))⟩
theorem Chg.push {g lo : Nat} {w0 w w1 : World} {o : Obj} {row : Option Nat} (hb : Chg g lo w0 w) (hB : lo ≤ w.heap.size) (hg : (w.alloc o).grownBy w1 row) (hr : ∀ k, row = some k → lo ≤ k) : Chg g lo w0 w1 :=
  hb.trans (.ofBelow (((Below.refl lo w).alloc hB o).grown hg (by simp; omega) hr))

set_option maxHeartbeats 400000 in
theorem bent_any (g q lo : Nat) (a : Option Addr) (c : Nat) (M : List Int) (bs : List Int) (w : World) (hq : q ≤ 900000) (h : Rdr w g bs q) (hs : SmallParts M) (ho : Own w lo w.heap.size 3 (.slice a M.length c) (ints M)) (hlo : g < lo) (hloW : lo ≤ w.heap.size) :
    Calls Try.prog 47 #[.pointer (some ⟨g, 0, none⟩), .slice a M.length c] w fun e w' => ∃ a' c' M', e = .returned (.slice a' M'.length c') ∧ Own w' lo w'.heap.size 3 (.slice a' M'.length c') (ints M') ∧ Small M' ∧ (∃ q', q' ≤ q + 4 ∧ Rdr w' g bs q') ∧ Chg g lo w w' := by
  obtain ⟨i0, hi, hz0, hz1, hz2⟩ := T_int'
  have hlt := h.lt
  have hM16 := hs.1
  have HSM : Hid (Small M) := Lib.hid ⟨by omega, fun x hx => by have := hs.2 x hx; omega⟩
  have HS := Lib.hid hs
  clear hs
  have HO := Lib.hid ho
  clear ho
  go_enter Try.func47, Try.ntmps47
  go_wp2_with fail
  refine (pick_any g _ _ bs _ (by omega) (by omega) h).mono ?_
  rintro e w1 ⟨y, rfl, hy0, hy1, h1, hg1, -⟩
  clear hy1
  have hb1 : Chg g lo w w1 := .of hg1 hloW
  have hown1 := (HO.out.chg hg1 hlo).more
  clear HO hg1
  have hlt1 := h1.lt
  by_cases h0 : y = 0
  · subst h0
    by_cases hM0 : 0 < M.length
    · have hM0' : (0 : Int) < (M.length : Int) := by omega
      have HO1 := Lib.hid hown1
      clear hown1
      go_wp2_with fail
      refine (pick_any g _ _ bs _ (by omega) (by omega) h1).mono ?_
      rintro e w2 ⟨y2, rfl, hy20, hy21, h2, hg2, -⟩
      obtain ⟨y2, rfl⟩ := Int.eq_ofNat_of_zero_le hy20
      have hyM : y2 < M.length := by have := hy21 (by omega); omega
      clear hy21
      have HO2 := Lib.hid (HO1.out.chg hg2 hlo).more
      have hlt2 := h2.lt
      have hb2 : Chg g lo w w2 := hb1.trans (.of hg2 (by have := hb1.size; omega))
      clear HO1 hg2
      go_wp2_with fail
      refine (one_any g _ _ _ _ [0, -1, 17, 9] bs _ (by simp) (by simp) (by omega) (h2.below ((Below.refl _ _).alloc hlt2 _)) (rd_new w2 _ _) (by intro b o e; injection e with e; injection e with e; omega)).mono ?_
      rintro e w3 ⟨k, hk, rfl, h3, hg3, -⟩
      have hx : ∀ x ∈ ([0, -1, 17, 9] : List Int), -1 ≤ x ∧ x ≤ 17 := by decide
      have hx1 := hx _ (List.getElem_mem hk)
      obtain ⟨x, hxx⟩ : ∃ x, x = ([0, -1, 17, 9] : List Int)[k] := ⟨_, rfl⟩
      rw [← hxx] at hx1 ⊢
      clear hx hxx hk
      have hown3 := ((HO2.out.alloc (.cells (ints [0, -1, 17, 9]).toArray 3)).chg hg3 hlo).more
      have hsz2 := hb2.size
      have hb3 : Chg g lo w w3 := (hb2.trans (.ofBelow ((Below.refl lo w2).alloc (by omega) _))).trans (.of hg3 (by simp; omega))
      clear HO2 hg3
      obtain ⟨g2, u, rfl, hlo2, hhi2, hc2, hf2⟩ := hown3.spot (k := y2) (by simpa using hyM)
      have HO3 := Lib.hid hown3
      clear hown3
      have hcs : ∀ v, Chg g lo w (w3.setCell ⟨g2, y2, none⟩ v) := fun v => hb3.trans (.ofBelow ((Below.refl lo w3).setCell (by show lo ≤ g2; omega) v))
      have HCS := Lib.hid hcs
      clear hcs
      have HRS : Hid (∀ v, Rdr (w3.setCell ⟨g2, y2, none⟩ v) g bs (q + 1 + 1 + 1)) := Lib.hid fun v => h3.below ((Below.refl _ _).setCell (by show g + 1 ≤ g2; omega) v)
      go_wp2_with fail
      go_ret
      have e := HO3.out.set y2 (.int .i64 x)
      have hset : (ints M).set y2 (.int .i64 x) = ints (M.set y2 x) := by simp [ints, List.map_set]
      rw [hset] at e
      refine ⟨some ⟨g2, 0, none⟩, c, M.set y2 x, by simp, by simpa using e.more, ⟨by simpa using HSM.out.1, fun z hz => ?_⟩, ⟨_, by omega, HRS.out _⟩, HCS.out _⟩
      rcases List.mem_or_eq_of_mem_set hz with hz | rfl
      · exact HSM.out.2 z hz
      · exact hx1
    · have hM0' : (M.length : Int) ≤ 0 := by omega
      have hd0 : decide (0 < M.length) = false := decide_eq_false hM0
      have HO1 := Lib.hid hown1
      clear hown1
      go_wp2_with fail
      go_ret
      exact ⟨a, c, M, rfl, HO1.out, HSM.out, ⟨q + 1, by omega, h1⟩, hb1⟩
  · have e0 : (y == 0) = false := by simp; omega
    by_cases h1' : y = 1
    · subst h1'
      have hlo1 : lo ≤ w1.heap.size := by
        rcases hown1.row.2 with ⟨_, h⟩ | ⟨g2, cap, cur, _, hb, hg, _⟩
        · exact Nat.le_trans hloW hb1.size
        · have := (Array.getElem?_eq_some_iff.1 hg).1; omega
      have hlen2 : (ints M).length = M.length := by simp
      go_wp2_with (at_builtin; refine wpList_append_o _ rfl (.tmp 23) (.tmp 24) 22 rfl lo w1.heap.size 3 i0 (.int .i64 0) 8 Try.underlying22 hi hz0 hz1 hz2 rfl _ (ints M) rfl (hown1.alloc _) (w1.heap.size + 1) (some ⟨w1.heap.size, 0, none⟩) 1 1 (ints [9]) rfl (rd_new w1 _ _) rfl (ints_one _) (by rw [hlen2]; unfold maxLen; omega) (by rw [hlen2]; omega) (by simp; omega) ?_; intro v' w3 ho3 hg3 hat3)
      go_ret
      have e : ints M ++ ints [9] = ints (M ++ [9]) := by simp [ints]
      rw [e] at ho3
      obtain ⟨a', c', rfl⟩ := ho3.form
      have hl3 : (ints (M ++ [9])).length = (M ++ [9]).length := by simp
      rw [hl3] at ho3 ⊢
      refine ⟨a', c', M ++ [9], rfl, ho3, ⟨by simp; omega, fun x hx => ?_⟩, ⟨q + 1, by omega, (h1.row (World.grownBy_alloc w1 _ none) (by simp)).row hg3 (fun k hk => by have := hown1.base k hk; omega)⟩, Chg.push hb1 hlo1 hg3 hown1.base⟩
      rcases List.mem_append.1 hx with hx | hx
      · exact HSM.out.2 x hx
      · have : ∀ x ∈ ([9] : List Int), -1 ≤ x ∧ x ≤ 17 := by decide
        exact this x hx
    · have e1 : (y == 1) = false := by simp; omega
      by_cases h2' : y = 2
      · subst h2'
        have hlo1 : lo ≤ w1.heap.size := by
          rcases hown1.row.2 with ⟨_, h⟩ | ⟨g2, cap, cur, _, hb, hg, _⟩
          · exact Nat.le_trans hloW hb1.size
          · have := (Array.getElem?_eq_some_iff.1 hg).1; omega
        have hlen2 : (ints M).length = M.length := by simp
        go_wp2_with (at_builtin; refine wpList_append_o _ rfl (.tmp 28) (.tmp 29) 22 rfl lo w1.heap.size 3 i0 (.int .i64 0) 8 Try.underlying22 hi hz0 hz1 hz2 rfl _ (ints M) rfl (hown1.alloc _) (w1.heap.size + 1) (some ⟨w1.heap.size, 0, none⟩) 16 16 (ints [1, 1, 1, 1, 1, 1, 1, 1, 1, 1, 1, 1, 1, 1, 1, 1]) rfl (rd_new w1 _ _) rfl (ints_one _) (by rw [hlen2]; unfold maxLen; omega) (by rw [hlen2]; omega) (by simp; omega) ?_; intro v' w3 ho3 hg3 hat3)
        go_ret
        have e : ints M ++ ints [1, 1, 1, 1, 1, 1, 1, 1, 1, 1, 1, 1, 1, 1, 1, 1] = ints (M ++ [1, 1, 1, 1, 1, 1, 1, 1, 1, 1, 1, 1, 1, 1, 1, 1]) := by simp [ints]
        rw [e] at ho3
        obtain ⟨a', c', rfl⟩ := ho3.form
        have hl3 : (ints (M ++ [1, 1, 1, 1, 1, 1, 1, 1, 1, 1, 1, 1, 1, 1, 1, 1])).length = (M ++ [1, 1, 1, 1, 1, 1, 1, 1, 1, 1, 1, 1, 1, 1, 1, 1]).length := by simp
        rw [hl3] at ho3 ⊢
        refine ⟨a', c', M ++ [1, 1, 1, 1, 1, 1, 1, 1, 1, 1, 1, 1, 1, 1, 1, 1], rfl, ho3, ⟨by simp; omega, fun x hx => ?_⟩, ⟨q + 1, by omega, (h1.row (World.grownBy_alloc w1 _ none) (by simp)).row hg3 (fun k hk => by have := hown1.base k hk; omega)⟩, Chg.push hb1 hlo1 hg3 hown1.base⟩
        rcases List.mem_append.1 hx with hx | hx
        · exact HSM.out.2 x hx
        · have : ∀ x ∈ ([1, 1, 1, 1, 1, 1, 1, 1, 1, 1, 1, 1, 1, 1, 1, 1] : List Int), -1 ≤ x ∧ x ≤ 17 := by decide
          exact this x hx
      · have e2 : (y == 2) = false := by simp; omega
        have HO1 := Lib.hid hown1
        clear hown1
        go_wp2_with fail
        go_ret
        exact ⟨a, c, M, rfl, HO1.out, HSM.out, ⟨q + 1, by omega, h1⟩, hb1⟩

theorem someParts_grown (g q : Nat) (bs : List Int) (w : World) (hq : q ≤ 700000) (h : Rdr w g bs q) :
    Calls Try.prog 57 #[.pointer (some ⟨g, 0, none⟩)] w fun e w' => ∃ a' c' M, e = .returned (.slice a' M.length c') ∧ Own w' w.heap.size w'.heap.size 3 (.slice a' M.length c') (ints M) ∧ Small M ∧ (∃ q', q' ≤ q + 50 ∧ Rdr w' g bs q') ∧ w.grownBy w' (some g) := by
  have hlt := h.lt
  go_enter Try.func57, Try.ntmps57
  go_wp2_with fail
  refine (goodParts_any g q bs _ (by omega) h).mono ?_
  rintro e w1 ⟨a', c', M, rfl, ho, hs, ⟨q', hq', h1⟩, hg1⟩
  have hb1 : Chg g w.heap.size w w1 := .of hg1 (Nat.le_refl _)
  have hz := hg1.size
  clear hg1
  go_wp2_with fail
  refine (bent_any g q' w.heap.size _ _ M bs _ (by omega) h1 hs ho hlt hz).mono ?_
  rintro e w2 ⟨a2, c2, M2, rfl, ho2, hs2, ⟨q2, hq2, h2⟩, hb2⟩
  go_wp2_with fail
  go_ret
  exact ⟨a2, c2, M2, rfl, ho2, hs2, ⟨q2, by omega, h2⟩, (hb1.trans hb2).grown⟩
theorem someParts_any (g q : Nat) (bs : List Int) (w : World) (hq : q ≤ 700000) (h : Rdr w g bs q) :
    Calls Try.prog 57 #[.pointer (some ⟨g, 0, none⟩)] w fun e w' => ∃ a' c' M, e = .returned (.slice a' M.length c') ∧ Own w' w.heap.size w'.heap.size 3 (.slice a' M.length c') (ints M) ∧ Small M ∧ (∃ q', q' ≤ q + 50 ∧ Rdr w' g bs q') ∧ Below g w w' := by
  have hlt := h.lt
  refine (someParts_grown g q bs w hq h).mono ?_
  rintro e w' ⟨a', c', M, he, ho, hs, hr, hg⟩
  refine ⟨a', c', M, he, ho, hs, hr, ?_⟩
  rcases chg_low hg with hb | hb
  · exact hb
  · omega












end Go.Proofs.Ytmojonpjgaidgaa

namespace Go.Proofs.Ytmojonpjgaidgaa
namespace NP
set_option linter.unusedVariables false
theorem mono_split {A B : List Int} (h : mono (A ++ B)) : mono A ∧ mono B ∧ ∀ x ∈ A, ∀ y ∈ B, y ≤ x := by
  induction A with
  | nil => exact ⟨trivial, h, fun x hx => by simp at hx⟩
  | cons x r ih =>
    obtain ⟨h1, h2⟩ := h
    obtain ⟨h3, h4, h5⟩ := ih h2
    refine ⟨⟨fun y hy => h1 y (List.mem_append_left _ hy), h3⟩, h4, fun z hz y hy => ?_⟩
    rcases List.mem_cons.1 hz with rfl | hz
    · exact h1 y (List.mem_append_right _ hy)
    · exact h5 z hz y hy
theorem mono_head {D : List Int} (h : mono D) (i : Nat) (hi : i < D.length) : D[i] ≤ D[0]'(by omega) := by
  match D, h with
  | [], _ => simp at hi
  | y :: t, h =>
    match i, hi with
    | 0, _ => exact Int.le_refl _
    | i + 1, hi => exact h.1 _ (List.getElem_mem _)
theorem insK_mono {M : List Int} (h : mono M) (x : Int) : mono (insK M x) := by
  have hs := ff_spec (fun (j : Nat) => decide (x ≤ M.getD j 0)) M.length
  have e := List.take_append_drop (posOf x M) M
  rw [← e] at h
  obtain ⟨h1, h2, h3⟩ := mono_split h
  have hd : ∀ y ∈ M.drop (posOf x M), y ≤ x := fun y hy => by
    obtain ⟨i, hi, rfl⟩ := List.getElem_of_mem hy
    simp at hi
    rcases hs.2.2 with hs2 | hs2
    · have : posOf x M = M.length := hs2
      omega
    · have hp : posOf x M < M.length := by omega
      have hx : ¬ x ≤ M.getD (posOf x M) 0 := of_decide_eq_false hs2
      rw [getD_lt hp] at hx
      have h4 := mono_head h2 i (by simp; omega)
      simp at h4
      rw [List.getElem_drop]
      omega
  unfold insK
  refine mono_append h1 ⟨hd, h2⟩ fun a ha b hb => ?_
  rcases List.mem_cons.1 hb with rfl | hb
  · obtain ⟨i, hi, rfl⟩ := List.getElem_of_mem ha
    simp at hi
    have := of_decide_eq_true (hs.2.1 i (by unfold posOf at hi; omega))
    rw [getD_lt (by omega)] at this
    rw [List.getElem_take]
    exact this
  · exact h3 a ha b hb
theorem insK_eqc (M : List Int) (x k : Int) : eqc k (insK M x) = eqc k M + (if x = k then 1 else 0) := by
  have e : eqc k M = eqc k (M.take (posOf x M)) + eqc k (M.drop (posOf x M)) := by rw [← eqc_append, List.take_append_drop]
  unfold insK
  rw [eqc_append, eqc_cons, e]
  omega
theorem insK_sum (M : List Int) (x : Int) : sumL (insK M x) = sumL M + x := by
  have e : sumL M = sumL (M.take (posOf x M)) + sumL (M.drop (posOf x M)) := by rw [← sumL_append, List.take_append_drop]
  unfold insK
  rw [sumL_append, sumL, e]
  omega
theorem fold_facts (L : List Int) : ∀ M, mono M → mono (L.foldl insK M) ∧ (∀ k, eqc k (L.foldl insK M) = eqc k M + eqc k L) ∧ sumL (L.foldl insK M) = sumL M + sumL L := by
  induction L with
  | nil => intro M h; exact ⟨h, fun k => by simp [eqc], by simp [sumL]⟩
  | cons x r ih =>
    intro M h
    obtain ⟨h1, h2, h3⟩ := ih (insK M x) (insK_mono h x)
    refine ⟨h1, fun k => ?_, ?_⟩
    · rw [List.foldl_cons, h2, insK_eqc, eqc_cons]; omega
    · rw [List.foldl_cons, h3, insK_sum, sumL]; omega
theorem mrg_mono (L : List Int) : mono (mrg L) := (fold_facts L [] trivial).1
theorem mrg_eqc (L : List Int) (k : Int) : eqc k (mrg L) = eqc k L := by have := (fold_facts L [] trivial).2.1 k; unfold mrg; simpa [eqc] using this
theorem mrg_sum (L : List Int) : sumL (mrg L) = sumL L := by have := (fold_facts L [] trivial).2.2; unfold mrg; simpa [sumL] using this
theorem mrg_len (L : List Int) : (mrg L).length = L.length := by have := (fold_ins L []).1; unfold mrg; simpa using this
theorem mrg_mem {L : List Int} {y : Int} (h : y ∈ mrg L) : y ∈ L := by
  rcases (fold_ins L []).2 y h with h | h
  · exact h
  · simp at h
theorem cnt_eqc {A B : List Int} (h : ∀ k, eqc k A = eqc k B) (hl : A.length = B.length) (t : Int) : cnt t A = cnt t B := by
  induction A generalizing B with
  | nil =>
    have : B = [] := List.eq_nil_of_length_eq_zero (by simp at hl; omega)
    subst this; rfl
  | cons x r ih =>
    have hx : x ∈ B := eqc_mem (by rw [← h x]; exact eqc_pos (by simp))
    obtain ⟨b1, b2, rfl⟩ := List.append_of_mem hx
    have h2 := ih (B := b1 ++ b2) (fun k => by
      have := h k
      rw [eqc_cons, eqc_append, eqc_cons] at this
      rw [eqc_append]; omega) (by simp at hl ⊢; omega)
    rw [cnt, h2, cnt_append, cnt_append, cnt]
    omega
theorem mono_get {L : List Int} (h : mono L) (j : Nat) (hj : j + 1 < L.length) : L[j + 1] ≤ L[j] := by
  induction L generalizing j with
  | nil => simp at hj
  | cons x r ih =>
    match j with
    | 0 => simp; exact h.1 _ (List.getElem_mem _)
    | j + 1 => simpa using ih h.2 j (by simp at hj; omega)
theorem valid_mono {M : List Int} (h : mono M) (h1 : ∀ x ∈ M, 1 ≤ x) (hs : sumL M ≤ 16) : valid M = true := by
  refine valid_of_preS (fun j hj _ => ?_) hs
  have hb := (elem_le_sum (fun x hx => by have := h1 x hx; omega) hj).1
  refine ⟨h1 _ (List.getElem_mem hj), by omega, fun h0 => ?_⟩
  have := mono_get h (j - 1) (by omega)
  simp only [show j - 1 + 1 = j by omega] at this
  exact this
def uni (P Q : List Int) : List Int := mrg (P ++ Q)
theorem valid_ge1 {L : List Int} (h : valid L = true) : ∀ x ∈ L, 1 ≤ x := fun x hx => by
  obtain ⟨k, hk, rfl⟩ := List.getElem_of_mem hx
  exact (preS_of_valid h k hk hk).1
theorem uni_ge1 {P Q : List Int} (h : two P Q = true) : ∀ x ∈ uni P Q, 1 ≤ x := fun x hx => by
  obtain ⟨hp, hq, _⟩ := two_out h
  rcases List.mem_append.1 (mrg_mem hx) with hx | hx
  · exact valid_ge1 hp x hx
  · exact valid_ge1 hq x hx
theorem valid_uni {P Q : List Int} (h : two P Q = true) : valid (uni P Q) = true :=
  valid_mono (mrg_mono _) (uni_ge1 h) (by unfold uni; rw [mrg_sum, sumL_append]; exact (two_out h).2.2)
theorem um_uni {P Q : List Int} (h : two P Q = true) : (um (fun i => P.getD i 0) (fun i => Q.getD i 0) 16).1 = pad (uni P Q) :=
  um_end h (mrg_mono _) (fun k => by unfold uni; rw [mrg_eqc, eqc_append]) (by unfold uni; rw [mrg_len]; simp) (uni_ge1 h)
def uniF (P Q : List Int) : List Int := if two P Q then uni P Q else []
theorem uniF_yes {P Q : List Int} (h : two P Q = true) : uniF P Q = uni P Q := by simp [uniF, h]
theorem uniF_no {P Q : List Int} (h : two P Q = false) : uniF P Q = [] := by simp [uniF, h]
theorem uniF_len (P Q : List Int) : (uniF P Q).length ≤ 16 := by
  unfold uniF
  split
  · rename_i h
    exact (valid_bd (valid_uni h)).2.2.2
  · simp
/-- parts with the same numbers at all places are the same -/
theorem valid_ext {A B : List Int} (hA : valid A = true) (hB : valid B = true) (h : ∀ j, A.getD j 0 = B.getD j 0) : A = B := by
  have hl : A.length = B.length := by
    rcases Nat.lt_trichotomy A.length B.length with h1 | h1 | h1
    · have := h A.length
      rw [getD_ge (Nat.le_refl _)] at this
      have := getD_pos hB h1
      omega
    · exact h1
    · have := h B.length
      rw [getD_ge (L := B) (Nat.le_refl _)] at this
      have := getD_pos hA h1
      omega
  apply List.ext_getElem hl
  intro j h1 h2
  have := h j
  rwa [getD_lt h1, getD_lt h2] at this
theorem conj_getD {L : List Int} (h : valid L = true) (j : Nat) : (conj L).getD j 0 = cnt ((j : Int) + 1) L := by
  rcases Nat.lt_or_ge j (conj L).length with h1 | h1
  · rw [getD_lt h1, conj_get]
  · rw [getD_ge h1]
    rw [conj_len] at h1
    exact (cnt_none fun x hx => by have := head_ge h x hx; omega).symm
theorem two_conj {P Q : List Int} (h : two P Q = true) : two (conj P) (conj Q) = true := by
  obtain ⟨hp, hq, hs⟩ := two_out h
  unfold two
  rw [valid_conj hp, valid_conj hq, sumL_conj hp, sumL_conj hq, decide_eq_true hs]
  rfl
theorem cnt_uni (P Q : List Int) (t : Int) : cnt t (uni P Q) = cnt t P + cnt t Q := by
  rw [← cnt_append]
  exact cnt_eqc (fun k => by unfold uni; rw [mrg_eqc]) (by unfold uni; rw [mrg_len]) t
theorem conj_uni {P Q : List Int} (h : two P Q = true) : conj (uni P Q) = adp (conj P) (conj Q) := by
  obtain ⟨hp, hq, hs⟩ := two_out h
  refine valid_ext (valid_conj (valid_uni h)) (valid_adp (two_conj h)) fun j => ?_
  rw [conj_getD (valid_uni h), adp_getD, conj_getD hp, conj_getD hq, cnt_uni]
theorem conj_adp {P Q : List Int} (h : two P Q = true) : conj (adp P Q) = uni (conj P) (conj Q) := by
  obtain ⟨hp, hq, hs⟩ := two_out h
  have h2 := two_conj h
  have e := conj_uni h2
  rw [conj_conj hp, conj_conj hq] at e
  rw [← e, conj_conj (valid_uni h2)]
theorem adp_comm (P Q : List Int) : adp P Q = adp Q P := by
  unfold adp
  rw [Nat.max_comm]
  apply List.map_congr_left
  intro i _
  omega
theorem two_comm (P Q : List Int) : two P Q = two Q P := by
  unfold two
  rw [Int.add_comm (sumL P), Bool.and_comm (valid P)]
theorem uni_len (P Q : List Int) : (uni P Q).length = P.length + Q.length := by unfold uni; rw [mrg_len]; simp
end NP
end Go.Proofs.Ytmojonpjgaidgaa
namespace Go.Proofs.Ytmojonpjgaidgaa
namespace NP
set_option linter.unusedVariables false
/-- the first n values that are above 0 -/
def tr (f : Nat → Int) (n : Nat) : List Int := ((List.range n).map f).filter fun x => decide (0 < x)
def sf (f : Nat → Int) : Nat → Int
  | 0 => 0
  | n + 1 => sf f n + f n
theorem tr_succ (f : Nat → Int) (n : Nat) : tr f (n + 1) = tr f n ++ if 0 < f n then [f n] else [] := by
  unfold tr
  rw [List.range_succ, List.map_append, List.filter_append]
  congr 1
  simp only [List.map_cons, List.map_nil, List.filter_cons, List.filter_nil, decide_eq_true_eq]
theorem tr_len (f : Nat → Int) (n : Nat) : (tr f n).length ≤ n := by
  have h := List.length_filter_le (fun x => decide (0 < x)) ((List.range n).map f)
  simpa [tr] using h
theorem tr_full {f : Nat → Int} {n : Nat} (h : ∀ i, i < n → 0 < f i) : tr f n = (List.range n).map f := by
  unfold tr
  rw [List.filter_eq_self]
  intro x hx
  simp only [List.mem_map, List.mem_range] at hx
  obtain ⟨i, hi, rfl⟩ := hx
  simpa using h i hi
theorem map_getD (f : Nat → Int) (n j : Nat) : ((List.range n).map f).getD j 0 = if j < n then f j else 0 := by
  by_cases h : j < n
  · rw [if_pos h, List.getD_eq_getElem?_getD, List.getElem?_eq_getElem (by simpa using h)]
    simp
  · rw [if_neg h, List.getD_eq_getElem?_getD, List.getElem?_eq_none (by simp; omega)]
    rfl
theorem fall_le {f : Nat → Int} (hf : ∀ i, f (i + 1) ≤ f i) {i j : Nat} (h : i ≤ j) : f j ≤ f i := by
  induction j with
  | zero => obtain rfl : i = 0 := by omega
            exact Int.le_refl _
  | succ j ih =>
    by_cases e : i = j + 1
    · rw [e]; exact Int.le_refl _
    · exact Int.le_trans (hf j) (ih (by omega))
theorem tr_getD {f : Nat → Int} (hf : ∀ i, f (i + 1) ≤ f i) (h0 : ∀ i, 0 ≤ f i) (n j : Nat) : (tr f n).getD j 0 = if j < n then f j else 0 := by
  induction n with
  | zero => rfl
  | succ n ih =>
    by_cases h : 0 < f n
    · rw [tr_full (fun i hi => Int.lt_of_lt_of_le h (fall_le hf (by omega))), map_getD]
    · rw [tr_succ, if_neg h, List.append_nil, ih]
      have := h0 n
      by_cases h1 : j < n
      · rw [if_pos h1, if_pos (by omega)]
      · rw [if_neg h1]
        by_cases h2 : j = n
        · subst h2; rw [if_pos (by omega)]; omega
        · rw [if_neg (by omega)]
theorem tr_pos {f : Nat → Int} {n : Nat} {x : Int} (h : x ∈ tr f n) : 0 < x := by
  unfold tr at h
  rw [List.mem_filter] at h
  simpa using h.2
theorem sum_tr {f : Nat → Int} (h0 : ∀ i, 0 ≤ f i) (n : Nat) : sumL (tr f n) = sf f n := by
  induction n with
  | zero => rfl
  | succ n ih =>
    rw [tr_succ, sumL_append, ih, sf]
    have := h0 n
    by_cases h : 0 < f n
    · rw [if_pos h]; simp [sumL]
    · rw [if_neg h]; simp [sumL]; omega
theorem sf_le {f : Nat → Int} (h0 : ∀ i, 0 ≤ f i) {i n : Nat} (h : i < n) : f i ≤ sf f n ∧ 0 ≤ sf f n := by
  induction n with
  | zero => omega
  | succ n ih =>
    have h1 := h0 n
    have hn : 0 ≤ sf f n := by
      clear ih h h1
      induction n with
      | zero => exact Int.le_refl _
      | succ n ih => have := h0 n; rw [sf]; omega
    rw [sf]
    by_cases e : i = n
    · subst e; omega
    · have := ih (by omega); omega
theorem valid_tr {f : Nat → Int} (hf : ∀ i, f (i + 1) ≤ f i) (h0 : ∀ i, 0 ≤ f i) {n : Nat} (hs : sf f n ≤ 16) : valid (tr f n) = true := by
  apply valid_of_preS
  · intro j hj _
    have e := tr_getD hf h0 n j
    have hp := tr_pos (List.getElem_mem hj)
    rw [getD_lt hj] at e
    have hjn : j < n := by have := tr_len f n; omega
    rw [if_pos hjn] at e
    have hb := sf_le h0 hjn
    refine ⟨by omega, by omega, fun h1 => ?_⟩
    have e2 := tr_getD hf h0 n (j - 1)
    rw [getD_lt (by omega), if_pos (by omega)] at e2
    have := hf (j - 1)
    rw [show j - 1 + 1 = j by omega] at this
    omega
  · rw [sum_tr h0]; exact hs
theorem pad_tr {f : Nat → Int} (hf : ∀ i, f (i + 1) ≤ f i) (h0 : ∀ i, 0 ≤ f i) : pad (tr f 16) = (List.range 16).map f := by
  have hl := tr_len f 16
  apply List.ext_getElem
  · rw [pad_len hl]; simp
  · intro j h1 h2
    have e := pad_getD hl j
    rw [getD_lt h1, tr_getD hf h0] at e
    simp at h2
    rw [e, if_pos h2]
    simp
theorem tr_more {f : Nat → Int} {n m : Nat} (h : n ≤ m) (hz : ∀ i, n ≤ i → f i = 0) : tr f m = tr f n := by
  induction m with
  | zero => obtain rfl : n = 0 := by omega
            rfl
  | succ m ih =>
    by_cases e : n = m + 1
    · rw [e]
    · rw [tr_succ, ih (by omega), hz m (by omega), if_neg (by omega), List.append_nil]
theorem tr_self {L : List Int} (hv : valid L = true) {n : Nat} (h : L.length ≤ n) : tr (fun i => L.getD i 0) n = L := by
  rw [tr_more h (fun i hi => getD_ge hi), tr_full (fun i hi => by have := getD_pos hv hi; omega)]
  apply List.ext_getElem
  · simp
  · intro j h1 h2
    rw [List.getElem_map, List.getElem_range, getD_lt h2]
theorem tr_congr {f g : Nat → Int} {n : Nat} (h : ∀ i, i < n → f i = g i) : tr f n = tr g n := by
  unfold tr
  rw [List.map_congr_left fun i hi => h i (by simpa using hi)]
theorem getD_fall' {L : List Int} (hv : valid L = true) (i : Nat) : L.getD (i + 1) 0 ≤ L.getD i 0 := getD_fall hv (i + 1) (by omega)

/-! what both have, and what has both -/
def lo2 (P Q : List Int) (i : Nat) : Int := min (P.getD i 0) (Q.getD i 0)
def hi2 (P Q : List Int) (i : Nat) : Int := max (P.getD i 0) (Q.getD i 0)
def cutL (P Q : List Int) : List Int := tr (lo2 P Q) 16
def cutH (P Q : List Int) : List Int := tr (hi2 P Q) 16
section
variable {P Q : List Int}
theorem lo2_fall (hp : valid P = true) (hq : valid Q = true) (i : Nat) : lo2 P Q (i + 1) ≤ lo2 P Q i := by
  have := getD_fall' hp i; have := getD_fall' hq i; unfold lo2; omega
theorem hi2_fall (hp : valid P = true) (hq : valid Q = true) (i : Nat) : hi2 P Q (i + 1) ≤ hi2 P Q i := by
  have := getD_fall' hp i; have := getD_fall' hq i; unfold hi2; omega
theorem lo2_nn (hp : valid P = true) (hq : valid Q = true) (i : Nat) : 0 ≤ lo2 P Q i := by
  have := getD_nn hp i; have := getD_nn hq i; unfold lo2; omega
theorem hi2_nn (hp : valid P = true) (hq : valid Q = true) (i : Nat) : 0 ≤ hi2 P Q i := by
  have := getD_nn hp i; have := getD_nn hq i; unfold hi2; omega
theorem sf_sumTo (L : List Int) (n : Nat) : sf (fun i => L.getD i 0) n = sumTo L n := by
  induction n with
  | zero => rfl
  | succ n ih => rw [sf, sumTo, ih]
theorem sf_cut (P Q : List Int) (n : Nat) : sf (lo2 P Q) n + sf (hi2 P Q) n = sumTo P n + sumTo Q n := by
  induction n with
  | zero => rfl
  | succ n ih => rw [sf, sf, sumTo, sumTo]; unfold lo2 hi2 at *; omega
theorem sf_lo_le (hp : valid P = true) (hq : valid Q = true) (n : Nat) : sf (lo2 P Q) n ≤ sumTo P n := by
  induction n with
  | zero => exact Int.le_refl _
  | succ n ih => rw [sf, sumTo]; have : lo2 P Q n ≤ P.getD n 0 := by unfold lo2; omega
                 omega
end
/-- the cut rows fit -/
def cutOk (P Q : List Int) : Bool := valid P && valid Q && decide (sf (hi2 P Q) 16 ≤ 16)
def cutLF (P Q : List Int) : List Int := if cutOk P Q then cutL P Q else []
def cutHF (P Q : List Int) : List Int := if cutOk P Q then cutH P Q else []
theorem cutOk_out {P Q : List Int} (h : cutOk P Q = true) : valid P = true ∧ valid Q = true ∧ sf (hi2 P Q) 16 ≤ 16 := by
  unfold cutOk at h
  simp only [Bool.and_eq_true, decide_eq_true_eq] at h
  exact ⟨h.1.1, h.1.2, h.2⟩
theorem valid_cutL {P Q : List Int} (hp : valid P = true) (hq : valid Q = true) : valid (cutL P Q) = true := by
  have h1 := sf_lo_le hp hq 16
  rw [sumTo_all P 16 (valid_bd hp).2.2.2] at h1
  exact valid_tr (lo2_fall hp hq) (lo2_nn hp hq) (by have := (valid_bd hp).2.1; omega)
theorem valid_cutH {P Q : List Int} (h : cutOk P Q = true) : valid (cutH P Q) = true := by
  obtain ⟨hp, hq, hs⟩ := cutOk_out h
  exact valid_tr (hi2_fall hp hq) (hi2_nn hp hq) hs

/-- are the rows of Q inside of those of P -/
def ins (P Q : List Int) : Bool := valid P && valid Q && (List.range 16).all fun i => decide (Q.getD i 0 ≤ P.getD i 0)
theorem ins_iff {P Q : List Int} : ins P Q = true ↔ valid P = true ∧ valid Q = true ∧ ∀ i, Q.getD i 0 ≤ P.getD i 0 := by
  unfold ins
  simp only [Bool.and_eq_true, List.all_eq_true, List.mem_range, decide_eq_true_eq]
  constructor
  · rintro ⟨⟨hp, hq⟩, h⟩
    refine ⟨hp, hq, fun i => ?_⟩
    rcases Nat.lt_or_ge i 16 with hi | hi
    · exact h i hi
    · rw [getD_ge (Nat.le_trans (valid_bd hq).2.2.2 hi)]; exact (getD_nn hp i).1
  · rintro ⟨hp, hq, h⟩
    exact ⟨⟨hp, hq⟩, fun i _ => h i⟩

/-! first sums -/
def mf (P Q : List Int) (k : Nat) : Int := min (sumTo P k) (sumTo Q k)
def mi (P Q : List Int) (i : Nat) : Int := mf P Q (i + 1) - mf P Q i
def mt (P Q : List Int) : List Int := tr (mi P Q) 16
theorem sf_mi (P Q : List Int) (n : Nat) : sf (mi P Q) n = mf P Q n := by
  induction n with
  | zero => simp [sf, mf, sumTo]
  | succ n ih => rw [sf, ih]; unfold mi; omega
section
variable {P Q : List Int}
theorem mi_fall (hp : valid P = true) (hq : valid Q = true) (i : Nat) : mi P Q (i + 1) ≤ mi P Q i := by
  have := getD_fall' hp i; have := getD_fall' hq i; unfold mi mf; simp only [sumTo]; omega
theorem mi_nn (hp : valid P = true) (hq : valid Q = true) (i : Nat) : 0 ≤ mi P Q i := by
  have := getD_nn hp i; have := getD_nn hq i; unfold mi mf; simp only [sumTo]; omega
theorem mf_end (hp : valid P = true) (hq : valid Q = true) : mf P Q 16 = min (sumL P) (sumL Q) := by
  unfold mf; rw [sumTo_all P 16 (valid_bd hp).2.2.2, sumTo_all Q 16 (valid_bd hq).2.2.2]
theorem valid_mt (hp : valid P = true) (hq : valid Q = true) : valid (mt P Q) = true := by
  refine valid_tr (mi_fall hp hq) (mi_nn hp hq) ?_
  rw [sf_mi, mf_end hp hq]
  have := (valid_bd hp).2.1
  omega
theorem pad_mt (hp : valid P = true) (hq : valid Q = true) : pad (mt P Q) = (List.range 16).map (mi P Q) := pad_tr (mi_fall hp hq) (mi_nn hp hq)
theorem sum_mt (hp : valid P = true) (hq : valid Q = true) : sumL (mt P Q) = min (sumL P) (sumL Q) := by
  unfold mt
  rw [sum_tr (mi_nn hp hq), sf_mi, mf_end hp hq]
theorem sumTo_mt (hp : valid P = true) (hq : valid Q = true) {k : Nat} (hk : k ≤ 16) : sumTo (mt P Q) k = mf P Q k := by
  induction k with
  | zero => simp [sumTo, mf]
  | succ k ih =>
    rw [sumTo, ih (by omega)]
    unfold mt
    rw [tr_getD (mi_fall hp hq) (mi_nn hp hq), if_pos (by omega)]
    unfold mi
    omega
theorem eq_of_sumTo (hp : valid P = true) (hq : valid Q = true) (h : ∀ k, k ≤ 16 → sumTo P k = sumTo Q k) : P = Q := by
  refine valid_ext hp hq fun j => ?_
  rcases Nat.lt_or_ge j 16 with hj | hj
  · have h1 := h j (by omega)
    have h2 := h (j + 1) (by omega)
    simp only [sumTo] at h2
    omega
  · rw [getD_ge (Nat.le_trans (valid_bd hp).2.2.2 hj), getD_ge (Nat.le_trans (valid_bd hq).2.2.2 hj)]
theorem mt_right (hp : valid P = true) (hq : valid Q = true) : mt P Q = Q ↔ ∀ k, k ≤ 16 → sumTo Q k ≤ sumTo P k := by
  constructor
  · intro h k hk
    have := sumTo_mt hp hq hk
    rw [h] at this
    unfold mf at this
    omega
  · intro h
    refine eq_of_sumTo (valid_mt hp hq) hq fun k hk => ?_
    rw [sumTo_mt hp hq hk]
    have := h k hk
    unfold mf
    omega
theorem mt_comm (P Q : List Int) : mt P Q = mt Q P := by
  unfold mt
  refine tr_congr fun i _ => ?_
  unfold mi mf
  omega
end
/-- P dominates Q -/
def dom (P Q : List Int) : Bool := valid P && valid Q && decide (sumL P = sumL Q) && (List.range 17).all fun k => decide (sumTo Q k ≤ sumTo P k)
theorem dom_iff {P Q : List Int} : dom P Q = true ↔ valid P = true ∧ valid Q = true ∧ sumL P = sumL Q ∧ ∀ k, k ≤ 16 → sumTo Q k ≤ sumTo P k := by
  unfold dom
  simp only [Bool.and_eq_true, List.all_eq_true, List.mem_range, decide_eq_true_eq]
  constructor
  · rintro ⟨⟨⟨hp, hq⟩, hs⟩, h⟩; exact ⟨hp, hq, hs, fun k hk => h k (by omega)⟩
  · rintro ⟨hp, hq, hs, h⟩; exact ⟨⟨⟨hp, hq⟩, hs⟩, fun k hk => h k (by omega)⟩

/-! the other way round -/
def csum (j : Nat) (L : List Int) : Int := sumL ((List.range j).map fun (t : Nat) => cnt ((t : Int) + 1) L)
theorem csum_cons (j : Nat) (x : Int) (r : List Int) : csum j (x :: r) = tsum j x + csum j r := by
  unfold csum
  induction j with
  | zero => rfl
  | succ j ih =>
    have e2 : tsum (j + 1) x = tsum j x + if (j : Int) + 1 ≤ x then 1 else 0 := by
      simp [tsum, List.range_succ, sumL_append, sumL]
    rw [List.range_succ, List.map_append, sumL_append, ih, List.map_append, sumL_append, e2]
    simp [cnt, sumL]; omega
theorem csum_nil (j : Nat) : csum j [] = 0 := by
  unfold csum
  induction j with
  | zero => rfl
  | succ j ih => rw [List.range_succ, List.map_append, sumL_append, ih]; simp [cnt, sumL]
theorem sumTo_conj {L : List Int} (hv : valid L = true) (j : Nat) : sumTo (conj L) j = csum j L := by
  unfold csum
  induction j with
  | zero => rfl
  | succ j ih => rw [sumTo, ih, conj_getD hv, List.range_succ, List.map_append, sumL_append]; simp [sumL]
theorem tsum_full (n : Nat) (x : Int) (h : (n : Int) ≤ x) : tsum n x = n := by
  induction n with
  | zero => simp [tsum, sumL]
  | succ n ih =>
    have e2 : tsum (n + 1) x = tsum n x + if (n : Int) + 1 ≤ x then 1 else 0 := by
      simp [tsum, List.range_succ, sumL_append, sumL]
    rw [e2, ih (by omega), if_pos (by omega)]
    omega
theorem cells_le (j : Nat) : ∀ (L : List Int) (k : Nat), (∀ x ∈ L, 0 ≤ x) → sumL (L.take k) + csum j L ≤ sumL L + (k : Int) * (j : Int)
  | [], k, _ => by
    rw [csum_nil]
    have : (0 : Int) ≤ (k : Int) * (j : Int) := Int.mul_nonneg (by omega) (by omega)
    simp [sumL]; exact this
  | x :: r, 0, h => by
    have ih := cells_le j r 0 fun y hy => h y (by simp [hy])
    have h1 := (tsum_le j x (h x (by simp))).1
    rw [csum_cons]
    simp [sumL] at ih ⊢
    omega
  | x :: r, k + 1, h => by
    have ih := cells_le j r k fun y hy => h y (by simp [hy])
    have h1 := (tsum_le j x (h x (by simp))).2
    rw [csum_cons]
    have e : ((k + 1 : Nat) : Int) * (j : Int) = (k : Int) * (j : Int) + (j : Int) := by rw [Int.natCast_add, Int.add_mul]; simp
    rw [e]
    simp only [List.take_succ_cons, sumL]
    omega
theorem cells_eq (j : Nat) : ∀ (L : List Int), mono L → (∀ x ∈ L, 0 ≤ x) → sumL (L.take (cnt ((j : Int) + 1) L).toNat) + csum j L = sumL L + cnt ((j : Int) + 1) L * (j : Int)
  | [], _, _ => by simp [csum_nil, cnt, sumL]
  | x :: r, hm, h => by
    by_cases hx : (j : Int) + 1 ≤ x
    · have ih := cells_eq j r hm.2 fun y hy => h y (by simp [hy])
      have hc := cnt_bd ((j : Int) + 1) r
      have e : cnt ((j : Int) + 1) (x :: r) = cnt ((j : Int) + 1) r + 1 := by rw [cnt, if_pos hx]; omega
      rw [e, csum_cons, tsum_full j x (by omega), show (cnt ((j : Int) + 1) r + 1).toNat = (cnt ((j : Int) + 1) r).toNat + 1 by omega, List.take_succ_cons, Int.add_mul]
      simp only [sumL]
      omega
    · have e : cnt ((j : Int) + 1) (x :: r) = 0 := cnt_none fun y hy => by
        rcases List.mem_cons.1 hy with rfl | hy
        · omega
        · have := hm.1 y hy; omega
      rw [e]
      have h2 : csum j (x :: r) = sumL (x :: r) := csum_eq j _ fun y hy => ⟨h y hy, by
        rcases List.mem_cons.1 hy with rfl | hy
        · omega
        · have := hm.1 y hy; omega⟩
      rw [h2]
      simp [sumL]
theorem dual {P Q : List Int} (hp : valid P = true) (hq : valid Q = true) (hs : sumL P = sumL Q) (h : ∀ k, k ≤ 16 → sumTo Q k ≤ sumTo P k) (j : Nat) : sumTo (conj P) j ≤ sumTo (conj Q) j := by
  rw [sumTo_conj hp, sumTo_conj hq]
  have hc := cnt_bd ((j : Int) + 1) Q
  have h1 := cells_eq j Q (mono_valid hq) (valid_nonneg hq)
  have h2 := cells_le j P (cnt ((j : Int) + 1) Q).toNat (valid_nonneg hp)
  have h3 := h (cnt ((j : Int) + 1) Q).toNat (by have := (valid_bd hq).2.2.2; omega)
  rw [sumTo_take, sumTo_take] at h3
  rw [show (((cnt ((j : Int) + 1) Q).toNat : Nat) : Int) = cnt ((j : Int) + 1) Q by omega] at h2
  omega
theorem dom_conj {P Q : List Int} (hp : valid P = true) (hq : valid Q = true) : dom (conj Q) (conj P) = dom P Q := by
  have key : ∀ {P Q : List Int}, dom P Q = true → dom (conj Q) (conj P) = true := by
    intro P Q h
    obtain ⟨hp, hq, hs, hk⟩ := dom_iff.1 h
    exact dom_iff.2 ⟨valid_conj hq, valid_conj hp, by rw [sumL_conj hp, sumL_conj hq, hs], fun k _ => dual hp hq hs hk k⟩
  rw [Bool.eq_iff_iff]
  refine ⟨fun h => ?_, key⟩
  have := key h
  rwa [conj_conj hp, conj_conj hq] at this
theorem conj_inj {P Q : List Int} (hp : valid P = true) (hq : valid Q = true) : conj P = conj Q ↔ P = Q :=
  ⟨fun h => by rw [← conj_conj hp, h, conj_conj hq], fun h => by rw [h]⟩
theorem pad_inj {P Q : List Int} (hp : valid P = true) (hq : valid Q = true) : pad P = pad Q ↔ P = Q :=
  ⟨fun h => valid_ext hp hq fun j => by rw [← pad_getD (valid_bd hp).2.2.2, h, pad_getD (valid_bd hq).2.2.2], fun h => by rw [h]⟩
/-- what is above both -/
def jn (P Q : List Int) : List Int := conj (mt (conj P) (conj Q))
theorem valid_jn {P Q : List Int} (hp : valid P = true) (hq : valid Q = true) : valid (jn P Q) = true := valid_conj (valid_mt (valid_conj hp) (valid_conj hq))
/-- the program's question: they are their own bounds -/
theorem dom_bounds {P Q : List Int} (hp : valid P = true) (hq : valid Q = true) : dom P Q = (decide (mt P Q = Q) && decide (jn P Q = P)) := by
  have h2 : jn P Q = P ↔ ∀ k, k ≤ 16 → sumTo (conj P) k ≤ sumTo (conj Q) k := by
    rw [← mt_right (valid_conj hq) (valid_conj hp), mt_comm, ← conj_inj (valid_jn hp hq) hp]
    unfold jn
    rw [conj_conj (valid_mt (valid_conj hp) (valid_conj hq))]
  rw [Bool.eq_iff_iff, Bool.and_eq_true, decide_eq_true_eq, decide_eq_true_eq, dom_iff, mt_right hp hq, h2]
  constructor
  · rintro ⟨_, _, hs, h⟩; exact ⟨h, fun k _ => dual hp hq hs h k⟩
  · rintro ⟨h, h'⟩
    refine ⟨hp, hq, ?_, h⟩
    have a1 := h 16 (by omega)
    have a2 := h' 16 (by omega)
    rw [sumTo_all _ 16 (valid_bd hp).2.2.2, sumTo_all _ 16 (valid_bd hq).2.2.2] at a1
    rw [sumTo_all _ 16 (valid_bd (valid_conj hp)).2.2.2, sumTo_all _ 16 (valid_bd (valid_conj hq)).2.2.2, sumL_conj hp, sumL_conj hq] at a2
    omega
theorem ins_bounds {P Q : List Int} (hp : valid P = true) (hq : valid Q = true) : ins P Q = (decide ((List.range 16).map (lo2 P Q) = pad Q) && decide ((List.range 16).map (hi2 P Q) = pad P)) := by
  rw [Bool.eq_iff_iff, Bool.and_eq_true, decide_eq_true_eq, decide_eq_true_eq, ins_iff]
  have hpl := (valid_bd hp).2.2.2
  have hql := (valid_bd hq).2.2.2
  constructor
  · rintro ⟨_, _, h⟩
    constructor
    · apply List.ext_getElem
      · rw [pad_len hql]; simp
      · intro j h1 h2
        rw [← getD_lt h2, pad_getD hql]
        simp only [List.getElem_map, List.getElem_range]
        have := h j
        unfold lo2; omega
    · apply List.ext_getElem
      · rw [pad_len hpl]; simp
      · intro j h1 h2
        rw [← getD_lt h2, pad_getD hpl]
        simp only [List.getElem_map, List.getElem_range]
        have := h j
        unfold hi2; omega
  · rintro ⟨h, _⟩
    refine ⟨hp, hq, fun i => ?_⟩
    rcases Nat.lt_or_ge i 16 with hi | hi
    · have e := congrArg (fun l => l.getD i 0) h
      rw [map_getD, if_pos hi, pad_getD hql] at e
      unfold lo2 at e
      omega
    · rw [getD_ge (by omega)]; exact (getD_nn hp i).1

/-! ranks and cranks -/
def rnk (L : List Int) : Int := if valid L then L.headD 0 - L.length else 0
def crk (L : List Int) : Int := if valid L then (if eqc 1 L = 0 then L.headD 0 else cnt (eqc 1 L + 1) L - eqc 1 L) else 0
theorem rnk_yes {L : List Int} (h : valid L = true) : rnk L = L.headD 0 - L.length := by simp [rnk, h]
theorem rnk_no {L : List Int} (h : valid L = false) : rnk L = 0 := by simp [rnk, h]
theorem crk_yes {L : List Int} (h : valid L = true) : crk L = if eqc 1 L = 0 then L.headD 0 else cnt (eqc 1 L + 1) L - eqc 1 L := by simp [crk, h]
theorem crk_no {L : List Int} (h : valid L = false) : crk L = 0 := by simp [crk, h]
end NP
end Go.Proofs.Ytmojonpjgaidgaa
namespace Go.Proofs.Ytmojonpjgaidgaa
namespace NP
theorem head_le_sum {L : List Int} (h : valid L = true) : 0 ≤ L.headD 0 ∧ L.headD 0 ≤ sumL L ∧ (0 < L.length → 1 ≤ L.headD 0) := by
  cases L with
  | nil => simp [sumL]
  | cons x r =>
    have h0 := valid_nonneg h
    have h1 := (elem_le_sum h0 (q := 0) (by simp)).1
    have h2 := valid_ge1 h x (by simp)
    simp at h1 ⊢
    omega
theorem rnk_facts {P : List Int} (h : valid P = true) : rnk (conj P) = -rnk P ∧ rnk P < max (sumL P) 1 ∧ -rnk P < max (sumL P) 1 ∧ -16 ≤ rnk P ∧ rnk P ≤ 16 := by
  have hb := valid_bd h
  have h1 := head_le_sum h
  have hc := head_conj h
  have hcb := headD_bd (valid_conj h)
  rw [rnk_yes h, rnk_yes (valid_conj h), conj_len]
  by_cases h0 : 0 < P.length
  · have := h1.2.2 h0
    omega
  · obtain rfl : P = [] := List.eq_nil_of_length_eq_zero (by omega)
    simp [conj, sumL]
    omega
end NP
end Go.Proofs.Ytmojonpjgaidgaa
namespace Go.Proofs.Ytmojonpjgaidgaa
namespace NP
theorem cnt_le_sum {L : List Int} (h : ∀ x ∈ L, 1 ≤ x) (t : Int) : cnt t L ≤ sumL L ∧ 0 ≤ sumL L := by
  induction L with
  | nil => simp [cnt, sumL]
  | cons x r ih =>
    have h1 := ih fun y hy => h y (by simp [hy])
    have h2 := h x (by simp)
    rw [cnt, sumL]
    split <;> omega
theorem eqc_le_sum {L : List Int} (h : ∀ x ∈ L, 1 ≤ x) (t : Int) : eqc t L ≤ sumL L := by
  induction L with
  | nil => simp [eqc, sumL]
  | cons x r ih =>
    have h1 := ih fun y hy => h y (by simp [hy])
    have h2 := h x (by simp)
    rw [eqc_cons, sumL]
    split <;> omega
theorem crk_facts {P : List Int} (h : valid P = true) (h0 : 0 < P.length) : crk P ≤ sumL P ∧ -crk P ≤ sumL P ∧ (P[P.length - 1]'(by omega) = 1 ∨ crk P = P[0]) ∧ -16 ≤ crk P ∧ crk P ≤ 16 ∧ 1 ≤ P[P.length - 1]'(by omega) ∧ P[P.length - 1]'(by omega) ≤ 16 := by
  have hb := valid_bd h
  have h1 := head_le_sum h
  have hg := valid_ge1 h
  have hc := cnt_le_sum hg (eqc 1 P + 1)
  have hcb := cnt_bd (eqc 1 P + 1) P
  have he := eqc_le_sum hg 1
  have heb := eqc_bd 1 P
  have hl := hg _ (List.getElem_mem (show P.length - 1 < P.length by omega))
  have hl2 := preS_of_valid h (P.length - 1) (by omega) (by omega)
  have h0' : P.headD 0 = P[0] := headD_get P h0
  rw [crk_yes h]
  by_cases hz : eqc 1 P = 0
  · rw [if_pos hz]
    refine ⟨h1.2.1, by omega, .inr h0', by omega, by omega, hl, hl2.2.1⟩
  · rw [if_neg hz]
    have hm : (1 : Int) ∈ P := eqc_mem (by omega)
    obtain ⟨q, hq, e⟩ := List.mem_iff_getElem.1 hm
    have hf := falls_all h (P.length - 1) q (by omega) (by omega)
    refine ⟨by omega, by omega, .inl (by omega), by omega, by omega, hl, hl2.2.1⟩
end NP
end Go.Proofs.Ytmojonpjgaidgaa
namespace Go.Proofs.Ytmojonpjgaidgaa
open Go.RowKit NP
set_option maxRecDepth 8000
set_option linter.unusedVariables false
set_option linter.unusedSimpArgs false
theorem Blk.range {w : World} {g : Nat} {t : TypeId} {vs : List Value} (h : Blk w g t vs.toArray) : w.rangeAt g 0 vs := fun j v hv => by
  rw [Nat.zero_add, h.cell j]; simpa using hv
theorem range_below {w w' : World} {b o : Nat} {cs : List Value} (h : w.rangeAt b o cs) (hb : Below w.heap.size w w') : w'.rangeAt b o cs := fun j v hv => by
  have := h j v hv
  exact (hb.cell (p := ⟨b, o + j, none⟩) (World.block_lt_of_cell? w _ this)).trans this
theorem keep_cr {w0 w w' : World} {g : Nat} {x : Value} {cs : List Value} (h : w.cell? ⟨g, 0, none⟩ = some x ∧ w.rangeAt g 0 cs ∧ Below w0.heap.size w0 w) (hb : Below w.heap.size w w') :
    w'.cell? ⟨g, 0, none⟩ = some x ∧ w'.rangeAt g 0 cs ∧ Below w0.heap.size w0 w' :=
  ⟨(hb.cell (p := ⟨g, 0, none⟩) (World.block_lt_of_cell? w _ h.1)).trans h.1, range_below h.2.1 hb, h.2.2.trans (hb.mono h.2.2.size)⟩
theorem cntD_le (D : List Int) : cntD D ≤ 16 := (ff_spec _ 16).1
theorem cntD_pad {M : List Int} (hM : valid M = true) : cntD (pad M) = M.length := by
  have hbd := valid_bd hM
  have hlen : M.length ≤ 16 := hbd.2.2.2
  unfold cntD
  refine ff_eq (fun j hj => ?_) hlen ?_
  · have h1 := preS_of_valid hM j hj hj
    rw [List.getD_eq_getElem?_getD, List.getElem?_eq_getElem (by rw [pad_len hlen]; omega), Option.getD_some, pad_get hlen hj]
    simp; omega
  · rcases Nat.lt_or_ge M.length 16 with h | h
    · right
      rw [List.getD_eq_getElem?_getD, List.getElem?_eq_getElem (by rw [pad_len hlen]; omega), Option.getD_some, pad_get0 hlen (Nat.le_refl _) h]
      simp
    · left; omega
theorem getD0 (L : List Int) : L.getD 0 0 = L.headD 0 := by cases L <;> rfl
theorem cntD_zeros : cntD (List.replicate 16 0) = 0 := by decide
theorem dg_bd (L : List Int) : ∀ k (h : k < (dg L).length), 0 ≤ (dg L)[k] ∧ (dg L)[k] ≤ 16 := by
  cases hv : valid L with
  | true => rw [dg_yes hv]; exact pad_nonneg hv
  | false => rw [dg_no hv]; intro k h; rw [List.getElem_replicate]; omega
theorem rnk_dg (L : List Int) : (dg L).getD 0 0 - cntD (dg L) = rnk L := by
  cases hv : valid L with
  | true => rw [dg_yes hv, cntD_pad hv, pad_getD (valid_bd hv).2.2.2, getD0, rnk_yes hv]
  | false => rw [dg_no hv, cntD_zeros, rnk_no hv]; rfl
theorem info_diag (D : List Int) (hD : D.length = 16) : (Try.prog.info? 46).map (·.size) = some (ints D).length := by rw [List.length_map, hD]; exact T_info35




end Go.Proofs.Ytmojonpjgaidgaa
namespace Go.Proofs.Ytmojonpjgaidgaa
open Go.RowKit Go.Shelf NP
set_option maxRecDepth 8000
set_option linter.unusedVariables false
set_option linter.unusedSimpArgs false
attribute [local go_sem] Oper.semAt_some
abbrev VL := { x : List Int // valid x = true }
def topQ (L : List Int) (m : Nat) : Nat := if L.length = 0 then m else (L.getD (L.length - 1) 0).toNat
theorem upQ_leJ (f n top : Nat) : ∀ {j k : Nat}, j ≤ k → (upQ f n top j).length ≤ (upQ f n top k).length := by
  intro j k h
  unfold upQ
  have e : (List.range top).reverse.take k = (List.range top).reverse.take j ++ ((List.range top).reverse.take k).drop j := by
    conv => lhs; rw [← List.take_append_drop j ((List.range top).reverse.take k)]
    rw [List.take_take, Nat.min_eq_left h]
  rw [e, List.flatMap_append, List.length_append]
  omega
theorem upQ_pre (f n top : Nat) : ∀ {j k : Nat}, j ≤ k → upQ f n top j <+: upQ f n top k := by
  intro j k h
  unfold upQ
  have e : (List.range top).reverse.take k = (List.range top).reverse.take j ++ ((List.range top).reverse.take k).drop j := by
    conv => lhs; rw [← List.take_append_drop j ((List.range top).reverse.take k)]
    rw [List.take_take, Nat.min_eq_left h]
  rw [e, List.flatMap_append]
  exact List.prefix_append _ _
theorem KpT.setNew {T : TypeId} {W wr : World} (h : KpT T W wr) {b i : Nat} {v : Value} (hb : W.heap.size ≤ b) : KpT T W (wr.setCell ⟨b, i, none⟩ v) :=
  ⟨by have := h.size; simpa [World.setCell] using this, fun k cs fr hk => by
    have hlt := (Array.getElem?_eq_some_iff.1 hk).1
    exact (Below.heap_setCell wr ⟨b, i, none⟩ v k (by show k ≠ b; omega)).trans (h.same k cs fr hk)⟩
theorem valid_snoc {L : List Int} (hv : valid L = true) {p m : Nat} (h1 : 1 ≤ p) (h2 : sumL L + (p : Int) ≤ 16) (h3 : 0 < L.length → (p : Int) ≤ L.getD (L.length - 1) 0) : valid (L ++ [(p : Int)]) = true := by
  apply valid_of_preS
  · intro j hj _
    have hl := (valid_bd hv)
    rcases Nat.lt_or_ge j L.length with h | h
    · have hp := preS_of_valid hv j h h
      rw [List.getElem_append_left h]
      refine ⟨hp.1, hp.2.1, fun h0 => ?_⟩
      rw [List.getElem_append_left (by omega)]
      exact hp.2.2 h0
    · obtain rfl : j = L.length := by simp at hj; omega
      rw [List.getElem_append_right (Nat.le_refl _)]
      simp only [Nat.sub_self, List.getElem_cons_zero]
      refine ⟨by omega, by have := hl.1; omega, fun h0 => ?_⟩
      rw [List.getElem_append_left (by omega), ← getD_lt (by omega)]
      exact h3 h0
  · rw [sumL_append]; simpa [sumL] using h2
theorem topQ_snoc (L : List Int) (p m : Nat) : topQ (L ++ [(p : Int)]) m = p := by
  unfold topQ
  rw [if_neg (by simp), List.getD_eq_getElem?_getD]
  simp
theorem pad_snoc {L : List Int} (h : L.length < 16) (x : Int) : (pad L).set L.length x = pad (L ++ [x]) := by
  have e := pad_set (L := L ++ [x]) (k := L.length) (by simp) h
  rw [List.take_left, List.getElem_append_right (Nat.le_refl _)] at e
  simp only [Nat.sub_self, List.getElem_cons_zero] at e
  rw [e, List.take_of_length_le (by simp)]

set_option maxRecDepth 100000 in
set_option maxHeartbeats 4000000 in
theorem dfrom_zero (F : Fence) (hd : F.depth = none) (hf : F.fn 97) (hro : F.round = none) (l B N : Nat) (J Jx : List VL → World → Prop) (hJ : AbT B 46 J) (hJx : AbT B 46 Jx)
    (hY : ∀ m pre (x : VL) W, J pre W → pre.length < N → YieldAt F m Try.prog l #[.agg (arr (pad x.1))] W fun e W' =>
      (e = .returned (.bool true) ∧ J (pre ++ [x]) W' ∧ KpT 46 W W') ∨ (e = .returned (.bool false) ∧ Jx (pre ++ [x]) W'))
    (f : Nat) (L : List Int) (n : Nat) (pre : List VL) (W : World) (hv : valid L = true) (hj : J pre W) (hN : pre.length + 1 ≤ N) (hB : B ≤ W.heap.size) :
      CallsIn F n Try.prog 97 #[.agg (arr (pad L)), .int .i64 L.length, .int .i64 0, .func (.yield l) #[] #[]] W fun e W' =>
        (e = .returned (.bool true) ∧ (∃ xs : List VL, xs.map (·.1) = (allQ f 0 (topQ L 0)).map (L ++ ·) ∧ J (pre ++ xs) W') ∧ KpT 46 W W') ∨
        (e = .returned (.bool false) ∧ ∃ xs : List VL, xs.map (·.1) <+: (allQ f 0 (topQ L 0)).map (L ++ ·) ∧ Jx (pre ++ xs) W') := by
  have hdd : ∀ k : Nat, (F.depth.isSome = true → 1 ≤ k) := fun k h => by rw [hd] at h; cases h
  have hlen : L.length ≤ 16 := (valid_bd hv).2.2.2
  have hi16 : (Try.prog.info? 46).map (·.size) = some (arr (pad L)).size := by rw [arr_size, pad_len hlen]; exact T_info35
  have hb := Blk.new W 46 (arr (pad L))
  have hj1 := hJ.alloc _ _ (.cells (arr (pad L)) 46) hj
  rw [allQ_zero]
  obtain ⟨fn, tmps, assign, body, hy, hR⟩ := hY (n - 1) pre ⟨L, hv⟩ _ hj1 (by omega)
  have hkp : KpT 46 W (W.alloc (.cells (arr (pad L)) 46)) := KpT.below ((Below.refl _ _).alloc (Nat.le_refl _) _)
  dsimp only at hy
  refine callsIn_of_wp Try.func97 rfl hf ?_ hro
  simp only [Try.ntmps97, List.size_toArray, List.length_cons, List.length_nil, Nat.reduceAdd, Nat.reduceSub, Array.replicate_succ, Array.replicate_zero, List.push_toArray, List.append_toArray, List.nil_append, List.cons_append]
  gi_wp2_with (first
    | (refine wpListIn_load_row rfl 46 (.tmp 4) rfl W.heap.size rfl 46 (arr (pad L)) (0, 0) _ hb Try.underlying46 rfl hi16 ?_)
    | ((try refine ⟨hdd _, ?_⟩); refine hR.mono ?_; clear hR; rintro e W1 (⟨rfl, hJ1, hk1⟩ | ⟨rfl, hx1⟩)))
  · go_ret
    exact .inl ⟨rfl, ⟨[⟨L, hv⟩], by simp, hJ1⟩, hkp.trans hk1⟩
  · go_ret
    exact .inr ⟨rfl, [⟨L, hv⟩], by simp, hx1⟩

set_option maxRecDepth 100000 in
set_option maxHeartbeats 4000000 in
theorem dfrom_in (F : Fence) (hd : F.depth = none) (hf : F.fn 97) (hro : F.round = none) (l B N : Nat) (J Jx : List VL → World → Prop) (hJ : AbT B 46 J) (hJx : AbT B 46 Jx)
    (hY : ∀ m pre (x : VL) W, J pre W → pre.length < N → YieldAt F m Try.prog l #[.agg (arr (pad x.1))] W fun e W' =>
      (e = .returned (.bool true) ∧ J (pre ++ [x]) W' ∧ KpT 46 W W') ∨ (e = .returned (.bool false) ∧ Jx (pre ++ [x]) W')) :
    ∀ (f : Nat) (L : List Int) (m n : Nat) (pre : List VL) (W : World), m ≤ f → valid L = true → sumL L + (m : Int) ≤ 16 → J pre W → pre.length + (allQ f m (topQ L m)).length ≤ N → B ≤ W.heap.size →
      CallsIn F n Try.prog 97 #[.agg (arr (pad L)), .int .i64 L.length, .int .i64 m, .func (.yield l) #[] #[]] W fun e W' =>
        (e = .returned (.bool true) ∧ (∃ xs : List VL, xs.map (·.1) = (allQ f m (topQ L m)).map (L ++ ·) ∧ J (pre ++ xs) W') ∧ KpT 46 W W') ∨
        (e = .returned (.bool false) ∧ ∃ xs : List VL, xs.map (·.1) <+: (allQ f m (topQ L m)).map (L ++ ·) ∧ Jx (pre ++ xs) W') := by
  have hdd : ∀ k : Nat, (F.depth.isSome = true → 1 ≤ k) := fun k h => by rw [hd] at h; cases h
  intro f
  induction f with
  | zero =>
    intro L m n pre W hm hv hs hj hN hB
    obtain rfl : m = 0 := by omega
    rw [allQ_zero] at hN
    exact dfrom_zero F hd hf hro l B N J Jx hJ hJx hY 0 L n pre W hv hj (by simpa using hN) hB
  | succ f ih =>
    intro L m n pre W hm hv hs hj hN hB
    by_cases h0 : m = 0
    · subst h0
      rw [allQ_zero] at hN
      exact dfrom_zero F hd hf hro l B N J Jx hJ hJx hY (f + 1) L n pre W hv hj (by simpa using hN) hB
    have hbd := valid_bd hv
    have hlen : L.length ≤ 16 := hbd.2.2.2
    have hlen2 : L.length < 16 := by omega
    have hb := Blk.new W 46 (arr (pad L))
    have hj1 := hJ.alloc _ _ (.cells (arr (pad L)) 46) hj
    have hkp : KpT 46 W (W.alloc (.cells (arr (pad L)) 46)) := KpT.below ((Below.refl _ _).alloc (Nat.le_refl _) _)
    rw [allQ_up f m _ h0] at hN ⊢
    obtain ⟨T0, hT0⟩ : ∃ T0, T0 = min m (topQ L m) := ⟨_, rfl⟩
    rw [← hT0] at hN ⊢
    have htop : topQ L m ≤ 16 ∧ (0 < L.length → ((topQ L m : Nat) : Int) = L.getD (L.length - 1) 0) ∧ (L.length = 0 → topQ L m = m) := by
      unfold topQ
      by_cases hl0 : L.length = 0
      · rw [if_pos hl0]; exact ⟨by omega, fun h => by omega, fun _ => rfl⟩
      · rw [if_neg hl0]
        have := getD_nn hv (L.length - 1)
        exact ⟨by omega, fun _ => by omega, fun h => absurd h hl0⟩
    have hm0 : ((m : Int) == 0) = false := by simp; omega
    have HV := Lib.hid hv
    have HN := Lib.hid hN
    have HT := Lib.hid hT0
    have HTP := Lib.hid htop
    have HIH := Lib.hid ih
    clear hv hN ih hT0 htop
    -- the greatest part that may come
    have key : ∀ W1, W1 = W.alloc (.cells (arr (pad L)) 46) → True := fun _ _ => trivial
    clear key
    refine callsIn_of_wp Try.func97 rfl hf ?_ hro
    simp only [Try.ntmps97, List.size_toArray, List.length_cons, List.length_nil, Nat.reduceAdd, Nat.reduceSub, Array.replicate_succ, Array.replicate_zero, List.push_toArray, List.append_toArray, List.nil_append, List.cons_append]
    by_cases hl0 : L.length = 0
    · have e0 : T0 = m := by rw [HT.out, HTP.out.2.2 hl0]; omega
      have HE0 : Hid ((m : Int) = (T0 : Int)) := Lib.hid (by omega)
      have d1 : decide ((0 : Int) < (L.length : Int)) = false := decide_eq_false (by omega)
      have d1' : decide (0 < L.length) = false := decide_eq_false (by omega)
      clear e0
      have HL0 := Lib.hid hl0
      clear hl0
      gi_wp2
      gi_loopw [10] (fun v wr => ∃ (j : Nat) (xs : List VL) (D : List Int), j ≤ T0 ∧ v = .int .i64 ((T0 : Int) - (j : Int)) ∧ xs.map (·.1) = (upQ f m T0 j).map (L ++ ·) ∧ J (pre ++ xs) wr ∧ KpT 46 W wr ∧ Blk wr W.heap.size 46 (arr D) ∧ D.length = 16 ∧ (∀ p, D.set L.length p = (pad L).set L.length p)) (fun v _ => (intOf v).toNat)
      case atStart => exact ⟨0, [], pad L, Nat.zero_le _, by simp [HE0.out], by simp [upQ_zero], by simpa using hj1, hkp, hb, pad_len hlen, fun _ => rfl⟩
      case round =>
        obtain ⟨j, xs, D, hj, rfl, hxs, hJs, hks, hblk, hDl, hDs⟩ := hrel
        clear hb hj1 hkp
        by_cases hlt : j < T0
        · obtain ⟨p, hp⟩ : ∃ p : Nat, p = T0 - j := ⟨_, rfl⟩
          have hpv : (T0 : Int) - (j : Int) = (p : Int) := by omega
          have hp1 : 1 ≤ p := by omega
          have hT := HT.out
          have hpm : p ≤ m := by omega
          have hpt : 0 < L.length → (p : Int) ≤ L.getD (L.length - 1) 0 := fun h => by have := HTP.out.2.1 h; omega
          have hvp := valid_snoc HV.out (p := p) (m := m) hp1 (by omega) hpt
          have hset : D.set L.length (p : Int) = pad (L ++ [(p : Int)]) := by rw [hDs, pad_snoc hlen2]
          have hblk2 := hblk.set L.length (.int .i64 (p : Int))
          rw [arr_set, hset] at hblk2
          have hJ2 := hJ.cell _ _ _ L.length (.int .i64 (p : Int)) _ _ hJs hB hblk
          have hks2 := hks.setNew (i := L.length) (v := .int .i64 (p : Int)) (Nat.le_refl W.heap.size)
          have hcz : wr.cell? ⟨W.heap.size, L.length, none⟩ = some ((arr D)[L.length]?.getD undef) := by
            rw [hblk.cell L.length]
            have : L.length < (arr D).size := by rw [arr_size, hDl]; omega
            simp [this]
          have hfz : wr.frozen? ⟨W.heap.size, L.length, none⟩ = false := hblk.free _
          have hi16 : (Try.prog.info? 46).map (·.size) = some (arr (pad (L ++ [(p : Int)]))).size := by rw [arr_size, pad_len (valid_bd hvp).2.2.2]; exact T_info35
          have hup := upQ_succ f m T0 j hlt
          have hpi : T0 - 1 - j = p - 1 := by omega
          have hpc : pieceQ f m (p - 1) = (allQ f (m - p) p).map fun R => ((p : Nat) : Int) :: R := by unfold pieceQ; rw [show p - 1 + 1 = p by omega]
          have hle := upQ_leJ f m T0 (j := j + 1) (k := T0) hlt
          rw [hup, List.length_append, hpi, hpc, List.length_map] at hle
          have hxl : xs.length = (upQ f m T0 j).length := by have := congrArg List.length hxs; simpa using this
          have hih := HIH.out (L ++ [(p : Int)]) (m - p) (n - 1) (pre ++ xs) _ (by omega) hvp (by rw [sumL_append]; simp only [sumL]; omega) hJ2 (by rw [topQ_snoc, List.length_append]; have := HN.out; omega) (by have := hks2.size; omega)
          rw [topQ_snoc, show (((L ++ [(p : Int)]).length : Nat) : Int) = (L.length : Int) + 1 by simp, show ((m - p : Nat) : Int) = (m : Int) - (p : Int) by omega] at hih
          have hw1 : IntKind.i64.wrap ((L.length : Int) + 1) = (L.length : Int) + 1 := IntWalk.i64_in _ (by omega)
          have hw2 : IntKind.i64.wrap ((m : Int) - (p : Int)) = (m : Int) - (p : Int) := IntWalk.i64_in _ (by omega)
          have hw3 : IntKind.i64.wrap ((p : Int) - 1) = (p : Int) - 1 := IntWalk.i64_in _ (by omega)
          have hge : decide ((1 : Int) ≤ (p : Int)) = true := decide_eq_true (by omega)
          have hl16 : (L.length : Int) < 16 := by omega
          have HXS := Lib.hid hxs
          have HUP := Lib.hid hup
          have HSET := Lib.hid hset
          have HPC := Lib.hid hpc
          have HPI := Lib.hid hpi
          clear hxs hup hle hxl hset hpc hpi hJs hDs hT hp
          rw [hpv]
          gi_wp2_with (first
            | (refine wpListIn_load_row rfl 46 (.tmp 4) rfl W.heap.size rfl 46 (arr (pad (L ++ [(p : Int)]))) (0, 0) _ hblk2 Try.underlying46 rfl hi16 ?_)
            | ((try refine ⟨hdd _, ?_⟩); gi_at_call 97; refine hih.mono ?_; clear hih; rintro e W2 (⟨rfl, ⟨ys, hys, hJ3⟩, hk3⟩ | ⟨rfl, ys, hys, hx3⟩)))
          · go_roundw
            case rel =>
              refine ⟨j + 1, xs ++ ys, pad (L ++ [(p : Int)]), by omega, by congr 1; omega, ?_, by rw [← List.append_assoc]; exact hJ3, hks2.trans hk3, hk3.same _ _ _ hblk2, pad_len (valid_bd hvp).2.2.2, fun q => by rw [← pad_snoc hlen2, List.set_set]⟩
              rw [List.map_append, HXS.out, hys, HUP.out, List.map_append, HPI.out, HPC.out, List.map_map]
              congr 1
              apply List.map_congr_left
              intro R _
              simp
            case measure => simp [intOf]; omega
          · go_ret
            refine .inr ⟨rfl, xs ++ ys, ?_, by rw [← List.append_assoc]; exact hx3⟩
            have h1 : (upQ f m T0 (j + 1)).map (L ++ ·) <+: (upQ f m T0 T0).map (L ++ ·) := (upQ_pre f m T0 hlt).map _
            refine List.IsPrefix.trans ?_ h1
            rw [List.map_append, HXS.out, HUP.out, List.map_append, HPI.out, HPC.out, List.map_map]
            have e : (allQ f (m - p) p).map ((fun x => L ++ x) ∘ fun R => ((p : Nat) : Int) :: R) = (allQ f (m - p) p).map (fun R => (L ++ [(p : Int)]) ++ R) := by
              apply List.map_congr_left
              intro R _
              simp
            rw [e]
            exact (List.prefix_append_right_inj _).2 hys
        · obtain rfl : j = T0 := by omega
          have hpv : (j : Int) - (j : Int) = 0 := by omega
          rw [hpv]
          gi_wp2
          go_ret
          exact .inl ⟨rfl, ⟨xs, hxs, hJs⟩, hks⟩
    · have hlp : 0 < L.length := by omega
      have d1 : decide ((0 : Int) < (L.length : Int)) = true := decide_eq_true (by omega)
      have d1' : decide (0 < L.length) = true := decide_eq_true hlp
      have hl1 : L.length - 1 < (pad L).length := by rw [pad_len hlen]; omega
      have hcl : (W.alloc (.cells (arr (pad L)) 46)).cell? ⟨W.heap.size, L.length - 1, none⟩ = some (.int .i64 ((topQ L m : Nat) : Int)) := by
        rw [hb.cell, arr_get _ _ hl1, ← getD_lt hl1, pad_getD hlen, HTP.out.2.1 hlp]
      have hwl : IntKind.i64.wrap ((L.length : Int) - 1) = (L.length : Int) - 1 := IntWalk.i64_in _ (by omega)
      have hnn1 : (0 : Int) ≤ (L.length : Int) - 1 := by omega
      have hnn2 : (L.length : Int) - 1 < 16 := by omega
      have hnn3 : ((L.length : Int) - 1).toNat = L.length - 1 := by omega
      have HL0 := Lib.hid hl0
      clear hl0
      by_cases hcs : ((topQ L m : Nat) : Int) < (m : Int)
      · have hif : (((topQ L m : Nat) : Int) < (m : Int)) = True := by simpa using hcs
        have hif2 : (topQ L m < m) = True := by simp; omega
        have HE0 : Hid (((topQ L m : Nat) : Int) = (T0 : Int)) := Lib.hid (by rw [HT.out]; omega)
        clear hcs
        gi_wp2
        gi_loopw [10] (fun v wr => ∃ (j : Nat) (xs : List VL) (D : List Int), j ≤ T0 ∧ v = .int .i64 ((T0 : Int) - (j : Int)) ∧ xs.map (·.1) = (upQ f m T0 j).map (L ++ ·) ∧ J (pre ++ xs) wr ∧ KpT 46 W wr ∧ Blk wr W.heap.size 46 (arr D) ∧ D.length = 16 ∧ (∀ p, D.set L.length p = (pad L).set L.length p)) (fun v _ => (intOf v).toNat)
        case atStart => exact ⟨0, [], pad L, Nat.zero_le _, by simp [HE0.out], by simp [upQ_zero], by simpa using hj1, hkp, hb, pad_len hlen, fun _ => rfl⟩
        case round =>
          obtain ⟨j, xs, D, hj, rfl, hxs, hJs, hks, hblk, hDl, hDs⟩ := hrel
          clear hb hj1 hkp
          by_cases hlt : j < T0
          · obtain ⟨p, hp⟩ : ∃ p : Nat, p = T0 - j := ⟨_, rfl⟩
            have hpv : (T0 : Int) - (j : Int) = (p : Int) := by omega
            have hp1 : 1 ≤ p := by omega
            have hT := HT.out
            have hpm : p ≤ m := by omega
            have hpt : 0 < L.length → (p : Int) ≤ L.getD (L.length - 1) 0 := fun h => by have := HTP.out.2.1 h; omega
            have hvp := valid_snoc HV.out (p := p) (m := m) hp1 (by omega) hpt
            have hset : D.set L.length (p : Int) = pad (L ++ [(p : Int)]) := by rw [hDs, pad_snoc hlen2]
            have hblk2 := hblk.set L.length (.int .i64 (p : Int))
            rw [arr_set, hset] at hblk2
            have hJ2 := hJ.cell _ _ _ L.length (.int .i64 (p : Int)) _ _ hJs hB hblk
            have hks2 := hks.setNew (i := L.length) (v := .int .i64 (p : Int)) (Nat.le_refl W.heap.size)
            have hcz : wr.cell? ⟨W.heap.size, L.length, none⟩ = some ((arr D)[L.length]?.getD undef) := by
              rw [hblk.cell L.length]
              have : L.length < (arr D).size := by rw [arr_size, hDl]; omega
              simp [this]
            have hfz : wr.frozen? ⟨W.heap.size, L.length, none⟩ = false := hblk.free _
            have hi16 : (Try.prog.info? 46).map (·.size) = some (arr (pad (L ++ [(p : Int)]))).size := by rw [arr_size, pad_len (valid_bd hvp).2.2.2]; exact T_info35
            have hup := upQ_succ f m T0 j hlt
            have hpi : T0 - 1 - j = p - 1 := by omega
            have hpc : pieceQ f m (p - 1) = (allQ f (m - p) p).map fun R => ((p : Nat) : Int) :: R := by unfold pieceQ; rw [show p - 1 + 1 = p by omega]
            have hle := upQ_leJ f m T0 (j := j + 1) (k := T0) hlt
            rw [hup, List.length_append, hpi, hpc, List.length_map] at hle
            have hxl : xs.length = (upQ f m T0 j).length := by have := congrArg List.length hxs; simpa using this
            have hih := HIH.out (L ++ [(p : Int)]) (m - p) (n - 1) (pre ++ xs) _ (by omega) hvp (by rw [sumL_append]; simp only [sumL]; omega) hJ2 (by rw [topQ_snoc, List.length_append]; have := HN.out; omega) (by have := hks2.size; omega)
            rw [topQ_snoc, show (((L ++ [(p : Int)]).length : Nat) : Int) = (L.length : Int) + 1 by simp, show ((m - p : Nat) : Int) = (m : Int) - (p : Int) by omega] at hih
            have hw1 : IntKind.i64.wrap ((L.length : Int) + 1) = (L.length : Int) + 1 := IntWalk.i64_in _ (by omega)
            have hw2 : IntKind.i64.wrap ((m : Int) - (p : Int)) = (m : Int) - (p : Int) := IntWalk.i64_in _ (by omega)
            have hw3 : IntKind.i64.wrap ((p : Int) - 1) = (p : Int) - 1 := IntWalk.i64_in _ (by omega)
            have hge : decide ((1 : Int) ≤ (p : Int)) = true := decide_eq_true (by omega)
            have hl16 : (L.length : Int) < 16 := by omega
            have HXS := Lib.hid hxs
            have HUP := Lib.hid hup
            have HSET := Lib.hid hset
            have HPC := Lib.hid hpc
            have HPI := Lib.hid hpi
            clear hxs hup hle hxl hset hpc hpi hJs hDs hT hp
            rw [hpv]
            gi_wp2_with (first
              | (refine wpListIn_load_row rfl 46 (.tmp 4) rfl W.heap.size rfl 46 (arr (pad (L ++ [(p : Int)]))) (0, 0) _ hblk2 Try.underlying46 rfl hi16 ?_)
              | ((try refine ⟨hdd _, ?_⟩); gi_at_call 97; refine hih.mono ?_; clear hih; rintro e W2 (⟨rfl, ⟨ys, hys, hJ3⟩, hk3⟩ | ⟨rfl, ys, hys, hx3⟩)))
            · go_roundw
              case rel =>
                refine ⟨j + 1, xs ++ ys, pad (L ++ [(p : Int)]), by omega, by congr 1; omega, ?_, by rw [← List.append_assoc]; exact hJ3, hks2.trans hk3, hk3.same _ _ _ hblk2, pad_len (valid_bd hvp).2.2.2, fun q => by rw [← pad_snoc hlen2, List.set_set]⟩
                rw [List.map_append, HXS.out, hys, HUP.out, List.map_append, HPI.out, HPC.out, List.map_map]
                congr 1
                apply List.map_congr_left
                intro R _
                simp
              case measure => simp [intOf]; omega
            · go_ret
              refine .inr ⟨rfl, xs ++ ys, ?_, by rw [← List.append_assoc]; exact hx3⟩
              have h1 : (upQ f m T0 (j + 1)).map (L ++ ·) <+: (upQ f m T0 T0).map (L ++ ·) := (upQ_pre f m T0 hlt).map _
              refine List.IsPrefix.trans ?_ h1
              rw [List.map_append, HXS.out, HUP.out, List.map_append, HPI.out, HPC.out, List.map_map]
              have e : (allQ f (m - p) p).map ((fun x => L ++ x) ∘ fun R => ((p : Nat) : Int) :: R) = (allQ f (m - p) p).map (fun R => (L ++ [(p : Int)]) ++ R) := by
                apply List.map_congr_left
                intro R _
                simp
              rw [e]
              exact (List.prefix_append_right_inj _).2 hys
          · obtain rfl : j = T0 := by omega
            have hpv : (j : Int) - (j : Int) = 0 := by omega
            rw [hpv]
            gi_wp2
            go_ret
            exact .inl ⟨rfl, ⟨xs, hxs, hJs⟩, hks⟩
      · have hif : (((topQ L m : Nat) : Int) < (m : Int)) = False := by simpa using hcs
        have hif2 : (topQ L m < m) = False := by simp; omega
        have HE0 : Hid ((m : Int) = (T0 : Int)) := Lib.hid (by rw [HT.out]; omega)
        clear hcs
        gi_wp2
        gi_loopw [10] (fun v wr => ∃ (j : Nat) (xs : List VL) (D : List Int), j ≤ T0 ∧ v = .int .i64 ((T0 : Int) - (j : Int)) ∧ xs.map (·.1) = (upQ f m T0 j).map (L ++ ·) ∧ J (pre ++ xs) wr ∧ KpT 46 W wr ∧ Blk wr W.heap.size 46 (arr D) ∧ D.length = 16 ∧ (∀ p, D.set L.length p = (pad L).set L.length p)) (fun v _ => (intOf v).toNat)
        case atStart => exact ⟨0, [], pad L, Nat.zero_le _, by simp [HE0.out], by simp [upQ_zero], by simpa using hj1, hkp, hb, pad_len hlen, fun _ => rfl⟩
        case round =>
          obtain ⟨j, xs, D, hj, rfl, hxs, hJs, hks, hblk, hDl, hDs⟩ := hrel
          clear hb hj1 hkp
          by_cases hlt : j < T0
          · obtain ⟨p, hp⟩ : ∃ p : Nat, p = T0 - j := ⟨_, rfl⟩
            have hpv : (T0 : Int) - (j : Int) = (p : Int) := by omega
            have hp1 : 1 ≤ p := by omega
            have hT := HT.out
            have hpm : p ≤ m := by omega
            have hpt : 0 < L.length → (p : Int) ≤ L.getD (L.length - 1) 0 := fun h => by have := HTP.out.2.1 h; omega
            have hvp := valid_snoc HV.out (p := p) (m := m) hp1 (by omega) hpt
            have hset : D.set L.length (p : Int) = pad (L ++ [(p : Int)]) := by rw [hDs, pad_snoc hlen2]
            have hblk2 := hblk.set L.length (.int .i64 (p : Int))
            rw [arr_set, hset] at hblk2
            have hJ2 := hJ.cell _ _ _ L.length (.int .i64 (p : Int)) _ _ hJs hB hblk
            have hks2 := hks.setNew (i := L.length) (v := .int .i64 (p : Int)) (Nat.le_refl W.heap.size)
            have hcz : wr.cell? ⟨W.heap.size, L.length, none⟩ = some ((arr D)[L.length]?.getD undef) := by
              rw [hblk.cell L.length]
              have : L.length < (arr D).size := by rw [arr_size, hDl]; omega
              simp [this]
            have hfz : wr.frozen? ⟨W.heap.size, L.length, none⟩ = false := hblk.free _
            have hi16 : (Try.prog.info? 46).map (·.size) = some (arr (pad (L ++ [(p : Int)]))).size := by rw [arr_size, pad_len (valid_bd hvp).2.2.2]; exact T_info35
            have hup := upQ_succ f m T0 j hlt
            have hpi : T0 - 1 - j = p - 1 := by omega
            have hpc : pieceQ f m (p - 1) = (allQ f (m - p) p).map fun R => ((p : Nat) : Int) :: R := by unfold pieceQ; rw [show p - 1 + 1 = p by omega]
            have hle := upQ_leJ f m T0 (j := j + 1) (k := T0) hlt
            rw [hup, List.length_append, hpi, hpc, List.length_map] at hle
            have hxl : xs.length = (upQ f m T0 j).length := by have := congrArg List.length hxs; simpa using this
            have hih := HIH.out (L ++ [(p : Int)]) (m - p) (n - 1) (pre ++ xs) _ (by omega) hvp (by rw [sumL_append]; simp only [sumL]; omega) hJ2 (by rw [topQ_snoc, List.length_append]; have := HN.out; omega) (by have := hks2.size; omega)
            rw [topQ_snoc, show (((L ++ [(p : Int)]).length : Nat) : Int) = (L.length : Int) + 1 by simp, show ((m - p : Nat) : Int) = (m : Int) - (p : Int) by omega] at hih
            have hw1 : IntKind.i64.wrap ((L.length : Int) + 1) = (L.length : Int) + 1 := IntWalk.i64_in _ (by omega)
            have hw2 : IntKind.i64.wrap ((m : Int) - (p : Int)) = (m : Int) - (p : Int) := IntWalk.i64_in _ (by omega)
            have hw3 : IntKind.i64.wrap ((p : Int) - 1) = (p : Int) - 1 := IntWalk.i64_in _ (by omega)
            have hge : decide ((1 : Int) ≤ (p : Int)) = true := decide_eq_true (by omega)
            have hl16 : (L.length : Int) < 16 := by omega
            have HXS := Lib.hid hxs
            have HUP := Lib.hid hup
            have HSET := Lib.hid hset
            have HPC := Lib.hid hpc
            have HPI := Lib.hid hpi
            clear hxs hup hle hxl hset hpc hpi hJs hDs hT hp
            rw [hpv]
            gi_wp2_with (first
              | (refine wpListIn_load_row rfl 46 (.tmp 4) rfl W.heap.size rfl 46 (arr (pad (L ++ [(p : Int)]))) (0, 0) _ hblk2 Try.underlying46 rfl hi16 ?_)
              | ((try refine ⟨hdd _, ?_⟩); gi_at_call 97; refine hih.mono ?_; clear hih; rintro e W2 (⟨rfl, ⟨ys, hys, hJ3⟩, hk3⟩ | ⟨rfl, ys, hys, hx3⟩)))
            · go_roundw
              case rel =>
                refine ⟨j + 1, xs ++ ys, pad (L ++ [(p : Int)]), by omega, by congr 1; omega, ?_, by rw [← List.append_assoc]; exact hJ3, hks2.trans hk3, hk3.same _ _ _ hblk2, pad_len (valid_bd hvp).2.2.2, fun q => by rw [← pad_snoc hlen2, List.set_set]⟩
                rw [List.map_append, HXS.out, hys, HUP.out, List.map_append, HPI.out, HPC.out, List.map_map]
                congr 1
                apply List.map_congr_left
                intro R _
                simp
              case measure => simp [intOf]; omega
            · go_ret
              refine .inr ⟨rfl, xs ++ ys, ?_, by rw [← List.append_assoc]; exact hx3⟩
              have h1 : (upQ f m T0 (j + 1)).map (L ++ ·) <+: (upQ f m T0 T0).map (L ++ ·) := (upQ_pre f m T0 hlt).map _
              refine List.IsPrefix.trans ?_ h1
              rw [List.map_append, HXS.out, HUP.out, List.map_append, HPI.out, HPC.out, List.map_map]
              have e : (allQ f (m - p) p).map ((fun x => L ++ x) ∘ fun R => ((p : Nat) : Int) :: R) = (allQ f (m - p) p).map (fun R => (L ++ [(p : Int)]) ++ R) := by
                apply List.map_congr_left
                intro R _
                simp
              rw [e]
              exact (List.prefix_append_right_inj _).2 hys
          · obtain rfl : j = T0 := by omega
            have hpv : (j : Int) - (j : Int) = 0 := by omega
            rw [hpv]
            gi_wp2
            go_ret
            exact .inl ⟨rfl, ⟨xs, hxs, hJs⟩, hks⟩
end Go.Proofs.Ytmojonpjgaidgaa
namespace Go.Proofs.Ytmojonpjgaidgaa
open Go.RowKit Go.Shelf NP
set_option maxRecDepth 8000
set_option linter.unusedVariables false
set_option linter.unusedSimpArgs false
attribute [local go_sem] Oper.semAt_some
theorem topQ_nil (n : Nat) : topQ [] n = n := rfl

set_option maxRecDepth 100000 in
set_option maxHeartbeats 2000000 in
theorem dwith_seq (F : Fence) (hd : F.depth = none) (hf : F.fn 97) (hf1 : F.fn 96) (hro : F.round = none) (n k Bn : Nat) (hk : k ≤ 16) (w : World) (hBn : Bn < w.heap.size) (hc : w.cell? ⟨Bn, 0, none⟩ = some (.int .i64 k)) :
    SeqT F n Try.prog 46 96 #[.pointer (some ⟨Bn, 0, none⟩)] (fun x : VL => #[.agg (arr (pad x.1))]) (fun xs => xs.map (·.1) = allQ k k k) (fun xs => xs.map (·.1) <+: allQ k k k) (allQ k k k).length w := by
  intro l J Jx W hW hJ hJx hY h0
  have hdd : ∀ k : Nat, (F.depth.isSome = true → 1 ≤ k) := fun k h => by rw [hd] at h; cases h
  have hcW : W.cell? ⟨Bn, 0, none⟩ = some (.int .i64 k) := (hW.cell (p := ⟨Bn, 0, none⟩) hBn).trans hc
  have hp := dfrom_in F hd hf hro l W.heap.size (allQ k k k).length J Jx hJ hJx (fun m pre x W1 hj hl => yieldAt_any hd m (hY pre x W1 hj hl)) k [] k (n - 1) [] W (Nat.le_refl _) rfl (by simp [sumL]; omega) h0 (by rw [topQ_nil]; simp) (Nat.le_refl _)
  rw [topQ_nil] at hp
  have hz : arr (pad []) = #[.int .i64 0, .int .i64 0, .int .i64 0, .int .i64 0, .int .i64 0, .int .i64 0, .int .i64 0, .int .i64 0, .int .i64 0, .int .i64 0, .int .i64 0, .int .i64 0, .int .i64 0, .int .i64 0, .int .i64 0, .int .i64 0] := rfl
  rw [hz] at hp
  simp only [List.length_nil] at hp
  refine callsIn_of_wp Try.func96 rfl hf1 ?_ hro
  simp only [Try.ntmps96, List.size_toArray, List.length_cons, List.length_nil, Nat.reduceAdd, Nat.reduceSub, Array.replicate_succ, Array.replicate_zero, List.push_toArray, List.append_toArray, List.nil_append, List.cons_append]
  gi_wp2_with ((try refine ⟨hdd _, ?_⟩); gi_at_call 97; refine hp.mono ?_; clear hp; rintro e W1 (⟨rfl, ⟨xs, hxs, hJ1⟩, _⟩ | ⟨rfl, xs, hxs, hx⟩))
  · go_end0
    exact ⟨⟨_, rfl⟩, .inl ⟨xs, by simpa using hxs, by simpa using hJ1⟩⟩
  · go_end0
    exact ⟨⟨_, rfl⟩, .inr ⟨xs, by simpa using hxs, by simpa using hx⟩⟩

theorem dwith_in (F : Fence) (n : Nat) (hf : F.fn 87) (hro : F.round = none) (k : Int) (w : World) :
    CallsIn F n Try.prog 87 #[.int .i64 k] w fun e w' => e = .returned (.func (.func 96) #[] #[.pointer (some ⟨w.heap.size, 0, none⟩)]) ∧ w' = w.alloc (.cells #[.int .i64 k] 3) := by
  refine callsIn_of_wp Try.func87 rfl hf ?_ hro
  simp only [Try.ntmps87, List.size_toArray, List.length_cons, List.length_nil, Nat.reduceAdd, Nat.reduceSub, Array.replicate_succ, Array.replicate_zero, List.push_toArray, List.append_toArray, List.nil_append, List.cons_append]
  gi_wp2
  go_ret
  exact ⟨rfl, rfl⟩
end Go.Proofs.Ytmojonpjgaidgaa
namespace Go.Proofs.Ytmojonpjgaidgaa
open Go.RowKit
set_option maxRecDepth 8000

/-- a value reads as a list of numbers -/
def Inn (w : World) (B : Nat) (v : Value) (L : List Int) : Prop := ∃ a c, v = .slice a L.length c ∧ Rd w B a (ints L) ∧ L.length ≤ c
def RdLL (w : World) (B : Nat) (a : Option Addr) (LL : List (List Int)) : Prop :=
  ∃ vs, Rd w B a vs ∧ vs.length = LL.length ∧ ∀ (k : Nat) v L, vs[k]? = some v → LL[k]? = some L → Inn w B v L

theorem Inn.below {w w' : World} {B : Nat} {v : Value} {L : List Int} (h : Inn w B v L) (hb : Below B w w') : Inn w' B v L := by
  obtain ⟨a, c, rfl, h1, h2⟩ := h
  exact ⟨a, c, rfl, h1.below hb, h2⟩
theorem Inn.more {w : World} {B B' : Nat} {v : Value} {L : List Int} (h : Inn w B v L) (hB : B ≤ B') : Inn w B' v L := by
  obtain ⟨a, c, rfl, h1, h2⟩ := h
  exact ⟨a, c, rfl, h1.more hB, h2⟩
theorem RdLL.below {w w' : World} {B : Nat} {a : Option Addr} {LL : List (List Int)} (h : RdLL w B a LL) (hb : Below B w w') : RdLL w' B a LL := by
  obtain ⟨vs, h1, h2, h3⟩ := h
  exact ⟨vs, h1.below hb, h2, fun k v L hv hL => (h3 k v L hv hL).below hb⟩
theorem RdLL.more {w : World} {B B' : Nat} {a : Option Addr} {LL : List (List Int)} (h : RdLL w B a LL) (hB : B ≤ B') : RdLL w B' a LL := by
  obtain ⟨vs, h1, h2, h3⟩ := h
  exact ⟨vs, h1.more hB, h2, fun k v L hv hL => (h3 k v L hv hL).more hB⟩
theorem RdLL.dr {w w' : World} {B : Nat} {a : Option Addr} {LL : List (List Int)} (h : RdLL w B a LL) (hb : Dr w w') : RdLL w' B a LL := h.below (hb.below B)
/-- the k-th list -/
theorem RdLL.at_ {w : World} {B : Nat} {a : Option Addr} {LL : List (List Int)} (h : RdLL w B a LL) {k : Nat} (hk : k < LL.length) :
    ∃ b o a' c', a = some ⟨b, o, none⟩ ∧ b < B ∧ w.cell? ⟨b, o + k, none⟩ = some (.slice a' LL[k].length c') ∧ Rd w B a' (ints LL[k]) ∧ LL[k].length ≤ c' := by
  obtain ⟨vs, h1, h2, h3⟩ := h
  have hkv : k < vs.length := by omega
  obtain ⟨b, o, rfl, hb, hc⟩ := h1 (by intro e; subst e; simp at hkv)
  obtain ⟨a', c', e, hr, hl⟩ := h3 k vs[k] LL[k] (List.getElem?_eq_getElem hkv) (List.getElem?_eq_getElem hk)
  exact ⟨b, o, a', c', rfl, hb, by rw [hc k vs[k] (List.getElem?_eq_getElem hkv), e], hr, hl⟩

/-- the outer block and each list's block are the call's own, and no two are one -/
structure OwnLL (w : World) (lo hi : Nat) (eo e : TypeId) (v : Value) (vs : List Value) (LL : List (List Int)) : Prop where
  outer : Own w lo hi eo v vs
  len : vs.length = LL.length
  inner : ∀ (k : Nat) u L, vs[k]? = some u → LL[k]? = some L → Own w lo hi e u (ints L)
  apartO : ∀ (k : Nat) u g, vs[k]? = some u → u.ownBlock = some g → v.ownBlock ≠ some g
  apart : ∀ (j k : Nat) u u' g, vs[j]? = some u → vs[k]? = some u' → u.ownBlock = some g → u'.ownBlock = some g → j = k

theorem OwnLL.below {w w' : World} {lo hi : Nat} {eo e : TypeId} {v : Value} {vs : List Value} {LL : List (List Int)} (h : OwnLL w lo hi eo e v vs LL) (hb : Below hi w w') : OwnLL w' lo hi eo e v vs LL :=
  ⟨h.outer.below hb, h.len, fun k u L hu hL => (h.inner k u L hu hL).below hb, h.apartO, h.apart⟩
theorem OwnLL.lower {w : World} {lo lo' hi : Nat} {eo e : TypeId} {v : Value} {vs : List Value} {LL : List (List Int)} (h : OwnLL w lo hi eo e v vs LL) (hl : lo' ≤ lo) : OwnLL w lo' hi eo e v vs LL :=
  ⟨h.outer.lower hl, h.len, fun k u L hu hL => (h.inner k u L hu hL).lower hl, h.apartO, h.apart⟩
theorem OwnLL.more {w : World} {lo hi : Nat} {eo e : TypeId} {v : Value} {vs : List Value} {LL : List (List Int)} (h : OwnLL w lo hi eo e v vs LL) : OwnLL w lo w.heap.size eo e v vs LL :=
  ⟨h.outer.more, h.len, fun k u L hu hL => (h.inner k u L hu hL).more, h.apartO, h.apart⟩
theorem OwnLL.le {w : World} {lo hi : Nat} {eo e : TypeId} {v : Value} {vs : List Value} {LL : List (List Int)} (h : OwnLL w lo hi eo e v vs LL) : hi ≤ w.heap.size := h.outer.le
theorem OwnLL.form {w : World} {lo hi : Nat} {eo e : TypeId} {v : Value} {vs : List Value} {LL : List (List Int)} (h : OwnLL w lo hi eo e v vs LL) : ∃ a c, v = .slice a LL.length c := by
  obtain ⟨a, c, hv⟩ := h.outer.form
  exact ⟨a, c, by rw [← h.len]; exact hv⟩
theorem OwnLL.empty (w : World) (eo e : TypeId) : OwnLL (w.alloc (.cells #[] eo)) w.heap.size (w.heap.size + 1) eo e (.slice (some ⟨w.heap.size, 0, none⟩) 0 0) [] [] :=
  ⟨Own.empty w eo, rfl, fun k u L hu => by simp at hu, fun k u g hu => by simp at hu, fun j k u u' g hu => by simp at hu⟩
theorem OwnLL.nil (w : World) (lo : Nat) (eo e : TypeId) : OwnLL w lo w.heap.size eo e (.slice none 0 0) [] [] :=
  ⟨Own.nil w lo eo, rfl, fun k u L hu => by simp at hu, fun k u g hu => by simp at hu, fun j k u u' g hu => by simp at hu⟩
theorem OwnLL.rd {w : World} {lo hi : Nat} {eo e : TypeId} {a : Option Addr} {n c : Nat} {vs : List Value} {LL : List (List Int)} (h : OwnLL w lo hi eo e (.slice a n c) vs LL) : RdLL w hi a LL := by
  refine ⟨vs, h.outer.rd, h.len, fun k u L hu hL => ?_⟩
  have hi' := h.inner k u L hu hL
  obtain ⟨a', c', rfl⟩ := hi'.form
  refine ⟨a', c', by rw [List.length_map], hi'.rd, ?_⟩
  rcases Nat.eq_zero_or_pos L.length with h0 | h0
  · omega
  · obtain ⟨g, c2, e2, hc⟩ := hi'.formN (by simpa using h0)
    injection e2 with _ _ e3
    rw [List.length_map] at hc
    omega
/-- one list more, its block beyond all that there was: the outer list anew or in its place -/
theorem OwnLL.push {w w' : World} {lo hi hi' : Nat} {eo e : TypeId} {v v' u : Value} {vs : List Value} {LL : List (List Int)} {L : List Int} (h : OwnLL w lo hi eo e v vs LL)
    (ho : Own w' lo hi' eo v' (vs ++ [u])) (hin : ∀ (k : Nat) u L, vs[k]? = some u → LL[k]? = some L → Own w' lo hi' e u (ints L)) (hu : Own w' lo hi' e u (ints L))
    (h1 : ∀ g, u.ownBlock = some g → v'.ownBlock ≠ some g) (h2 : ∀ (k : Nat) x g, vs[k]? = some x → x.ownBlock = some g → v'.ownBlock ≠ some g ∧ u.ownBlock ≠ some g) : OwnLL w' lo hi' eo e v' (vs ++ [u]) (LL ++ [L]) := by
  have hl := h.len
  refine ⟨ho, by simp [hl], fun k x M hx hM => ?_, fun k x g hx hg => ?_, fun j k x y g hx hy hgx hgy => ?_⟩
  · by_cases hk : k < vs.length
    · rw [List.getElem?_append_left hk] at hx
      rw [List.getElem?_append_left (by omega)] at hM
      exact hin k x M hx hM
    · rw [List.getElem?_append_right (by omega)] at hx
      rw [List.getElem?_append_right (by omega)] at hM
      have e0 : k - vs.length = 0 := by
        rcases Nat.eq_zero_or_pos (k - vs.length) with z | z
        · exact z
        · rw [List.getElem?_eq_none (by simp only [List.length_singleton]; omega)] at hx; cases hx
      rw [e0] at hx
      rw [← hl, e0] at hM
      cases hx; cases hM
      exact hu
  · by_cases hk : k < vs.length
    · rw [List.getElem?_append_left hk] at hx
      exact (h2 k x g hx hg).1
    · rw [List.getElem?_append_right (by omega)] at hx
      have e0 : k - vs.length = 0 := by
        rcases Nat.eq_zero_or_pos (k - vs.length) with z | z
        · exact z
        · rw [List.getElem?_eq_none (by simp only [List.length_singleton]; omega)] at hx; cases hx
      rw [e0] at hx
      cases hx
      exact h1 g hg
  · have last : ∀ i, ¬ i < vs.length → ∀ z, (vs ++ [u])[i]? = some z → i = vs.length ∧ z = u := fun i hi z hz => by
      rw [List.getElem?_append_right (by omega)] at hz
      have e0 : i - vs.length = 0 := by
        rcases Nat.eq_zero_or_pos (i - vs.length) with q | q
        · exact q
        · rw [List.getElem?_eq_none (by simp only [List.length_singleton]; omega)] at hz; cases hz
      rw [e0] at hz
      cases hz
      exact ⟨by omega, rfl⟩
    by_cases hj : j < vs.length
    · rw [List.getElem?_append_left hj] at hx
      by_cases hk : k < vs.length
      · rw [List.getElem?_append_left hk] at hy
        exact h.apart j k x y g hx hy hgx hgy
      · obtain ⟨_, rfl⟩ := last k hk y hy
        exact absurd hgy (h2 j x g hx hgx).2
    · obtain ⟨hj2, rfl⟩ := last j hj x hx
      by_cases hk : k < vs.length
      · rw [List.getElem?_append_left hk] at hy
        exact absurd hgx (h2 k y g hy hgy).2
      · obtain ⟨hk2, _⟩ := last k hk y hy
        omega
/-- one list more by append: its block was made behind the outer list's -/
theorem OwnLL.append {w w' : World} {lo hi lou hiu : Nat} {eo e : TypeId} {v v' u : Value} {vs : List Value} {LL : List (List Int)} {L : List Int} (h : OwnLL w lo hi eo e v vs LL)
    (hu : Own w lou hiu e u (ints L)) (hlou : hi ≤ lou) (hlo : lo ≤ lou) (ho : Own w' lo w'.heap.size eo v' (vs ++ [u])) (hg : w.grownBy w' v.ownBlock) (hat : v'.ownBlock = v.ownBlock ∨ v'.ownBlock = some w.heap.size) :
    OwnLL w' lo w'.heap.size eo e v' (vs ++ [u]) (LL ++ [L]) := by
  have hL : ∀ (k : Nat) x g, vs[k]? = some x → x.ownBlock = some g → g < hi := fun k x g hx hgx => by
    have hkv := (List.getElem?_eq_some_iff.1 hx).1
    have hkl : k < LL.length := by rw [← h.len]; exact hkv
    exact (h.inner k x LL[k] hx (List.getElem?_eq_getElem hkl)).lt g hgx
  refine h.push ho (fun k x M hx hM => ?_) ?_ (fun g hgu hv => ?_) (fun k x g hx hgx => ⟨fun hv => ?_, fun hgu => ?_⟩)
  · have hk := h.inner k x M hx hM
    refine (hk.grown hg ?_).more
    cases hb : x.ownBlock with
    | none => exact .inl rfl
    | some g => exact .inr fun e => h.apartO k x g hx hb e.symm
  · refine ((hu.grown hg ?_).more).lower hlo
    cases hb : u.ownBlock with
    | none => exact .inl rfl
    | some g => exact .inr fun e => by have h1 := hu.base g hb; have h2 := h.outer.lt g e.symm; omega
  · have h1 := hu.base g hgu
    rcases hat with e | e
    · have h2 := h.outer.lt g (e ▸ hv); omega
    · rw [e] at hv; cases hv; have h2 := hu.lt _ hgu; have h3 := hu.le; omega
  · rcases hat with e | e
    · exact h.apartO k x g hx hgx (e ▸ hv)
    · rw [e] at hv; cases hv; have h2 := hL k x _ hx hgx; have h3 := h.le; omega
  · have h1 := hu.base g hgu; have h2 := hL k x g hx hgx; omega
/-- the k-th list, its block and its place -/
theorem OwnLL.at_ {w : World} {lo hi : Nat} {eo e : TypeId} {a : Option Addr} {n c : Nat} {vs : List Value} {LL : List (List Int)} (h : OwnLL w lo hi eo e (.slice a n c) vs LL) {k : Nat} (hk : k < LL.length) :
    ∃ g a' c', a = some ⟨g, 0, none⟩ ∧ lo ≤ g ∧ g < hi ∧ w.cell? ⟨g, k, none⟩ = some (.slice a' LL[k].length c') ∧ Own w lo hi e (.slice a' LL[k].length c') (ints LL[k]) ∧ vs[k]? = some (.slice a' LL[k].length c') := by
  have hkv : k < vs.length := by rw [h.len]; exact hk
  obtain ⟨g, c1, e1, h1, h2, h3, _⟩ := h.outer.at_ hkv
  injection e1 with e1 _ _
  have hi' := h.inner k vs[k] LL[k] (List.getElem?_eq_getElem hkv) (List.getElem?_eq_getElem hk)
  obtain ⟨a', c', e2⟩ := hi'.form
  rw [List.length_map] at e2
  exact ⟨g, a', c', e1, h1, h2, by rw [h3, e2], e2 ▸ hi', by rw [List.getElem?_eq_getElem hkv, e2]⟩
/-- one list written anew in its place -/
theorem OwnLL.setIn {w w' : World} {lo hi : Nat} {eo e : TypeId} {v u : Value} {vs : List Value} {LL : List (List Int)} {L : List Int} (h : OwnLL w lo hi eo e v vs LL) {k : Nat} (hk : vs[k]? = some u)
    (hg : w.grownBy w' u.ownBlock) (hu : Own w' lo hi e u (ints L)) : OwnLL w' lo hi eo e v vs (LL.set k L) := by
  have hv : v.ownBlock = none ∨ v.ownBlock ≠ u.ownBlock := by
    cases hb : v.ownBlock with
    | none => exact .inl rfl
    | some g => exact .inr fun e => h.apartO k u g hk e.symm hb
  refine ⟨h.outer.grown hg hv, by rw [List.length_set]; exact h.len, fun j x M hx hM => ?_, h.apartO, h.apart⟩
  rw [List.getElem?_set] at hM
  by_cases hj : k = j
  · subst hj
    rw [if_pos rfl] at hM
    split at hM
    · cases hM
      obtain rfl : x = u := by rw [hk] at hx; cases hx; rfl
      exact hu
    · cases hM
  · rw [if_neg hj] at hM
    refine (h.inner j x M hx hM).grown hg ?_
    cases hb : x.ownBlock with
    | none => exact .inl rfl
    | some g => exact .inr fun e => hj (h.apart k j u x g hk hx e.symm hb)
/-- the marks of lists, one behind another -/
def marksLL (m : Int) : List (List Int) → List (List Int)
  | [] => []
  | L :: R => ((List.range L.length).map fun (j : Nat) => m + (j : Int)) :: marksLL (m + (L.length : Int)) R
def cntLL (LL : List (List Int)) : Nat := (LL.map List.length).sum
theorem cntLL_append (A : List (List Int)) (L : List Int) : cntLL (A ++ [L]) = cntLL A + L.length := by simp [cntLL]
theorem marksLL_append (m : Int) (A : List (List Int)) (L : List Int) : marksLL m (A ++ [L]) = marksLL m A ++ [(List.range L.length).map fun (j : Nat) => (m + (cntLL A : Int)) + (j : Int)] := by
  induction A generalizing m with
  | nil => simp [marksLL, cntLL]
  | cons x R ih =>
    have e : m + (x.length : Int) + (cntLL R : Int) = m + (cntLL (x :: R) : Int) := by simp [cntLL]; omega
    show _ :: marksLL (m + (x.length : Int)) (R ++ [L]) = _
    rw [ih, e]
    rfl
theorem marksLL_len (m : Int) (A : List (List Int)) : (marksLL m A).length = A.length := by
  induction A generalizing m with
  | nil => rfl
  | cons x R ih => simp [marksLL, ih]
theorem cntLL_take (LL : List (List Int)) (k : Nat) : cntLL (LL.take k) ≤ cntLL LL := by
  induction LL generalizing k with
  | nil => simp [cntLL]
  | cons x R ih =>
    cases k with
    | zero => simp [cntLL]
    | succ k => have := ih k; simp [cntLL] at this ⊢; omega
/-- one list more is marked -/
theorem marksLL_set (m : Int) {LL : List (List Int)} {k : Nat} (hk : k < LL.length) :
    (marksLL m (LL.take k) ++ LL.drop k).set k ((List.range LL[k].length).map fun (j : Nat) => (m + (cntLL (LL.take k) : Int)) + (j : Int)) = marksLL m (LL.take (k + 1)) ++ LL.drop (k + 1) := by
  have e1 : (marksLL m (LL.take k)).length = k := by rw [marksLL_len, List.length_take]; omega
  rw [List.drop_eq_getElem_cons hk, List.set_append_right _ _ (by omega), e1, Nat.sub_self, List.set_cons_zero, List.take_succ_eq_append_getElem hk, marksLL_append]
  simp
theorem marksLL_get (m : Int) (LL : List (List Int)) (k : Nat) (hk : k < LL.length) (hh : k < (marksLL m LL).length) :
    (marksLL m LL)[k] = (List.range LL[k].length).map fun (j : Nat) => (m + (cntLL (LL.take k) : Int)) + (j : Int) := by
  induction LL generalizing m k with
  | nil => simp at hk
  | cons x R ih =>
    cases k with
    | zero => simp [marksLL, cntLL]
    | succ k =>
      have h2 : k < (marksLL (m + (x.length : Int)) R).length := by rw [marksLL_len]; simpa using hk
      have := ih (m + (x.length : Int)) k (by simpa using hk) h2
      have e : m + (x.length : Int) + (cntLL (R.take k) : Int) = m + (cntLL ((x :: R).take (k + 1)) : Int) := by simp [cntLL]; omega
      rw [e] at this
      exact this
theorem OwnLL.lt {w : World} {lo hi : Nat} {eo e : TypeId} {v : Value} {vs : List Value} {LL : List (List Int)} (h : OwnLL w lo hi eo e v vs LL) {k : Nat} {x : Value} {g : Nat} (hx : vs[k]? = some x) (hg : x.ownBlock = some g) : lo ≤ g ∧ g < hi := by
  have hkv := (List.getElem?_eq_some_iff.1 hx).1
  have hkl : k < LL.length := by rw [← h.len]; exact hkv
  have hi' := h.inner k x LL[k] hx (List.getElem?_eq_getElem hkl)
  exact ⟨hi'.base g hg, hi'.lt g hg⟩
/-- many lists more by append: theirs were made behind the outer list's -/
theorem OwnLL.appendAll {w w' : World} {lo hi lox hix : Nat} {eo e : TypeId} {v v' vx : Value} {vs vsx : List Value} {LL LLx : List (List Int)} (h : OwnLL w lo hi eo e v vs LL)
    (hx : OwnLL w lox hix eo e vx vsx LLx) (hd : hi ≤ lox) (hlo : lo ≤ lox) (ho : Own w' lo w'.heap.size eo v' (vs ++ vsx)) (hg : w.grownBy w' v.ownBlock) (hat : v'.ownBlock = v.ownBlock ∨ v'.ownBlock = some w.heap.size) :
    OwnLL w' lo w'.heap.size eo e v' (vs ++ vsx) (LL ++ LLx) := by
  have hl := h.len
  have L1 : ∀ {k : Nat} {x : Value} {g : Nat}, vs[k]? = some x → x.ownBlock = some g → lo ≤ g ∧ g < hi := fun a b => h.lt a b
  have L2 : ∀ {k : Nat} {x : Value} {g : Nat}, vsx[k]? = some x → x.ownBlock = some g → lox ≤ g ∧ g < hix := fun a b => hx.lt a b
  have hle := h.le
  have hlx := hx.le
  refine ⟨ho, by simp [hl, hx.len], fun k x M hk hM => ?_, fun k x g hk hgx hv => ?_, fun j k x y g hj hk hgx hgy => ?_⟩
  · by_cases hkv : k < vs.length
    · rw [List.getElem?_append_left hkv] at hk
      rw [List.getElem?_append_left (by omega)] at hM
      refine ((h.inner k x M hk hM).grown hg ?_).more
      cases hb : x.ownBlock with
      | none => exact .inl rfl
      | some g => exact .inr fun e => h.apartO k x g hk hb e.symm
    · rw [List.getElem?_append_right (by omega)] at hk
      rw [List.getElem?_append_right (by omega), ← hl] at hM
      refine (((hx.inner _ x M hk hM).grown hg ?_).more).lower hlo
      cases hb : x.ownBlock with
      | none => exact .inl rfl
      | some g => exact .inr fun e => by have h1 := L2 hk hb; have h2 := h.outer.lt g e.symm; omega
  · by_cases hkv : k < vs.length
    · rw [List.getElem?_append_left hkv] at hk
      rcases hat with e | e
      · exact h.apartO k x g hk hgx (e ▸ hv)
      · rw [e] at hv; cases hv; have h2 := L1 hk hgx; omega
    · rw [List.getElem?_append_right (by omega)] at hk
      have h2 := L2 hk hgx
      rcases hat with e | e
      · have h1 := h.outer.lt g (e ▸ hv); omega
      · rw [e] at hv; cases hv; omega
  · by_cases hjv : j < vs.length
    · rw [List.getElem?_append_left hjv] at hj
      by_cases hkv : k < vs.length
      · rw [List.getElem?_append_left hkv] at hk
        exact h.apart j k x y g hj hk hgx hgy
      · rw [List.getElem?_append_right (by omega)] at hk
        have h1 := L1 hj hgx; have h2 := L2 hk hgy; omega
    · rw [List.getElem?_append_right (by omega)] at hj
      by_cases hkv : k < vs.length
      · rw [List.getElem?_append_left hkv] at hk
        have h1 := L2 hj hgx; have h2 := L1 hk hgy; omega
      · rw [List.getElem?_append_right (by omega)] at hk
        have := hx.apart _ _ x y g hj hk hgx hgy
        omega
theorem Own.single (w : World) (u : Value) (e : TypeId) : Own (w.alloc (.cells #[u] e)) w.heap.size (w.heap.size + 1) e (.slice (some ⟨w.heap.size, 0, none⟩) 1 1) [u] :=
  ⟨⟨rfl, .inr ⟨w.heap.size, 1, #[u], rfl, Nat.le_refl _, heap_alloc_new w _, Nat.le_refl _, by decide, rfl, rfl⟩⟩, fun g hg => by simp [Value.ownBlock] at hg; omega, by simp⟩
/-- a list of one list -/
theorem OwnLL.single {w : World} {lo hi : Nat} {eo e : TypeId} {u : Value} {L : List Int} (hu : Own w lo hi e u (ints L)) (hlo : lo ≤ w.heap.size) :
    OwnLL (w.alloc (.cells #[u] eo)) lo (w.heap.size + 1) eo e (.slice (some ⟨w.heap.size, 0, none⟩) 1 1) [u] [L] := by
  have hle := hu.le
  have one : ∀ (k : Nat) x, [u][k]? = some x → k = 0 ∧ x = u := fun k x hx => by
    match k, hx with
    | 0, hx => simp at hx; exact ⟨rfl, hx.symm⟩
  refine ⟨(Own.single w u eo).lower hlo, rfl, fun k x M hx hM => ?_, fun k x g hx hg hv => ?_, fun j k x y g hx hy _ _ => ?_⟩
  · obtain ⟨rfl, rfl⟩ := one k x hx
    simp at hM
    subst hM
    have h := hu.alloc (.cells #[x] eo)
    exact ⟨h.row, fun g hg => by have := h.lt g hg; omega, by simp⟩
  · obtain ⟨rfl, rfl⟩ := one k x hx
    have := hu.lt g hg
    simp [Value.ownBlock] at hv
    omega
  · rw [(one j x hx).1, (one k y hy).1]
end Go.Proofs.Ytmojonpjgaidgaa
namespace Go.Proofs.Ytmojonpjgaidgaa
open Go.RowKit NP
set_option maxRecDepth 8000
/-- a function value that tells of each diagram of parts whether K holds of them, in every later world -/
def IsK (w : World) (v : Value) (K : List Int → Bool) : Prop := ∃ (f : Nat) (p c : Array Value), v = .func (.func f) p c ∧ (∀ (args : Array Value) (w : World), (callFunc f args).run Try.prog w = .ok (.enter f args) w) ∧ ∀ w1, Below w.heap.size w w1 → ∀ L, valid L = true →
  Calls Try.prog f (p.push (.agg (arr (pad L))) ++ c) w1 fun e w2 => e = .returned (.bool (K L)) ∧ Below w1.heap.size w1 w2
end Go.Proofs.Ytmojonpjgaidgaa
