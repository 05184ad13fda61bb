/-
  Walks: a bent list of parts: what it leaves alone.
-/
import Derived.Test.YtnheolhgdinjgaaD3a
namespace Go.Proofs.Ytnheolhgdinjgaa
open Go.RowKit NP
set_option maxRecDepth 8000
set_option linter.unusedVariables false
/-- but for block g and those from lo to hi, nothing has turned -/
structure Chg2 (g lo hi : Nat) (w w' : World) : Prop where
  os : w'.os = w.os
  tape : w'.tape = w.tape
  output : w'.output = w.output
  size : w.heap.size ≤ w'.heap.size
  block : ∀ k, k < w.heap.size → k ≠ g → (k < lo ∨ hi ≤ k) → w'.heap[k]? = w.heap[k]?
theorem Chg2.trans {g lo hi : Nat} {a b c : World} (h : Chg2 g lo hi a b) (k : Chg2 g lo hi b c) : Chg2 g lo hi a c :=
  ⟨k.os.trans h.os, k.tape.trans h.tape, k.output.trans h.output, Nat.le_trans h.size k.size, fun i hi hne hd => (k.block i (by have := h.size; omega) hne hd).trans (h.block i hi hne hd)⟩
theorem Chg2.of {g lo hi : Nat} {w w' : World} (h : w.grownBy w' (some g)) : Chg2 g lo hi w w' :=
  ⟨h.os, h.tape, h.output, h.size, fun k hk hne _ => h.block k hk (fun e => by injection e with e; exact hne e)⟩
theorem Chg2.ofBelow {g lo hi : Nat} {w w' : World} (h : Below w.heap.size w w') : Chg2 g lo hi w w' := ⟨h.os, h.tape, h.output, h.size, fun k hk _ _ => h.block k hk⟩
theorem Chg2.set {g lo hi : Nat} {w : World} {p : Addr} (v : Value) (h1 : lo ≤ p.block) (h2 : p.block < hi) : Chg2 g lo hi w (w.setCell p v) :=
  ⟨rfl, rfl, rfl, by simp [World.setCell], fun k _ _ hd => Below.heap_setCell w p v k (by rintro rfl; omega)⟩
theorem Chg2.push {g lo hi : Nat} {w0 w w1 : World} {o : Obj} {row : Option Nat} (h : Chg2 g lo hi w0 w) (hg : (w.alloc o).grownBy w1 row) (hr : ∀ k, row = some k → lo ≤ k ∧ k < hi) : Chg2 g lo hi w0 w1 :=
  (h.trans (.ofBelow ((Below.refl _ w).alloc (Nat.le_refl _) o))).trans ⟨hg.os, hg.tape, hg.output, hg.size, fun k hk hne hd => hg.block k hk (fun e => by have := hr k e.symm; omega)⟩
set_option maxHeartbeats 400000 in
theorem bent_at (g q lo hi : Nat) (a : Option Addr) (c : Nat) (M : List Int) (bs : List Int) (w : World) (hq : q ≤ 900000) (h : Rdr w g bs q) (hs : SmallParts M) (hhi : hi ≤ w.heap.size) (ho : Own w lo hi 3 (.slice a M.length c) (ints M)) (hlo : g < lo) (hloW : lo ≤ w.heap.size) :
    Calls Try.prog 61 #[.pointer (some ⟨g, 0, none⟩), .slice a M.length c] w fun e w' => ∃ a' c' M', e = .returned (.slice a' M'.length c') ∧ Own w' lo w'.heap.size 3 (.slice a' M'.length c') (ints M') ∧ Small M' ∧ (∃ q', q' ≤ q + 4 ∧ Rdr w' g bs q') ∧ Chg2 g lo hi w w' := by
  obtain ⟨i0, hib, hz0, hz1, hz2⟩ := T_int'
  have hlt := h.lt
  have hM16 := hs.1
  have HSM : Hid (Small M) := Lib.hid ⟨by omega, fun x hx => by have := hs.2 x hx; omega⟩
  have HS := Lib.hid hs
  clear hs
  have HO := Lib.hid ho
  clear ho
  go_enter Try.func61, Try.ntmps61
  go_wp2_with fail
  refine (pick_any g _ _ bs _ (by omega) (by omega) h).mono ?_
  rintro e w1 ⟨y, rfl, hy0, hy1, h1, hg1, -⟩
  clear hy1
  have hb1 : Chg2 g lo hi w w1 := .of hg1
  have hz1' := hb1.size
  have hown1 := HO.out.chg hg1 hlo
  clear HO hg1
  have hlt1 := h1.lt
  by_cases h0 : y = 0
  · subst h0
    by_cases hM0 : 0 < M.length
    · have hM0' : (0 : Int) < (M.length : Int) := by omega
      have HO1 := Lib.hid hown1
      clear hown1
      go_wp2_with fail
      refine (pick_any g _ _ bs _ (by omega) (by omega) h1).mono ?_
      rintro e w2 ⟨y2, rfl, hy20, hy21, h2, hg2, -⟩
      obtain ⟨y2, rfl⟩ := Int.eq_ofNat_of_zero_le hy20
      have hyM : y2 < M.length := by have := hy21 (by omega); omega
      clear hy21
      have HO2 := Lib.hid (HO1.out.chg hg2 hlo)
      have hlt2 := h2.lt
      have hb2 : Chg2 g lo hi w w2 := hb1.trans (.of hg2)
      clear HO1 hg2
      go_wp2_with fail
      refine (one_any g _ _ _ _ [0, -1, 17, 9] bs _ (by simp) (by simp) (by omega) (h2.below ((Below.refl _ _).alloc hlt2 _)) (rd_new w2 _ _) (by intro b o e; injection e with e; injection e with e; omega)).mono ?_
      rintro e w3 ⟨k, hk, rfl, h3, hg3, -⟩
      have hx : ∀ x ∈ ([0, -1, 17, 9] : List Int), -1 ≤ x ∧ x ≤ 17 := by decide
      have hx1 := hx _ (List.getElem_mem hk)
      obtain ⟨x, hxx⟩ : ∃ x, x = ([0, -1, 17, 9] : List Int)[k] := ⟨_, rfl⟩
      rw [← hxx] at hx1 ⊢
      clear hx hxx hk
      have hown3 := (HO2.out.alloc (.cells (ints [0, -1, 17, 9]).toArray 3)).chg hg3 hlo
      have hsz2 := hb2.size
      have hb3 : Chg2 g lo hi w w3 := (hb2.trans (.ofBelow ((Below.refl _ w2).alloc (Nat.le_refl _) _))).trans (.of hg3)
      clear HO2 hg3
      obtain ⟨g2, u, rfl, hlo2, hhi2, hc2, hf2⟩ := hown3.spot (k := y2) (by simpa using hyM)
      have HO3 := Lib.hid hown3
      clear hown3
      have hcs : ∀ v, Chg2 g lo hi w (w3.setCell ⟨g2, y2, none⟩ v) := fun v => hb3.trans (.set _ hlo2 hhi2)
      have HCS := Lib.hid hcs
      clear hcs
      have HRS : Hid (∀ v, Rdr (w3.setCell ⟨g2, y2, none⟩ v) g bs (q + 1 + 1 + 1)) := Lib.hid fun v => h3.below ((Below.refl _ _).setCell (by show g + 1 ≤ g2; omega) v)
      go_wp2_with fail
      go_ret
      have e := HO3.out.set y2 (.int .i64 x)
      have hset : (ints M).set y2 (.int .i64 x) = ints (M.set y2 x) := by simp [ints, List.map_set]
      rw [hset] at e
      refine ⟨some ⟨g2, 0, none⟩, c, M.set y2 x, by simp, by simpa using e.more, ⟨by simpa using HSM.out.1, fun z hz => ?_⟩, ⟨_, by omega, HRS.out _⟩, HCS.out _⟩
      rcases List.mem_or_eq_of_mem_set hz with hz | rfl
      · exact HSM.out.2 z hz
      · exact hx1
    · have hM0' : (M.length : Int) ≤ 0 := by omega
      have hd0 : decide (0 < M.length) = false := decide_eq_false hM0
      have HO1 := Lib.hid hown1
      clear hown1
      go_wp2_with fail
      go_ret
      exact ⟨a, c, M, rfl, HO1.out.more, HSM.out, ⟨q + 1, by omega, h1⟩, hb1⟩
  · have e0 : (y == 0) = false := by simp; omega
    by_cases h1' : y = 1
    · subst h1'
      have hlo1 : lo ≤ w1.heap.size := by
        rcases hown1.row.2 with ⟨_, h⟩ | ⟨g2, cap, cur, _, hb, hg, _⟩
        · exact Nat.le_trans hloW hb1.size
        · have := (Array.getElem?_eq_some_iff.1 hg).1; omega
      have hlen2 : (ints M).length = M.length := by simp
      go_wp2_with (at_builtin; refine wpList_append_o _ rfl (.tmp 23) (.tmp 24) 31 rfl lo hi 3 i0 (.int .i64 0) 8 Try.underlying31 hib hz0 hz1 hz2 rfl _ (ints M) rfl (hown1.alloc _) (w1.heap.size + 1) (some ⟨w1.heap.size, 0, none⟩) 1 1 (ints [9]) rfl (rd_new w1 _ _) rfl (ints_one _) (by rw [hlen2]; unfold maxLen; omega) (by rw [hlen2]; omega) (by simp; omega) ?_; intro v' w3 ho3 hg3 hat3)
      go_ret
      have e : ints M ++ ints [9] = ints (M ++ [9]) := by simp [ints]
      rw [e] at ho3
      obtain ⟨a', c', rfl⟩ := ho3.form
      have hl3 : (ints (M ++ [9])).length = (M ++ [9]).length := by simp
      rw [hl3] at ho3 ⊢
      refine ⟨a', c', M ++ [9], rfl, ho3, ⟨by simp; omega, fun x hx => ?_⟩, ⟨q + 1, by omega, (h1.row (World.grownBy_alloc w1 _ none) (by simp)).row hg3 (fun k hk => by have := hown1.base k hk; omega)⟩, hb1.push hg3 (fun k hk => ⟨hown1.base k hk, hown1.lt k hk⟩)⟩
      rcases List.mem_append.1 hx with hx | hx
      · exact HSM.out.2 x hx
      · have : ∀ x ∈ ([9] : List Int), -1 ≤ x ∧ x ≤ 17 := by decide
        exact this x hx
    · have e1 : (y == 1) = false := by simp; omega
      by_cases h2' : y = 2
      · subst h2'
        have hlo1 : lo ≤ w1.heap.size := by
          rcases hown1.row.2 with ⟨_, h⟩ | ⟨g2, cap, cur, _, hb, hg, _⟩
          · exact Nat.le_trans hloW hb1.size
          · have := (Array.getElem?_eq_some_iff.1 hg).1; omega
        have hlen2 : (ints M).length = M.length := by simp
        go_wp2_with (at_builtin; refine wpList_append_o _ rfl (.tmp 28) (.tmp 29) 31 rfl lo hi 3 i0 (.int .i64 0) 8 Try.underlying31 hib hz0 hz1 hz2 rfl _ (ints M) rfl (hown1.alloc _) (w1.heap.size + 1) (some ⟨w1.heap.size, 0, none⟩) 16 16 (ints [1, 1, 1, 1, 1, 1, 1, 1, 1, 1, 1, 1, 1, 1, 1, 1]) rfl (rd_new w1 _ _) rfl (ints_one _) (by rw [hlen2]; unfold maxLen; omega) (by rw [hlen2]; omega) (by simp; omega) ?_; intro v' w3 ho3 hg3 hat3)
        go_ret
        have e : ints M ++ ints [1, 1, 1, 1, 1, 1, 1, 1, 1, 1, 1, 1, 1, 1, 1, 1] = ints (M ++ [1, 1, 1, 1, 1, 1, 1, 1, 1, 1, 1, 1, 1, 1, 1, 1]) := by simp [ints]
        rw [e] at ho3
        obtain ⟨a', c', rfl⟩ := ho3.form
        have hl3 : (ints (M ++ [1, 1, 1, 1, 1, 1, 1, 1, 1, 1, 1, 1, 1, 1, 1, 1])).length = (M ++ [1, 1, 1, 1, 1, 1, 1, 1, 1, 1, 1, 1, 1, 1, 1, 1]).length := by simp
        rw [hl3] at ho3 ⊢
        refine ⟨a', c', M ++ [1, 1, 1, 1, 1, 1, 1, 1, 1, 1, 1, 1, 1, 1, 1, 1], rfl, ho3, ⟨by simp; omega, fun x hx => ?_⟩, ⟨q + 1, by omega, (h1.row (World.grownBy_alloc w1 _ none) (by simp)).row hg3 (fun k hk => by have := hown1.base k hk; omega)⟩, hb1.push hg3 (fun k hk => ⟨hown1.base k hk, hown1.lt k hk⟩)⟩
        rcases List.mem_append.1 hx with hx | hx
        · exact HSM.out.2 x hx
        · have : ∀ x ∈ ([1, 1, 1, 1, 1, 1, 1, 1, 1, 1, 1, 1, 1, 1, 1, 1] : List Int), -1 ≤ x ∧ x ≤ 17 := by decide
          exact this x hx
      · have e2 : (y == 2) = false := by simp; omega
        have HO1 := Lib.hid hown1
        clear hown1
        go_wp2_with fail
        go_ret
        exact ⟨a, c, M, rfl, HO1.out.more, HSM.out, ⟨q + 1, by omega, h1⟩, hb1⟩
end Go.Proofs.Ytnheolhgdinjgaa
