/-
  Walks: the draws of chapter 4. Walks: a bent list of parts: what it leaves alone. Walks of the model: inside, dominance, meets, joins. Walks of the model: meets, joins. Draws of chains down. Draws of parts to be taken apart. Draws of parts to be put together. Mathematics: all parts with a sum, none greater than a number, the greater first. Walks: all parts listed (the model's list). Walks: all parts listed (the model's list), whole.
-/
import Derived.Test.YthafbdpeignccaaZA1
import Derived.Test.YthafbdpeignccaaZA2
import Derived.Test.YthafbdpeignccaaZA3
import Derived.Test.YthafbdpeignccaaZA4
import Derived.Test.YthafbdpeignccaaZA5
import Derived.Test.YthafbdpeignccaaZA6
namespace Go.Proofs.Ythafbdpeignccaa
open Go.RowKit NP
set_option maxRecDepth 8000
set_option linter.unusedVariables false
set_option linter.unusedSimpArgs false


set_option maxHeartbeats 400000 in
theorem partsOfV_any (g q : Nat) (n : Int) (bs : List Int) (w : World) (hn0 : 0 ≤ n) (hn : n ≤ 16) (hq : q ≤ 900000) (h : Rdr w g bs q) :
    Calls Try.prog 73 #[.pointer (some ⟨g, 0, none⟩), .int .i64 n] w fun e w' => ∃ a' c' M, e = .returned (.slice a' M.length c') ∧ Own w' w.heap.size w'.heap.size 3 (.slice a' M.length c') (ints M) ∧ valid M = true ∧ (∃ q', q' ≤ q + 32 ∧ Rdr w' g bs q') ∧ w.grownBy w' (some g) := by
  obtain ⟨i0, hi, hz0, hz1, hz2⟩ := T_int'
  have hlt := h.lt
  go_enter Try.func73, Try.ntmps73
  go_wp2_with fail
  go_loopw [1, 5] (fun nn v wr => ∃ (m : Nat) (q' : Nat) (M : List Int), nn = .int .i64 (m : Int) ∧ M.length + m ≤ 16 ∧ q' + 2 * m ≤ q + 32 ∧ Rdr wr g bs q' ∧ w.grownBy wr (some g) ∧ Own wr w.heap.size wr.heap.size 3 v (ints M) ∧ Hid ((∀ x ∈ M, 1 ≤ x ∧ x ≤ 16) ∧ sumL M + (m : Int) ≤ 16)) (fun nn _ _ => (intOf nn).toNat)
  case atStart =>
    obtain ⟨m, rfl⟩ := Int.eq_ofNat_of_zero_le hn0
    exact ⟨m, q, [], rfl, by simp; omega, by omega, h.below ((Below.refl _ _).alloc hlt _), World.grownBy_alloc w _ _, (Own.empty w 3).more, Lib.hid ⟨by simp, by simp [sumL]; omega⟩⟩
  case round =>
    obtain ⟨m, q', M, rfl, hMm, hqm, hr, hg, hown, HM⟩ := hrel
    by_cases hm : 0 < m
    · have hm' : (0 : Int) < (m : Int) := by omega
      have hltr := hr.lt
      have HO := Lib.hid hown
      clear hown
      go_wp2_with fail
      refine (one_any g q' _ _ _ [3, 5, 9, 2, 16] bs _ (by simp) (by simp) (by omega) (hr.below ((Below.refl _ _).alloc hltr _)) (rd_new wr _ _) (by intro b o e; injection e with e; injection e with e; omega)).mono ?_
      rintro e w1 ⟨k, hk, rfl, h1, hg1, -⟩
      have hx : ∀ x ∈ ([3, 5, 9, 2, 16] : List Int), 2 ≤ x ∧ x ≤ 16 := by decide
      have hx1 := hx _ (List.getElem_mem hk)
      obtain ⟨x, hxx⟩ : ∃ x, x = ([3, 5, 9, 2, 16] : List Int)[k] := ⟨_, rfl⟩
      rw [← hxx] at hx1 ⊢
      clear hx hxx hk
      have hzr := hg.size
      have HO1 := Lib.hid ((HO.out.alloc (.cells (ints [3, 5, 9, 2, 16]).toArray 3)).chg hg1 (by omega)).more
      have hgw1 := chg_trans (chg_alloc hg (.cells (ints [3, 5, 9, 2, 16]).toArray 3)) hg1
      clear hg1 HO
      go_wp2_with fail
      all_goals
        refine (pick_any g _ _ bs _ (by omega) (by omega) h1).mono ?_
        rintro e w2 ⟨y, rfl, hy0, hy1, h2, hg2, -⟩
        obtain ⟨y, rfl⟩ := Int.eq_ofNat_of_zero_le hy0
        have hym : y + 1 ≤ m := by have := hy1 (by omega); omega
        clear hy1
        have hown2 := (HO1.out.chg hg2 (by omega)).more
        have hgw2 := chg_trans hgw1 hg2
        have hzw2 := hgw2.size
        clear hgw1 hg2 HO1
        go_wp2_with (at_builtin; refine wpList_append_o _ rfl (.tmp 18) (.tmp 20) 22 rfl w.heap.size w2.heap.size 3 i0 (.int .i64 0) 8 Try.underlying22 hi hz0 hz1 hz2 rfl _ (ints M) rfl (hown2.alloc _) (w2.heap.size + 1) (some ⟨w2.heap.size, 0, none⟩) 1 1 [.int .i64 (1 + (y : Int))] rfl (Rd.one w2 _ _) rfl (by simp; rfl) (by simp; unfold maxLen; omega) (by simp; omega) (by simp; omega) ?_; intro v' w3 ho3 hg3 hat3)
        go_roundw
        case rel =>
          refine ⟨m - (1 + y), q' + 2, M ++ [1 + (y : Int)], by go_num, by simp; omega, by omega, (h2.row (World.grownBy_alloc w2 _ none) (by simp)).row hg3 (fun k hk => by have := hown2.base k hk; omega), chg_row (chg_alloc hgw2 _) hg3 hown2.base, by simpa [ints] using ho3, Lib.hid ⟨fun x hx => ?_, ?_⟩⟩
          · simp at hx
            rcases hx with hx | hx
            · exact HM.out.1 x hx
            · omega
          · have := HM.out.2
            rw [sumL_append]
            simp [sumL]
            omega
        case measure => simp [intOf]; omega
    · obtain rfl : m = 0 := by omega
      obtain ⟨a0, c0, rfl⟩ := hown.form
      have hs : SmallParts M := ⟨by omega, HM.out.1⟩
      have HS : Hid (valid (mrg M) = true) := Lib.hid (valid_mono (mrg_mono M) (fun x hx => (HM.out.1 x (mrg_mem hx)).1) (by rw [mrg_sum]; have := HM.out.2; omega))
      have hlM : (ints M).length = M.length := by simp
      rw [hlM] at hown ⊢
      have HO := Lib.hid hown
      clear hown hlM
      go_wp2_with fail
      refine (merge_any _ _ _ M _ HO.out.rd (by omega) (by have := hs.1; omega)).mono ?_
      rintro e w1 ⟨a', c', rfl, ho1, hb1⟩
      go_wp2_with fail
      go_ret
      exact ⟨a', c', mrg M, rfl, ho1.lower hg.size, HS.out, ⟨q', by omega, hr.below (hb1.mono hr.lt)⟩, chg_below hg (hb1.mono hg.size)⟩

theorem keep_offD {w w1 : World} {lo : Nat} {e : TypeId} {v : Value} {vs : List Value} {o : Obj} {n c : Nat} (h : Own w lo w.heap.size e v vs) (hg : (w.alloc o).grownBy w1 (Value.slice (some ⟨w.heap.size, 0, none⟩) n c).ownBlock) : Own w1 lo w1.heap.size e v vs :=
  ((h.alloc o).grown hg (by
    cases hb : v.ownBlock with
    | none => exact .inl rfl
    | some g => exact .inr fun e => by have := h.lt g hb; simp [Value.ownBlock] at e; omega)).more
theorem small_of_parts' {M : List Int} (h : SmallParts M) : Small M := ⟨by have := h.1; omega, fun x hx => by have := h.2 x hx; omega⟩
theorem small_of_valid {M : List Int} (h : valid M = true) : Small M := by
  have hb := valid_bd h
  refine ⟨by omega, fun x hx => ?_⟩
  obtain ⟨k, hk, rfl⟩ := List.getElem_of_mem hx
  have := preS_of_valid h k hk hk
  omega

set_option maxHeartbeats 2000000 in
theorem samePairs_any (g q : Nat) (bs : List Int) (w : World) (hq : q ≤ 600000) (h : Rdr w g bs q) :
    Calls Try.prog 83 #[.pointer (some ⟨g, 0, none⟩)] w fun e w' => ∃ a1 c1 M1 a2 c2 M2, e = .returned (.tuple #[.slice a1 M1.length c1, .slice a2 M2.length c2]) ∧ Own w' w.heap.size w'.heap.size 3 (.slice a1 M1.length c1) (ints M1) ∧ Own w' w.heap.size w'.heap.size 3 (.slice a2 M2.length c2) (ints M2) ∧ Small M1 ∧ Small M2 ∧ w.grownBy w' (some g) := by
  obtain ⟨i0, hi, hk0, hk1, hk2⟩ := T_int'
  have hlt := h.lt
  go_enter Try.func83, Try.ntmps83
  go_wp2_with fail
  refine (sumFor_any g q bs _ (by omega) h).mono ?_
  rintro e w1 ⟨n, rfl, hn, h1, hg1⟩
  have hz1 := hg1.size
  go_wp2_with fail
  refine (partsOfV_any g _ n bs _ hn.1 hn.2 (by omega) h1).mono ?_
  rintro e w2 ⟨a1, c1, M1, rfl, ho1, hv1, ⟨q2, hq2, h2⟩, hg2⟩
  have hG2 := chg_trans hg1 hg2
  replace ho1 := ho1.lower hz1
  have hs1 := small_of_valid hv1
  have HV := Lib.hid hv1
  clear hg1 hg2 h1 hv1
  have HO := Lib.hid ho1
  clear ho1
  go_wp2_with fail
  refine (pick_any g _ _ bs _ (by omega) (by omega) h2).mono ?_
  rintro e w3 ⟨z, rfl, hz0', -, h3, hg3, -⟩
  have ho1 := (HO.out.chg hg3 hlt).more
  have hG3 := chg_trans hG2 hg3
  have hz3 := hG3.size
  clear HO hG2 hg3 h2
  have HO := Lib.hid ho1
  clear ho1
  by_cases hz : z = 0
  · have b0 : (z == 0) = true := beq_iff_eq.2 hz
    clear hz
    go_wp2_with fail
    refine (someParts_grown g _ bs _ (by omega) h3).mono ?_
    rintro e w4 ⟨a2, c2, M2, rfl, ho2, hs2, -, hg4⟩
    have ho1 := (HO.out.chg hg4 hlt).more
    have hG4 := chg_trans hG3 hg4
    have HO2 := Lib.hid (ho2.lower hz3)
    have HO1 := Lib.hid ho1
    clear hg4 hG3 ho1 ho2 HO
    go_wp2_with fail
    go_ret2
    exact ⟨a1, c1, M1, a2, c2, M2, rfl, HO1.out, HO2.out, hs1, hs2, hG4⟩
  · have b0 : (z == 0) = false := beq_eq_false_iff_ne.2 hz
    clear hz
    by_cases hz : z = 1
    · have b1 : (z == 1) = true := beq_iff_eq.2 hz
      clear hz
      go_wp2_with fail
      refine (sconjugate_any _ _ _ M1 _ HO.out.rd HO.out.le HV.out).mono ?_
      rintro e w4 ⟨a2, c2, rfl, ho2, hb4⟩
      have ho1 := (HO.out.below (hb4.mono HO.out.le)).more
      have hG4 := chg_below hG3 (hb4.mono hz3)
      have HO2 := Lib.hid (ho2.lower hz3)
      have HO1 := Lib.hid ho1
      have hs2 := small_of_valid (valid_conj HV.out)
      clear hb4 hG3 ho1 ho2 HO
      go_wp2_with fail
      go_ret2
      exact ⟨a1, c1, M1, a2, c2, conj M1, rfl, HO1.out, HO2.out, hs1, hs2, hG4⟩
    · have b1 : (z == 1) = false := beq_eq_false_iff_ne.2 hz
      clear hz
      by_cases hz : z = 2
      · have b2 : (z == 2) = true := beq_iff_eq.2 hz
        have hM1l := hs1.1
        have HLM : Hid (M1.length = (ints M1).length) := Lib.hid (by simp)
        clear hz
        have e0 := (Own.empty w3 3).lower (lo' := w.heap.size) hz3
        go_wp2_with (at_builtin; refine wpList_append_o _ rfl (.tmp 26) (.tmp 27) 22 rfl w.heap.size (w3.heap.size + 1) 3 i0 (.int .i64 0) 8 Try.underlying22 hi hk0 hk1 hk2 rfl _ [] rfl e0 _ a1 M1.length c1 (ints M1) rfl ((HO.out.alloc _).rd) HLM.out (ints_one _) (by simp only [List.length_nil, Nat.zero_add]; unfold maxLen; omega) (by simp only [List.length_nil, Nat.zero_add]; omega) (by simp; omega) ?_; intro v' w4 ho4 hg4 hat4; rw [List.nil_append] at ho4; obtain ⟨a2, c2, rfl⟩ := ho4.form; rw [List.length_map] at ho4 ⊢)
        go_ret2
        exact ⟨a1, c1, M1, a2, c2, M1, rfl, keep_offD HO.out hg4, ho4, hs1, hs1, chg_row (chg_alloc hG3 _) hg4 e0.base⟩
      · have b2 : (z == 2) = false := beq_eq_false_iff_ne.2 hz
        clear hz
        go_wp2_with fail
        refine (partsOfV_any g _ n bs _ hn.1 hn.2 (by omega) h3).mono ?_
        rintro e w4 ⟨a2, c2, M2, rfl, ho2, hv2, -, hg4⟩
        have ho1 := (HO.out.chg hg4 hlt).more
        have hG4 := chg_trans hG3 hg4
        have HO2 := Lib.hid (ho2.lower hz3)
        have HO1 := Lib.hid ho1
        have hs2 := small_of_valid hv2
        clear hg4 hG3 ho1 ho2 HO
        go_wp2_with fail
        go_ret2
        exact ⟨a1, c1, M1, a2, c2, M2, rfl, HO1.out, HO2.out, hs1, hs2, hG4⟩




end Go.Proofs.Ythafbdpeignccaa
namespace Go.Proofs.Ythafbdpeignccaa
open Go.RowKit NP
set_option maxRecDepth 8000
set_option linter.unusedVariables false
/-- but for block g and those from lo to hi, nothing has turned -/
structure Chg2 (g lo hi : Nat) (w w' : World) : Prop where
  os : w'.os = w.os
  tape : w'.tape = w.tape
  output : w'.output = w.output
  size : w.heap.size ≤ w'.heap.size
  block : ∀ k, k < w.heap.size → k ≠ g → (k < lo ∨ hi ≤ k) → w'.heap[k]? = w.heap[k]?
theorem Chg2.trans {g lo hi : Nat} {a b c : World} (h : Chg2 g lo hi a b) (k : Chg2 g lo hi b c) : Chg2 g lo hi a c :=
  ⟨k.os.trans h.os, k.tape.trans h.tape, k.output.trans h.output, Nat.le_trans h.size k.size, fun i hi hne hd => (k.block i (by have := h.size; omega) hne hd).trans (h.block i hi hne hd)⟩
theorem Chg2.of {g lo hi : Nat} {w w' : World} (h : w.grownBy w' (some g)) : Chg2 g lo hi w w' :=
  ⟨h.os, h.tape, h.output, h.size, fun k hk hne _ => h.block k hk (fun e => by injection e with e; exact hne e)⟩
theorem Chg2.ofBelow {g lo hi : Nat} {w w' : World} (h : Below w.heap.size w w') : Chg2 g lo hi w w' := ⟨h.os, h.tape, h.output, h.size, fun k hk _ _ => h.block k hk⟩
theorem Chg2.set {g lo hi : Nat} {w : World} {p : Addr} (v : Value) (h1 : lo ≤ p.block) (h2 : p.block < hi) : Chg2 g lo hi w (w.setCell p v) :=
  ⟨rfl, rfl, rfl, by simp [World.setCell], fun k _ _ hd => Below.heap_setCell w p v k (by rintro rfl; omega)⟩
theorem Chg2.push {g lo hi : Nat} {w0 w w1 : World} {o : Obj} {row : Option Nat} (h : Chg2 g lo hi w0 w) (hg : (w.alloc o).grownBy w1 row) (hr : ∀ k, row = some k → lo ≤ k ∧ k < hi) : Chg2 g lo hi w0 w1 :=
  (h.trans (.ofBelow ((Below.refl _ w).alloc (Nat.le_refl _) o))).trans ⟨hg.os, hg.tape, hg.output, hg.size, fun k hk hne hd => hg.block k hk (fun e => by have := hr k e.symm; omega)⟩
set_option maxHeartbeats 400000 in
theorem bent_at (g q lo hi : Nat) (a : Option Addr) (c : Nat) (M : List Int) (bs : List Int) (w : World) (hq : q ≤ 900000) (h : Rdr w g bs q) (hs : SmallParts M) (hhi : hi ≤ w.heap.size) (ho : Own w lo hi 3 (.slice a M.length c) (ints M)) (hlo : g < lo) (hloW : lo ≤ w.heap.size) :
    Calls Try.prog 72 #[.pointer (some ⟨g, 0, none⟩), .slice a M.length c] w fun e w' => ∃ a' c' M', e = .returned (.slice a' M'.length c') ∧ Own w' lo w'.heap.size 3 (.slice a' M'.length c') (ints M') ∧ Small M' ∧ (∃ q', q' ≤ q + 4 ∧ Rdr w' g bs q') ∧ Chg2 g lo hi w w' := by
  obtain ⟨i0, hib, hz0, hz1, hz2⟩ := T_int'
  have hlt := h.lt
  have hM16 := hs.1
  have HSM : Hid (Small M) := Lib.hid ⟨by omega, fun x hx => by have := hs.2 x hx; omega⟩
  have HS := Lib.hid hs
  clear hs
  have HO := Lib.hid ho
  clear ho
  go_enter Try.func72, Try.ntmps72
  go_wp2_with fail
  refine (pick_any g _ _ bs _ (by omega) (by omega) h).mono ?_
  rintro e w1 ⟨y, rfl, hy0, hy1, h1, hg1, -⟩
  clear hy1
  have hb1 : Chg2 g lo hi w w1 := .of hg1
  have hz1' := hb1.size
  have hown1 := HO.out.chg hg1 hlo
  clear HO hg1
  have hlt1 := h1.lt
  by_cases h0 : y = 0
  · subst h0
    by_cases hM0 : 0 < M.length
    · have hM0' : (0 : Int) < (M.length : Int) := by omega
      have HO1 := Lib.hid hown1
      clear hown1
      go_wp2_with fail
      refine (pick_any g _ _ bs _ (by omega) (by omega) h1).mono ?_
      rintro e w2 ⟨y2, rfl, hy20, hy21, h2, hg2, -⟩
      obtain ⟨y2, rfl⟩ := Int.eq_ofNat_of_zero_le hy20
      have hyM : y2 < M.length := by have := hy21 (by omega); omega
      clear hy21
      have HO2 := Lib.hid (HO1.out.chg hg2 hlo)
      have hlt2 := h2.lt
      have hb2 : Chg2 g lo hi w w2 := hb1.trans (.of hg2)
      clear HO1 hg2
      go_wp2_with fail
      refine (one_any g _ _ _ _ [0, -1, 17, 9] bs _ (by simp) (by simp) (by omega) (h2.below ((Below.refl _ _).alloc hlt2 _)) (rd_new w2 _ _) (by intro b o e; injection e with e; injection e with e; omega)).mono ?_
      rintro e w3 ⟨k, hk, rfl, h3, hg3, -⟩
      have hx : ∀ x ∈ ([0, -1, 17, 9] : List Int), -1 ≤ x ∧ x ≤ 17 := by decide
      have hx1 := hx _ (List.getElem_mem hk)
      obtain ⟨x, hxx⟩ : ∃ x, x = ([0, -1, 17, 9] : List Int)[k] := ⟨_, rfl⟩
      rw [← hxx] at hx1 ⊢
      clear hx hxx hk
      have hown3 := (HO2.out.alloc (.cells (ints [0, -1, 17, 9]).toArray 3)).chg hg3 hlo
      have hsz2 := hb2.size
      have hb3 : Chg2 g lo hi w w3 := (hb2.trans (.ofBelow ((Below.refl _ w2).alloc (Nat.le_refl _) _))).trans (.of hg3)
      clear HO2 hg3
      obtain ⟨g2, u, rfl, hlo2, hhi2, hc2, hf2⟩ := hown3.spot (k := y2) (by simpa using hyM)
      have HO3 := Lib.hid hown3
      clear hown3
      have hcs : ∀ v, Chg2 g lo hi w (w3.setCell ⟨g2, y2, none⟩ v) := fun v => hb3.trans (.set _ hlo2 hhi2)
      have HCS := Lib.hid hcs
      clear hcs
      have HRS : Hid (∀ v, Rdr (w3.setCell ⟨g2, y2, none⟩ v) g bs (q + 1 + 1 + 1)) := Lib.hid fun v => h3.below ((Below.refl _ _).setCell (by show g + 1 ≤ g2; omega) v)
      go_wp2_with fail
      go_ret
      have e := HO3.out.set y2 (.int .i64 x)
      have hset : (ints M).set y2 (.int .i64 x) = ints (M.set y2 x) := by simp [ints, List.map_set]
      rw [hset] at e
      refine ⟨some ⟨g2, 0, none⟩, c, M.set y2 x, by simp, by simpa using e.more, ⟨by simpa using HSM.out.1, fun z hz => ?_⟩, ⟨_, by omega, HRS.out _⟩, HCS.out _⟩
      rcases List.mem_or_eq_of_mem_set hz with hz | rfl
      · exact HSM.out.2 z hz
      · exact hx1
    · have hM0' : (M.length : Int) ≤ 0 := by omega
      have hd0 : decide (0 < M.length) = false := decide_eq_false hM0
      have HO1 := Lib.hid hown1
      clear hown1
      go_wp2_with fail
      go_ret
      exact ⟨a, c, M, rfl, HO1.out.more, HSM.out, ⟨q + 1, by omega, h1⟩, hb1⟩
  · have e0 : (y == 0) = false := by simp; omega
    by_cases h1' : y = 1
    · subst h1'
      have hlo1 : lo ≤ w1.heap.size := by
        rcases hown1.row.2 with ⟨_, h⟩ | ⟨g2, cap, cur, _, hb, hg, _⟩
        · exact Nat.le_trans hloW hb1.size
        · have := (Array.getElem?_eq_some_iff.1 hg).1; omega
      have hlen2 : (ints M).length = M.length := by simp
      go_wp2_with (at_builtin; refine wpList_append_o _ rfl (.tmp 23) (.tmp 24) 22 rfl lo hi 3 i0 (.int .i64 0) 8 Try.underlying22 hib hz0 hz1 hz2 rfl _ (ints M) rfl (hown1.alloc _) (w1.heap.size + 1) (some ⟨w1.heap.size, 0, none⟩) 1 1 (ints [9]) rfl (rd_new w1 _ _) rfl (ints_one _) (by rw [hlen2]; unfold maxLen; omega) (by rw [hlen2]; omega) (by simp; omega) ?_; intro v' w3 ho3 hg3 hat3)
      go_ret
      have e : ints M ++ ints [9] = ints (M ++ [9]) := by simp [ints]
      rw [e] at ho3
      obtain ⟨a', c', rfl⟩ := ho3.form
      have hl3 : (ints (M ++ [9])).length = (M ++ [9]).length := by simp
      rw [hl3] at ho3 ⊢
      refine ⟨a', c', M ++ [9], rfl, ho3, ⟨by simp; omega, fun x hx => ?_⟩, ⟨q + 1, by omega, (h1.row (World.grownBy_alloc w1 _ none) (by simp)).row hg3 (fun k hk => by have := hown1.base k hk; omega)⟩, hb1.push hg3 (fun k hk => ⟨hown1.base k hk, hown1.lt k hk⟩)⟩
      rcases List.mem_append.1 hx with hx | hx
      · exact HSM.out.2 x hx
      · have : ∀ x ∈ ([9] : List Int), -1 ≤ x ∧ x ≤ 17 := by decide
        exact this x hx
    · have e1 : (y == 1) = false := by simp; omega
      by_cases h2' : y = 2
      · subst h2'
        have hlo1 : lo ≤ w1.heap.size := by
          rcases hown1.row.2 with ⟨_, h⟩ | ⟨g2, cap, cur, _, hb, hg, _⟩
          · exact Nat.le_trans hloW hb1.size
          · have := (Array.getElem?_eq_some_iff.1 hg).1; omega
        have hlen2 : (ints M).length = M.length := by simp
        go_wp2_with (at_builtin; refine wpList_append_o _ rfl (.tmp 28) (.tmp 29) 22 rfl lo hi 3 i0 (.int .i64 0) 8 Try.underlying22 hib hz0 hz1 hz2 rfl _ (ints M) rfl (hown1.alloc _) (w1.heap.size + 1) (some ⟨w1.heap.size, 0, none⟩) 16 16 (ints [1, 1, 1, 1, 1, 1, 1, 1, 1, 1, 1, 1, 1, 1, 1, 1]) rfl (rd_new w1 _ _) rfl (ints_one _) (by rw [hlen2]; unfold maxLen; omega) (by rw [hlen2]; omega) (by simp; omega) ?_; intro v' w3 ho3 hg3 hat3)
        go_ret
        have e : ints M ++ ints [1, 1, 1, 1, 1, 1, 1, 1, 1, 1, 1, 1, 1, 1, 1, 1] = ints (M ++ [1, 1, 1, 1, 1, 1, 1, 1, 1, 1, 1, 1, 1, 1, 1, 1]) := by simp [ints]
        rw [e] at ho3
        obtain ⟨a', c', rfl⟩ := ho3.form
        have hl3 : (ints (M ++ [1, 1, 1, 1, 1, 1, 1, 1, 1, 1, 1, 1, 1, 1, 1, 1])).length = (M ++ [1, 1, 1, 1, 1, 1, 1, 1, 1, 1, 1, 1, 1, 1, 1, 1]).length := by simp
        rw [hl3] at ho3 ⊢
        refine ⟨a', c', M ++ [1, 1, 1, 1, 1, 1, 1, 1, 1, 1, 1, 1, 1, 1, 1, 1], rfl, ho3, ⟨by simp; omega, fun x hx => ?_⟩, ⟨q + 1, by omega, (h1.row (World.grownBy_alloc w1 _ none) (by simp)).row hg3 (fun k hk => by have := hown1.base k hk; omega)⟩, hb1.push hg3 (fun k hk => ⟨hown1.base k hk, hown1.lt k hk⟩)⟩
        rcases List.mem_append.1 hx with hx | hx
        · exact HSM.out.2 x hx
        · have : ∀ x ∈ ([1, 1, 1, 1, 1, 1, 1, 1, 1, 1, 1, 1, 1, 1, 1, 1] : List Int), -1 ≤ x ∧ x ≤ 17 := by decide
          exact this x hx
      · have e2 : (y == 2) = false := by simp; omega
        have HO1 := Lib.hid hown1
        clear hown1
        go_wp2_with fail
        go_ret
        exact ⟨a, c, M, rfl, HO1.out.more, HSM.out, ⟨q + 1, by omega, h1⟩, hb1⟩
end Go.Proofs.Ythafbdpeignccaa
namespace Go.Proofs.Ythafbdpeignccaa
open Go.RowKit NP
set_option maxRecDepth 8000
set_option linter.unusedVariables false
set_option linter.unusedSimpArgs false
theorem ins_no {P Q : List Int} {k : Nat} (h : P.getD k 0 < Q.getD k 0) : ins P Q = false := by
  cases hh : ins P Q with
  | false => rfl
  | true => have := (ins_iff.1 hh).2.2 k; omega
theorem sumTo_bd {L : List Int} (hv : valid L = true) (k : Nat) : 0 ≤ sumTo L k ∧ sumTo L k ≤ 16 := by
  rw [sumTo_take]
  have := valid_bd (valid_take hv k)
  omega
theorem dom_no {P Q : List Int} {k : Nat} (hk : k ≤ 16) (h : sumTo P k < sumTo Q k) : dom P Q = false := by
  cases hh : dom P Q with
  | false => rfl
  | true => have := (dom_iff.1 hh).2.2.2 k hk; omega
theorem dom_yes {P Q : List Int} (hp : valid P = true) (hq : valid Q = true) {n : Nat} (h1 : P.length ≤ n) (h2 : Q.length ≤ n) (h : ∀ j, j ≤ n → sumTo Q j ≤ sumTo P j) : dom P Q = (sumL P == sumL Q) := by
  rw [Bool.eq_iff_iff, dom_iff, beq_iff_eq]
  constructor
  · rintro ⟨_, _, hs, _⟩; exact hs
  · intro hs
    refine ⟨hp, hq, hs, fun k _ => ?_⟩
    rcases Nat.lt_or_ge k n with hk | hk
    · exact h k (by omega)
    · rw [sumTo_all P k (by omega), sumTo_all Q k (by omega), hs]; exact Int.le_refl _
theorem mt_at {P Q : List Int} {n : Nat} (h1 : P.length ≤ n) (h2 : Q.length ≤ n) (hn : n ≤ 16) : tr (mi P Q) n = mt P Q := by
  unfold NP.mt
  refine (tr_more hn fun i hi => ?_).symm
  unfold mi mf
  simp only [sumTo]
  rw [getD_ge (by omega), getD_ge (by omega)]
  omega
def oneS' (P Q : List Int) : Bool := valid P && valid Q && (sumL P == sumL Q)
def mtF (P Q : List Int) : List Int := if oneS' P Q then mt P Q else []
def jnF (P Q : List Int) : List Int := if oneS' P Q then jn P Q else []
theorem oneS_out {P Q : List Int} (h : oneS' P Q = true) : valid P = true ∧ valid Q = true ∧ sumL P = sumL Q := by
  unfold oneS' at h
  simp only [Bool.and_eq_true, beq_iff_eq] at h
  exact ⟨h.1.1, h.1.2, h.2⟩
theorem mtF_yes {P Q : List Int} (h : oneS' P Q = true) : mtF P Q = mt P Q := by simp [mtF, h]
theorem mtF_no {P Q : List Int} (h : oneS' P Q = false) : mtF P Q = [] := by simp [mtF, h]
theorem jnF_yes {P Q : List Int} (h : oneS' P Q = true) : jnF P Q = jn P Q := by simp [jnF, h]
theorem jnF_no {P Q : List Int} (h : oneS' P Q = false) : jnF P Q = [] := by simp [jnF, h]
theorem mtF_len (P Q : List Int) : (mtF P Q).length ≤ 16 := by
  cases h : oneS' P Q with
  | true => rw [mtF_yes h]; obtain ⟨h1, h2, _⟩ := oneS_out h; exact (valid_bd (valid_mt h1 h2)).2.2.2
  | false => rw [mtF_no h]; simp
theorem jnF_len (P Q : List Int) : (jnF P Q).length ≤ 16 := by
  cases h : oneS' P Q with
  | true => rw [jnF_yes h]; obtain ⟨h1, h2, _⟩ := oneS_out h; exact (valid_bd (valid_jn h1 h2)).2.2.2
  | false => rw [jnF_no h]; simp



end Go.Proofs.Ythafbdpeignccaa
namespace Go.Proofs.Ythafbdpeignccaa
open Go.RowKit NP
set_option maxRecDepth 8000
set_option linter.unusedVariables false
set_option linter.unusedSimpArgs false
theorem own_nilF (w : World) (lo : Nat) (e : TypeId) : Own w lo w.heap.size e (.slice none ([] : List Int).length 0) (ints []) := Own.nil w lo e



end Go.Proofs.Ythafbdpeignccaa
namespace Go.Proofs.Ythafbdpeignccaa
open Go.RowKit NP
set_option maxRecDepth 8000
set_option linter.unusedVariables false
set_option linter.unusedSimpArgs false
theorem sp_valid {M : List Int} (hv : valid M = true) : SmallParts M := by
  have hl16 := (valid_bd hv).2.2.2
  refine ⟨hl16, fun x hx => ?_⟩
  obtain ⟨i, hi, rfl⟩ := List.getElem_of_mem hx
  have h3 := pad_nonneg hv i (by rw [pad_len hl16]; omega)
  rw [pad_get hl16 hi] at h3
  have h4 := preS_of_valid hv i hi hi
  omega
theorem sm_valid {M : List Int} (hv : valid M = true) : Small M := by
  have h := sp_valid hv
  exact ⟨by have := h.1; omega, fun x hx => by have := h.2 x hx; omega⟩
theorem own_kept {w w' : World} {lo hi g : Nat} {e : TypeId} {v : Value} {vs : List Value} (h : Own w lo hi e v vs) (hg : w.grownBy w' (some g)) (hlo : g < lo) : Own w' lo hi e v vs :=
  h.keep hg.size fun k hk => hg.block k (Nat.lt_of_lt_of_le (h.lt k hk) h.le) (fun e => by injection e with e; have := h.base k hk; omega)
end Go.Proofs.Ythafbdpeignccaa
namespace Go.Proofs.Ythafbdpeignccaa
open Go.RowKit NP
set_option maxRecDepth 8000
set_option linter.unusedVariables false
set_option linter.unusedSimpArgs false
theorem goodPartsV_any (g q : Nat) (bs : List Int) (w : World) (hq : q ≤ 800000) (h : Rdr w g bs q) :
    Calls Try.prog 67 #[.pointer (some ⟨g, 0, none⟩)] w fun e w' => ∃ a' c' M, e = .returned (.slice a' M.length c') ∧ Own w' w.heap.size w'.heap.size 3 (.slice a' M.length c') (ints M) ∧ valid M = true ∧ w.grownBy w' (some g) := by
  go_enter Try.func67, Try.ntmps67
  go_wp2_with fail
  refine (sumFor_any g q bs _ (by omega) h).mono ?_
  rintro e w1 ⟨x, rfl, ⟨hx0, hx1⟩, h1, hg1⟩
  go_wp2_with fail
  refine (partsOfV_any g _ x bs _ hx0 hx1 (by omega) h1).mono ?_
  rintro e w2 ⟨a', c', M, rfl, ho, hs, -, hg2⟩
  go_wp2_with fail
  go_ret
  exact ⟨a', c', M, rfl, ho.lower hg1.size, hs, chg_trans hg1 hg2⟩
theorem foldPu_len (m : Nat) (hm : 2 ≤ m) : ∀ (l : List Nat) (M : List Int), (l.foldl (fun out j => puStep m out (j + 1)) M).length ≤ M.length := by
  intro l
  induction l with
  | nil => intro M; exact Nat.le_refl _
  | cons a r ih => intro M; rw [List.foldl_cons]; exact Nat.le_trans (ih _) (puStep_len m hm M _)
theorem puF_len (m : Nat) (hm : 2 ≤ m) (M : List Int) : (puF m M).length ≤ M.length := by
  unfold puF
  rw [mrg_len]
  exact foldPu_len m hm _ M
set_option maxHeartbeats 1000000 in
theorem DrawSplitEqual_any (a : Option Addr) (c B : Nat) (bs : List Int) (w : World) (h : Rd w B a (bs.map (Value.int .u8))) (hB : B ≤ w.heap.size) (hb : ∀ n ∈ bs, (Lit.int .u8 n).wf = true) (hl : bs.length ≤ 1048576) (hc : bs.length ≤ c) :
    Calls Try.prog 25 #[.slice a bs.length c] w fun e w' => ∃ a1 c1 M m, e = .returned (.tuple #[.slice a1 M.length c1, .int .i64 m]) ∧ Own w' w.heap.size w'.heap.size 3 (.slice a1 M.length c1) (ints M) ∧ M.length ≤ 40 ∧ (1 ≤ m ∧ m ≤ 17) ∧ Below w.heap.size w w' := by
  go_enter Try.func25, Try.ntmps25
  go_wp2_with fail
  refine (newReader_any _ _ B bs _ h hB hb hl hc).mono ?_
  rintro e w1 ⟨rfl, h1, hb1, -⟩
  go_wp2_with fail
  refine (one_any w.heap.size 0 _ _ _ [2, 3, 2, 4, 5, 16, 1, 17] _ _ (by simp) (by simp) (by omega) (h1.below ((Below.refl _ _).alloc h1.lt _)) (rd_new w1 _ _) (by intro b o e; injection e with e; injection e with e; have := h1.lt; omega)).mono ?_
  rintro e w2 ⟨k, hk, rfl, h2, hg2, -⟩
  have hx : ∀ x ∈ ([2, 3, 2, 4, 5, 16, 1, 17] : List Int), 1 ≤ x ∧ x ≤ 17 := by intro x hx; simp only [List.mem_cons, List.not_mem_nil, or_false] at hx; omega
  have hx2 := hx _ (List.getElem_mem hk)
  obtain ⟨m, hxx⟩ : ∃ x, x = ([2, 3, 2, 4, 5, 16, 1, 17] : List Int)[k] := ⟨_, rfl⟩
  rw [← hxx] at hx2 ⊢
  clear hx hxx hk
  have hz2 : w.heap.size < w2.heap.size := h2.lt
  have hb2 : Below w.heap.size w w2 := (hb1.alloc hb1.size _).grown hg2 (hb1.alloc hb1.size _).size fun k hk => by injection hk with hk; omega
  clear hg2
  by_cases hm : 2 ≤ m ∧ m ≤ 16
  · have d1 : decide (m < 2) = false := decide_eq_false (by omega)
    have d2 : decide (16 < m) = false := decide_eq_false (by omega)
    go_wp2_with fail
    refine (pick_any w.heap.size 1 8 _ _ (by omega) (by omega) h2).mono ?_
    rintro e w3 ⟨x, rfl, hx0, -, h3, hg3, hz3⟩
    have hb3 : Below w.heap.size w w3 := hb2.grown hg3 hb2.size fun k hk => by injection hk with hk; omega
    clear hg3
    by_cases hx : x = 0
    · have dx : (x == 0) = true := by simp [hx]
      clear hx
      go_wp2_with fail
      refine (someParts_any w.heap.size 2 _ _ (by omega) h3).mono ?_
      rintro e w4 ⟨a4, c4, M, rfl, ho, hs, -, hb4⟩
      go_wp2_with fail
      go_ret2
      exact ⟨a4, c4, M, m, rfl, ho.lower hb3.size, hs.1, hx2, hb3.trans hb4⟩
    · have dx : (x == 0) = false := by simp [hx]
      obtain ⟨n, rfl⟩ := Int.eq_ofNat_of_zero_le (show 0 ≤ m by omega)
      have hn : 2 ≤ n ∧ n ≤ 16 := by omega
      clear hx
      go_wp2_with fail
      refine (goodPartsV_any w.heap.size 2 _ _ (by omega) h3).mono ?_
      rintro e w4 ⟨a4, c4, M, rfl, ho, hv, hg4⟩
      have hb4 : Below w.heap.size w w4 := hb3.grown hg4 hb3.size fun k hk => by injection hk with hk; omega
      have hz4 := hg4.size
      have HV := Lib.hid hv
      have HO := Lib.hid ho
      clear hg4 hv ho
      go_wp2_with fail
      refine (putUp_any n hn _ _ _ M _ HO.out.rd HO.out.le HV.out).mono ?_
      rintro e w5 ⟨a5, c5, rfl, ho5, hb5⟩
      have hpl : (puF n M).length ≤ 40 := by have := puF_len n hn.1 M; have := (valid_bd HV.out).2.2.2; omega
      go_wp2_with fail
      go_ret2
      exact ⟨a5, c5, _, _, rfl, ho5.lower hb4.size, hpl, hx2, hb4.trans (hb5.mono hb4.size)⟩
  · have hd : (decide (m < 2) || decide (16 < m)) = true := by
      rcases Int.lt_or_le m 2 with h1 | h1
      · simp [h1]
      · have : 16 < m := by omega
        simp [this]
    by_cases h2' : m < 2
    · have d1 : decide (m < 2) = true := decide_eq_true h2'
      go_wp2_with fail
      refine (someParts_any w.heap.size 1 _ _ (by omega) h2).mono ?_
      rintro e w4 ⟨a4, c4, M, rfl, ho, hs, -, hb4⟩
      go_wp2_with fail
      go_ret2
      exact ⟨a4, c4, M, m, rfl, ho.lower hb2.size, hs.1, hx2, hb2.trans hb4⟩
    · have d1 : decide (m < 2) = false := decide_eq_false h2'
      have d2 : decide (16 < m) = true := decide_eq_true (by omega)
      go_wp2_with fail
      refine (someParts_any w.heap.size 1 _ _ (by omega) h2).mono ?_
      rintro e w4 ⟨a4, c4, M, rfl, ho, hs, -, hb4⟩
      go_wp2_with fail
      go_ret2
      exact ⟨a4, c4, M, m, rfl, ho.lower hb2.size, hs.1, hx2, hb2.trans hb4⟩
end Go.Proofs.Ythafbdpeignccaa
namespace Go.Proofs.Ythafbdpeignccaa
open Go.RowKit NP
set_option maxRecDepth 8000
set_option linter.unusedVariables false
set_option linter.unusedSimpArgs false
set_option maxRecDepth 100000 in
set_option maxHeartbeats 2000000 in
theorem DrawMergeEqual_any (a : Option Addr) (c B : Nat) (bs : List Int) (w : World) (h : Rd w B a (bs.map (Value.int .u8))) (hB : B ≤ w.heap.size) (hb : ∀ n ∈ bs, (Lit.int .u8 n).wf = true) (hl : bs.length ≤ 1048576) (hc : bs.length ≤ c) :
    Calls Try.prog 19 #[.slice a bs.length c] w fun e w' => ∃ a1 c1 M m, e = .returned (.tuple #[.slice a1 M.length c1, .int .i64 m]) ∧ Own w' w.heap.size w'.heap.size 3 (.slice a1 M.length c1) (ints M) ∧ M.length ≤ 40 ∧ (1 ≤ m ∧ m ≤ 17) ∧ Below w.heap.size w w' := by
  obtain ⟨i0, hi, hz0, hz1, hz2⟩ := T_int'
  go_enter Try.func19, Try.ntmps19
  go_wp2_with fail
  refine (newReader_any _ _ B bs _ h hB hb hl hc).mono ?_
  rintro e w1 ⟨rfl, h1, hb1, -⟩
  go_wp2_with fail
  refine (one_any w.heap.size 0 _ _ _ [2, 3, 2, 4, 5, 16, 1, 17] _ _ (by simp) (by simp) (by omega) (h1.below ((Below.refl _ _).alloc h1.lt _)) (rd_new w1 _ _) (by intro b o e; injection e with e; injection e with e; have := h1.lt; omega)).mono ?_
  rintro e w2 ⟨k, hk, rfl, h2, hg2, -⟩
  have hx : ∀ x ∈ ([2, 3, 2, 4, 5, 16, 1, 17] : List Int), 1 ≤ x ∧ x ≤ 17 := by intro x hx; simp only [List.mem_cons, List.not_mem_nil, or_false] at hx; omega
  have hx2 := hx _ (List.getElem_mem hk)
  obtain ⟨m, hxx⟩ : ∃ x, x = ([2, 3, 2, 4, 5, 16, 1, 17] : List Int)[k] := ⟨_, rfl⟩
  rw [← hxx] at hx2 ⊢
  clear hx hxx hk
  have hz2w : w.heap.size < w2.heap.size := h2.lt
  have hb2 : Below w.heap.size w w2 := (hb1.alloc hb1.size _).grown hg2 (hb1.alloc hb1.size _).size fun k hk => by injection hk with hk; omega
  clear hg2
  by_cases hm : m < 2
  · have d1 : decide (m < 2) = true := decide_eq_true hm
    go_wp2_with fail
    refine (someParts_any w.heap.size 1 _ _ (by omega) h2).mono ?_
    rintro e w4 ⟨a4, c4, M, rfl, ho, hs, -, hb4⟩
    go_wp2_with fail
    go_ret2
    exact ⟨a4, c4, M, m, rfl, ho.lower hb2.size, hs.1, hx2, hb2.trans hb4⟩
  · have d1 : decide (m < 2) = false := decide_eq_false hm
    go_wp2_with fail
    refine (pick_any w.heap.size 1 8 _ _ (by omega) (by omega) h2).mono ?_
    rintro e w3 ⟨x, rfl, hx0, -, h3, hg3, -⟩
    have hb3 : Below w.heap.size w w3 := hb2.grown hg3 hb2.size fun k hk => by injection hk with hk; omega
    clear hg3
    by_cases hx : x = 0
    · have dx : (x == 0) = true := by simp [hx]
      clear hx
      go_wp2_with fail
      refine (someParts_any w.heap.size 2 _ _ (by omega) h3).mono ?_
      rintro e w4 ⟨a4, c4, M, rfl, ho, hs, -, hb4⟩
      go_wp2_with fail
      go_ret2
      exact ⟨a4, c4, M, m, rfl, ho.lower hb3.size, hs.1, hx2, hb3.trans hb4⟩
    · have dx : (x == 0) = false := by simp [hx]
      clear hx
      have hlt3 := h3.lt
      have hE := (Own.empty w3 3)
      go_wp2_with fail
      refine (sumFor_any w.heap.size _ _ _ (by omega) (h3.below ((Below.refl _ _).alloc hlt3 _))).mono ?_
      rintro e w4 ⟨n, rfl, ⟨hn0, hn1⟩, h4, hg4⟩
      have hlt4 := h4.lt
      have hO4 := (hE.chg hg4 (by omega)).more
      have hG4 := chg_trans (World.grownBy_alloc w3 (.cells #[] 3) (some w.heap.size)) hg4
      have HM17 := Lib.hid hx2
      have hm0 : m ≠ 0 := by omega
      have hm1 : 0 < m := by omega
      clear hg4 hE h3 hx2
      obtain ⟨m0, rfl⟩ := Int.eq_ofNat_of_zero_le hn0
      go_wp2_with fail
      go_loopw [6, 7] (fun v nn wr => ∃ (j : Nat) (q' : Nat) (M : List Int), nn = .int .i64 (j : Int) ∧ M.length + j ≤ 16 ∧ q' + j ≤ 100 ∧ Rdr wr w.heap.size (bs.take 2000) q' ∧ w3.grownBy wr (some w.heap.size) ∧ Own wr w3.heap.size wr.heap.size 3 v (ints M)) (fun _ nn _ => (intOf nn).toNat)
      case atStart => exact ⟨m0, _, [], rfl, by simp; omega, by omega, h4, hG4, hO4⟩
      case round =>
        obtain ⟨j, q', M, rfl, hMj, hqj, hr, hg, hown⟩ := hrel
        have hzr := hg.size
        have hltr := hr.lt
        by_cases hj : 0 < j
        · have hj' : (0 : Int) < (j : Int) := by omega
          have HO := Lib.hid hown
          clear hown
          go_wp2_with fail
          all_goals
            refine (pick_any w.heap.size _ _ _ _ (by omega) (by omega) hr).mono ?_
            rintro e w5 ⟨y, rfl, hy0, hy1, h5, hg5, -⟩
            obtain ⟨y, rfl⟩ := Int.eq_ofNat_of_zero_le hy0
            have hym : y + 1 ≤ j := by have := hy1 (by omega); omega
            clear hy1
            have hown5 := (HO.out.chg hg5 (by omega)).more
            have hG5 := chg_trans hg hg5
            have hzw5 := hG5.size
            have htm : Int.tmod (1 + (y : Int)) m = (1 + (y : Int)) % m := Int.tmod_eq_emod_of_nonneg (by omega)
            obtain ⟨r, hr1⟩ : ∃ r, (1 + (y : Int)) % m = r := ⟨_, rfl⟩
            rw [hr1] at htm
            have hrb := Int.emod_nonneg (1 + (y : Int)) hm0
            have hrb2 := Int.emod_lt_of_pos (1 + (y : Int)) hm1
            have h17 := HM17.out.2
            rw [hr1] at hrb hrb2
            clear hg5 HO hr1
            by_cases hz : r = 0
            · have hzb : (r == 0) = true := by simp [hz]
              clear hz
              go_wp2_with (at_builtin; refine wpList_append_o _ rfl (.tmp 38) (.tmp 40) 22 rfl w3.heap.size w5.heap.size 3 i0 (.int .i64 0) 8 Try.underlying22 hi hz0 hz1 hz2 rfl _ (ints M) rfl (hown5.alloc _) (w5.heap.size + 1) (some ⟨w5.heap.size, 0, none⟩) 1 1 [.int .i64 1] rfl (Rd.one w5 _ _) rfl (by simp; rfl) (by simp; unfold maxLen; omega) (by simp; omega) (by simp; omega) ?_; intro v' w6 ho6 hg6 hat6)
              go_roundw
              case rel => exact ⟨j - (1 : Int).toNat, q' + 1, M ++ [1], by go_num, by simp; omega, by omega, (h5.row (World.grownBy_alloc w5 _ none) (by simp)).row hg6 (fun k hk => by have := hown5.base k hk; omega), chg_row (chg_alloc hG5 _) hg6 hown5.base, by simpa [ints] using ho6⟩
              case measure => simp [intOf]; omega
            · have hzb : (r == 0) = false := by simp [hz]
              clear hz
              go_wp2_with (at_builtin; refine wpList_append_o _ rfl (.tmp 38) (.tmp 40) 22 rfl w3.heap.size w5.heap.size 3 i0 (.int .i64 0) 8 Try.underlying22 hi hz0 hz1 hz2 rfl _ (ints M) rfl (hown5.alloc _) (w5.heap.size + 1) (some ⟨w5.heap.size, 0, none⟩) 1 1 [.int .i64 (1 + (y : Int))] rfl (Rd.one w5 _ _) rfl (by simp; rfl) (by simp; unfold maxLen; omega) (by simp; omega) (by simp; omega) ?_; intro v' w6 ho6 hg6 hat6)
              go_roundw
              case rel => exact ⟨j - ((1 + (y : Int)) : Int).toNat, q' + 1, M ++ [(1 + (y : Int))], by go_num, by simp; omega, by omega, (h5.row (World.grownBy_alloc w5 _ none) (by simp)).row hg6 (fun k hk => by have := hown5.base k hk; omega), chg_row (chg_alloc hG5 _) hg6 hown5.base, by simpa [ints] using ho6⟩
              case measure => simp [intOf]; omega
        · obtain rfl : j = 0 := by omega
          obtain ⟨a0, c0, rfl⟩ := hown.form
          have hlM : (ints M).length = M.length := by simp
          rw [hlM] at hown ⊢
          have HO := Lib.hid hown
          clear hown hlM
          go_wp2_with fail
          refine (merge_any _ _ _ M _ HO.out.rd (by omega) (by omega)).mono ?_
          rintro e w5 ⟨a', c', rfl, ho1, hb5⟩
          go_wp2_with fail
          go_ret2
          have hbr : Below w.heap.size w wr := hb3.grown hg hb3.size fun k hk => by injection hk with hk; omega
          have hzr2 := hbr.size
          exact ⟨a', c', mrg M, m, rfl, ho1.lower (by omega), by rw [mrg_len]; omega, HM17.out, hbr.trans (hb5.mono (by omega))⟩
end Go.Proofs.Ythafbdpeignccaa
namespace Go.Proofs.Ythafbdpeignccaa
namespace NP
def allQ : Nat → Nat → Nat → List (List Int)
  | 0, n, _ => if n = 0 then [[]] else []
  | f + 1, n, most => if n = 0 then [[]] else (List.range (min n most)).reverse.flatMap fun i => (allQ f (n - (i + 1)) (i + 1)).map fun R => ((i + 1 : Nat) : Int) :: R
def pieceQ (f n i : Nat) : List (List Int) := (allQ f (n - (i + 1)) (i + 1)).map fun R => ((i + 1 : Nat) : Int) :: R
def upQ (f n top j : Nat) : List (List Int) := ((List.range top).reverse.take j).flatMap (pieceQ f n)
theorem upQ_zero (f n top : Nat) : upQ f n top 0 = [] := by simp [upQ]
theorem upQ_succ (f n top j : Nat) (h : j < top) : upQ f n top (j + 1) = upQ f n top j ++ pieceQ f n (top - 1 - j) := by
  have hl : j < (List.range top).reverse.length := by simpa using h
  unfold upQ
  rw [List.take_succ_eq_append_getElem hl, List.flatMap_append]
  congr 1
  simp
theorem allQ_zero (f most : Nat) : allQ f 0 most = [[]] := by cases f <;> simp [allQ]
theorem allQ_up (f n most : Nat) (h : n ≠ 0) : allQ (f + 1) n most = upQ f n (min n most) (min n most) := by
  have : (allQ (f + 1) n most) = (List.range (min n most)).reverse.flatMap (pieceQ f n) := by
    rw [allQ, if_neg h]; rfl
  rw [this, upQ, List.take_of_length_le (by simp)]
/-- enough fuel is enough -/
theorem allQ_fuel : ∀ (f n most : Nat), n ≤ f → allQ (f + 1) n most = allQ f n most := by
  intro f
  induction f with
  | zero =>
      intro n most h
      obtain rfl : n = 0 := (by omega)
      rw [allQ_zero, allQ_zero]
  | succ f ih =>
    intro n most h
    by_cases h0 : n = 0
    · subst h0; rw [allQ_zero, allQ_zero]
    · rw [allQ_up _ _ _ h0, allQ_up _ _ _ h0]
      have : pieceQ (f + 1) n = pieceQ f n := by
        funext i
        unfold pieceQ
        by_cases hi : n = 0
        · exact absurd hi h0
        · rw [ih (n - (i + 1)) (i + 1) (by omega)]
      unfold upQ
      rw [this]
/-- heads ahead of each -/
theorem map_piece (H : List Int) (f n i : Nat) : (pieceQ f n i).map (fun R => H ++ R) = (allQ f (n - (i + 1)) (i + 1)).map (fun R => (H ++ [((i + 1 : Nat) : Int)]) ++ R) := by
  unfold pieceQ
  rw [List.map_map]
  congr 1
  funext R
  simp
end NP
end Go.Proofs.Ythafbdpeignccaa
namespace Go.Proofs.Ythafbdpeignccaa
open Go.RowKit NP
set_option maxRecDepth 8000
set_option linter.unusedVariables false
theorem T_ints : (Try.prog.info? 22).map (fun i => (i.zero, i.size, i.bytes)) = some (some (.slice none 0 0), 1, 24) := by kernel_rfl

end Go.Proofs.Ythafbdpeignccaa
namespace Go.Proofs.Ythafbdpeignccaa
open Go.RowKit NP
set_option maxRecDepth 8000
set_option linter.unusedVariables false
set_option linter.unusedSimpArgs false
theorem OwnLL.one {w : World} {lo hi : Nat} {eo e : TypeId} {v : Value} {vs : List Value} {LL : List (List Int)} (h : OwnLL w lo hi eo e v vs LL) : ∀ u ∈ vs, u.oneCell' = true := by
  intro u hu
  obtain ⟨k, hk, rfl⟩ := List.getElem_of_mem hu
  have hl : k < LL.length := by rw [← h.len]; exact hk
  obtain ⟨a, c, e⟩ := (h.inner k _ _ (List.getElem?_eq_getElem hk) (List.getElem?_eq_getElem hl)).form
  rw [e]; rfl
theorem upQ_le (f n top j : Nat) : (upQ f n top j).length ≤ (upQ f n top top).length := by
  unfold upQ
  rw [List.take_of_length_le (i := top) (by simp)]
  have h := List.take_append_drop j (List.range top).reverse
  have h2 : (((List.range top).reverse.take j ++ (List.range top).reverse.drop j).flatMap (pieceQ f n)).length = ((List.range top).reverse.flatMap (pieceQ f n)).length := by rw [h]
  rw [List.flatMap_append, List.length_append] at h2
  omega
def cntQ : Bool := (List.range 17).all fun f => (List.range 17).all fun n => (List.range 17).all fun m => decide ((allQ f n m).length ≤ 400)
set_option maxRecDepth 100000 in
theorem cntQ_all : cntQ = true := by decide +kernel
theorem allQ_le {f n m : Nat} (hf : f ≤ 16) (hn : n ≤ 16) (hm : m ≤ 16) : (allQ f n m).length ≤ 400 := by
  have h := cntQ_all
  unfold cntQ at h
  have h1 := List.all_eq_true.1 h f (by simp; omega)
  have h2 := List.all_eq_true.1 h1 n (by simp; omega)
  have h3 := List.all_eq_true.1 h2 m (by simp; omega)
  simpa using h3
theorem up_next (H : List Int) (f n top q : Nat) (h1 : 1 ≤ q) (hq : q ≤ top) : (upQ f n top (top - q)).map (H ++ ·) ++ (allQ f (n - q) q).map ((H ++ [(q : Int)]) ++ ·) = (upQ f n top (top - (q - 1))).map (H ++ ·) := by
  rw [show top - (q - 1) = (top - q) + 1 from by omega, upQ_succ _ _ _ _ (by omega), List.map_append, show top - 1 - (top - q) = q - 1 from by omega, map_piece, show q - 1 + 1 = q from by omega]
theorem T_ints' : ∃ i, Try.prog.info? 22 = some i ∧ i.zero = some (.slice none 0 0) ∧ i.size = 1 ∧ i.bytes = 24 := info_parts T_ints

end Go.Proofs.Ythafbdpeignccaa
