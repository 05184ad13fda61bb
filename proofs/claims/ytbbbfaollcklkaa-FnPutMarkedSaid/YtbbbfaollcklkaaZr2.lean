/-
  Walks: the drawing of marked parts.
-/
import Derived.Test.YtbbbfaollcklkaaZp1
import Derived.Test.YtbbbfaollcklkaaZp2
import Derived.Test.YtbbbfaollcklkaaZp3
import Derived.Test.YtbbbfaollcklkaaZp4
import Derived.Test.YtbbbfaollcklkaaZp5
import Derived.Test.YtbbbfaollcklkaaZp6
import Derived.Test.YtbbbfaollcklkaaZp7
import Derived.Test.YtbbbfaollcklkaaZp8
import Derived.Test.YtbbbfaollcklkaaZp9
import Derived.Test.YtbbbfaollcklkaaZp10
import Derived.Test.YtbbbfaollcklkaaZp11
import Derived.Test.YtbbbfaollcklkaaZp12
import Derived.Test.YtbbbfaollcklkaaZr1
import Derived.StillTailTactics
import Derived.RegionTactic
import Derived.Deep.RegionHeld3
namespace Go.Proofs.Ytbbbfaollcklkaa
open Go.RowKit NP
set_option maxRecDepth 100000
set_option linter.unusedVariables false
set_option linter.unusedSimpArgs false
theorem Chg.blk {g lo : Nat} {w w' : World} {k : Nat} {t : TypeId} {cs : Array Value} (h : Chg g lo w w') (hb : Blk w k t cs) (hk : k < lo) (hne : k ≠ g) : Blk w' k t cs := (h.block k hk hne).trans hb
theorem Chg.own {g lo : Nat} {w w' : World} {l hi : Nat} {e : TypeId} {v : Value} {vs : List Value} (h : Chg g lo w w') (ho : Own w l hi e v vs) (hl : g < l) (hh : hi ≤ lo) : Own w' l hi e v vs :=
  ho.keep h.size fun k hk => h.block k (by have := ho.lt k hk; omega) (by have := ho.base k hk; omega)
theorem Chg.cell {g lo : Nat} {w w' : World} {p : Addr} (h : Chg g lo w w') (hp : p.block < lo) (hne : p.block ≠ g) : w'.cell? p = w.cell? p := World.cell?_of_block (w := w) (h.block p.block hp hne)
theorem Chg.mono {g lo lo' : Nat} {w w' : World} (h : Chg g lo w w') (hl : lo' ≤ lo) : Chg g lo' w w' := ⟨h.os, h.tape, h.output, h.size, fun k hk hne => h.block k (by omega) hne⟩
theorem Own.offBlk {w : World} {lo hi k : Nat} {e t : TypeId} {v : Value} {vs : List Value} {cs : Array Value} (h : Own w lo hi e v vs) (hb : Blk w k t cs) (hne : e ≠ t) : ∀ g, v.ownBlock = some g → g ≠ k := by
  intro g hg
  rcases h.row.2 with ⟨h1, h2⟩ | ⟨g2, cap, cur, rfl, hb2, hg2, _⟩
  · subst h1; simp [Value.ownBlock] at hg
  · simp [Value.ownBlock] at hg
    subst hg
    rintro rfl
    have hb' : w.heap[g2]? = some (.cells cs t (0, 0)) := hb
    rw [hb'] at hg2
    injection hg2 with hg2
    injection hg2 with _ hg2 _
    exact hne hg2.symm
theorem fin_marked {wf : World} {B lo1 hi1 lo2 hi2 : Nat} {aP aM : Option Addr} {cP cM : Nat} {L : List Int} {T : List Bool} {vs : Array Value} (hP : Own wf lo1 hi1 3 (.slice aP L.length cP) (ints L)) (hM : Own wf lo2 hi2 4 (.slice aM T.length cM) (bls T)) (h1 : B < lo1) (h2 : B < lo2) :
    Own (wf.setRow B vs) B (wf.setRow B vs).heap.size 3 (.slice aP L.length cP) (ints L) ∧ Own (wf.setRow B vs) B (wf.setRow B vs).heap.size 4 (.slice aM T.length cM) (bls T) := by
  have e1 := hP.keep (w' := wf.setRow B vs) (by simp) (fun g hg => setRow_other _ _ _ _ (by have := hP.base g hg; omega))
  have e2 := hM.keep (w' := wf.setRow B vs) (by simp) (fun g hg => setRow_other _ _ _ _ (by have := hM.base g hg; omega))
  exact ⟨(e1.lower (by omega)).more, (e2.lower (by omega)).more⟩
set_option maxHeartbeats 4000000 in
theorem someMarked_loop (g q : Nat) (bs : List Int) (w : World) (hq : q ≤ 700000) (h : Rdr w g bs q) :
    Calls Try.prog 42 #[.pointer (some ⟨g, 0, none⟩)] w fun e w' => ∃ L T a1 a2 c1 c2, e = .returned (.agg #[.slice a1 L.length c1, .slice a2 T.length c2]) ∧ (Own w' w.heap.size w'.heap.size 3 (.slice a1 L.length c1) (ints L) ∧ Own w' w.heap.size w'.heap.size 4 (.slice a2 T.length c2) (bls T)) ∧ L.length ≤ 40 ∧ T.length ≤ 17 ∧ Below g w w' := by
  obtain ⟨ib, hib, hx0, hx1, hx2⟩ := info_parts T_boolC
  have hmu := Try.underlying28
  have hi2 : (Try.prog.info? 28).map (·.size) = some 2 := T_mkL
  have hglt := h.lt
  have hr0 := Blk.new w 28 #[.slice none 0 0, .slice none 0 0]
  have h0 := h.row (World.grownBy_alloc w (.cells #[.slice none 0 0, .slice none 0 0] 28) none) (by simp)
  have HCQ : Hid (Chg g w.heap.size w (w.alloc (.cells #[.slice none 0 0, .slice none 0 0] 28))) := Lib.hid (.ofBelow ((Below.refl _ _).alloc (Nat.le_refl _) _))
  have hsz0 : (w.alloc (.cells #[.slice none 0 0, .slice none 0 0] 28)).heap.size = w.heap.size + 1 := by simp
  go_enter Try.func42, Try.ntmps42
  go_wp2_with fail
  refine (goodParts_any g q bs _ (by omega) h0).mono ?_
  rintro e w1 ⟨a1, c1, M, rfl, ho1, hsm, ⟨q1, hq1, h1⟩, hg1⟩
  have hC1 := HCQ.out.trans (Chg.of (lo := w.heap.size) hg1 (by omega))
  have hr1 := hr0.grown hg1 (fun e => by injection e with e; omega)
  have hz1 := hg1.size
  have HO1 := Lib.hid ho1
  have HSM := Lib.hid hsm
  have hM16 := hsm.1
  generalize hW0 : w.alloc (.cells #[.slice none 0 0, .slice none 0 0] 28) = W0 at *
  clear hW0 hr0 h0 hg1 ho1 hsm HCQ
  go_wp2_with fail
  have hG0 := Blk.new w1 28 #[.slice a1 M.length c1, .slice none 0 0]
  have hE0 := Own.nil (w1.alloc (.cells #[.slice a1 M.length c1, .slice none 0 0] 28)) (w1.heap.size + 1) 4
  have hB0 : Chg g w1.heap.size w1 (w1.alloc (.cells #[.slice a1 M.length c1, .slice none 0 0] 28)) := .ofBelow ((Below.refl _ _).alloc (Nat.le_refl _) _)
  have hR0 := h1.row (World.grownBy_alloc w1 (.cells #[.slice a1 M.length c1, .slice none 0 0] 28) none) (by simp)
  go_loopw [5] (fun i wr => ∃ k q' : Nat, k ≤ M.length ∧ i = .int .i64 k ∧ q' ≤ q + 40 + 2 * k ∧ Rdr wr g bs q' ∧ Chg g w1.heap.size w1 wr ∧ ∃ vM T, T.length = k ∧ Blk wr w1.heap.size 28 #[.slice a1 M.length c1, vM] ∧ Own wr (w1.heap.size + 1) wr.heap.size 4 vM (bls T)) (fun i _ => 20 - (intOf i).toNat)
  case atStart => exact ⟨0, q1, Nat.zero_le _, rfl, by omega, hR0, hB0, _, [], rfl, hG0, hE0⟩
  case round =>
    obtain ⟨k, q', hk, rfl, hq', hRw, hCw, vM, T, hTl, hG, hoM⟩ := hrel
    clear hG0 hE0 hB0 hR0
    have HCw := Lib.hid hCw
    have HG := Lib.hid hG
    have HO := Lib.hid hoM
    have HRw := Lib.hid hRw
    have HTL := Lib.hid hTl
    have hlv : (bls T).length ≤ 16 := by rw [List.length_map]; omega
    have hwg : w1.heap.size ≠ g := by omega
    by_cases hlt : k < M.length
    · have hlt' : (k : Int) < (M.length : Int) := by omega
      obtain ⟨b, c9, e9, hb0, hb1, hck, -⟩ := HO1.out.at_ (k := k) (by simpa using hlt)
      injection e9 with e9 e7 e8
      clear e7
      subst e9 e8
      simp only [List.getElem_map] at hck
      have hw1 : IntKind.i64.wrap ((k : Int) + 1) = (k : Int) + 1 := IntWalk.i64_in _ (by omega)
      have hk0 : (0 : Int) ≤ (k : Int) + 1 := by omega
      have q1 : wr.cell? ⟨b, k, none⟩ = some (.int .i64 M[k]) := by rw [hCw.cell (p := ⟨b, k, none⟩) (by show b < _; omega) (by show b ≠ _; omega)]; exact hck
      clear hCw hG hoM hRw hTl
      by_cases hend : k + 1 = M.length
      · have hbe : ((k : Int) + 1 == (M.length : Int)) = true := beq_iff_eq.2 (by omega)
        have HS1 : Hid (∀ w', Chg g w1.heap.size w1 w' → w'.cell? ⟨b, k, none⟩ = some (.int .i64 M[k])) := Lib.hid (fun w' hc => by rw [hc.cell (p := ⟨b, k, none⟩) (by show b < _; omega) (by show b ≠ _; omega)]; exact hck)
        generalize M[k] = x at *
        clear hck hend
        go_wp2_with fail
        obtain ⟨wy, hwy⟩ : ∃ wy, wy = wr.drew := ⟨_, rfl⟩
        refine wp_region_held_drew (S := fun w' => w'.cell? ⟨b, k, none⟩ = some (.int .i64 x)) (by kernel_rfl) q1 (fun hS0 => ?_)
        have HGy : Hid (Blk wy w1.heap.size 28 #[.slice (some ⟨b, 0, none⟩) M.length c1, vM]) := Lib.hid (by rw [hwy]; exact HG.out.drew)
        have HOy : Hid (Own wy (w1.heap.size + 1) wr.heap.size 4 vM (bls T)) := Lib.hid (by rw [hwy]; exact HO.out.dr (Dr.n wr 1))
        have HC1 : Hid (Chg g w1.heap.size w1 wy) := Lib.hid (by rw [hwy]; exact HCw.out.trans (.ofBelow ((Dr.n wr 1).below _)))
        have hR : Rdr wy g bs q' := by rw [hwy]; exact HRw.out.dr (Dr.n wr 1)
        have hwys : wr.heap.size ≤ wy.heap.size := by rw [hwy]; exact Nat.le_refl _
        have hww : w1.heap.size < wy.heap.size := HGy.out.lt
        have HC : Hid (Chg g wy.heap.size wy wy) := Lib.hid ⟨rfl, rfl, rfl, Nat.le_refl _, fun _ _ _ => rfl⟩
        have HS := Lib.hid (fun w' (h : Chg g wy.heap.size wy w') => HS1.out w' (HC1.out.trans (h.mono (by omega))))
        rw [← hwy] at hS0 ⊢
        clear hwy
        refine wpAnyH_take (i := 0) (v := .pointer (some ⟨w1.heap.size, 1, none⟩)) (by simp only [List.getElem?_toArray, List.getElem?_cons_succ, List.getElem?_cons_zero]; exact rfl) (by kernel_rfl) (by kernel_rfl) (by kernel_rfl) (by intro _ _ _ h; exact h) (Or.inl ⟨by kernel_rfl, by intro w hSw; go_simp⟩) (by assumption) ?_
        simp only [Act.put, List.setIfInBounds_toArray, List.set_cons_zero, List.set_cons_succ, List.toList_toArray]
        refine wpAnyH_take (i := 2) (v := .int .i64 (k : Int)) (by simp only [List.getElem?_toArray, List.getElem?_cons_succ, List.getElem?_cons_zero]; exact rfl) (by kernel_rfl) (by kernel_rfl) (by kernel_rfl) (by intro _ _ _ h; exact h) (Or.inl ⟨by kernel_rfl, by intro w hSw; go_simp⟩) (by assumption) ?_
        simp only [Act.put, List.setIfInBounds_toArray, List.set_cons_zero, List.set_cons_succ, List.toList_toArray]
        refine wpAnyH_take (i := 3) (v := .int .i64 ((k : Int) + 1)) (by simp only [List.getElem?_toArray, List.getElem?_cons_succ, List.getElem?_cons_zero]; exact rfl) (by kernel_rfl) (by kernel_rfl) (by kernel_rfl) (by intro _ _ _ h; exact h) (Or.inl ⟨by kernel_rfl, by intro w hSw; go_simp⟩) (by assumption) ?_
        simp only [Act.put, List.setIfInBounds_toArray, List.set_cons_zero, List.set_cons_succ, List.toList_toArray]
        refine wpAnyH_take (i := 4) (v := .slice (some ⟨b, 0, none⟩) M.length c1) (by simp only [List.getElem?_toArray, List.getElem?_cons_succ, List.getElem?_cons_zero]; exact rfl) (by kernel_rfl) (by kernel_rfl) (by kernel_rfl) (by intro _ _ _ h; exact h) (Or.inl ⟨by kernel_rfl, by intro w hSw; go_simp⟩) (by assumption) ?_
        simp only [Act.put, List.setIfInBounds_toArray, List.set_cons_zero, List.set_cons_succ, List.toList_toArray]
        refine wpAnyH_take (i := 5) (v := .int .i64 (M.length : Int)) (by simp only [List.getElem?_toArray, List.getElem?_cons_succ, List.getElem?_cons_zero]; exact rfl) (by kernel_rfl) (by kernel_rfl) (by kernel_rfl) (by intro _ _ _ h; exact h) (Or.inl ⟨by kernel_rfl, by intro w hSw; go_simp⟩) (by assumption) ?_
        simp only [Act.put, List.setIfInBounds_toArray, List.set_cons_zero, List.set_cons_succ, List.toList_toArray]
        refine wpAnyH_take (i := 6) (v := .bool true) (by simp only [List.getElem?_toArray, List.getElem?_cons_succ, List.getElem?_cons_zero]; exact rfl) (by kernel_rfl) (by kernel_rfl) (by kernel_rfl) (by intro _ _ _ h; exact h) (Or.inl ⟨by kernel_rfl, by intro w hSw; go_simp⟩) (by assumption) ?_
        simp only [Act.put, List.setIfInBounds_toArray, List.set_cons_zero, List.set_cons_succ, List.toList_toArray]
        refine wpAnyH_take (i := 7) (v := .bool true) (by simp only [List.getElem?_toArray, List.getElem?_cons_succ, List.getElem?_cons_zero]; exact rfl) (by kernel_rfl) (by kernel_rfl) (by kernel_rfl) (by intro _ _ _ h; exact h) (Or.inl ⟨by kernel_rfl, by intro w hSw; go_simp⟩) (by assumption) ?_
        simp only [Act.put, List.setIfInBounds_toArray, List.set_cons_zero, List.set_cons_succ, List.toList_toArray]
        refine wpAnyH_take (i := 8) (v := undef) (by simp only [List.getElem?_toArray, List.getElem?_cons_succ, List.getElem?_cons_zero]; exact rfl) (by kernel_rfl) (by kernel_rfl) (by kernel_rfl) (by intro _ _ _ h; exact h) (Or.inr ⟨by kernel_rfl, rfl⟩) (by assumption) ?_
        simp only [Act.put, List.setIfInBounds_toArray, List.set_cons_zero, List.set_cons_succ, List.toList_toArray]
        refine wpAnyH_take (i := 9) (v := undef) (by simp only [List.getElem?_toArray, List.getElem?_cons_succ, List.getElem?_cons_zero]; exact rfl) (by kernel_rfl) (by kernel_rfl) (by kernel_rfl) (by intro _ _ _ h; exact h) (Or.inr ⟨by kernel_rfl, rfl⟩) (by assumption) ?_
        simp only [Act.put, List.setIfInBounds_toArray, List.set_cons_zero, List.set_cons_succ, List.toList_toArray]
        refine wpAnyH_take (i := 10) (v := undef) (by simp only [List.getElem?_toArray, List.getElem?_cons_succ, List.getElem?_cons_zero]; exact rfl) (by kernel_rfl) (by kernel_rfl) (by kernel_rfl) (by intro _ _ _ h; exact h) (Or.inr ⟨by kernel_rfl, rfl⟩) (by assumption) ?_
        simp only [Act.put, List.setIfInBounds_toArray, List.set_cons_zero, List.set_cons_succ, List.toList_toArray]
        refine wpAnyH_take (i := 11) (v := undef) (by simp only [List.getElem?_toArray, List.getElem?_cons_succ, List.getElem?_cons_zero]; exact rfl) (by kernel_rfl) (by kernel_rfl) (by kernel_rfl) (by intro _ _ _ h; exact h) (Or.inr ⟨by kernel_rfl, rfl⟩) (by assumption) ?_
        simp only [Act.put, List.setIfInBounds_toArray, List.set_cons_zero, List.set_cons_succ, List.toList_toArray]
        refine wpAnyH_take (i := 12) (v := undef) (by simp only [List.getElem?_toArray, List.getElem?_cons_succ, List.getElem?_cons_zero]; exact rfl) (by kernel_rfl) (by kernel_rfl) (by kernel_rfl) (by intro _ _ _ h; exact h) (Or.inr ⟨by kernel_rfl, rfl⟩) (by assumption) ?_
        simp only [Act.put, List.setIfInBounds_toArray, List.set_cons_zero, List.set_cons_succ, List.toList_toArray]
        refine wpAnyH_take (i := 13) (v := undef) (by simp only [List.getElem?_toArray, List.getElem?_cons_succ, List.getElem?_cons_zero]; exact rfl) (by kernel_rfl) (by kernel_rfl) (by kernel_rfl) (by intro _ _ _ h; exact h) (Or.inr ⟨by kernel_rfl, rfl⟩) (by assumption) ?_
        simp only [Act.put, List.setIfInBounds_toArray, List.set_cons_zero, List.set_cons_succ, List.toList_toArray]
        refine wpAnyH_take (i := 14) (v := undef) (by simp only [List.getElem?_toArray, List.getElem?_cons_succ, List.getElem?_cons_zero]; exact rfl) (by kernel_rfl) (by kernel_rfl) (by kernel_rfl) (by intro _ _ _ h; exact h) (Or.inr ⟨by kernel_rfl, rfl⟩) (by assumption) ?_
        simp only [Act.put, List.setIfInBounds_toArray, List.set_cons_zero, List.set_cons_succ, List.toList_toArray]
        refine wpAnyH_take (i := 15) (v := undef) (by simp only [List.getElem?_toArray, List.getElem?_cons_succ, List.getElem?_cons_zero]; exact rfl) (by kernel_rfl) (by kernel_rfl) (by kernel_rfl) (by intro _ _ _ h; exact h) (Or.inr ⟨by kernel_rfl, rfl⟩) (by assumption) ?_
        simp only [Act.put, List.setIfInBounds_toArray, List.set_cons_zero, List.set_cons_succ, List.toList_toArray]
        refine wpAnyH_take (i := 16) (v := undef) (by simp only [List.getElem?_toArray, List.getElem?_cons_succ, List.getElem?_cons_zero]; exact rfl) (by kernel_rfl) (by kernel_rfl) (by kernel_rfl) (by intro _ _ _ h; exact h) (Or.inr ⟨by kernel_rfl, rfl⟩) (by assumption) ?_
        simp only [Act.put, List.setIfInBounds_toArray, List.set_cons_zero, List.set_cons_succ, List.toList_toArray]
        refine wpAnyH_take (i := 17) (v := undef) (by simp only [List.getElem?_toArray, List.getElem?_cons_succ, List.getElem?_cons_zero]; exact rfl) (by kernel_rfl) (by kernel_rfl) (by kernel_rfl) (by intro _ _ _ h; exact h) (Or.inr ⟨by kernel_rfl, rfl⟩) (by assumption) ?_
        simp only [Act.put, List.setIfInBounds_toArray, List.set_cons_zero, List.set_cons_succ, List.toList_toArray]
        refine wpAnyH_take (i := 18) (v := .bool true) (by simp only [List.getElem?_toArray, List.getElem?_cons_succ, List.getElem?_cons_zero]; exact rfl) (by kernel_rfl) (by kernel_rfl) (by kernel_rfl) (by intro _ _ _ h; exact h) (Or.inl ⟨by kernel_rfl, by intro w hSw; go_simp⟩) (by assumption) ?_
        simp only [Act.put, List.setIfInBounds_toArray, List.set_cons_zero, List.set_cons_succ, List.toList_toArray]
        refine wpAnyH_take (i := 19) (v := .bool true) (by simp only [List.getElem?_toArray, List.getElem?_cons_succ, List.getElem?_cons_zero]; exact rfl) (by kernel_rfl) (by kernel_rfl) (by kernel_rfl) (by intro _ _ _ h; exact h) (Or.inl ⟨by kernel_rfl, by intro w hSw; go_simp⟩) (by assumption) ?_
        simp only [Act.put, List.setIfInBounds_toArray, List.set_cons_zero, List.set_cons_succ, List.toList_toArray]
        refine wpAnyH_take (i := 20) (v := undef) (by simp only [List.getElem?_toArray, List.getElem?_cons_succ, List.getElem?_cons_zero]; exact rfl) (by kernel_rfl) (by kernel_rfl) (by kernel_rfl) (by intro _ _ _ h; exact h) (Or.inr ⟨by kernel_rfl, rfl⟩) (by assumption) ?_
        simp only [Act.put, List.setIfInBounds_toArray, List.set_cons_zero, List.set_cons_succ, List.toList_toArray]
        refine wpAnyH_take (i := 21) (v := undef) (by simp only [List.getElem?_toArray, List.getElem?_cons_succ, List.getElem?_cons_zero]; exact rfl) (by kernel_rfl) (by kernel_rfl) (by kernel_rfl) (by intro _ _ _ h; exact h) (Or.inr ⟨by kernel_rfl, rfl⟩) (by assumption) ?_
        simp only [Act.put, List.setIfInBounds_toArray, List.set_cons_zero, List.set_cons_succ, List.toList_toArray]
        refine wpAnyH_take (i := 22) (v := undef) (by simp only [List.getElem?_toArray, List.getElem?_cons_succ, List.getElem?_cons_zero]; exact rfl) (by kernel_rfl) (by kernel_rfl) (by kernel_rfl) (by intro _ _ _ h; exact h) (Or.inr ⟨by kernel_rfl, rfl⟩) (by assumption) ?_
        simp only [Act.put, List.setIfInBounds_toArray, List.set_cons_zero, List.set_cons_succ, List.toList_toArray]
        refine wpAnyH_take (i := 23) (v := .bool true) (by simp only [List.getElem?_toArray, List.getElem?_cons_succ, List.getElem?_cons_zero]; exact rfl) (by kernel_rfl) (by kernel_rfl) (by kernel_rfl) (by intro _ _ _ h; exact h) (Or.inl ⟨by kernel_rfl, by intro w hSw; go_simp⟩) (by assumption) ?_
        simp only [Act.put, List.setIfInBounds_toArray, List.set_cons_zero, List.set_cons_succ, List.toList_toArray]
        refine wpAnyH_take (i := 24) (v := .bool true) (by simp only [List.getElem?_toArray, List.getElem?_cons_succ, List.getElem?_cons_zero]; exact rfl) (by kernel_rfl) (by kernel_rfl) (by kernel_rfl) (by intro _ _ _ h; exact h) (Or.inl ⟨by kernel_rfl, by intro w hSw; go_simp⟩) (by assumption) ?_
        simp only [Act.put, List.setIfInBounds_toArray, List.set_cons_zero, List.set_cons_succ, List.toList_toArray]
        refine wpAnyH_take (i := 25) (v := .pointer (some ⟨g, 0, none⟩)) (by simp only [List.getElem?_toArray, List.getElem?_cons_succ, List.getElem?_cons_zero]; exact rfl) (by kernel_rfl) (by kernel_rfl) (by kernel_rfl) (by intro _ _ _ h; exact h) (Or.inl ⟨by kernel_rfl, by intro w hSw; go_simp⟩) (by assumption) ?_
        simp only [Act.put, List.setIfInBounds_toArray, List.set_cons_zero, List.set_cons_succ, List.toList_toArray]
        refine wpAnyH_ready (rs := [1, 26]) (by kernel_rfl) (by simp) ?_
        refine AllReadyH.cons (o := _) (by simp only [List.getElem?_toArray, List.getElem?_cons_succ, List.getElem?_cons_zero]; exact rfl) (fun K hK => ?_) ?_
        · skip
          rw [if_pos (by rfl)]
          go_simp
          have r4 : wy.cell? ⟨w1.heap.size, 1, none⟩ = some vM := (HC.out.blk HGy.out hww hwg).cell 1
          go_simp
          refine hK.out _ _ (HS.out wy HC.out) (fun hSn => ?_)
          clear hK K r4
          try simp only [Act.put, List.setIfInBounds_toArray, List.set_cons_zero, List.set_cons_succ, List.toList_toArray]
          refine wpAnyH_ready (rs := [26]) (by kernel_rfl) (by simp) ?_
          refine AllReadyH.cons (o := _) (by simp only [List.getElem?_toArray, List.getElem?_cons_succ, List.getElem?_cons_zero]; exact rfl) (fun K hK => ?_) AllReadyH.nil
          rw [if_pos (by rfl)]
          go_simp
          go_at_call 62
          refine (pick_any g _ 2 bs _ (by omega) (by omega) hR).mono ?_
          rintro e wb ⟨z1, rfl, hz10, hz11, hRn, hgn, hsn⟩
          have HCn := Lib.hid (HC.out.trans (Chg.of hgn HC.out.size))
          refine hK.out _ _ (HS.out wb HCn.out) (fun hSn => ?_)
          clear hK K hgn hsn hR HC
          try simp only [Act.put, List.setIfInBounds_toArray, List.set_cons_zero, List.set_cons_succ, List.toList_toArray]
          have hR := hRn
          have HC := HCn
          clear hRn HCn
          refine wpAnyH_take (i := 27) (v := .bool (z1 == (0 : Int))) (by simp only [List.getElem?_toArray, List.getElem?_cons_succ, List.getElem?_cons_zero]; exact rfl) (by kernel_rfl) (by kernel_rfl) (by kernel_rfl) (by intro _ _ _ h; exact h) (Or.inl ⟨by kernel_rfl, by intro w hSw; go_simp⟩) (by assumption) ?_
          simp only [Act.put, List.setIfInBounds_toArray, List.set_cons_zero, List.set_cons_succ, List.toList_toArray]
          refine wpAnyH_take (i := 28) (v := .bool (z1 == (0 : Int))) (by simp only [List.getElem?_toArray, List.getElem?_cons_succ, List.getElem?_cons_zero]; exact rfl) (by kernel_rfl) (by kernel_rfl) (by kernel_rfl) (by intro _ _ _ h; exact h) (Or.inl ⟨by kernel_rfl, by intro w hSw; go_simp⟩) (by assumption) ?_
          simp only [Act.put, List.setIfInBounds_toArray, List.set_cons_zero, List.set_cons_succ, List.toList_toArray]
          refine wpAnyH_ready (rs := [29]) (by kernel_rfl) (by simp) ?_
          refine AllReadyH.cons (o := _) (by simp only [List.getElem?_toArray, List.getElem?_cons_succ, List.getElem?_cons_zero]; exact rfl) (fun K hK => ?_) AllReadyH.nil
          rw [if_pos (by rfl)]
          go_simp
          have hWe : ∃ Wy, Wy = wb.alloc (.cells #[.bool (z1 == (0 : Int))] 4) := ⟨_, rfl⟩
          obtain ⟨Wy, hWy⟩ := hWe
          rw [← hWy]
          have HCn := Lib.hid (HC.out.trans (Chg.ofBelow (hWy ▸ (Below.refl _ _).alloc HC.out.size (.cells #[.bool (z1 == (0 : Int))] 4)) : Chg g wy.heap.size wb Wy))
          have HRN : Hid (Rd Wy (wb.heap.size + 1) (some ⟨wb.heap.size, 0, none⟩) [.bool (z1 == (0 : Int))]) := Lib.hid (by rw [hWy]; exact Rd.one wb _ _)
          have hRn : Rdr Wy g bs (q' + 1) := hWy ▸ hR.row (World.grownBy_alloc wb (.cells #[.bool (z1 == (0 : Int))] 4) none) (by simp)
          clear hWy hR
          refine hK.out _ _ (HS.out Wy HCn.out) (fun hSn => ?_)
          clear hK K HC
          try simp only [Act.put, List.setIfInBounds_toArray, List.set_cons_zero, List.set_cons_succ, List.toList_toArray]
          have hR := hRn
          have HC := HCn
          clear hRn HCn
          refine wpAnyH_ready (rs := [30]) (by kernel_rfl) (by simp) ?_
          refine AllReadyH.cons (o := _) (by simp only [List.getElem?_toArray, List.getElem?_cons_succ, List.getElem?_cons_zero]; exact rfl) (fun K hK => ?_) AllReadyH.nil
          have hoy := HC.out.own HOy.out (by omega) hwys
          refine step_append_o Wy rfl (.tmp 17) (.tmp 45) 23 rfl (w1.heap.size + 1) wr.heap.size 4 ib (.bool false) 1 Try.underlying23 hib hx0 hx1 hx2 rfl vM (bls T) rfl hoy _ _ 1 1 [.bool (z1 == (0 : Int))] rfl HRN.out rfl (by simp; rfl) (by unfold maxLen; omega) (by omega) (by have := HC.out.size; omega) (fun v' w5 ho5 hg5 hat5 => ?_)
          have hC5 : Chg g w1.heap.size w1 w5 := (HC1.out.trans (HC.out.mono (by omega))).trans (.ofBelow ((Below.refl w1.heap.size Wy).grown hg5 (by have := HC.out.size; omega) (fun g9 hg9 => by have := hoy.base g9 hg9; omega)))
          have hG5 : Blk w5 w1.heap.size 28 #[.slice (some ⟨b, 0, none⟩) M.length c1, vM] := (HC.out.blk HGy.out hww hwg).grown hg5 (fun e => by have := hoy.base _ e.symm; omega)
          have hR5 := hR.row hg5 (fun g9 hg9 => by have := hoy.base g9 hg9; omega)
          refine hK.out _ _ (HS1.out w5 hC5) (fun hSn => ?_)
          clear hK K
          try simp only [Act.put, List.setIfInBounds_toArray, List.set_cons_zero, List.set_cons_succ, List.toList_toArray]
          refine wpAnyH_take (i := 31) (v := .pointer (some ⟨w1.heap.size, 1, none⟩)) (by simp only [List.getElem?_toArray, List.getElem?_cons_succ, List.getElem?_cons_zero]; exact rfl) (by kernel_rfl) (by kernel_rfl) (by kernel_rfl) (by intro _ _ _ h; exact h) (Or.inl ⟨by kernel_rfl, by intro w hSw; go_simp⟩) (by assumption) ?_
          simp only [Act.put, List.setIfInBounds_toArray, List.set_cons_zero, List.set_cons_succ, List.toList_toArray]
          refine wpAnyH_ready (rs := [32]) (by kernel_rfl) (by simp) ?_
          refine AllReadyH.cons (o := _) (by simp only [List.getElem?_toArray, List.getElem?_cons_succ, List.getElem?_cons_zero]; exact rfl) (fun K hK => ?_) AllReadyH.nil
          have r4 : w5.cell? ⟨w1.heap.size, 1, none⟩ = some vM := hG5.cell 1
          have r5 : w5.frozen? ⟨w1.heap.size, 1, none⟩ = false := hG5.free 1
          rw [if_pos (by rfl)]
          refine oper_store_one 23 (.tmp 47) (.tmp 46) rfl ⟨w1.heap.size, 1, none⟩ rfl (w' := w5.setCell ⟨w1.heap.size, 1, none⟩ v') (by have hq := r4; have hq' := r5; obtain ⟨av, cv, rfl⟩ := ho5.form; go_simp) ?_
          obtain ⟨w6, hw6⟩ : ∃ w6, w6 = w5.setCell ⟨w1.heap.size, 1, none⟩ v' := ⟨_, rfl⟩
          rw [← hw6]
          have hb6 : Below w1.heap.size w5 w6 := by rw [hw6]; exact (Below.refl _ _).setCell (show w1.heap.size ≤ w1.heap.size from Nat.le_refl _) _
          have hC6 := hC5.trans (.ofBelow hb6)
          have hG6 : Blk w6 w1.heap.size 28 #[.slice (some ⟨b, 0, none⟩) M.length c1, v'] := by rw [hw6]; exact hG5.set 1 v'
          have hs6 : w6.heap.size = w5.heap.size := by rw [hw6]; simp [World.setCell]
          have ho6 : Own w6 (w1.heap.size + 1) w6.heap.size 4 v' (bls T ++ [.bool (z1 == (0 : Int))]) := by rw [hs6]; exact ho5.keep (by omega) (fun g9 hg9 => by rw [hw6]; exact Below.heap_setCell _ _ _ g9 (show g9 ≠ w1.heap.size by have := ho5.base g9 hg9; omega))
          have hR6 := hR5.below (hb6.mono (show g + 1 ≤ w1.heap.size by omega))
          refine hK.out _ _ (HS1.out w6 hC6) (fun hS9 => ?_)
          clear hK K
          try simp only [Act.put, List.setIfInBounds_toArray, List.set_cons_zero, List.set_cons_succ, List.toList_toArray]
          refine wpAnyH_done (by kernel_rfl) ?_ _
          try simp only [Act.put, List.setIfInBounds_toArray, List.set_cons_zero, List.set_cons_succ]
          have HO6 := Lib.hid ho6
          have HC6 := Lib.hid hC6
          have HG6 := Lib.hid hG6
          have HR6 := Lib.hid hR6
          clear ho6 hC6 hG6 hw6 hS9 hb6 hG5 r4 r5 ho5 hg5 hat5 hoy hC5 hR5 hR hR6
          go_wp2_with fail
          go_roundw
          case rel => exact ⟨k + 1, _, by omega, by go_num, (by rw [Nat.mul_add]; omega), HR6.out, HC6.out, _, T ++ [(z1 == (0 : Int))], by rw [List.length_append, HTL.out]; rfl, HG6.out, by rw [bls, List.map_append]; exact HO6.out⟩
          case measure => simp [intOf]; omega
        refine AllReadyH.cons (o := _) (by simp only [List.getElem?_toArray, List.getElem?_cons_succ, List.getElem?_cons_zero]; exact rfl) (fun K hK => ?_) AllReadyH.nil
        rw [if_pos (by rfl)]
        go_simp
        go_at_call 62
        refine (pick_any g _ 2 bs _ (by omega) (by omega) hR).mono ?_
        rintro e wb ⟨z1, rfl, hz10, hz11, hRn, hgn, hsn⟩
        have HCn := Lib.hid (HC.out.trans (Chg.of hgn HC.out.size))
        refine hK.out _ _ (HS.out wb HCn.out) (fun hSn => ?_)
        clear hK K hgn hsn hR HC
        try simp only [Act.put, List.setIfInBounds_toArray, List.set_cons_zero, List.set_cons_succ, List.toList_toArray]
        have hR := hRn
        have HC := HCn
        clear hRn HCn
        refine wpAnyH_take (i := 27) (v := .bool (z1 == (0 : Int))) (by simp only [List.getElem?_toArray, List.getElem?_cons_succ, List.getElem?_cons_zero]; exact rfl) (by kernel_rfl) (by kernel_rfl) (by kernel_rfl) (by intro _ _ _ h; exact h) (Or.inl ⟨by kernel_rfl, by intro w hSw; go_simp⟩) (by assumption) ?_
        simp only [Act.put, List.setIfInBounds_toArray, List.set_cons_zero, List.set_cons_succ, List.toList_toArray]
        refine wpAnyH_take (i := 28) (v := .bool (z1 == (0 : Int))) (by simp only [List.getElem?_toArray, List.getElem?_cons_succ, List.getElem?_cons_zero]; exact rfl) (by kernel_rfl) (by kernel_rfl) (by kernel_rfl) (by intro _ _ _ h; exact h) (Or.inl ⟨by kernel_rfl, by intro w hSw; go_simp⟩) (by assumption) ?_
        simp only [Act.put, List.setIfInBounds_toArray, List.set_cons_zero, List.set_cons_succ, List.toList_toArray]
        refine wpAnyH_ready (rs := [1, 29]) (by kernel_rfl) (by simp) ?_
        refine AllReadyH.cons (o := _) (by simp only [List.getElem?_toArray, List.getElem?_cons_succ, List.getElem?_cons_zero]; exact rfl) (fun K hK => ?_) ?_
        · skip
          rw [if_pos (by rfl)]
          go_simp
          have r4 : wb.cell? ⟨w1.heap.size, 1, none⟩ = some vM := (HC.out.blk HGy.out hww hwg).cell 1
          go_simp
          refine hK.out _ _ (HS.out wb HC.out) (fun hSn => ?_)
          clear hK K r4
          try simp only [Act.put, List.setIfInBounds_toArray, List.set_cons_zero, List.set_cons_succ, List.toList_toArray]
          refine wpAnyH_ready (rs := [29]) (by kernel_rfl) (by simp) ?_
          refine AllReadyH.cons (o := _) (by simp only [List.getElem?_toArray, List.getElem?_cons_succ, List.getElem?_cons_zero]; exact rfl) (fun K hK => ?_) AllReadyH.nil
          rw [if_pos (by rfl)]
          go_simp
          have hWe : ∃ Wy, Wy = wb.alloc (.cells #[.bool (z1 == (0 : Int))] 4) := ⟨_, rfl⟩
          obtain ⟨Wy, hWy⟩ := hWe
          rw [← hWy]
          have HCn := Lib.hid (HC.out.trans (Chg.ofBelow (hWy ▸ (Below.refl _ _).alloc HC.out.size (.cells #[.bool (z1 == (0 : Int))] 4)) : Chg g wy.heap.size wb Wy))
          have HRN : Hid (Rd Wy (wb.heap.size + 1) (some ⟨wb.heap.size, 0, none⟩) [.bool (z1 == (0 : Int))]) := Lib.hid (by rw [hWy]; exact Rd.one wb _ _)
          have hRn : Rdr Wy g bs (q' + 1) := hWy ▸ hR.row (World.grownBy_alloc wb (.cells #[.bool (z1 == (0 : Int))] 4) none) (by simp)
          clear hWy hR
          refine hK.out _ _ (HS.out Wy HCn.out) (fun hSn => ?_)
          clear hK K HC
          try simp only [Act.put, List.setIfInBounds_toArray, List.set_cons_zero, List.set_cons_succ, List.toList_toArray]
          have hR := hRn
          have HC := HCn
          clear hRn HCn
          refine wpAnyH_ready (rs := [30]) (by kernel_rfl) (by simp) ?_
          refine AllReadyH.cons (o := _) (by simp only [List.getElem?_toArray, List.getElem?_cons_succ, List.getElem?_cons_zero]; exact rfl) (fun K hK => ?_) AllReadyH.nil
          have hoy := HC.out.own HOy.out (by omega) hwys
          refine step_append_o Wy rfl (.tmp 17) (.tmp 45) 23 rfl (w1.heap.size + 1) wr.heap.size 4 ib (.bool false) 1 Try.underlying23 hib hx0 hx1 hx2 rfl vM (bls T) rfl hoy _ _ 1 1 [.bool (z1 == (0 : Int))] rfl HRN.out rfl (by simp; rfl) (by unfold maxLen; omega) (by omega) (by have := HC.out.size; omega) (fun v' w5 ho5 hg5 hat5 => ?_)
          have hC5 : Chg g w1.heap.size w1 w5 := (HC1.out.trans (HC.out.mono (by omega))).trans (.ofBelow ((Below.refl w1.heap.size Wy).grown hg5 (by have := HC.out.size; omega) (fun g9 hg9 => by have := hoy.base g9 hg9; omega)))
          have hG5 : Blk w5 w1.heap.size 28 #[.slice (some ⟨b, 0, none⟩) M.length c1, vM] := (HC.out.blk HGy.out hww hwg).grown hg5 (fun e => by have := hoy.base _ e.symm; omega)
          have hR5 := hR.row hg5 (fun g9 hg9 => by have := hoy.base g9 hg9; omega)
          refine hK.out _ _ (HS1.out w5 hC5) (fun hSn => ?_)
          clear hK K
          try simp only [Act.put, List.setIfInBounds_toArray, List.set_cons_zero, List.set_cons_succ, List.toList_toArray]
          refine wpAnyH_take (i := 31) (v := .pointer (some ⟨w1.heap.size, 1, none⟩)) (by simp only [List.getElem?_toArray, List.getElem?_cons_succ, List.getElem?_cons_zero]; exact rfl) (by kernel_rfl) (by kernel_rfl) (by kernel_rfl) (by intro _ _ _ h; exact h) (Or.inl ⟨by kernel_rfl, by intro w hSw; go_simp⟩) (by assumption) ?_
          simp only [Act.put, List.setIfInBounds_toArray, List.set_cons_zero, List.set_cons_succ, List.toList_toArray]
          refine wpAnyH_ready (rs := [32]) (by kernel_rfl) (by simp) ?_
          refine AllReadyH.cons (o := _) (by simp only [List.getElem?_toArray, List.getElem?_cons_succ, List.getElem?_cons_zero]; exact rfl) (fun K hK => ?_) AllReadyH.nil
          have r4 : w5.cell? ⟨w1.heap.size, 1, none⟩ = some vM := hG5.cell 1
          have r5 : w5.frozen? ⟨w1.heap.size, 1, none⟩ = false := hG5.free 1
          rw [if_pos (by rfl)]
          refine oper_store_one 23 (.tmp 47) (.tmp 46) rfl ⟨w1.heap.size, 1, none⟩ rfl (w' := w5.setCell ⟨w1.heap.size, 1, none⟩ v') (by have hq := r4; have hq' := r5; obtain ⟨av, cv, rfl⟩ := ho5.form; go_simp) ?_
          obtain ⟨w6, hw6⟩ : ∃ w6, w6 = w5.setCell ⟨w1.heap.size, 1, none⟩ v' := ⟨_, rfl⟩
          rw [← hw6]
          have hb6 : Below w1.heap.size w5 w6 := by rw [hw6]; exact (Below.refl _ _).setCell (show w1.heap.size ≤ w1.heap.size from Nat.le_refl _) _
          have hC6 := hC5.trans (.ofBelow hb6)
          have hG6 : Blk w6 w1.heap.size 28 #[.slice (some ⟨b, 0, none⟩) M.length c1, v'] := by rw [hw6]; exact hG5.set 1 v'
          have hs6 : w6.heap.size = w5.heap.size := by rw [hw6]; simp [World.setCell]
          have ho6 : Own w6 (w1.heap.size + 1) w6.heap.size 4 v' (bls T ++ [.bool (z1 == (0 : Int))]) := by rw [hs6]; exact ho5.keep (by omega) (fun g9 hg9 => by rw [hw6]; exact Below.heap_setCell _ _ _ g9 (show g9 ≠ w1.heap.size by have := ho5.base g9 hg9; omega))
          have hR6 := hR5.below (hb6.mono (show g + 1 ≤ w1.heap.size by omega))
          refine hK.out _ _ (HS1.out w6 hC6) (fun hS9 => ?_)
          clear hK K
          try simp only [Act.put, List.setIfInBounds_toArray, List.set_cons_zero, List.set_cons_succ, List.toList_toArray]
          refine wpAnyH_done (by kernel_rfl) ?_ _
          try simp only [Act.put, List.setIfInBounds_toArray, List.set_cons_zero, List.set_cons_succ]
          have HO6 := Lib.hid ho6
          have HC6 := Lib.hid hC6
          have HG6 := Lib.hid hG6
          have HR6 := Lib.hid hR6
          clear ho6 hC6 hG6 hw6 hS9 hb6 hG5 r4 r5 ho5 hg5 hat5 hoy hC5 hR5 hR hR6
          go_wp2_with fail
          go_roundw
          case rel => exact ⟨k + 1, _, by omega, by go_num, (by rw [Nat.mul_add]; omega), HR6.out, HC6.out, _, T ++ [(z1 == (0 : Int))], by rw [List.length_append, HTL.out]; rfl, HG6.out, by rw [bls, List.map_append]; exact HO6.out⟩
          case measure => simp [intOf]; omega
        refine AllReadyH.cons (o := _) (by simp only [List.getElem?_toArray, List.getElem?_cons_succ, List.getElem?_cons_zero]; exact rfl) (fun K hK => ?_) AllReadyH.nil
        rw [if_pos (by rfl)]
        go_simp
        have hWe : ∃ Wy, Wy = wb.alloc (.cells #[.bool (z1 == (0 : Int))] 4) := ⟨_, rfl⟩
        obtain ⟨Wy, hWy⟩ := hWe
        rw [← hWy]
        have HCn := Lib.hid (HC.out.trans (Chg.ofBelow (hWy ▸ (Below.refl _ _).alloc HC.out.size (.cells #[.bool (z1 == (0 : Int))] 4)) : Chg g wy.heap.size wb Wy))
        have HRN : Hid (Rd Wy (wb.heap.size + 1) (some ⟨wb.heap.size, 0, none⟩) [.bool (z1 == (0 : Int))]) := Lib.hid (by rw [hWy]; exact Rd.one wb _ _)
        have hRn : Rdr Wy g bs (q' + 1) := hWy ▸ hR.row (World.grownBy_alloc wb (.cells #[.bool (z1 == (0 : Int))] 4) none) (by simp)
        clear hWy hR
        refine hK.out _ _ (HS.out Wy HCn.out) (fun hSn => ?_)
        clear hK K HC
        try simp only [Act.put, List.setIfInBounds_toArray, List.set_cons_zero, List.set_cons_succ, List.toList_toArray]
        have hR := hRn
        have HC := HCn
        clear hRn HCn
        refine wpAnyH_ready (rs := [1]) (by kernel_rfl) (by simp) ?_
        refine AllReadyH.cons (o := _) (by simp only [List.getElem?_toArray, List.getElem?_cons_succ, List.getElem?_cons_zero]; exact rfl) (fun K hK => ?_) AllReadyH.nil
        rw [if_pos (by rfl)]
        go_simp
        have r4 : Wy.cell? ⟨w1.heap.size, 1, none⟩ = some vM := (HC.out.blk HGy.out hww hwg).cell 1
        go_simp
        refine hK.out _ _ (HS.out Wy HC.out) (fun hSn => ?_)
        clear hK K r4
        try simp only [Act.put, List.setIfInBounds_toArray, List.set_cons_zero, List.set_cons_succ, List.toList_toArray]
        refine wpAnyH_ready (rs := [30]) (by kernel_rfl) (by simp) ?_
        refine AllReadyH.cons (o := _) (by simp only [List.getElem?_toArray, List.getElem?_cons_succ, List.getElem?_cons_zero]; exact rfl) (fun K hK => ?_) AllReadyH.nil
        have hoy := HC.out.own HOy.out (by omega) hwys
        refine step_append_o Wy rfl (.tmp 17) (.tmp 45) 23 rfl (w1.heap.size + 1) wr.heap.size 4 ib (.bool false) 1 Try.underlying23 hib hx0 hx1 hx2 rfl vM (bls T) rfl hoy _ _ 1 1 [.bool (z1 == (0 : Int))] rfl HRN.out rfl (by simp; rfl) (by unfold maxLen; omega) (by omega) (by have := HC.out.size; omega) (fun v' w5 ho5 hg5 hat5 => ?_)
        have hC5 : Chg g w1.heap.size w1 w5 := (HC1.out.trans (HC.out.mono (by omega))).trans (.ofBelow ((Below.refl w1.heap.size Wy).grown hg5 (by have := HC.out.size; omega) (fun g9 hg9 => by have := hoy.base g9 hg9; omega)))
        have hG5 : Blk w5 w1.heap.size 28 #[.slice (some ⟨b, 0, none⟩) M.length c1, vM] := (HC.out.blk HGy.out hww hwg).grown hg5 (fun e => by have := hoy.base _ e.symm; omega)
        have hR5 := hR.row hg5 (fun g9 hg9 => by have := hoy.base g9 hg9; omega)
        refine hK.out _ _ (HS1.out w5 hC5) (fun hSn => ?_)
        clear hK K
        try simp only [Act.put, List.setIfInBounds_toArray, List.set_cons_zero, List.set_cons_succ, List.toList_toArray]
        refine wpAnyH_take (i := 31) (v := .pointer (some ⟨w1.heap.size, 1, none⟩)) (by simp only [List.getElem?_toArray, List.getElem?_cons_succ, List.getElem?_cons_zero]; exact rfl) (by kernel_rfl) (by kernel_rfl) (by kernel_rfl) (by intro _ _ _ h; exact h) (Or.inl ⟨by kernel_rfl, by intro w hSw; go_simp⟩) (by assumption) ?_
        simp only [Act.put, List.setIfInBounds_toArray, List.set_cons_zero, List.set_cons_succ, List.toList_toArray]
        refine wpAnyH_ready (rs := [32]) (by kernel_rfl) (by simp) ?_
        refine AllReadyH.cons (o := _) (by simp only [List.getElem?_toArray, List.getElem?_cons_succ, List.getElem?_cons_zero]; exact rfl) (fun K hK => ?_) AllReadyH.nil
        have r4 : w5.cell? ⟨w1.heap.size, 1, none⟩ = some vM := hG5.cell 1
        have r5 : w5.frozen? ⟨w1.heap.size, 1, none⟩ = false := hG5.free 1
        rw [if_pos (by rfl)]
        refine oper_store_one 23 (.tmp 47) (.tmp 46) rfl ⟨w1.heap.size, 1, none⟩ rfl (w' := w5.setCell ⟨w1.heap.size, 1, none⟩ v') (by have hq := r4; have hq' := r5; obtain ⟨av, cv, rfl⟩ := ho5.form; go_simp) ?_
        obtain ⟨w6, hw6⟩ : ∃ w6, w6 = w5.setCell ⟨w1.heap.size, 1, none⟩ v' := ⟨_, rfl⟩
        rw [← hw6]
        have hb6 : Below w1.heap.size w5 w6 := by rw [hw6]; exact (Below.refl _ _).setCell (show w1.heap.size ≤ w1.heap.size from Nat.le_refl _) _
        have hC6 := hC5.trans (.ofBelow hb6)
        have hG6 : Blk w6 w1.heap.size 28 #[.slice (some ⟨b, 0, none⟩) M.length c1, v'] := by rw [hw6]; exact hG5.set 1 v'
        have hs6 : w6.heap.size = w5.heap.size := by rw [hw6]; simp [World.setCell]
        have ho6 : Own w6 (w1.heap.size + 1) w6.heap.size 4 v' (bls T ++ [.bool (z1 == (0 : Int))]) := by rw [hs6]; exact ho5.keep (by omega) (fun g9 hg9 => by rw [hw6]; exact Below.heap_setCell _ _ _ g9 (show g9 ≠ w1.heap.size by have := ho5.base g9 hg9; omega))
        have hR6 := hR5.below (hb6.mono (show g + 1 ≤ w1.heap.size by omega))
        refine hK.out _ _ (HS1.out w6 hC6) (fun hS9 => ?_)
        clear hK K
        try simp only [Act.put, List.setIfInBounds_toArray, List.set_cons_zero, List.set_cons_succ, List.toList_toArray]
        refine wpAnyH_done (by kernel_rfl) ?_ _
        try simp only [Act.put, List.setIfInBounds_toArray, List.set_cons_zero, List.set_cons_succ]
        have HO6 := Lib.hid ho6
        have HC6 := Lib.hid hC6
        have HG6 := Lib.hid hG6
        have HR6 := Lib.hid hR6
        clear ho6 hC6 hG6 hw6 hS9 hb6 hG5 r4 r5 ho5 hg5 hat5 hoy hC5 hR5 hR hR6
        go_wp2_with fail
        go_roundw
        case rel => exact ⟨k + 1, _, by omega, by go_num, (by rw [Nat.mul_add]; omega), HR6.out, HC6.out, _, T ++ [(z1 == (0 : Int))], by rw [List.length_append, HTL.out]; rfl, HG6.out, by rw [bls, List.map_append]; exact HO6.out⟩
        case measure => simp [intOf]; omega
      · have hne : ((k : Int) + 1 == (M.length : Int)) = false := beq_eq_false_iff_ne.2 (by omega)
        have hlt2 : k + 1 < M.length := by omega
        have hlt2' : (k : Int) + 1 < (M.length : Int) := by omega
        obtain ⟨b9, c9, e9, _, _, hcn, -⟩ := HO1.out.at_ (k := k + 1) (by simpa using hlt2)
        injection e9 with e9 e7 e8
        clear e7 e8
        injection e9 with e9
        injection e9 with e9
        subst e9
        simp only [List.getElem_map] at hcn
        have q2 : wr.cell? ⟨b, k + 1, none⟩ = some (.int .i64 M[k + 1]) := by rw [HCw.out.cell (p := ⟨b, k + 1, none⟩) (by show b < _; omega) (by show b ≠ _; omega)]; exact hcn
        have HS1 : Hid (∀ w', Chg g w1.heap.size w1 w' → w'.cell? ⟨b, k, none⟩ = some (.int .i64 M[k]) ∧ w'.cell? ⟨b, k + 1, none⟩ = some (.int .i64 M[k + 1])) := Lib.hid (fun w' hc => ⟨by rw [hc.cell (p := ⟨b, k, none⟩) (by show b < _; omega) (by show b ≠ _; omega)]; exact hck, by rw [hc.cell (p := ⟨b, k + 1, none⟩) (by show b < _; omega) (by show b ≠ _; omega)]; exact hcn⟩)
        generalize M[k] = x at *
        generalize M[k + 1] = y at *
        clear hck hcn hend
        by_cases hy : y < x
        · go_wp2_with fail
          obtain ⟨wy, hwy⟩ : ∃ wy, wy = wr.drew := ⟨_, rfl⟩
          refine wp_region_held_drew (S := fun w' => w'.cell? ⟨b, k, none⟩ = some (.int .i64 x) ∧ w'.cell? ⟨b, k + 1, none⟩ = some (.int .i64 y)) (by kernel_rfl) ⟨q1, q2⟩ (fun hS0 => ?_)
          have HGy : Hid (Blk wy w1.heap.size 28 #[.slice (some ⟨b, 0, none⟩) M.length c1, vM]) := Lib.hid (by rw [hwy]; exact HG.out.drew)
          have HOy : Hid (Own wy (w1.heap.size + 1) wr.heap.size 4 vM (bls T)) := Lib.hid (by rw [hwy]; exact HO.out.dr (Dr.n wr 1))
          have HC1 : Hid (Chg g w1.heap.size w1 wy) := Lib.hid (by rw [hwy]; exact HCw.out.trans (.ofBelow ((Dr.n wr 1).below _)))
          have hR : Rdr wy g bs q' := by rw [hwy]; exact HRw.out.dr (Dr.n wr 1)
          have hwys : wr.heap.size ≤ wy.heap.size := by rw [hwy]; exact Nat.le_refl _
          have hww : w1.heap.size < wy.heap.size := HGy.out.lt
          have HC : Hid (Chg g wy.heap.size wy wy) := Lib.hid ⟨rfl, rfl, rfl, Nat.le_refl _, fun _ _ _ => rfl⟩
          have HS := Lib.hid (fun w' (h : Chg g wy.heap.size wy w') => HS1.out w' (HC1.out.trans (h.mono (by omega))))
          rw [← hwy] at hS0 ⊢
          clear hwy
          refine wpAnyH_take (i := 0) (v := .pointer (some ⟨w1.heap.size, 1, none⟩)) (by simp only [List.getElem?_toArray, List.getElem?_cons_succ, List.getElem?_cons_zero]; exact rfl) (by kernel_rfl) (by kernel_rfl) (by kernel_rfl) (by intro _ _ _ h; exact h) (Or.inl ⟨by kernel_rfl, by intro w hSw; go_simp⟩) (by assumption) ?_
          simp only [Act.put, List.setIfInBounds_toArray, List.set_cons_zero, List.set_cons_succ, List.toList_toArray]
          refine wpAnyH_take (i := 2) (v := .int .i64 (k : Int)) (by simp only [List.getElem?_toArray, List.getElem?_cons_succ, List.getElem?_cons_zero]; exact rfl) (by kernel_rfl) (by kernel_rfl) (by kernel_rfl) (by intro _ _ _ h; exact h) (Or.inl ⟨by kernel_rfl, by intro w hSw; go_simp⟩) (by assumption) ?_
          simp only [Act.put, List.setIfInBounds_toArray, List.set_cons_zero, List.set_cons_succ, List.toList_toArray]
          refine wpAnyH_take (i := 3) (v := .int .i64 ((k : Int) + 1)) (by simp only [List.getElem?_toArray, List.getElem?_cons_succ, List.getElem?_cons_zero]; exact rfl) (by kernel_rfl) (by kernel_rfl) (by kernel_rfl) (by intro _ _ _ h; exact h) (Or.inl ⟨by kernel_rfl, by intro w hSw; go_simp⟩) (by assumption) ?_
          simp only [Act.put, List.setIfInBounds_toArray, List.set_cons_zero, List.set_cons_succ, List.toList_toArray]
          refine wpAnyH_take (i := 4) (v := .slice (some ⟨b, 0, none⟩) M.length c1) (by simp only [List.getElem?_toArray, List.getElem?_cons_succ, List.getElem?_cons_zero]; exact rfl) (by kernel_rfl) (by kernel_rfl) (by kernel_rfl) (by intro _ _ _ h; exact h) (Or.inl ⟨by kernel_rfl, by intro w hSw; go_simp⟩) (by assumption) ?_
          simp only [Act.put, List.setIfInBounds_toArray, List.set_cons_zero, List.set_cons_succ, List.toList_toArray]
          refine wpAnyH_take (i := 5) (v := .int .i64 (M.length : Int)) (by simp only [List.getElem?_toArray, List.getElem?_cons_succ, List.getElem?_cons_zero]; exact rfl) (by kernel_rfl) (by kernel_rfl) (by kernel_rfl) (by intro _ _ _ h; exact h) (Or.inl ⟨by kernel_rfl, by intro w hSw; go_simp⟩) (by assumption) ?_
          simp only [Act.put, List.setIfInBounds_toArray, List.set_cons_zero, List.set_cons_succ, List.toList_toArray]
          refine wpAnyH_take (i := 6) (v := .bool false) (by simp only [List.getElem?_toArray, List.getElem?_cons_succ, List.getElem?_cons_zero]; exact rfl) (by kernel_rfl) (by kernel_rfl) (by kernel_rfl) (by intro _ _ _ h; exact h) (Or.inl ⟨by kernel_rfl, by intro w hSw; go_simp⟩) (by assumption) ?_
          simp only [Act.put, List.setIfInBounds_toArray, List.set_cons_zero, List.set_cons_succ, List.toList_toArray]
          refine wpAnyH_take (i := 7) (v := .bool false) (by simp only [List.getElem?_toArray, List.getElem?_cons_succ, List.getElem?_cons_zero]; exact rfl) (by kernel_rfl) (by kernel_rfl) (by kernel_rfl) (by intro _ _ _ h; exact h) (Or.inl ⟨by kernel_rfl, by intro w hSw; go_simp⟩) (by assumption) ?_
          simp only [Act.put, List.setIfInBounds_toArray, List.set_cons_zero, List.set_cons_succ, List.toList_toArray]
          refine wpAnyH_take (i := 8) (v := .slice (some ⟨b, 0, none⟩) M.length c1) (by simp only [List.getElem?_toArray, List.getElem?_cons_succ, List.getElem?_cons_zero]; exact rfl) (by kernel_rfl) (by kernel_rfl) (by kernel_rfl) (by intro _ _ _ h; exact h) (Or.inl ⟨by kernel_rfl, by intro w hSw; go_simp⟩) (by assumption) ?_
          simp only [Act.put, List.setIfInBounds_toArray, List.set_cons_zero, List.set_cons_succ, List.toList_toArray]
          refine wpAnyH_take (i := 9) (v := .int .i64 (k : Int)) (by simp only [List.getElem?_toArray, List.getElem?_cons_succ, List.getElem?_cons_zero]; exact rfl) (by kernel_rfl) (by kernel_rfl) (by kernel_rfl) (by intro _ _ _ h; exact h) (Or.inl ⟨by kernel_rfl, by intro w hSw; go_simp⟩) (by assumption) ?_
          simp only [Act.put, List.setIfInBounds_toArray, List.set_cons_zero, List.set_cons_succ, List.toList_toArray]
          refine wpAnyH_take (i := 10) (v := .pointer (some ⟨b, k, none⟩)) (by simp only [List.getElem?_toArray, List.getElem?_cons_succ, List.getElem?_cons_zero]; exact rfl) (by kernel_rfl) (by kernel_rfl) (by kernel_rfl) (by intro _ _ _ h; exact h) (Or.inl ⟨by kernel_rfl, by intro w hSw; go_simp⟩) (by assumption) ?_
          simp only [Act.put, List.setIfInBounds_toArray, List.set_cons_zero, List.set_cons_succ, List.toList_toArray]
          refine wpAnyH_take (i := 11) (v := .int .i64 x) (by simp only [List.getElem?_toArray, List.getElem?_cons_succ, List.getElem?_cons_zero]; exact rfl) (by kernel_rfl) (by kernel_rfl) (by kernel_rfl) (by intro _ _ _ h; exact h) (Or.inl ⟨by kernel_rfl, by intro w hSw; obtain ⟨s1, s2⟩ := hSw; go_simp⟩) (by assumption) ?_
          simp only [Act.put, List.setIfInBounds_toArray, List.set_cons_zero, List.set_cons_succ, List.toList_toArray]
          refine wpAnyH_take (i := 12) (v := .slice (some ⟨b, 0, none⟩) M.length c1) (by simp only [List.getElem?_toArray, List.getElem?_cons_succ, List.getElem?_cons_zero]; exact rfl) (by kernel_rfl) (by kernel_rfl) (by kernel_rfl) (by intro _ _ _ h; exact h) (Or.inl ⟨by kernel_rfl, by intro w hSw; go_simp⟩) (by assumption) ?_
          simp only [Act.put, List.setIfInBounds_toArray, List.set_cons_zero, List.set_cons_succ, List.toList_toArray]
          refine wpAnyH_take (i := 13) (v := .int .i64 (k : Int)) (by simp only [List.getElem?_toArray, List.getElem?_cons_succ, List.getElem?_cons_zero]; exact rfl) (by kernel_rfl) (by kernel_rfl) (by kernel_rfl) (by intro _ _ _ h; exact h) (Or.inl ⟨by kernel_rfl, by intro w hSw; go_simp⟩) (by assumption) ?_
          simp only [Act.put, List.setIfInBounds_toArray, List.set_cons_zero, List.set_cons_succ, List.toList_toArray]
          refine wpAnyH_take (i := 14) (v := .int .i64 ((k : Int) + 1)) (by simp only [List.getElem?_toArray, List.getElem?_cons_succ, List.getElem?_cons_zero]; exact rfl) (by kernel_rfl) (by kernel_rfl) (by kernel_rfl) (by intro _ _ _ h; exact h) (Or.inl ⟨by kernel_rfl, by intro w hSw; go_simp⟩) (by assumption) ?_
          simp only [Act.put, List.setIfInBounds_toArray, List.set_cons_zero, List.set_cons_succ, List.toList_toArray]
          refine wpAnyH_take (i := 15) (v := .pointer (some ⟨b, k + 1, none⟩)) (by simp only [List.getElem?_toArray, List.getElem?_cons_succ, List.getElem?_cons_zero]; exact rfl) (by kernel_rfl) (by kernel_rfl) (by kernel_rfl) (by intro _ _ _ h; exact h) (Or.inl ⟨by kernel_rfl, by intro w hSw; go_simp⟩) (by assumption) ?_
          simp only [Act.put, List.setIfInBounds_toArray, List.set_cons_zero, List.set_cons_succ, List.toList_toArray]
          refine wpAnyH_take (i := 16) (v := .int .i64 y) (by simp only [List.getElem?_toArray, List.getElem?_cons_succ, List.getElem?_cons_zero]; exact rfl) (by kernel_rfl) (by kernel_rfl) (by kernel_rfl) (by intro _ _ _ h; exact h) (Or.inl ⟨by kernel_rfl, by intro w hSw; obtain ⟨s1, s2⟩ := hSw; go_simp⟩) (by assumption) ?_
          simp only [Act.put, List.setIfInBounds_toArray, List.set_cons_zero, List.set_cons_succ, List.toList_toArray]
          refine wpAnyH_take (i := 17) (v := .bool true) (by simp only [List.getElem?_toArray, List.getElem?_cons_succ, List.getElem?_cons_zero]; exact rfl) (by kernel_rfl) (by kernel_rfl) (by kernel_rfl) (by intro _ _ _ h; exact h) (Or.inl ⟨by kernel_rfl, by intro w hSw; go_simp⟩) (by assumption) ?_
          simp only [Act.put, List.setIfInBounds_toArray, List.set_cons_zero, List.set_cons_succ, List.toList_toArray]
          refine wpAnyH_take (i := 18) (v := .bool true) (by simp only [List.getElem?_toArray, List.getElem?_cons_succ, List.getElem?_cons_zero]; exact rfl) (by kernel_rfl) (by kernel_rfl) (by kernel_rfl) (by intro _ _ _ h; exact h) (Or.inl ⟨by kernel_rfl, by intro w hSw; go_simp⟩) (by assumption) ?_
          simp only [Act.put, List.setIfInBounds_toArray, List.set_cons_zero, List.set_cons_succ, List.toList_toArray]
          refine wpAnyH_take (i := 19) (v := .bool true) (by simp only [List.getElem?_toArray, List.getElem?_cons_succ, List.getElem?_cons_zero]; exact rfl) (by kernel_rfl) (by kernel_rfl) (by kernel_rfl) (by intro _ _ _ h; exact h) (Or.inl ⟨by kernel_rfl, by intro w hSw; go_simp⟩) (by assumption) ?_
          simp only [Act.put, List.setIfInBounds_toArray, List.set_cons_zero, List.set_cons_succ, List.toList_toArray]
          refine wpAnyH_take (i := 20) (v := undef) (by simp only [List.getElem?_toArray, List.getElem?_cons_succ, List.getElem?_cons_zero]; exact rfl) (by kernel_rfl) (by kernel_rfl) (by kernel_rfl) (by intro _ _ _ h; exact h) (Or.inr ⟨by kernel_rfl, rfl⟩) (by assumption) ?_
          simp only [Act.put, List.setIfInBounds_toArray, List.set_cons_zero, List.set_cons_succ, List.toList_toArray]
          refine wpAnyH_take (i := 21) (v := undef) (by simp only [List.getElem?_toArray, List.getElem?_cons_succ, List.getElem?_cons_zero]; exact rfl) (by kernel_rfl) (by kernel_rfl) (by kernel_rfl) (by intro _ _ _ h; exact h) (Or.inr ⟨by kernel_rfl, rfl⟩) (by assumption) ?_
          simp only [Act.put, List.setIfInBounds_toArray, List.set_cons_zero, List.set_cons_succ, List.toList_toArray]
          refine wpAnyH_take (i := 22) (v := undef) (by simp only [List.getElem?_toArray, List.getElem?_cons_succ, List.getElem?_cons_zero]; exact rfl) (by kernel_rfl) (by kernel_rfl) (by kernel_rfl) (by intro _ _ _ h; exact h) (Or.inr ⟨by kernel_rfl, rfl⟩) (by assumption) ?_
          simp only [Act.put, List.setIfInBounds_toArray, List.set_cons_zero, List.set_cons_succ, List.toList_toArray]
          refine wpAnyH_take (i := 23) (v := .bool true) (by simp only [List.getElem?_toArray, List.getElem?_cons_succ, List.getElem?_cons_zero]; exact rfl) (by kernel_rfl) (by kernel_rfl) (by kernel_rfl) (by intro _ _ _ h; exact h) (Or.inl ⟨by kernel_rfl, by intro w hSw; go_simp⟩) (by assumption) ?_
          simp only [Act.put, List.setIfInBounds_toArray, List.set_cons_zero, List.set_cons_succ, List.toList_toArray]
          refine wpAnyH_take (i := 24) (v := .bool true) (by simp only [List.getElem?_toArray, List.getElem?_cons_succ, List.getElem?_cons_zero]; exact rfl) (by kernel_rfl) (by kernel_rfl) (by kernel_rfl) (by intro _ _ _ h; exact h) (Or.inl ⟨by kernel_rfl, by intro w hSw; go_simp⟩) (by assumption) ?_
          simp only [Act.put, List.setIfInBounds_toArray, List.set_cons_zero, List.set_cons_succ, List.toList_toArray]
          refine wpAnyH_take (i := 25) (v := .pointer (some ⟨g, 0, none⟩)) (by simp only [List.getElem?_toArray, List.getElem?_cons_succ, List.getElem?_cons_zero]; exact rfl) (by kernel_rfl) (by kernel_rfl) (by kernel_rfl) (by intro _ _ _ h; exact h) (Or.inl ⟨by kernel_rfl, by intro w hSw; go_simp⟩) (by assumption) ?_
          simp only [Act.put, List.setIfInBounds_toArray, List.set_cons_zero, List.set_cons_succ, List.toList_toArray]
          refine wpAnyH_ready (rs := [1, 26]) (by kernel_rfl) (by simp) ?_
          refine AllReadyH.cons (o := _) (by simp only [List.getElem?_toArray, List.getElem?_cons_succ, List.getElem?_cons_zero]; exact rfl) (fun K hK => ?_) ?_
          · skip
            rw [if_pos (by rfl)]
            go_simp
            have r4 : wy.cell? ⟨w1.heap.size, 1, none⟩ = some vM := (HC.out.blk HGy.out hww hwg).cell 1
            go_simp
            refine hK.out _ _ (HS.out wy HC.out) (fun hSn => ?_)
            clear hK K r4
            try simp only [Act.put, List.setIfInBounds_toArray, List.set_cons_zero, List.set_cons_succ, List.toList_toArray]
            refine wpAnyH_ready (rs := [26]) (by kernel_rfl) (by simp) ?_
            refine AllReadyH.cons (o := _) (by simp only [List.getElem?_toArray, List.getElem?_cons_succ, List.getElem?_cons_zero]; exact rfl) (fun K hK => ?_) AllReadyH.nil
            rw [if_pos (by rfl)]
            go_simp
            go_at_call 62
            refine (pick_any g _ 2 bs _ (by omega) (by omega) hR).mono ?_
            rintro e wb ⟨z1, rfl, hz10, hz11, hRn, hgn, hsn⟩
            have HCn := Lib.hid (HC.out.trans (Chg.of hgn HC.out.size))
            refine hK.out _ _ (HS.out wb HCn.out) (fun hSn => ?_)
            clear hK K hgn hsn hR HC
            try simp only [Act.put, List.setIfInBounds_toArray, List.set_cons_zero, List.set_cons_succ, List.toList_toArray]
            have hR := hRn
            have HC := HCn
            clear hRn HCn
            refine wpAnyH_take (i := 27) (v := .bool (z1 == (0 : Int))) (by simp only [List.getElem?_toArray, List.getElem?_cons_succ, List.getElem?_cons_zero]; exact rfl) (by kernel_rfl) (by kernel_rfl) (by kernel_rfl) (by intro _ _ _ h; exact h) (Or.inl ⟨by kernel_rfl, by intro w hSw; go_simp⟩) (by assumption) ?_
            simp only [Act.put, List.setIfInBounds_toArray, List.set_cons_zero, List.set_cons_succ, List.toList_toArray]
            refine wpAnyH_take (i := 28) (v := .bool (z1 == (0 : Int))) (by simp only [List.getElem?_toArray, List.getElem?_cons_succ, List.getElem?_cons_zero]; exact rfl) (by kernel_rfl) (by kernel_rfl) (by kernel_rfl) (by intro _ _ _ h; exact h) (Or.inl ⟨by kernel_rfl, by intro w hSw; go_simp⟩) (by assumption) ?_
            simp only [Act.put, List.setIfInBounds_toArray, List.set_cons_zero, List.set_cons_succ, List.toList_toArray]
            refine wpAnyH_ready (rs := [29]) (by kernel_rfl) (by simp) ?_
            refine AllReadyH.cons (o := _) (by simp only [List.getElem?_toArray, List.getElem?_cons_succ, List.getElem?_cons_zero]; exact rfl) (fun K hK => ?_) AllReadyH.nil
            rw [if_pos (by rfl)]
            go_simp
            have hWe : ∃ Wy, Wy = wb.alloc (.cells #[.bool (z1 == (0 : Int))] 4) := ⟨_, rfl⟩
            obtain ⟨Wy, hWy⟩ := hWe
            rw [← hWy]
            have HCn := Lib.hid (HC.out.trans (Chg.ofBelow (hWy ▸ (Below.refl _ _).alloc HC.out.size (.cells #[.bool (z1 == (0 : Int))] 4)) : Chg g wy.heap.size wb Wy))
            have HRN : Hid (Rd Wy (wb.heap.size + 1) (some ⟨wb.heap.size, 0, none⟩) [.bool (z1 == (0 : Int))]) := Lib.hid (by rw [hWy]; exact Rd.one wb _ _)
            have hRn : Rdr Wy g bs (q' + 1) := hWy ▸ hR.row (World.grownBy_alloc wb (.cells #[.bool (z1 == (0 : Int))] 4) none) (by simp)
            clear hWy hR
            refine hK.out _ _ (HS.out Wy HCn.out) (fun hSn => ?_)
            clear hK K HC
            try simp only [Act.put, List.setIfInBounds_toArray, List.set_cons_zero, List.set_cons_succ, List.toList_toArray]
            have hR := hRn
            have HC := HCn
            clear hRn HCn
            refine wpAnyH_ready (rs := [30]) (by kernel_rfl) (by simp) ?_
            refine AllReadyH.cons (o := _) (by simp only [List.getElem?_toArray, List.getElem?_cons_succ, List.getElem?_cons_zero]; exact rfl) (fun K hK => ?_) AllReadyH.nil
            have hoy := HC.out.own HOy.out (by omega) hwys
            refine step_append_o Wy rfl (.tmp 17) (.tmp 45) 23 rfl (w1.heap.size + 1) wr.heap.size 4 ib (.bool false) 1 Try.underlying23 hib hx0 hx1 hx2 rfl vM (bls T) rfl hoy _ _ 1 1 [.bool (z1 == (0 : Int))] rfl HRN.out rfl (by simp; rfl) (by unfold maxLen; omega) (by omega) (by have := HC.out.size; omega) (fun v' w5 ho5 hg5 hat5 => ?_)
            have hC5 : Chg g w1.heap.size w1 w5 := (HC1.out.trans (HC.out.mono (by omega))).trans (.ofBelow ((Below.refl w1.heap.size Wy).grown hg5 (by have := HC.out.size; omega) (fun g9 hg9 => by have := hoy.base g9 hg9; omega)))
            have hG5 : Blk w5 w1.heap.size 28 #[.slice (some ⟨b, 0, none⟩) M.length c1, vM] := (HC.out.blk HGy.out hww hwg).grown hg5 (fun e => by have := hoy.base _ e.symm; omega)
            have hR5 := hR.row hg5 (fun g9 hg9 => by have := hoy.base g9 hg9; omega)
            refine hK.out _ _ (HS1.out w5 hC5) (fun hSn => ?_)
            clear hK K
            try simp only [Act.put, List.setIfInBounds_toArray, List.set_cons_zero, List.set_cons_succ, List.toList_toArray]
            refine wpAnyH_take (i := 31) (v := .pointer (some ⟨w1.heap.size, 1, none⟩)) (by simp only [List.getElem?_toArray, List.getElem?_cons_succ, List.getElem?_cons_zero]; exact rfl) (by kernel_rfl) (by kernel_rfl) (by kernel_rfl) (by intro _ _ _ h; exact h) (Or.inl ⟨by kernel_rfl, by intro w hSw; go_simp⟩) (by assumption) ?_
            simp only [Act.put, List.setIfInBounds_toArray, List.set_cons_zero, List.set_cons_succ, List.toList_toArray]
            refine wpAnyH_ready (rs := [32]) (by kernel_rfl) (by simp) ?_
            refine AllReadyH.cons (o := _) (by simp only [List.getElem?_toArray, List.getElem?_cons_succ, List.getElem?_cons_zero]; exact rfl) (fun K hK => ?_) AllReadyH.nil
            have r4 : w5.cell? ⟨w1.heap.size, 1, none⟩ = some vM := hG5.cell 1
            have r5 : w5.frozen? ⟨w1.heap.size, 1, none⟩ = false := hG5.free 1
            rw [if_pos (by rfl)]
            refine oper_store_one 23 (.tmp 47) (.tmp 46) rfl ⟨w1.heap.size, 1, none⟩ rfl (w' := w5.setCell ⟨w1.heap.size, 1, none⟩ v') (by have hq := r4; have hq' := r5; obtain ⟨av, cv, rfl⟩ := ho5.form; go_simp) ?_
            obtain ⟨w6, hw6⟩ : ∃ w6, w6 = w5.setCell ⟨w1.heap.size, 1, none⟩ v' := ⟨_, rfl⟩
            rw [← hw6]
            have hb6 : Below w1.heap.size w5 w6 := by rw [hw6]; exact (Below.refl _ _).setCell (show w1.heap.size ≤ w1.heap.size from Nat.le_refl _) _
            have hC6 := hC5.trans (.ofBelow hb6)
            have hG6 : Blk w6 w1.heap.size 28 #[.slice (some ⟨b, 0, none⟩) M.length c1, v'] := by rw [hw6]; exact hG5.set 1 v'
            have hs6 : w6.heap.size = w5.heap.size := by rw [hw6]; simp [World.setCell]
            have ho6 : Own w6 (w1.heap.size + 1) w6.heap.size 4 v' (bls T ++ [.bool (z1 == (0 : Int))]) := by rw [hs6]; exact ho5.keep (by omega) (fun g9 hg9 => by rw [hw6]; exact Below.heap_setCell _ _ _ g9 (show g9 ≠ w1.heap.size by have := ho5.base g9 hg9; omega))
            have hR6 := hR5.below (hb6.mono (show g + 1 ≤ w1.heap.size by omega))
            refine hK.out _ _ (HS1.out w6 hC6) (fun hS9 => ?_)
            clear hK K
            try simp only [Act.put, List.setIfInBounds_toArray, List.set_cons_zero, List.set_cons_succ, List.toList_toArray]
            refine wpAnyH_done (by kernel_rfl) ?_ _
            try simp only [Act.put, List.setIfInBounds_toArray, List.set_cons_zero, List.set_cons_succ]
            have HO6 := Lib.hid ho6
            have HC6 := Lib.hid hC6
            have HG6 := Lib.hid hG6
            have HR6 := Lib.hid hR6
            clear ho6 hC6 hG6 hw6 hS9 hb6 hG5 r4 r5 ho5 hg5 hat5 hoy hC5 hR5 hR hR6
            go_wp2_with fail
            go_roundw
            case rel => exact ⟨k + 1, _, by omega, by go_num, (by rw [Nat.mul_add]; omega), HR6.out, HC6.out, _, T ++ [(z1 == (0 : Int))], by rw [List.length_append, HTL.out]; rfl, HG6.out, by rw [bls, List.map_append]; exact HO6.out⟩
            case measure => simp [intOf]; omega
          refine AllReadyH.cons (o := _) (by simp only [List.getElem?_toArray, List.getElem?_cons_succ, List.getElem?_cons_zero]; exact rfl) (fun K hK => ?_) AllReadyH.nil
          rw [if_pos (by rfl)]
          go_simp
          go_at_call 62
          refine (pick_any g _ 2 bs _ (by omega) (by omega) hR).mono ?_
          rintro e wb ⟨z1, rfl, hz10, hz11, hRn, hgn, hsn⟩
          have HCn := Lib.hid (HC.out.trans (Chg.of hgn HC.out.size))
          refine hK.out _ _ (HS.out wb HCn.out) (fun hSn => ?_)
          clear hK K hgn hsn hR HC
          try simp only [Act.put, List.setIfInBounds_toArray, List.set_cons_zero, List.set_cons_succ, List.toList_toArray]
          have hR := hRn
          have HC := HCn
          clear hRn HCn
          refine wpAnyH_take (i := 27) (v := .bool (z1 == (0 : Int))) (by simp only [List.getElem?_toArray, List.getElem?_cons_succ, List.getElem?_cons_zero]; exact rfl) (by kernel_rfl) (by kernel_rfl) (by kernel_rfl) (by intro _ _ _ h; exact h) (Or.inl ⟨by kernel_rfl, by intro w hSw; go_simp⟩) (by assumption) ?_
          simp only [Act.put, List.setIfInBounds_toArray, List.set_cons_zero, List.set_cons_succ, List.toList_toArray]
          refine wpAnyH_take (i := 28) (v := .bool (z1 == (0 : Int))) (by simp only [List.getElem?_toArray, List.getElem?_cons_succ, List.getElem?_cons_zero]; exact rfl) (by kernel_rfl) (by kernel_rfl) (by kernel_rfl) (by intro _ _ _ h; exact h) (Or.inl ⟨by kernel_rfl, by intro w hSw; go_simp⟩) (by assumption) ?_
          simp only [Act.put, List.setIfInBounds_toArray, List.set_cons_zero, List.set_cons_succ, List.toList_toArray]
          refine wpAnyH_ready (rs := [1, 29]) (by kernel_rfl) (by simp) ?_
          refine AllReadyH.cons (o := _) (by simp only [List.getElem?_toArray, List.getElem?_cons_succ, List.getElem?_cons_zero]; exact rfl) (fun K hK => ?_) ?_
          · skip
            rw [if_pos (by rfl)]
            go_simp
            have r4 : wb.cell? ⟨w1.heap.size, 1, none⟩ = some vM := (HC.out.blk HGy.out hww hwg).cell 1
            go_simp
            refine hK.out _ _ (HS.out wb HC.out) (fun hSn => ?_)
            clear hK K r4
            try simp only [Act.put, List.setIfInBounds_toArray, List.set_cons_zero, List.set_cons_succ, List.toList_toArray]
            refine wpAnyH_ready (rs := [29]) (by kernel_rfl) (by simp) ?_
            refine AllReadyH.cons (o := _) (by simp only [List.getElem?_toArray, List.getElem?_cons_succ, List.getElem?_cons_zero]; exact rfl) (fun K hK => ?_) AllReadyH.nil
            rw [if_pos (by rfl)]
            go_simp
            have hWe : ∃ Wy, Wy = wb.alloc (.cells #[.bool (z1 == (0 : Int))] 4) := ⟨_, rfl⟩
            obtain ⟨Wy, hWy⟩ := hWe
            rw [← hWy]
            have HCn := Lib.hid (HC.out.trans (Chg.ofBelow (hWy ▸ (Below.refl _ _).alloc HC.out.size (.cells #[.bool (z1 == (0 : Int))] 4)) : Chg g wy.heap.size wb Wy))
            have HRN : Hid (Rd Wy (wb.heap.size + 1) (some ⟨wb.heap.size, 0, none⟩) [.bool (z1 == (0 : Int))]) := Lib.hid (by rw [hWy]; exact Rd.one wb _ _)
            have hRn : Rdr Wy g bs (q' + 1) := hWy ▸ hR.row (World.grownBy_alloc wb (.cells #[.bool (z1 == (0 : Int))] 4) none) (by simp)
            clear hWy hR
            refine hK.out _ _ (HS.out Wy HCn.out) (fun hSn => ?_)
            clear hK K HC
            try simp only [Act.put, List.setIfInBounds_toArray, List.set_cons_zero, List.set_cons_succ, List.toList_toArray]
            have hR := hRn
            have HC := HCn
            clear hRn HCn
            refine wpAnyH_ready (rs := [30]) (by kernel_rfl) (by simp) ?_
            refine AllReadyH.cons (o := _) (by simp only [List.getElem?_toArray, List.getElem?_cons_succ, List.getElem?_cons_zero]; exact rfl) (fun K hK => ?_) AllReadyH.nil
            have hoy := HC.out.own HOy.out (by omega) hwys
            refine step_append_o Wy rfl (.tmp 17) (.tmp 45) 23 rfl (w1.heap.size + 1) wr.heap.size 4 ib (.bool false) 1 Try.underlying23 hib hx0 hx1 hx2 rfl vM (bls T) rfl hoy _ _ 1 1 [.bool (z1 == (0 : Int))] rfl HRN.out rfl (by simp; rfl) (by unfold maxLen; omega) (by omega) (by have := HC.out.size; omega) (fun v' w5 ho5 hg5 hat5 => ?_)
            have hC5 : Chg g w1.heap.size w1 w5 := (HC1.out.trans (HC.out.mono (by omega))).trans (.ofBelow ((Below.refl w1.heap.size Wy).grown hg5 (by have := HC.out.size; omega) (fun g9 hg9 => by have := hoy.base g9 hg9; omega)))
            have hG5 : Blk w5 w1.heap.size 28 #[.slice (some ⟨b, 0, none⟩) M.length c1, vM] := (HC.out.blk HGy.out hww hwg).grown hg5 (fun e => by have := hoy.base _ e.symm; omega)
            have hR5 := hR.row hg5 (fun g9 hg9 => by have := hoy.base g9 hg9; omega)
            refine hK.out _ _ (HS1.out w5 hC5) (fun hSn => ?_)
            clear hK K
            try simp only [Act.put, List.setIfInBounds_toArray, List.set_cons_zero, List.set_cons_succ, List.toList_toArray]
            refine wpAnyH_take (i := 31) (v := .pointer (some ⟨w1.heap.size, 1, none⟩)) (by simp only [List.getElem?_toArray, List.getElem?_cons_succ, List.getElem?_cons_zero]; exact rfl) (by kernel_rfl) (by kernel_rfl) (by kernel_rfl) (by intro _ _ _ h; exact h) (Or.inl ⟨by kernel_rfl, by intro w hSw; go_simp⟩) (by assumption) ?_
            simp only [Act.put, List.setIfInBounds_toArray, List.set_cons_zero, List.set_cons_succ, List.toList_toArray]
            refine wpAnyH_ready (rs := [32]) (by kernel_rfl) (by simp) ?_
            refine AllReadyH.cons (o := _) (by simp only [List.getElem?_toArray, List.getElem?_cons_succ, List.getElem?_cons_zero]; exact rfl) (fun K hK => ?_) AllReadyH.nil
            have r4 : w5.cell? ⟨w1.heap.size, 1, none⟩ = some vM := hG5.cell 1
            have r5 : w5.frozen? ⟨w1.heap.size, 1, none⟩ = false := hG5.free 1
            rw [if_pos (by rfl)]
            refine oper_store_one 23 (.tmp 47) (.tmp 46) rfl ⟨w1.heap.size, 1, none⟩ rfl (w' := w5.setCell ⟨w1.heap.size, 1, none⟩ v') (by have hq := r4; have hq' := r5; obtain ⟨av, cv, rfl⟩ := ho5.form; go_simp) ?_
            obtain ⟨w6, hw6⟩ : ∃ w6, w6 = w5.setCell ⟨w1.heap.size, 1, none⟩ v' := ⟨_, rfl⟩
            rw [← hw6]
            have hb6 : Below w1.heap.size w5 w6 := by rw [hw6]; exact (Below.refl _ _).setCell (show w1.heap.size ≤ w1.heap.size from Nat.le_refl _) _
            have hC6 := hC5.trans (.ofBelow hb6)
            have hG6 : Blk w6 w1.heap.size 28 #[.slice (some ⟨b, 0, none⟩) M.length c1, v'] := by rw [hw6]; exact hG5.set 1 v'
            have hs6 : w6.heap.size = w5.heap.size := by rw [hw6]; simp [World.setCell]
            have ho6 : Own w6 (w1.heap.size + 1) w6.heap.size 4 v' (bls T ++ [.bool (z1 == (0 : Int))]) := by rw [hs6]; exact ho5.keep (by omega) (fun g9 hg9 => by rw [hw6]; exact Below.heap_setCell _ _ _ g9 (show g9 ≠ w1.heap.size by have := ho5.base g9 hg9; omega))
            have hR6 := hR5.below (hb6.mono (show g + 1 ≤ w1.heap.size by omega))
            refine hK.out _ _ (HS1.out w6 hC6) (fun hS9 => ?_)
            clear hK K
            try simp only [Act.put, List.setIfInBounds_toArray, List.set_cons_zero, List.set_cons_succ, List.toList_toArray]
            refine wpAnyH_done (by kernel_rfl) ?_ _
            try simp only [Act.put, List.setIfInBounds_toArray, List.set_cons_zero, List.set_cons_succ]
            have HO6 := Lib.hid ho6
            have HC6 := Lib.hid hC6
            have HG6 := Lib.hid hG6
            have HR6 := Lib.hid hR6
            clear ho6 hC6 hG6 hw6 hS9 hb6 hG5 r4 r5 ho5 hg5 hat5 hoy hC5 hR5 hR hR6
            go_wp2_with fail
            go_roundw
            case rel => exact ⟨k + 1, _, by omega, by go_num, (by rw [Nat.mul_add]; omega), HR6.out, HC6.out, _, T ++ [(z1 == (0 : Int))], by rw [List.length_append, HTL.out]; rfl, HG6.out, by rw [bls, List.map_append]; exact HO6.out⟩
            case measure => simp [intOf]; omega
          refine AllReadyH.cons (o := _) (by simp only [List.getElem?_toArray, List.getElem?_cons_succ, List.getElem?_cons_zero]; exact rfl) (fun K hK => ?_) AllReadyH.nil
          rw [if_pos (by rfl)]
          go_simp
          have hWe : ∃ Wy, Wy = wb.alloc (.cells #[.bool (z1 == (0 : Int))] 4) := ⟨_, rfl⟩
          obtain ⟨Wy, hWy⟩ := hWe
          rw [← hWy]
          have HCn := Lib.hid (HC.out.trans (Chg.ofBelow (hWy ▸ (Below.refl _ _).alloc HC.out.size (.cells #[.bool (z1 == (0 : Int))] 4)) : Chg g wy.heap.size wb Wy))
          have HRN : Hid (Rd Wy (wb.heap.size + 1) (some ⟨wb.heap.size, 0, none⟩) [.bool (z1 == (0 : Int))]) := Lib.hid (by rw [hWy]; exact Rd.one wb _ _)
          have hRn : Rdr Wy g bs (q' + 1) := hWy ▸ hR.row (World.grownBy_alloc wb (.cells #[.bool (z1 == (0 : Int))] 4) none) (by simp)
          clear hWy hR
          refine hK.out _ _ (HS.out Wy HCn.out) (fun hSn => ?_)
          clear hK K HC
          try simp only [Act.put, List.setIfInBounds_toArray, List.set_cons_zero, List.set_cons_succ, List.toList_toArray]
          have hR := hRn
          have HC := HCn
          clear hRn HCn
          refine wpAnyH_ready (rs := [1]) (by kernel_rfl) (by simp) ?_
          refine AllReadyH.cons (o := _) (by simp only [List.getElem?_toArray, List.getElem?_cons_succ, List.getElem?_cons_zero]; exact rfl) (fun K hK => ?_) AllReadyH.nil
          rw [if_pos (by rfl)]
          go_simp
          have r4 : Wy.cell? ⟨w1.heap.size, 1, none⟩ = some vM := (HC.out.blk HGy.out hww hwg).cell 1
          go_simp
          refine hK.out _ _ (HS.out Wy HC.out) (fun hSn => ?_)
          clear hK K r4
          try simp only [Act.put, List.setIfInBounds_toArray, List.set_cons_zero, List.set_cons_succ, List.toList_toArray]
          refine wpAnyH_ready (rs := [30]) (by kernel_rfl) (by simp) ?_
          refine AllReadyH.cons (o := _) (by simp only [List.getElem?_toArray, List.getElem?_cons_succ, List.getElem?_cons_zero]; exact rfl) (fun K hK => ?_) AllReadyH.nil
          have hoy := HC.out.own HOy.out (by omega) hwys
          refine step_append_o Wy rfl (.tmp 17) (.tmp 45) 23 rfl (w1.heap.size + 1) wr.heap.size 4 ib (.bool false) 1 Try.underlying23 hib hx0 hx1 hx2 rfl vM (bls T) rfl hoy _ _ 1 1 [.bool (z1 == (0 : Int))] rfl HRN.out rfl (by simp; rfl) (by unfold maxLen; omega) (by omega) (by have := HC.out.size; omega) (fun v' w5 ho5 hg5 hat5 => ?_)
          have hC5 : Chg g w1.heap.size w1 w5 := (HC1.out.trans (HC.out.mono (by omega))).trans (.ofBelow ((Below.refl w1.heap.size Wy).grown hg5 (by have := HC.out.size; omega) (fun g9 hg9 => by have := hoy.base g9 hg9; omega)))
          have hG5 : Blk w5 w1.heap.size 28 #[.slice (some ⟨b, 0, none⟩) M.length c1, vM] := (HC.out.blk HGy.out hww hwg).grown hg5 (fun e => by have := hoy.base _ e.symm; omega)
          have hR5 := hR.row hg5 (fun g9 hg9 => by have := hoy.base g9 hg9; omega)
          refine hK.out _ _ (HS1.out w5 hC5) (fun hSn => ?_)
          clear hK K
          try simp only [Act.put, List.setIfInBounds_toArray, List.set_cons_zero, List.set_cons_succ, List.toList_toArray]
          refine wpAnyH_take (i := 31) (v := .pointer (some ⟨w1.heap.size, 1, none⟩)) (by simp only [List.getElem?_toArray, List.getElem?_cons_succ, List.getElem?_cons_zero]; exact rfl) (by kernel_rfl) (by kernel_rfl) (by kernel_rfl) (by intro _ _ _ h; exact h) (Or.inl ⟨by kernel_rfl, by intro w hSw; go_simp⟩) (by assumption) ?_
          simp only [Act.put, List.setIfInBounds_toArray, List.set_cons_zero, List.set_cons_succ, List.toList_toArray]
          refine wpAnyH_ready (rs := [32]) (by kernel_rfl) (by simp) ?_
          refine AllReadyH.cons (o := _) (by simp only [List.getElem?_toArray, List.getElem?_cons_succ, List.getElem?_cons_zero]; exact rfl) (fun K hK => ?_) AllReadyH.nil
          have r4 : w5.cell? ⟨w1.heap.size, 1, none⟩ = some vM := hG5.cell 1
          have r5 : w5.frozen? ⟨w1.heap.size, 1, none⟩ = false := hG5.free 1
          rw [if_pos (by rfl)]
          refine oper_store_one 23 (.tmp 47) (.tmp 46) rfl ⟨w1.heap.size, 1, none⟩ rfl (w' := w5.setCell ⟨w1.heap.size, 1, none⟩ v') (by have hq := r4; have hq' := r5; obtain ⟨av, cv, rfl⟩ := ho5.form; go_simp) ?_
          obtain ⟨w6, hw6⟩ : ∃ w6, w6 = w5.setCell ⟨w1.heap.size, 1, none⟩ v' := ⟨_, rfl⟩
          rw [← hw6]
          have hb6 : Below w1.heap.size w5 w6 := by rw [hw6]; exact (Below.refl _ _).setCell (show w1.heap.size ≤ w1.heap.size from Nat.le_refl _) _
          have hC6 := hC5.trans (.ofBelow hb6)
          have hG6 : Blk w6 w1.heap.size 28 #[.slice (some ⟨b, 0, none⟩) M.length c1, v'] := by rw [hw6]; exact hG5.set 1 v'
          have hs6 : w6.heap.size = w5.heap.size := by rw [hw6]; simp [World.setCell]
          have ho6 : Own w6 (w1.heap.size + 1) w6.heap.size 4 v' (bls T ++ [.bool (z1 == (0 : Int))]) := by rw [hs6]; exact ho5.keep (by omega) (fun g9 hg9 => by rw [hw6]; exact Below.heap_setCell _ _ _ g9 (show g9 ≠ w1.heap.size by have := ho5.base g9 hg9; omega))
          have hR6 := hR5.below (hb6.mono (show g + 1 ≤ w1.heap.size by omega))
          refine hK.out _ _ (HS1.out w6 hC6) (fun hS9 => ?_)
          clear hK K
          try simp only [Act.put, List.setIfInBounds_toArray, List.set_cons_zero, List.set_cons_succ, List.toList_toArray]
          refine wpAnyH_done (by kernel_rfl) ?_ _
          try simp only [Act.put, List.setIfInBounds_toArray, List.set_cons_zero, List.set_cons_succ]
          have HO6 := Lib.hid ho6
          have HC6 := Lib.hid hC6
          have HG6 := Lib.hid hG6
          have HR6 := Lib.hid hR6
          clear ho6 hC6 hG6 hw6 hS9 hb6 hG5 r4 r5 ho5 hg5 hat5 hoy hC5 hR5 hR hR6
          go_wp2_with fail
          go_roundw
          case rel => exact ⟨k + 1, _, by omega, by go_num, (by rw [Nat.mul_add]; omega), HR6.out, HC6.out, _, T ++ [(z1 == (0 : Int))], by rw [List.length_append, HTL.out]; rfl, HG6.out, by rw [bls, List.map_append]; exact HO6.out⟩
          case measure => simp [intOf]; omega
        · have hy' : decide (y < x) = false := decide_eq_false hy
          go_wp2_with fail
          obtain ⟨wy, hwy⟩ : ∃ wy, wy = wr.drew := ⟨_, rfl⟩
          refine wp_region_held_drew (S := fun w' => w'.cell? ⟨b, k, none⟩ = some (.int .i64 x) ∧ w'.cell? ⟨b, k + 1, none⟩ = some (.int .i64 y)) (by kernel_rfl) ⟨q1, q2⟩ (fun hS0 => ?_)
          have HGy : Hid (Blk wy w1.heap.size 28 #[.slice (some ⟨b, 0, none⟩) M.length c1, vM]) := Lib.hid (by rw [hwy]; exact HG.out.drew)
          have HOy : Hid (Own wy (w1.heap.size + 1) wr.heap.size 4 vM (bls T)) := Lib.hid (by rw [hwy]; exact HO.out.dr (Dr.n wr 1))
          have HC1 : Hid (Chg g w1.heap.size w1 wy) := Lib.hid (by rw [hwy]; exact HCw.out.trans (.ofBelow ((Dr.n wr 1).below _)))
          have hR : Rdr wy g bs q' := by rw [hwy]; exact HRw.out.dr (Dr.n wr 1)
          have hwys : wr.heap.size ≤ wy.heap.size := by rw [hwy]; exact Nat.le_refl _
          have hww : w1.heap.size < wy.heap.size := HGy.out.lt
          have HC : Hid (Chg g wy.heap.size wy wy) := Lib.hid ⟨rfl, rfl, rfl, Nat.le_refl _, fun _ _ _ => rfl⟩
          have HS := Lib.hid (fun w' (h : Chg g wy.heap.size wy w') => HS1.out w' (HC1.out.trans (h.mono (by omega))))
          rw [← hwy] at hS0 ⊢
          clear hwy
          refine wpAnyH_take (i := 0) (v := .pointer (some ⟨w1.heap.size, 1, none⟩)) (by simp only [List.getElem?_toArray, List.getElem?_cons_succ, List.getElem?_cons_zero]; exact rfl) (by kernel_rfl) (by kernel_rfl) (by kernel_rfl) (by intro _ _ _ h; exact h) (Or.inl ⟨by kernel_rfl, by intro w hSw; go_simp⟩) (by assumption) ?_
          simp only [Act.put, List.setIfInBounds_toArray, List.set_cons_zero, List.set_cons_succ, List.toList_toArray]
          refine wpAnyH_take (i := 2) (v := .int .i64 (k : Int)) (by simp only [List.getElem?_toArray, List.getElem?_cons_succ, List.getElem?_cons_zero]; exact rfl) (by kernel_rfl) (by kernel_rfl) (by kernel_rfl) (by intro _ _ _ h; exact h) (Or.inl ⟨by kernel_rfl, by intro w hSw; go_simp⟩) (by assumption) ?_
          simp only [Act.put, List.setIfInBounds_toArray, List.set_cons_zero, List.set_cons_succ, List.toList_toArray]
          refine wpAnyH_take (i := 3) (v := .int .i64 ((k : Int) + 1)) (by simp only [List.getElem?_toArray, List.getElem?_cons_succ, List.getElem?_cons_zero]; exact rfl) (by kernel_rfl) (by kernel_rfl) (by kernel_rfl) (by intro _ _ _ h; exact h) (Or.inl ⟨by kernel_rfl, by intro w hSw; go_simp⟩) (by assumption) ?_
          simp only [Act.put, List.setIfInBounds_toArray, List.set_cons_zero, List.set_cons_succ, List.toList_toArray]
          refine wpAnyH_take (i := 4) (v := .slice (some ⟨b, 0, none⟩) M.length c1) (by simp only [List.getElem?_toArray, List.getElem?_cons_succ, List.getElem?_cons_zero]; exact rfl) (by kernel_rfl) (by kernel_rfl) (by kernel_rfl) (by intro _ _ _ h; exact h) (Or.inl ⟨by kernel_rfl, by intro w hSw; go_simp⟩) (by assumption) ?_
          simp only [Act.put, List.setIfInBounds_toArray, List.set_cons_zero, List.set_cons_succ, List.toList_toArray]
          refine wpAnyH_take (i := 5) (v := .int .i64 (M.length : Int)) (by simp only [List.getElem?_toArray, List.getElem?_cons_succ, List.getElem?_cons_zero]; exact rfl) (by kernel_rfl) (by kernel_rfl) (by kernel_rfl) (by intro _ _ _ h; exact h) (Or.inl ⟨by kernel_rfl, by intro w hSw; go_simp⟩) (by assumption) ?_
          simp only [Act.put, List.setIfInBounds_toArray, List.set_cons_zero, List.set_cons_succ, List.toList_toArray]
          refine wpAnyH_take (i := 6) (v := .bool false) (by simp only [List.getElem?_toArray, List.getElem?_cons_succ, List.getElem?_cons_zero]; exact rfl) (by kernel_rfl) (by kernel_rfl) (by kernel_rfl) (by intro _ _ _ h; exact h) (Or.inl ⟨by kernel_rfl, by intro w hSw; go_simp⟩) (by assumption) ?_
          simp only [Act.put, List.setIfInBounds_toArray, List.set_cons_zero, List.set_cons_succ, List.toList_toArray]
          refine wpAnyH_take (i := 7) (v := .bool false) (by simp only [List.getElem?_toArray, List.getElem?_cons_succ, List.getElem?_cons_zero]; exact rfl) (by kernel_rfl) (by kernel_rfl) (by kernel_rfl) (by intro _ _ _ h; exact h) (Or.inl ⟨by kernel_rfl, by intro w hSw; go_simp⟩) (by assumption) ?_
          simp only [Act.put, List.setIfInBounds_toArray, List.set_cons_zero, List.set_cons_succ, List.toList_toArray]
          refine wpAnyH_take (i := 8) (v := .slice (some ⟨b, 0, none⟩) M.length c1) (by simp only [List.getElem?_toArray, List.getElem?_cons_succ, List.getElem?_cons_zero]; exact rfl) (by kernel_rfl) (by kernel_rfl) (by kernel_rfl) (by intro _ _ _ h; exact h) (Or.inl ⟨by kernel_rfl, by intro w hSw; go_simp⟩) (by assumption) ?_
          simp only [Act.put, List.setIfInBounds_toArray, List.set_cons_zero, List.set_cons_succ, List.toList_toArray]
          refine wpAnyH_take (i := 9) (v := .int .i64 (k : Int)) (by simp only [List.getElem?_toArray, List.getElem?_cons_succ, List.getElem?_cons_zero]; exact rfl) (by kernel_rfl) (by kernel_rfl) (by kernel_rfl) (by intro _ _ _ h; exact h) (Or.inl ⟨by kernel_rfl, by intro w hSw; go_simp⟩) (by assumption) ?_
          simp only [Act.put, List.setIfInBounds_toArray, List.set_cons_zero, List.set_cons_succ, List.toList_toArray]
          refine wpAnyH_take (i := 10) (v := .pointer (some ⟨b, k, none⟩)) (by simp only [List.getElem?_toArray, List.getElem?_cons_succ, List.getElem?_cons_zero]; exact rfl) (by kernel_rfl) (by kernel_rfl) (by kernel_rfl) (by intro _ _ _ h; exact h) (Or.inl ⟨by kernel_rfl, by intro w hSw; go_simp⟩) (by assumption) ?_
          simp only [Act.put, List.setIfInBounds_toArray, List.set_cons_zero, List.set_cons_succ, List.toList_toArray]
          refine wpAnyH_take (i := 11) (v := .int .i64 x) (by simp only [List.getElem?_toArray, List.getElem?_cons_succ, List.getElem?_cons_zero]; exact rfl) (by kernel_rfl) (by kernel_rfl) (by kernel_rfl) (by intro _ _ _ h; exact h) (Or.inl ⟨by kernel_rfl, by intro w hSw; obtain ⟨s1, s2⟩ := hSw; go_simp⟩) (by assumption) ?_
          simp only [Act.put, List.setIfInBounds_toArray, List.set_cons_zero, List.set_cons_succ, List.toList_toArray]
          refine wpAnyH_take (i := 12) (v := .slice (some ⟨b, 0, none⟩) M.length c1) (by simp only [List.getElem?_toArray, List.getElem?_cons_succ, List.getElem?_cons_zero]; exact rfl) (by kernel_rfl) (by kernel_rfl) (by kernel_rfl) (by intro _ _ _ h; exact h) (Or.inl ⟨by kernel_rfl, by intro w hSw; go_simp⟩) (by assumption) ?_
          simp only [Act.put, List.setIfInBounds_toArray, List.set_cons_zero, List.set_cons_succ, List.toList_toArray]
          refine wpAnyH_take (i := 13) (v := .int .i64 (k : Int)) (by simp only [List.getElem?_toArray, List.getElem?_cons_succ, List.getElem?_cons_zero]; exact rfl) (by kernel_rfl) (by kernel_rfl) (by kernel_rfl) (by intro _ _ _ h; exact h) (Or.inl ⟨by kernel_rfl, by intro w hSw; go_simp⟩) (by assumption) ?_
          simp only [Act.put, List.setIfInBounds_toArray, List.set_cons_zero, List.set_cons_succ, List.toList_toArray]
          refine wpAnyH_take (i := 14) (v := .int .i64 ((k : Int) + 1)) (by simp only [List.getElem?_toArray, List.getElem?_cons_succ, List.getElem?_cons_zero]; exact rfl) (by kernel_rfl) (by kernel_rfl) (by kernel_rfl) (by intro _ _ _ h; exact h) (Or.inl ⟨by kernel_rfl, by intro w hSw; go_simp⟩) (by assumption) ?_
          simp only [Act.put, List.setIfInBounds_toArray, List.set_cons_zero, List.set_cons_succ, List.toList_toArray]
          refine wpAnyH_take (i := 15) (v := .pointer (some ⟨b, k + 1, none⟩)) (by simp only [List.getElem?_toArray, List.getElem?_cons_succ, List.getElem?_cons_zero]; exact rfl) (by kernel_rfl) (by kernel_rfl) (by kernel_rfl) (by intro _ _ _ h; exact h) (Or.inl ⟨by kernel_rfl, by intro w hSw; go_simp⟩) (by assumption) ?_
          simp only [Act.put, List.setIfInBounds_toArray, List.set_cons_zero, List.set_cons_succ, List.toList_toArray]
          refine wpAnyH_take (i := 16) (v := .int .i64 y) (by simp only [List.getElem?_toArray, List.getElem?_cons_succ, List.getElem?_cons_zero]; exact rfl) (by kernel_rfl) (by kernel_rfl) (by kernel_rfl) (by intro _ _ _ h; exact h) (Or.inl ⟨by kernel_rfl, by intro w hSw; obtain ⟨s1, s2⟩ := hSw; go_simp⟩) (by assumption) ?_
          simp only [Act.put, List.setIfInBounds_toArray, List.set_cons_zero, List.set_cons_succ, List.toList_toArray]
          refine wpAnyH_take (i := 17) (v := .bool false) (by simp only [List.getElem?_toArray, List.getElem?_cons_succ, List.getElem?_cons_zero]; exact rfl) (by kernel_rfl) (by kernel_rfl) (by kernel_rfl) (by intro _ _ _ h; exact h) (Or.inl ⟨by kernel_rfl, by intro w hSw; go_simp⟩) (by assumption) ?_
          simp only [Act.put, List.setIfInBounds_toArray, List.set_cons_zero, List.set_cons_succ, List.toList_toArray]
          refine wpAnyH_take (i := 18) (v := .bool false) (by simp only [List.getElem?_toArray, List.getElem?_cons_succ, List.getElem?_cons_zero]; exact rfl) (by kernel_rfl) (by kernel_rfl) (by kernel_rfl) (by intro _ _ _ h; exact h) (Or.inl ⟨by kernel_rfl, by intro w hSw; go_simp⟩) (by assumption) ?_
          simp only [Act.put, List.setIfInBounds_toArray, List.set_cons_zero, List.set_cons_succ, List.toList_toArray]
          refine wpAnyH_take (i := 19) (v := .bool false) (by simp only [List.getElem?_toArray, List.getElem?_cons_succ, List.getElem?_cons_zero]; exact rfl) (by kernel_rfl) (by kernel_rfl) (by kernel_rfl) (by intro _ _ _ h; exact h) (Or.inl ⟨by kernel_rfl, by intro w hSw; go_simp⟩) (by assumption) ?_
          simp only [Act.put, List.setIfInBounds_toArray, List.set_cons_zero, List.set_cons_succ, List.toList_toArray]
          refine wpAnyH_take (i := 20) (v := .pointer (some ⟨g, 0, none⟩)) (by simp only [List.getElem?_toArray, List.getElem?_cons_succ, List.getElem?_cons_zero]; exact rfl) (by kernel_rfl) (by kernel_rfl) (by kernel_rfl) (by intro _ _ _ h; exact h) (Or.inl ⟨by kernel_rfl, by intro w hSw; go_simp⟩) (by assumption) ?_
          simp only [Act.put, List.setIfInBounds_toArray, List.set_cons_zero, List.set_cons_succ, List.toList_toArray]
          refine wpAnyH_ready (rs := [1, 21]) (by kernel_rfl) (by simp) ?_
          refine AllReadyH.cons (o := _) (by simp only [List.getElem?_toArray, List.getElem?_cons_succ, List.getElem?_cons_zero]; exact rfl) (fun K hK => ?_) ?_
          · skip
            rw [if_pos (by rfl)]
            go_simp
            have r4 : wy.cell? ⟨w1.heap.size, 1, none⟩ = some vM := (HC.out.blk HGy.out hww hwg).cell 1
            go_simp
            refine hK.out _ _ (HS.out wy HC.out) (fun hSn => ?_)
            clear hK K r4
            try simp only [Act.put, List.setIfInBounds_toArray, List.set_cons_zero, List.set_cons_succ, List.toList_toArray]
            refine wpAnyH_ready (rs := [21]) (by kernel_rfl) (by simp) ?_
            refine AllReadyH.cons (o := _) (by simp only [List.getElem?_toArray, List.getElem?_cons_succ, List.getElem?_cons_zero]; exact rfl) (fun K hK => ?_) AllReadyH.nil
            rw [if_pos (by rfl)]
            go_simp
            go_at_call 62
            refine (pick_any g _ 24 bs _ (by omega) (by omega) hR).mono ?_
            rintro e wa ⟨y1, rfl, hy10, hy11, hRn, hgn, hsn⟩
            have HCn := Lib.hid (HC.out.trans (Chg.of hgn HC.out.size))
            refine hK.out _ _ (HS.out wa HCn.out) (fun hSn => ?_)
            clear hK K hgn hsn hR HC
            try simp only [Act.put, List.setIfInBounds_toArray, List.set_cons_zero, List.set_cons_succ, List.toList_toArray]
            have hR := hRn
            have HC := HCn
            clear hRn HCn
            by_cases hy1 : y1 = 0
            · subst hy1
              refine wpAnyH_take (i := 22) (v := .bool true) (by simp only [List.getElem?_toArray, List.getElem?_cons_succ, List.getElem?_cons_zero]; exact rfl) (by kernel_rfl) (by kernel_rfl) (by kernel_rfl) (by intro _ _ _ h; exact h) (Or.inl ⟨by kernel_rfl, by intro w hSw; go_simp⟩) (by assumption) ?_
              simp only [Act.put, List.setIfInBounds_toArray, List.set_cons_zero, List.set_cons_succ, List.toList_toArray]
              refine wpAnyH_take (i := 23) (v := .bool true) (by simp only [List.getElem?_toArray, List.getElem?_cons_succ, List.getElem?_cons_zero]; exact rfl) (by kernel_rfl) (by kernel_rfl) (by kernel_rfl) (by intro _ _ _ h; exact h) (Or.inl ⟨by kernel_rfl, by intro w hSw; go_simp⟩) (by assumption) ?_
              simp only [Act.put, List.setIfInBounds_toArray, List.set_cons_zero, List.set_cons_succ, List.toList_toArray]
              refine wpAnyH_take (i := 24) (v := .bool true) (by simp only [List.getElem?_toArray, List.getElem?_cons_succ, List.getElem?_cons_zero]; exact rfl) (by kernel_rfl) (by kernel_rfl) (by kernel_rfl) (by intro _ _ _ h; exact h) (Or.inl ⟨by kernel_rfl, by intro w hSw; go_simp⟩) (by assumption) ?_
              simp only [Act.put, List.setIfInBounds_toArray, List.set_cons_zero, List.set_cons_succ, List.toList_toArray]
              refine wpAnyH_take (i := 25) (v := .pointer (some ⟨g, 0, none⟩)) (by simp only [List.getElem?_toArray, List.getElem?_cons_succ, List.getElem?_cons_zero]; exact rfl) (by kernel_rfl) (by kernel_rfl) (by kernel_rfl) (by intro _ _ _ h; exact h) (Or.inl ⟨by kernel_rfl, by intro w hSw; go_simp⟩) (by assumption) ?_
              simp only [Act.put, List.setIfInBounds_toArray, List.set_cons_zero, List.set_cons_succ, List.toList_toArray]
              refine wpAnyH_ready (rs := [26]) (by kernel_rfl) (by simp) ?_
              refine AllReadyH.cons (o := _) (by simp only [List.getElem?_toArray, List.getElem?_cons_succ, List.getElem?_cons_zero]; exact rfl) (fun K hK => ?_) AllReadyH.nil
              rw [if_pos (by rfl)]
              go_simp
              go_at_call 62
              refine (pick_any g _ 2 bs _ (by omega) (by omega) hR).mono ?_
              rintro e wb ⟨z1, rfl, hz10, hz11, hRn, hgn, hsn⟩
              have HCn := Lib.hid (HC.out.trans (Chg.of hgn HC.out.size))
              refine hK.out _ _ (HS.out wb HCn.out) (fun hSn => ?_)
              clear hK K hgn hsn hR HC
              try simp only [Act.put, List.setIfInBounds_toArray, List.set_cons_zero, List.set_cons_succ, List.toList_toArray]
              have hR := hRn
              have HC := HCn
              clear hRn HCn
              refine wpAnyH_take (i := 27) (v := .bool (z1 == (0 : Int))) (by simp only [List.getElem?_toArray, List.getElem?_cons_succ, List.getElem?_cons_zero]; exact rfl) (by kernel_rfl) (by kernel_rfl) (by kernel_rfl) (by intro _ _ _ h; exact h) (Or.inl ⟨by kernel_rfl, by intro w hSw; go_simp⟩) (by assumption) ?_
              simp only [Act.put, List.setIfInBounds_toArray, List.set_cons_zero, List.set_cons_succ, List.toList_toArray]
              refine wpAnyH_take (i := 28) (v := .bool (z1 == (0 : Int))) (by simp only [List.getElem?_toArray, List.getElem?_cons_succ, List.getElem?_cons_zero]; exact rfl) (by kernel_rfl) (by kernel_rfl) (by kernel_rfl) (by intro _ _ _ h; exact h) (Or.inl ⟨by kernel_rfl, by intro w hSw; go_simp⟩) (by assumption) ?_
              simp only [Act.put, List.setIfInBounds_toArray, List.set_cons_zero, List.set_cons_succ, List.toList_toArray]
              refine wpAnyH_ready (rs := [29]) (by kernel_rfl) (by simp) ?_
              refine AllReadyH.cons (o := _) (by simp only [List.getElem?_toArray, List.getElem?_cons_succ, List.getElem?_cons_zero]; exact rfl) (fun K hK => ?_) AllReadyH.nil
              rw [if_pos (by rfl)]
              go_simp
              have hWe : ∃ Wy, Wy = wb.alloc (.cells #[.bool (z1 == (0 : Int))] 4) := ⟨_, rfl⟩
              obtain ⟨Wy, hWy⟩ := hWe
              rw [← hWy]
              have HCn := Lib.hid (HC.out.trans (Chg.ofBelow (hWy ▸ (Below.refl _ _).alloc HC.out.size (.cells #[.bool (z1 == (0 : Int))] 4)) : Chg g wy.heap.size wb Wy))
              have HRN : Hid (Rd Wy (wb.heap.size + 1) (some ⟨wb.heap.size, 0, none⟩) [.bool (z1 == (0 : Int))]) := Lib.hid (by rw [hWy]; exact Rd.one wb _ _)
              have hRn : Rdr Wy g bs (q' + 1 + 1) := hWy ▸ hR.row (World.grownBy_alloc wb (.cells #[.bool (z1 == (0 : Int))] 4) none) (by simp)
              clear hWy hR
              refine hK.out _ _ (HS.out Wy HCn.out) (fun hSn => ?_)
              clear hK K HC
              try simp only [Act.put, List.setIfInBounds_toArray, List.set_cons_zero, List.set_cons_succ, List.toList_toArray]
              have hR := hRn
              have HC := HCn
              clear hRn HCn
              refine wpAnyH_ready (rs := [30]) (by kernel_rfl) (by simp) ?_
              refine AllReadyH.cons (o := _) (by simp only [List.getElem?_toArray, List.getElem?_cons_succ, List.getElem?_cons_zero]; exact rfl) (fun K hK => ?_) AllReadyH.nil
              have hoy := HC.out.own HOy.out (by omega) hwys
              refine step_append_o Wy rfl (.tmp 17) (.tmp 45) 23 rfl (w1.heap.size + 1) wr.heap.size 4 ib (.bool false) 1 Try.underlying23 hib hx0 hx1 hx2 rfl vM (bls T) rfl hoy _ _ 1 1 [.bool (z1 == (0 : Int))] rfl HRN.out rfl (by simp; rfl) (by unfold maxLen; omega) (by omega) (by have := HC.out.size; omega) (fun v' w5 ho5 hg5 hat5 => ?_)
              have hC5 : Chg g w1.heap.size w1 w5 := (HC1.out.trans (HC.out.mono (by omega))).trans (.ofBelow ((Below.refl w1.heap.size Wy).grown hg5 (by have := HC.out.size; omega) (fun g9 hg9 => by have := hoy.base g9 hg9; omega)))
              have hG5 : Blk w5 w1.heap.size 28 #[.slice (some ⟨b, 0, none⟩) M.length c1, vM] := (HC.out.blk HGy.out hww hwg).grown hg5 (fun e => by have := hoy.base _ e.symm; omega)
              have hR5 := hR.row hg5 (fun g9 hg9 => by have := hoy.base g9 hg9; omega)
              refine hK.out _ _ (HS1.out w5 hC5) (fun hSn => ?_)
              clear hK K
              try simp only [Act.put, List.setIfInBounds_toArray, List.set_cons_zero, List.set_cons_succ, List.toList_toArray]
              refine wpAnyH_take (i := 31) (v := .pointer (some ⟨w1.heap.size, 1, none⟩)) (by simp only [List.getElem?_toArray, List.getElem?_cons_succ, List.getElem?_cons_zero]; exact rfl) (by kernel_rfl) (by kernel_rfl) (by kernel_rfl) (by intro _ _ _ h; exact h) (Or.inl ⟨by kernel_rfl, by intro w hSw; go_simp⟩) (by assumption) ?_
              simp only [Act.put, List.setIfInBounds_toArray, List.set_cons_zero, List.set_cons_succ, List.toList_toArray]
              refine wpAnyH_ready (rs := [32]) (by kernel_rfl) (by simp) ?_
              refine AllReadyH.cons (o := _) (by simp only [List.getElem?_toArray, List.getElem?_cons_succ, List.getElem?_cons_zero]; exact rfl) (fun K hK => ?_) AllReadyH.nil
              have r4 : w5.cell? ⟨w1.heap.size, 1, none⟩ = some vM := hG5.cell 1
              have r5 : w5.frozen? ⟨w1.heap.size, 1, none⟩ = false := hG5.free 1
              rw [if_pos (by rfl)]
              refine oper_store_one 23 (.tmp 47) (.tmp 46) rfl ⟨w1.heap.size, 1, none⟩ rfl (w' := w5.setCell ⟨w1.heap.size, 1, none⟩ v') (by have hq := r4; have hq' := r5; obtain ⟨av, cv, rfl⟩ := ho5.form; go_simp) ?_
              obtain ⟨w6, hw6⟩ : ∃ w6, w6 = w5.setCell ⟨w1.heap.size, 1, none⟩ v' := ⟨_, rfl⟩
              rw [← hw6]
              have hb6 : Below w1.heap.size w5 w6 := by rw [hw6]; exact (Below.refl _ _).setCell (show w1.heap.size ≤ w1.heap.size from Nat.le_refl _) _
              have hC6 := hC5.trans (.ofBelow hb6)
              have hG6 : Blk w6 w1.heap.size 28 #[.slice (some ⟨b, 0, none⟩) M.length c1, v'] := by rw [hw6]; exact hG5.set 1 v'
              have hs6 : w6.heap.size = w5.heap.size := by rw [hw6]; simp [World.setCell]
              have ho6 : Own w6 (w1.heap.size + 1) w6.heap.size 4 v' (bls T ++ [.bool (z1 == (0 : Int))]) := by rw [hs6]; exact ho5.keep (by omega) (fun g9 hg9 => by rw [hw6]; exact Below.heap_setCell _ _ _ g9 (show g9 ≠ w1.heap.size by have := ho5.base g9 hg9; omega))
              have hR6 := hR5.below (hb6.mono (show g + 1 ≤ w1.heap.size by omega))
              refine hK.out _ _ (HS1.out w6 hC6) (fun hS9 => ?_)
              clear hK K
              try simp only [Act.put, List.setIfInBounds_toArray, List.set_cons_zero, List.set_cons_succ, List.toList_toArray]
              refine wpAnyH_done (by kernel_rfl) ?_ _
              try simp only [Act.put, List.setIfInBounds_toArray, List.set_cons_zero, List.set_cons_succ]
              have HO6 := Lib.hid ho6
              have HC6 := Lib.hid hC6
              have HG6 := Lib.hid hG6
              have HR6 := Lib.hid hR6
              clear ho6 hC6 hG6 hw6 hS9 hb6 hG5 r4 r5 ho5 hg5 hat5 hoy hC5 hR5 hR hR6
              go_wp2_with fail
              go_roundw
              case rel => exact ⟨k + 1, _, by omega, by go_num, (by rw [Nat.mul_add]; omega), HR6.out, HC6.out, _, T ++ [(z1 == (0 : Int))], by rw [List.length_append, HTL.out]; rfl, HG6.out, by rw [bls, List.map_append]; exact HO6.out⟩
              case measure => simp [intOf]; omega
            · have hy1e : (y1 == (0 : Int)) = false := beq_eq_false_iff_ne.2 hy1
              refine wpAnyH_take (i := 22) (v := .bool false) (by simp only [List.getElem?_toArray, List.getElem?_cons_succ, List.getElem?_cons_zero]; exact rfl) (by kernel_rfl) (by kernel_rfl) (by kernel_rfl) (by intro _ _ _ h; exact h) (Or.inl ⟨by kernel_rfl, by intro w hSw; go_simp⟩) (by assumption) ?_
              simp only [Act.put, List.setIfInBounds_toArray, List.set_cons_zero, List.set_cons_succ, List.toList_toArray]
              refine wpAnyH_take (i := 23) (v := .bool false) (by simp only [List.getElem?_toArray, List.getElem?_cons_succ, List.getElem?_cons_zero]; exact rfl) (by kernel_rfl) (by kernel_rfl) (by kernel_rfl) (by intro _ _ _ h; exact h) (Or.inl ⟨by kernel_rfl, by intro w hSw; go_simp⟩) (by assumption) ?_
              simp only [Act.put, List.setIfInBounds_toArray, List.set_cons_zero, List.set_cons_succ, List.toList_toArray]
              refine wpAnyH_take (i := 24) (v := .bool false) (by simp only [List.getElem?_toArray, List.getElem?_cons_succ, List.getElem?_cons_zero]; exact rfl) (by kernel_rfl) (by kernel_rfl) (by kernel_rfl) (by intro _ _ _ h; exact h) (Or.inl ⟨by kernel_rfl, by intro w hSw; go_simp⟩) (by assumption) ?_
              simp only [Act.put, List.setIfInBounds_toArray, List.set_cons_zero, List.set_cons_succ, List.toList_toArray]
              refine wpAnyH_take (i := 25) (v := undef) (by simp only [List.getElem?_toArray, List.getElem?_cons_succ, List.getElem?_cons_zero]; exact rfl) (by kernel_rfl) (by kernel_rfl) (by kernel_rfl) (by intro _ _ _ h; exact h) (Or.inr ⟨by kernel_rfl, rfl⟩) (by assumption) ?_
              simp only [Act.put, List.setIfInBounds_toArray, List.set_cons_zero, List.set_cons_succ, List.toList_toArray]
              refine wpAnyH_take (i := 26) (v := undef) (by simp only [List.getElem?_toArray, List.getElem?_cons_succ, List.getElem?_cons_zero]; exact rfl) (by kernel_rfl) (by kernel_rfl) (by kernel_rfl) (by intro _ _ _ h; exact h) (Or.inr ⟨by kernel_rfl, rfl⟩) (by assumption) ?_
              simp only [Act.put, List.setIfInBounds_toArray, List.set_cons_zero, List.set_cons_succ, List.toList_toArray]
              refine wpAnyH_take (i := 27) (v := undef) (by simp only [List.getElem?_toArray, List.getElem?_cons_succ, List.getElem?_cons_zero]; exact rfl) (by kernel_rfl) (by kernel_rfl) (by kernel_rfl) (by intro _ _ _ h; exact h) (Or.inr ⟨by kernel_rfl, rfl⟩) (by assumption) ?_
              simp only [Act.put, List.setIfInBounds_toArray, List.set_cons_zero, List.set_cons_succ, List.toList_toArray]
              refine wpAnyH_take (i := 28) (v := .bool false) (by simp only [List.getElem?_toArray, List.getElem?_cons_succ, List.getElem?_cons_zero]; exact rfl) (by kernel_rfl) (by kernel_rfl) (by kernel_rfl) (by intro _ _ _ h; exact h) (Or.inl ⟨by kernel_rfl, by intro w hSw; go_simp⟩) (by assumption) ?_
              simp only [Act.put, List.setIfInBounds_toArray, List.set_cons_zero, List.set_cons_succ, List.toList_toArray]
              refine wpAnyH_ready (rs := [29]) (by kernel_rfl) (by simp) ?_
              refine AllReadyH.cons (o := _) (by simp only [List.getElem?_toArray, List.getElem?_cons_succ, List.getElem?_cons_zero]; exact rfl) (fun K hK => ?_) AllReadyH.nil
              rw [if_pos (by rfl)]
              go_simp
              have hWe : ∃ Wy, Wy = wa.alloc (.cells #[.bool (false)] 4) := ⟨_, rfl⟩
              obtain ⟨Wy, hWy⟩ := hWe
              rw [← hWy]
              have HCn := Lib.hid (HC.out.trans (Chg.ofBelow (hWy ▸ (Below.refl _ _).alloc HC.out.size (.cells #[.bool (false)] 4)) : Chg g wy.heap.size wa Wy))
              have HRN : Hid (Rd Wy (wa.heap.size + 1) (some ⟨wa.heap.size, 0, none⟩) [.bool (false)]) := Lib.hid (by rw [hWy]; exact Rd.one wa _ _)
              have hRn : Rdr Wy g bs (q' + 1) := hWy ▸ hR.row (World.grownBy_alloc wa (.cells #[.bool (false)] 4) none) (by simp)
              clear hWy hR
              refine hK.out _ _ (HS.out Wy HCn.out) (fun hSn => ?_)
              clear hK K HC
              try simp only [Act.put, List.setIfInBounds_toArray, List.set_cons_zero, List.set_cons_succ, List.toList_toArray]
              have hR := hRn
              have HC := HCn
              clear hRn HCn
              refine wpAnyH_ready (rs := [30]) (by kernel_rfl) (by simp) ?_
              refine AllReadyH.cons (o := _) (by simp only [List.getElem?_toArray, List.getElem?_cons_succ, List.getElem?_cons_zero]; exact rfl) (fun K hK => ?_) AllReadyH.nil
              have hoy := HC.out.own HOy.out (by omega) hwys
              refine step_append_o Wy rfl (.tmp 17) (.tmp 45) 23 rfl (w1.heap.size + 1) wr.heap.size 4 ib (.bool false) 1 Try.underlying23 hib hx0 hx1 hx2 rfl vM (bls T) rfl hoy _ _ 1 1 [.bool (false)] rfl HRN.out rfl (by simp; rfl) (by unfold maxLen; omega) (by omega) (by have := HC.out.size; omega) (fun v' w5 ho5 hg5 hat5 => ?_)
              have hC5 : Chg g w1.heap.size w1 w5 := (HC1.out.trans (HC.out.mono (by omega))).trans (.ofBelow ((Below.refl w1.heap.size Wy).grown hg5 (by have := HC.out.size; omega) (fun g9 hg9 => by have := hoy.base g9 hg9; omega)))
              have hG5 : Blk w5 w1.heap.size 28 #[.slice (some ⟨b, 0, none⟩) M.length c1, vM] := (HC.out.blk HGy.out hww hwg).grown hg5 (fun e => by have := hoy.base _ e.symm; omega)
              have hR5 := hR.row hg5 (fun g9 hg9 => by have := hoy.base g9 hg9; omega)
              refine hK.out _ _ (HS1.out w5 hC5) (fun hSn => ?_)
              clear hK K
              try simp only [Act.put, List.setIfInBounds_toArray, List.set_cons_zero, List.set_cons_succ, List.toList_toArray]
              refine wpAnyH_take (i := 31) (v := .pointer (some ⟨w1.heap.size, 1, none⟩)) (by simp only [List.getElem?_toArray, List.getElem?_cons_succ, List.getElem?_cons_zero]; exact rfl) (by kernel_rfl) (by kernel_rfl) (by kernel_rfl) (by intro _ _ _ h; exact h) (Or.inl ⟨by kernel_rfl, by intro w hSw; go_simp⟩) (by assumption) ?_
              simp only [Act.put, List.setIfInBounds_toArray, List.set_cons_zero, List.set_cons_succ, List.toList_toArray]
              refine wpAnyH_ready (rs := [32]) (by kernel_rfl) (by simp) ?_
              refine AllReadyH.cons (o := _) (by simp only [List.getElem?_toArray, List.getElem?_cons_succ, List.getElem?_cons_zero]; exact rfl) (fun K hK => ?_) AllReadyH.nil
              have r4 : w5.cell? ⟨w1.heap.size, 1, none⟩ = some vM := hG5.cell 1
              have r5 : w5.frozen? ⟨w1.heap.size, 1, none⟩ = false := hG5.free 1
              rw [if_pos (by rfl)]
              refine oper_store_one 23 (.tmp 47) (.tmp 46) rfl ⟨w1.heap.size, 1, none⟩ rfl (w' := w5.setCell ⟨w1.heap.size, 1, none⟩ v') (by have hq := r4; have hq' := r5; obtain ⟨av, cv, rfl⟩ := ho5.form; go_simp) ?_
              obtain ⟨w6, hw6⟩ : ∃ w6, w6 = w5.setCell ⟨w1.heap.size, 1, none⟩ v' := ⟨_, rfl⟩
              rw [← hw6]
              have hb6 : Below w1.heap.size w5 w6 := by rw [hw6]; exact (Below.refl _ _).setCell (show w1.heap.size ≤ w1.heap.size from Nat.le_refl _) _
              have hC6 := hC5.trans (.ofBelow hb6)
              have hG6 : Blk w6 w1.heap.size 28 #[.slice (some ⟨b, 0, none⟩) M.length c1, v'] := by rw [hw6]; exact hG5.set 1 v'
              have hs6 : w6.heap.size = w5.heap.size := by rw [hw6]; simp [World.setCell]
              have ho6 : Own w6 (w1.heap.size + 1) w6.heap.size 4 v' (bls T ++ [.bool (false)]) := by rw [hs6]; exact ho5.keep (by omega) (fun g9 hg9 => by rw [hw6]; exact Below.heap_setCell _ _ _ g9 (show g9 ≠ w1.heap.size by have := ho5.base g9 hg9; omega))
              have hR6 := hR5.below (hb6.mono (show g + 1 ≤ w1.heap.size by omega))
              refine hK.out _ _ (HS1.out w6 hC6) (fun hS9 => ?_)
              clear hK K
              try simp only [Act.put, List.setIfInBounds_toArray, List.set_cons_zero, List.set_cons_succ, List.toList_toArray]
              refine wpAnyH_done (by kernel_rfl) ?_ _
              try simp only [Act.put, List.setIfInBounds_toArray, List.set_cons_zero, List.set_cons_succ]
              have HO6 := Lib.hid ho6
              have HC6 := Lib.hid hC6
              have HG6 := Lib.hid hG6
              have HR6 := Lib.hid hR6
              clear ho6 hC6 hG6 hw6 hS9 hb6 hG5 r4 r5 ho5 hg5 hat5 hoy hC5 hR5 hR hR6
              go_wp2_with fail
              go_roundw
              case rel => exact ⟨k + 1, _, by omega, by go_num, (by rw [Nat.mul_add]; omega), HR6.out, HC6.out, _, T ++ [(false)], by rw [List.length_append, HTL.out]; rfl, HG6.out, by rw [bls, List.map_append]; exact HO6.out⟩
              case measure => simp [intOf]; omega
          refine AllReadyH.cons (o := _) (by simp only [List.getElem?_toArray, List.getElem?_cons_succ, List.getElem?_cons_zero]; exact rfl) (fun K hK => ?_) AllReadyH.nil
          rw [if_pos (by rfl)]
          go_simp
          go_at_call 62
          refine (pick_any g _ 24 bs _ (by omega) (by omega) hR).mono ?_
          rintro e wa ⟨y1, rfl, hy10, hy11, hRn, hgn, hsn⟩
          have HCn := Lib.hid (HC.out.trans (Chg.of hgn HC.out.size))
          refine hK.out _ _ (HS.out wa HCn.out) (fun hSn => ?_)
          clear hK K hgn hsn hR HC
          try simp only [Act.put, List.setIfInBounds_toArray, List.set_cons_zero, List.set_cons_succ, List.toList_toArray]
          have hR := hRn
          have HC := HCn
          clear hRn HCn
          by_cases hy1 : y1 = 0
          · subst hy1
            refine wpAnyH_take (i := 22) (v := .bool true) (by simp only [List.getElem?_toArray, List.getElem?_cons_succ, List.getElem?_cons_zero]; exact rfl) (by kernel_rfl) (by kernel_rfl) (by kernel_rfl) (by intro _ _ _ h; exact h) (Or.inl ⟨by kernel_rfl, by intro w hSw; go_simp⟩) (by assumption) ?_
            simp only [Act.put, List.setIfInBounds_toArray, List.set_cons_zero, List.set_cons_succ, List.toList_toArray]
            refine wpAnyH_take (i := 23) (v := .bool true) (by simp only [List.getElem?_toArray, List.getElem?_cons_succ, List.getElem?_cons_zero]; exact rfl) (by kernel_rfl) (by kernel_rfl) (by kernel_rfl) (by intro _ _ _ h; exact h) (Or.inl ⟨by kernel_rfl, by intro w hSw; go_simp⟩) (by assumption) ?_
            simp only [Act.put, List.setIfInBounds_toArray, List.set_cons_zero, List.set_cons_succ, List.toList_toArray]
            refine wpAnyH_take (i := 24) (v := .bool true) (by simp only [List.getElem?_toArray, List.getElem?_cons_succ, List.getElem?_cons_zero]; exact rfl) (by kernel_rfl) (by kernel_rfl) (by kernel_rfl) (by intro _ _ _ h; exact h) (Or.inl ⟨by kernel_rfl, by intro w hSw; go_simp⟩) (by assumption) ?_
            simp only [Act.put, List.setIfInBounds_toArray, List.set_cons_zero, List.set_cons_succ, List.toList_toArray]
            refine wpAnyH_take (i := 25) (v := .pointer (some ⟨g, 0, none⟩)) (by simp only [List.getElem?_toArray, List.getElem?_cons_succ, List.getElem?_cons_zero]; exact rfl) (by kernel_rfl) (by kernel_rfl) (by kernel_rfl) (by intro _ _ _ h; exact h) (Or.inl ⟨by kernel_rfl, by intro w hSw; go_simp⟩) (by assumption) ?_
            simp only [Act.put, List.setIfInBounds_toArray, List.set_cons_zero, List.set_cons_succ, List.toList_toArray]
            refine wpAnyH_ready (rs := [1, 26]) (by kernel_rfl) (by simp) ?_
            refine AllReadyH.cons (o := _) (by simp only [List.getElem?_toArray, List.getElem?_cons_succ, List.getElem?_cons_zero]; exact rfl) (fun K hK => ?_) ?_
            · skip
              rw [if_pos (by rfl)]
              go_simp
              have r4 : wa.cell? ⟨w1.heap.size, 1, none⟩ = some vM := (HC.out.blk HGy.out hww hwg).cell 1
              go_simp
              refine hK.out _ _ (HS.out wa HC.out) (fun hSn => ?_)
              clear hK K r4
              try simp only [Act.put, List.setIfInBounds_toArray, List.set_cons_zero, List.set_cons_succ, List.toList_toArray]
              refine wpAnyH_ready (rs := [26]) (by kernel_rfl) (by simp) ?_
              refine AllReadyH.cons (o := _) (by simp only [List.getElem?_toArray, List.getElem?_cons_succ, List.getElem?_cons_zero]; exact rfl) (fun K hK => ?_) AllReadyH.nil
              rw [if_pos (by rfl)]
              go_simp
              go_at_call 62
              refine (pick_any g _ 2 bs _ (by omega) (by omega) hR).mono ?_
              rintro e wb ⟨z1, rfl, hz10, hz11, hRn, hgn, hsn⟩
              have HCn := Lib.hid (HC.out.trans (Chg.of hgn HC.out.size))
              refine hK.out _ _ (HS.out wb HCn.out) (fun hSn => ?_)
              clear hK K hgn hsn hR HC
              try simp only [Act.put, List.setIfInBounds_toArray, List.set_cons_zero, List.set_cons_succ, List.toList_toArray]
              have hR := hRn
              have HC := HCn
              clear hRn HCn
              refine wpAnyH_take (i := 27) (v := .bool (z1 == (0 : Int))) (by simp only [List.getElem?_toArray, List.getElem?_cons_succ, List.getElem?_cons_zero]; exact rfl) (by kernel_rfl) (by kernel_rfl) (by kernel_rfl) (by intro _ _ _ h; exact h) (Or.inl ⟨by kernel_rfl, by intro w hSw; go_simp⟩) (by assumption) ?_
              simp only [Act.put, List.setIfInBounds_toArray, List.set_cons_zero, List.set_cons_succ, List.toList_toArray]
              refine wpAnyH_take (i := 28) (v := .bool (z1 == (0 : Int))) (by simp only [List.getElem?_toArray, List.getElem?_cons_succ, List.getElem?_cons_zero]; exact rfl) (by kernel_rfl) (by kernel_rfl) (by kernel_rfl) (by intro _ _ _ h; exact h) (Or.inl ⟨by kernel_rfl, by intro w hSw; go_simp⟩) (by assumption) ?_
              simp only [Act.put, List.setIfInBounds_toArray, List.set_cons_zero, List.set_cons_succ, List.toList_toArray]
              refine wpAnyH_ready (rs := [29]) (by kernel_rfl) (by simp) ?_
              refine AllReadyH.cons (o := _) (by simp only [List.getElem?_toArray, List.getElem?_cons_succ, List.getElem?_cons_zero]; exact rfl) (fun K hK => ?_) AllReadyH.nil
              rw [if_pos (by rfl)]
              go_simp
              have hWe : ∃ Wy, Wy = wb.alloc (.cells #[.bool (z1 == (0 : Int))] 4) := ⟨_, rfl⟩
              obtain ⟨Wy, hWy⟩ := hWe
              rw [← hWy]
              have HCn := Lib.hid (HC.out.trans (Chg.ofBelow (hWy ▸ (Below.refl _ _).alloc HC.out.size (.cells #[.bool (z1 == (0 : Int))] 4)) : Chg g wy.heap.size wb Wy))
              have HRN : Hid (Rd Wy (wb.heap.size + 1) (some ⟨wb.heap.size, 0, none⟩) [.bool (z1 == (0 : Int))]) := Lib.hid (by rw [hWy]; exact Rd.one wb _ _)
              have hRn : Rdr Wy g bs (q' + 1 + 1) := hWy ▸ hR.row (World.grownBy_alloc wb (.cells #[.bool (z1 == (0 : Int))] 4) none) (by simp)
              clear hWy hR
              refine hK.out _ _ (HS.out Wy HCn.out) (fun hSn => ?_)
              clear hK K HC
              try simp only [Act.put, List.setIfInBounds_toArray, List.set_cons_zero, List.set_cons_succ, List.toList_toArray]
              have hR := hRn
              have HC := HCn
              clear hRn HCn
              refine wpAnyH_ready (rs := [30]) (by kernel_rfl) (by simp) ?_
              refine AllReadyH.cons (o := _) (by simp only [List.getElem?_toArray, List.getElem?_cons_succ, List.getElem?_cons_zero]; exact rfl) (fun K hK => ?_) AllReadyH.nil
              have hoy := HC.out.own HOy.out (by omega) hwys
              refine step_append_o Wy rfl (.tmp 17) (.tmp 45) 23 rfl (w1.heap.size + 1) wr.heap.size 4 ib (.bool false) 1 Try.underlying23 hib hx0 hx1 hx2 rfl vM (bls T) rfl hoy _ _ 1 1 [.bool (z1 == (0 : Int))] rfl HRN.out rfl (by simp; rfl) (by unfold maxLen; omega) (by omega) (by have := HC.out.size; omega) (fun v' w5 ho5 hg5 hat5 => ?_)
              have hC5 : Chg g w1.heap.size w1 w5 := (HC1.out.trans (HC.out.mono (by omega))).trans (.ofBelow ((Below.refl w1.heap.size Wy).grown hg5 (by have := HC.out.size; omega) (fun g9 hg9 => by have := hoy.base g9 hg9; omega)))
              have hG5 : Blk w5 w1.heap.size 28 #[.slice (some ⟨b, 0, none⟩) M.length c1, vM] := (HC.out.blk HGy.out hww hwg).grown hg5 (fun e => by have := hoy.base _ e.symm; omega)
              have hR5 := hR.row hg5 (fun g9 hg9 => by have := hoy.base g9 hg9; omega)
              refine hK.out _ _ (HS1.out w5 hC5) (fun hSn => ?_)
              clear hK K
              try simp only [Act.put, List.setIfInBounds_toArray, List.set_cons_zero, List.set_cons_succ, List.toList_toArray]
              refine wpAnyH_take (i := 31) (v := .pointer (some ⟨w1.heap.size, 1, none⟩)) (by simp only [List.getElem?_toArray, List.getElem?_cons_succ, List.getElem?_cons_zero]; exact rfl) (by kernel_rfl) (by kernel_rfl) (by kernel_rfl) (by intro _ _ _ h; exact h) (Or.inl ⟨by kernel_rfl, by intro w hSw; go_simp⟩) (by assumption) ?_
              simp only [Act.put, List.setIfInBounds_toArray, List.set_cons_zero, List.set_cons_succ, List.toList_toArray]
              refine wpAnyH_ready (rs := [32]) (by kernel_rfl) (by simp) ?_
              refine AllReadyH.cons (o := _) (by simp only [List.getElem?_toArray, List.getElem?_cons_succ, List.getElem?_cons_zero]; exact rfl) (fun K hK => ?_) AllReadyH.nil
              have r4 : w5.cell? ⟨w1.heap.size, 1, none⟩ = some vM := hG5.cell 1
              have r5 : w5.frozen? ⟨w1.heap.size, 1, none⟩ = false := hG5.free 1
              rw [if_pos (by rfl)]
              refine oper_store_one 23 (.tmp 47) (.tmp 46) rfl ⟨w1.heap.size, 1, none⟩ rfl (w' := w5.setCell ⟨w1.heap.size, 1, none⟩ v') (by have hq := r4; have hq' := r5; obtain ⟨av, cv, rfl⟩ := ho5.form; go_simp) ?_
              obtain ⟨w6, hw6⟩ : ∃ w6, w6 = w5.setCell ⟨w1.heap.size, 1, none⟩ v' := ⟨_, rfl⟩
              rw [← hw6]
              have hb6 : Below w1.heap.size w5 w6 := by rw [hw6]; exact (Below.refl _ _).setCell (show w1.heap.size ≤ w1.heap.size from Nat.le_refl _) _
              have hC6 := hC5.trans (.ofBelow hb6)
              have hG6 : Blk w6 w1.heap.size 28 #[.slice (some ⟨b, 0, none⟩) M.length c1, v'] := by rw [hw6]; exact hG5.set 1 v'
              have hs6 : w6.heap.size = w5.heap.size := by rw [hw6]; simp [World.setCell]
              have ho6 : Own w6 (w1.heap.size + 1) w6.heap.size 4 v' (bls T ++ [.bool (z1 == (0 : Int))]) := by rw [hs6]; exact ho5.keep (by omega) (fun g9 hg9 => by rw [hw6]; exact Below.heap_setCell _ _ _ g9 (show g9 ≠ w1.heap.size by have := ho5.base g9 hg9; omega))
              have hR6 := hR5.below (hb6.mono (show g + 1 ≤ w1.heap.size by omega))
              refine hK.out _ _ (HS1.out w6 hC6) (fun hS9 => ?_)
              clear hK K
              try simp only [Act.put, List.setIfInBounds_toArray, List.set_cons_zero, List.set_cons_succ, List.toList_toArray]
              refine wpAnyH_done (by kernel_rfl) ?_ _
              try simp only [Act.put, List.setIfInBounds_toArray, List.set_cons_zero, List.set_cons_succ]
              have HO6 := Lib.hid ho6
              have HC6 := Lib.hid hC6
              have HG6 := Lib.hid hG6
              have HR6 := Lib.hid hR6
              clear ho6 hC6 hG6 hw6 hS9 hb6 hG5 r4 r5 ho5 hg5 hat5 hoy hC5 hR5 hR hR6
              go_wp2_with fail
              go_roundw
              case rel => exact ⟨k + 1, _, by omega, by go_num, (by rw [Nat.mul_add]; omega), HR6.out, HC6.out, _, T ++ [(z1 == (0 : Int))], by rw [List.length_append, HTL.out]; rfl, HG6.out, by rw [bls, List.map_append]; exact HO6.out⟩
              case measure => simp [intOf]; omega
            refine AllReadyH.cons (o := _) (by simp only [List.getElem?_toArray, List.getElem?_cons_succ, List.getElem?_cons_zero]; exact rfl) (fun K hK => ?_) AllReadyH.nil
            rw [if_pos (by rfl)]
            go_simp
            go_at_call 62
            refine (pick_any g _ 2 bs _ (by omega) (by omega) hR).mono ?_
            rintro e wb ⟨z1, rfl, hz10, hz11, hRn, hgn, hsn⟩
            have HCn := Lib.hid (HC.out.trans (Chg.of hgn HC.out.size))
            refine hK.out _ _ (HS.out wb HCn.out) (fun hSn => ?_)
            clear hK K hgn hsn hR HC
            try simp only [Act.put, List.setIfInBounds_toArray, List.set_cons_zero, List.set_cons_succ, List.toList_toArray]
            have hR := hRn
            have HC := HCn
            clear hRn HCn
            refine wpAnyH_take (i := 27) (v := .bool (z1 == (0 : Int))) (by simp only [List.getElem?_toArray, List.getElem?_cons_succ, List.getElem?_cons_zero]; exact rfl) (by kernel_rfl) (by kernel_rfl) (by kernel_rfl) (by intro _ _ _ h; exact h) (Or.inl ⟨by kernel_rfl, by intro w hSw; go_simp⟩) (by assumption) ?_
            simp only [Act.put, List.setIfInBounds_toArray, List.set_cons_zero, List.set_cons_succ, List.toList_toArray]
            refine wpAnyH_take (i := 28) (v := .bool (z1 == (0 : Int))) (by simp only [List.getElem?_toArray, List.getElem?_cons_succ, List.getElem?_cons_zero]; exact rfl) (by kernel_rfl) (by kernel_rfl) (by kernel_rfl) (by intro _ _ _ h; exact h) (Or.inl ⟨by kernel_rfl, by intro w hSw; go_simp⟩) (by assumption) ?_
            simp only [Act.put, List.setIfInBounds_toArray, List.set_cons_zero, List.set_cons_succ, List.toList_toArray]
            refine wpAnyH_ready (rs := [1, 29]) (by kernel_rfl) (by simp) ?_
            refine AllReadyH.cons (o := _) (by simp only [List.getElem?_toArray, List.getElem?_cons_succ, List.getElem?_cons_zero]; exact rfl) (fun K hK => ?_) ?_
            · skip
              rw [if_pos (by rfl)]
              go_simp
              have r4 : wb.cell? ⟨w1.heap.size, 1, none⟩ = some vM := (HC.out.blk HGy.out hww hwg).cell 1
              go_simp
              refine hK.out _ _ (HS.out wb HC.out) (fun hSn => ?_)
              clear hK K r4
              try simp only [Act.put, List.setIfInBounds_toArray, List.set_cons_zero, List.set_cons_succ, List.toList_toArray]
              refine wpAnyH_ready (rs := [29]) (by kernel_rfl) (by simp) ?_
              refine AllReadyH.cons (o := _) (by simp only [List.getElem?_toArray, List.getElem?_cons_succ, List.getElem?_cons_zero]; exact rfl) (fun K hK => ?_) AllReadyH.nil
              rw [if_pos (by rfl)]
              go_simp
              have hWe : ∃ Wy, Wy = wb.alloc (.cells #[.bool (z1 == (0 : Int))] 4) := ⟨_, rfl⟩
              obtain ⟨Wy, hWy⟩ := hWe
              rw [← hWy]
              have HCn := Lib.hid (HC.out.trans (Chg.ofBelow (hWy ▸ (Below.refl _ _).alloc HC.out.size (.cells #[.bool (z1 == (0 : Int))] 4)) : Chg g wy.heap.size wb Wy))
              have HRN : Hid (Rd Wy (wb.heap.size + 1) (some ⟨wb.heap.size, 0, none⟩) [.bool (z1 == (0 : Int))]) := Lib.hid (by rw [hWy]; exact Rd.one wb _ _)
              have hRn : Rdr Wy g bs (q' + 1 + 1) := hWy ▸ hR.row (World.grownBy_alloc wb (.cells #[.bool (z1 == (0 : Int))] 4) none) (by simp)
              clear hWy hR
              refine hK.out _ _ (HS.out Wy HCn.out) (fun hSn => ?_)
              clear hK K HC
              try simp only [Act.put, List.setIfInBounds_toArray, List.set_cons_zero, List.set_cons_succ, List.toList_toArray]
              have hR := hRn
              have HC := HCn
              clear hRn HCn
              refine wpAnyH_ready (rs := [30]) (by kernel_rfl) (by simp) ?_
              refine AllReadyH.cons (o := _) (by simp only [List.getElem?_toArray, List.getElem?_cons_succ, List.getElem?_cons_zero]; exact rfl) (fun K hK => ?_) AllReadyH.nil
              have hoy := HC.out.own HOy.out (by omega) hwys
              refine step_append_o Wy rfl (.tmp 17) (.tmp 45) 23 rfl (w1.heap.size + 1) wr.heap.size 4 ib (.bool false) 1 Try.underlying23 hib hx0 hx1 hx2 rfl vM (bls T) rfl hoy _ _ 1 1 [.bool (z1 == (0 : Int))] rfl HRN.out rfl (by simp; rfl) (by unfold maxLen; omega) (by omega) (by have := HC.out.size; omega) (fun v' w5 ho5 hg5 hat5 => ?_)
              have hC5 : Chg g w1.heap.size w1 w5 := (HC1.out.trans (HC.out.mono (by omega))).trans (.ofBelow ((Below.refl w1.heap.size Wy).grown hg5 (by have := HC.out.size; omega) (fun g9 hg9 => by have := hoy.base g9 hg9; omega)))
              have hG5 : Blk w5 w1.heap.size 28 #[.slice (some ⟨b, 0, none⟩) M.length c1, vM] := (HC.out.blk HGy.out hww hwg).grown hg5 (fun e => by have := hoy.base _ e.symm; omega)
              have hR5 := hR.row hg5 (fun g9 hg9 => by have := hoy.base g9 hg9; omega)
              refine hK.out _ _ (HS1.out w5 hC5) (fun hSn => ?_)
              clear hK K
              try simp only [Act.put, List.setIfInBounds_toArray, List.set_cons_zero, List.set_cons_succ, List.toList_toArray]
              refine wpAnyH_take (i := 31) (v := .pointer (some ⟨w1.heap.size, 1, none⟩)) (by simp only [List.getElem?_toArray, List.getElem?_cons_succ, List.getElem?_cons_zero]; exact rfl) (by kernel_rfl) (by kernel_rfl) (by kernel_rfl) (by intro _ _ _ h; exact h) (Or.inl ⟨by kernel_rfl, by intro w hSw; go_simp⟩) (by assumption) ?_
              simp only [Act.put, List.setIfInBounds_toArray, List.set_cons_zero, List.set_cons_succ, List.toList_toArray]
              refine wpAnyH_ready (rs := [32]) (by kernel_rfl) (by simp) ?_
              refine AllReadyH.cons (o := _) (by simp only [List.getElem?_toArray, List.getElem?_cons_succ, List.getElem?_cons_zero]; exact rfl) (fun K hK => ?_) AllReadyH.nil
              have r4 : w5.cell? ⟨w1.heap.size, 1, none⟩ = some vM := hG5.cell 1
              have r5 : w5.frozen? ⟨w1.heap.size, 1, none⟩ = false := hG5.free 1
              rw [if_pos (by rfl)]
              refine oper_store_one 23 (.tmp 47) (.tmp 46) rfl ⟨w1.heap.size, 1, none⟩ rfl (w' := w5.setCell ⟨w1.heap.size, 1, none⟩ v') (by have hq := r4; have hq' := r5; obtain ⟨av, cv, rfl⟩ := ho5.form; go_simp) ?_
              obtain ⟨w6, hw6⟩ : ∃ w6, w6 = w5.setCell ⟨w1.heap.size, 1, none⟩ v' := ⟨_, rfl⟩
              rw [← hw6]
              have hb6 : Below w1.heap.size w5 w6 := by rw [hw6]; exact (Below.refl _ _).setCell (show w1.heap.size ≤ w1.heap.size from Nat.le_refl _) _
              have hC6 := hC5.trans (.ofBelow hb6)
              have hG6 : Blk w6 w1.heap.size 28 #[.slice (some ⟨b, 0, none⟩) M.length c1, v'] := by rw [hw6]; exact hG5.set 1 v'
              have hs6 : w6.heap.size = w5.heap.size := by rw [hw6]; simp [World.setCell]
              have ho6 : Own w6 (w1.heap.size + 1) w6.heap.size 4 v' (bls T ++ [.bool (z1 == (0 : Int))]) := by rw [hs6]; exact ho5.keep (by omega) (fun g9 hg9 => by rw [hw6]; exact Below.heap_setCell _ _ _ g9 (show g9 ≠ w1.heap.size by have := ho5.base g9 hg9; omega))
              have hR6 := hR5.below (hb6.mono (show g + 1 ≤ w1.heap.size by omega))
              refine hK.out _ _ (HS1.out w6 hC6) (fun hS9 => ?_)
              clear hK K
              try simp only [Act.put, List.setIfInBounds_toArray, List.set_cons_zero, List.set_cons_succ, List.toList_toArray]
              refine wpAnyH_done (by kernel_rfl) ?_ _
              try simp only [Act.put, List.setIfInBounds_toArray, List.set_cons_zero, List.set_cons_succ]
              have HO6 := Lib.hid ho6
              have HC6 := Lib.hid hC6
              have HG6 := Lib.hid hG6
              have HR6 := Lib.hid hR6
              clear ho6 hC6 hG6 hw6 hS9 hb6 hG5 r4 r5 ho5 hg5 hat5 hoy hC5 hR5 hR hR6
              go_wp2_with fail
              go_roundw
              case rel => exact ⟨k + 1, _, by omega, by go_num, (by rw [Nat.mul_add]; omega), HR6.out, HC6.out, _, T ++ [(z1 == (0 : Int))], by rw [List.length_append, HTL.out]; rfl, HG6.out, by rw [bls, List.map_append]; exact HO6.out⟩
              case measure => simp [intOf]; omega
            refine AllReadyH.cons (o := _) (by simp only [List.getElem?_toArray, List.getElem?_cons_succ, List.getElem?_cons_zero]; exact rfl) (fun K hK => ?_) AllReadyH.nil
            rw [if_pos (by rfl)]
            go_simp
            have hWe : ∃ Wy, Wy = wb.alloc (.cells #[.bool (z1 == (0 : Int))] 4) := ⟨_, rfl⟩
            obtain ⟨Wy, hWy⟩ := hWe
            rw [← hWy]
            have HCn := Lib.hid (HC.out.trans (Chg.ofBelow (hWy ▸ (Below.refl _ _).alloc HC.out.size (.cells #[.bool (z1 == (0 : Int))] 4)) : Chg g wy.heap.size wb Wy))
            have HRN : Hid (Rd Wy (wb.heap.size + 1) (some ⟨wb.heap.size, 0, none⟩) [.bool (z1 == (0 : Int))]) := Lib.hid (by rw [hWy]; exact Rd.one wb _ _)
            have hRn : Rdr Wy g bs (q' + 1 + 1) := hWy ▸ hR.row (World.grownBy_alloc wb (.cells #[.bool (z1 == (0 : Int))] 4) none) (by simp)
            clear hWy hR
            refine hK.out _ _ (HS.out Wy HCn.out) (fun hSn => ?_)
            clear hK K HC
            try simp only [Act.put, List.setIfInBounds_toArray, List.set_cons_zero, List.set_cons_succ, List.toList_toArray]
            have hR := hRn
            have HC := HCn
            clear hRn HCn
            refine wpAnyH_ready (rs := [1]) (by kernel_rfl) (by simp) ?_
            refine AllReadyH.cons (o := _) (by simp only [List.getElem?_toArray, List.getElem?_cons_succ, List.getElem?_cons_zero]; exact rfl) (fun K hK => ?_) AllReadyH.nil
            rw [if_pos (by rfl)]
            go_simp
            have r4 : Wy.cell? ⟨w1.heap.size, 1, none⟩ = some vM := (HC.out.blk HGy.out hww hwg).cell 1
            go_simp
            refine hK.out _ _ (HS.out Wy HC.out) (fun hSn => ?_)
            clear hK K r4
            try simp only [Act.put, List.setIfInBounds_toArray, List.set_cons_zero, List.set_cons_succ, List.toList_toArray]
            refine wpAnyH_ready (rs := [30]) (by kernel_rfl) (by simp) ?_
            refine AllReadyH.cons (o := _) (by simp only [List.getElem?_toArray, List.getElem?_cons_succ, List.getElem?_cons_zero]; exact rfl) (fun K hK => ?_) AllReadyH.nil
            have hoy := HC.out.own HOy.out (by omega) hwys
            refine step_append_o Wy rfl (.tmp 17) (.tmp 45) 23 rfl (w1.heap.size + 1) wr.heap.size 4 ib (.bool false) 1 Try.underlying23 hib hx0 hx1 hx2 rfl vM (bls T) rfl hoy _ _ 1 1 [.bool (z1 == (0 : Int))] rfl HRN.out rfl (by simp; rfl) (by unfold maxLen; omega) (by omega) (by have := HC.out.size; omega) (fun v' w5 ho5 hg5 hat5 => ?_)
            have hC5 : Chg g w1.heap.size w1 w5 := (HC1.out.trans (HC.out.mono (by omega))).trans (.ofBelow ((Below.refl w1.heap.size Wy).grown hg5 (by have := HC.out.size; omega) (fun g9 hg9 => by have := hoy.base g9 hg9; omega)))
            have hG5 : Blk w5 w1.heap.size 28 #[.slice (some ⟨b, 0, none⟩) M.length c1, vM] := (HC.out.blk HGy.out hww hwg).grown hg5 (fun e => by have := hoy.base _ e.symm; omega)
            have hR5 := hR.row hg5 (fun g9 hg9 => by have := hoy.base g9 hg9; omega)
            refine hK.out _ _ (HS1.out w5 hC5) (fun hSn => ?_)
            clear hK K
            try simp only [Act.put, List.setIfInBounds_toArray, List.set_cons_zero, List.set_cons_succ, List.toList_toArray]
            refine wpAnyH_take (i := 31) (v := .pointer (some ⟨w1.heap.size, 1, none⟩)) (by simp only [List.getElem?_toArray, List.getElem?_cons_succ, List.getElem?_cons_zero]; exact rfl) (by kernel_rfl) (by kernel_rfl) (by kernel_rfl) (by intro _ _ _ h; exact h) (Or.inl ⟨by kernel_rfl, by intro w hSw; go_simp⟩) (by assumption) ?_
            simp only [Act.put, List.setIfInBounds_toArray, List.set_cons_zero, List.set_cons_succ, List.toList_toArray]
            refine wpAnyH_ready (rs := [32]) (by kernel_rfl) (by simp) ?_
            refine AllReadyH.cons (o := _) (by simp only [List.getElem?_toArray, List.getElem?_cons_succ, List.getElem?_cons_zero]; exact rfl) (fun K hK => ?_) AllReadyH.nil
            have r4 : w5.cell? ⟨w1.heap.size, 1, none⟩ = some vM := hG5.cell 1
            have r5 : w5.frozen? ⟨w1.heap.size, 1, none⟩ = false := hG5.free 1
            rw [if_pos (by rfl)]
            refine oper_store_one 23 (.tmp 47) (.tmp 46) rfl ⟨w1.heap.size, 1, none⟩ rfl (w' := w5.setCell ⟨w1.heap.size, 1, none⟩ v') (by have hq := r4; have hq' := r5; obtain ⟨av, cv, rfl⟩ := ho5.form; go_simp) ?_
            obtain ⟨w6, hw6⟩ : ∃ w6, w6 = w5.setCell ⟨w1.heap.size, 1, none⟩ v' := ⟨_, rfl⟩
            rw [← hw6]
            have hb6 : Below w1.heap.size w5 w6 := by rw [hw6]; exact (Below.refl _ _).setCell (show w1.heap.size ≤ w1.heap.size from Nat.le_refl _) _
            have hC6 := hC5.trans (.ofBelow hb6)
            have hG6 : Blk w6 w1.heap.size 28 #[.slice (some ⟨b, 0, none⟩) M.length c1, v'] := by rw [hw6]; exact hG5.set 1 v'
            have hs6 : w6.heap.size = w5.heap.size := by rw [hw6]; simp [World.setCell]
            have ho6 : Own w6 (w1.heap.size + 1) w6.heap.size 4 v' (bls T ++ [.bool (z1 == (0 : Int))]) := by rw [hs6]; exact ho5.keep (by omega) (fun g9 hg9 => by rw [hw6]; exact Below.heap_setCell _ _ _ g9 (show g9 ≠ w1.heap.size by have := ho5.base g9 hg9; omega))
            have hR6 := hR5.below (hb6.mono (show g + 1 ≤ w1.heap.size by omega))
            refine hK.out _ _ (HS1.out w6 hC6) (fun hS9 => ?_)
            clear hK K
            try simp only [Act.put, List.setIfInBounds_toArray, List.set_cons_zero, List.set_cons_succ, List.toList_toArray]
            refine wpAnyH_done (by kernel_rfl) ?_ _
            try simp only [Act.put, List.setIfInBounds_toArray, List.set_cons_zero, List.set_cons_succ]
            have HO6 := Lib.hid ho6
            have HC6 := Lib.hid hC6
            have HG6 := Lib.hid hG6
            have HR6 := Lib.hid hR6
            clear ho6 hC6 hG6 hw6 hS9 hb6 hG5 r4 r5 ho5 hg5 hat5 hoy hC5 hR5 hR hR6
            go_wp2_with fail
            go_roundw
            case rel => exact ⟨k + 1, _, by omega, by go_num, (by rw [Nat.mul_add]; omega), HR6.out, HC6.out, _, T ++ [(z1 == (0 : Int))], by rw [List.length_append, HTL.out]; rfl, HG6.out, by rw [bls, List.map_append]; exact HO6.out⟩
            case measure => simp [intOf]; omega
          · have hy1e : (y1 == (0 : Int)) = false := beq_eq_false_iff_ne.2 hy1
            refine wpAnyH_take (i := 22) (v := .bool false) (by simp only [List.getElem?_toArray, List.getElem?_cons_succ, List.getElem?_cons_zero]; exact rfl) (by kernel_rfl) (by kernel_rfl) (by kernel_rfl) (by intro _ _ _ h; exact h) (Or.inl ⟨by kernel_rfl, by intro w hSw; go_simp⟩) (by assumption) ?_
            simp only [Act.put, List.setIfInBounds_toArray, List.set_cons_zero, List.set_cons_succ, List.toList_toArray]
            refine wpAnyH_take (i := 23) (v := .bool false) (by simp only [List.getElem?_toArray, List.getElem?_cons_succ, List.getElem?_cons_zero]; exact rfl) (by kernel_rfl) (by kernel_rfl) (by kernel_rfl) (by intro _ _ _ h; exact h) (Or.inl ⟨by kernel_rfl, by intro w hSw; go_simp⟩) (by assumption) ?_
            simp only [Act.put, List.setIfInBounds_toArray, List.set_cons_zero, List.set_cons_succ, List.toList_toArray]
            refine wpAnyH_take (i := 24) (v := .bool false) (by simp only [List.getElem?_toArray, List.getElem?_cons_succ, List.getElem?_cons_zero]; exact rfl) (by kernel_rfl) (by kernel_rfl) (by kernel_rfl) (by intro _ _ _ h; exact h) (Or.inl ⟨by kernel_rfl, by intro w hSw; go_simp⟩) (by assumption) ?_
            simp only [Act.put, List.setIfInBounds_toArray, List.set_cons_zero, List.set_cons_succ, List.toList_toArray]
            refine wpAnyH_take (i := 25) (v := undef) (by simp only [List.getElem?_toArray, List.getElem?_cons_succ, List.getElem?_cons_zero]; exact rfl) (by kernel_rfl) (by kernel_rfl) (by kernel_rfl) (by intro _ _ _ h; exact h) (Or.inr ⟨by kernel_rfl, rfl⟩) (by assumption) ?_
            simp only [Act.put, List.setIfInBounds_toArray, List.set_cons_zero, List.set_cons_succ, List.toList_toArray]
            refine wpAnyH_take (i := 26) (v := undef) (by simp only [List.getElem?_toArray, List.getElem?_cons_succ, List.getElem?_cons_zero]; exact rfl) (by kernel_rfl) (by kernel_rfl) (by kernel_rfl) (by intro _ _ _ h; exact h) (Or.inr ⟨by kernel_rfl, rfl⟩) (by assumption) ?_
            simp only [Act.put, List.setIfInBounds_toArray, List.set_cons_zero, List.set_cons_succ, List.toList_toArray]
            refine wpAnyH_take (i := 27) (v := undef) (by simp only [List.getElem?_toArray, List.getElem?_cons_succ, List.getElem?_cons_zero]; exact rfl) (by kernel_rfl) (by kernel_rfl) (by kernel_rfl) (by intro _ _ _ h; exact h) (Or.inr ⟨by kernel_rfl, rfl⟩) (by assumption) ?_
            simp only [Act.put, List.setIfInBounds_toArray, List.set_cons_zero, List.set_cons_succ, List.toList_toArray]
            refine wpAnyH_take (i := 28) (v := .bool false) (by simp only [List.getElem?_toArray, List.getElem?_cons_succ, List.getElem?_cons_zero]; exact rfl) (by kernel_rfl) (by kernel_rfl) (by kernel_rfl) (by intro _ _ _ h; exact h) (Or.inl ⟨by kernel_rfl, by intro w hSw; go_simp⟩) (by assumption) ?_
            simp only [Act.put, List.setIfInBounds_toArray, List.set_cons_zero, List.set_cons_succ, List.toList_toArray]
            refine wpAnyH_ready (rs := [1, 29]) (by kernel_rfl) (by simp) ?_
            refine AllReadyH.cons (o := _) (by simp only [List.getElem?_toArray, List.getElem?_cons_succ, List.getElem?_cons_zero]; exact rfl) (fun K hK => ?_) ?_
            · skip
              rw [if_pos (by rfl)]
              go_simp
              have r4 : wa.cell? ⟨w1.heap.size, 1, none⟩ = some vM := (HC.out.blk HGy.out hww hwg).cell 1
              go_simp
              refine hK.out _ _ (HS.out wa HC.out) (fun hSn => ?_)
              clear hK K r4
              try simp only [Act.put, List.setIfInBounds_toArray, List.set_cons_zero, List.set_cons_succ, List.toList_toArray]
              refine wpAnyH_ready (rs := [29]) (by kernel_rfl) (by simp) ?_
              refine AllReadyH.cons (o := _) (by simp only [List.getElem?_toArray, List.getElem?_cons_succ, List.getElem?_cons_zero]; exact rfl) (fun K hK => ?_) AllReadyH.nil
              rw [if_pos (by rfl)]
              go_simp
              have hWe : ∃ Wy, Wy = wa.alloc (.cells #[.bool (false)] 4) := ⟨_, rfl⟩
              obtain ⟨Wy, hWy⟩ := hWe
              rw [← hWy]
              have HCn := Lib.hid (HC.out.trans (Chg.ofBelow (hWy ▸ (Below.refl _ _).alloc HC.out.size (.cells #[.bool (false)] 4)) : Chg g wy.heap.size wa Wy))
              have HRN : Hid (Rd Wy (wa.heap.size + 1) (some ⟨wa.heap.size, 0, none⟩) [.bool (false)]) := Lib.hid (by rw [hWy]; exact Rd.one wa _ _)
              have hRn : Rdr Wy g bs (q' + 1) := hWy ▸ hR.row (World.grownBy_alloc wa (.cells #[.bool (false)] 4) none) (by simp)
              clear hWy hR
              refine hK.out _ _ (HS.out Wy HCn.out) (fun hSn => ?_)
              clear hK K HC
              try simp only [Act.put, List.setIfInBounds_toArray, List.set_cons_zero, List.set_cons_succ, List.toList_toArray]
              have hR := hRn
              have HC := HCn
              clear hRn HCn
              refine wpAnyH_ready (rs := [30]) (by kernel_rfl) (by simp) ?_
              refine AllReadyH.cons (o := _) (by simp only [List.getElem?_toArray, List.getElem?_cons_succ, List.getElem?_cons_zero]; exact rfl) (fun K hK => ?_) AllReadyH.nil
              have hoy := HC.out.own HOy.out (by omega) hwys
              refine step_append_o Wy rfl (.tmp 17) (.tmp 45) 23 rfl (w1.heap.size + 1) wr.heap.size 4 ib (.bool false) 1 Try.underlying23 hib hx0 hx1 hx2 rfl vM (bls T) rfl hoy _ _ 1 1 [.bool (false)] rfl HRN.out rfl (by simp; rfl) (by unfold maxLen; omega) (by omega) (by have := HC.out.size; omega) (fun v' w5 ho5 hg5 hat5 => ?_)
              have hC5 : Chg g w1.heap.size w1 w5 := (HC1.out.trans (HC.out.mono (by omega))).trans (.ofBelow ((Below.refl w1.heap.size Wy).grown hg5 (by have := HC.out.size; omega) (fun g9 hg9 => by have := hoy.base g9 hg9; omega)))
              have hG5 : Blk w5 w1.heap.size 28 #[.slice (some ⟨b, 0, none⟩) M.length c1, vM] := (HC.out.blk HGy.out hww hwg).grown hg5 (fun e => by have := hoy.base _ e.symm; omega)
              have hR5 := hR.row hg5 (fun g9 hg9 => by have := hoy.base g9 hg9; omega)
              refine hK.out _ _ (HS1.out w5 hC5) (fun hSn => ?_)
              clear hK K
              try simp only [Act.put, List.setIfInBounds_toArray, List.set_cons_zero, List.set_cons_succ, List.toList_toArray]
              refine wpAnyH_take (i := 31) (v := .pointer (some ⟨w1.heap.size, 1, none⟩)) (by simp only [List.getElem?_toArray, List.getElem?_cons_succ, List.getElem?_cons_zero]; exact rfl) (by kernel_rfl) (by kernel_rfl) (by kernel_rfl) (by intro _ _ _ h; exact h) (Or.inl ⟨by kernel_rfl, by intro w hSw; go_simp⟩) (by assumption) ?_
              simp only [Act.put, List.setIfInBounds_toArray, List.set_cons_zero, List.set_cons_succ, List.toList_toArray]
              refine wpAnyH_ready (rs := [32]) (by kernel_rfl) (by simp) ?_
              refine AllReadyH.cons (o := _) (by simp only [List.getElem?_toArray, List.getElem?_cons_succ, List.getElem?_cons_zero]; exact rfl) (fun K hK => ?_) AllReadyH.nil
              have r4 : w5.cell? ⟨w1.heap.size, 1, none⟩ = some vM := hG5.cell 1
              have r5 : w5.frozen? ⟨w1.heap.size, 1, none⟩ = false := hG5.free 1
              rw [if_pos (by rfl)]
              refine oper_store_one 23 (.tmp 47) (.tmp 46) rfl ⟨w1.heap.size, 1, none⟩ rfl (w' := w5.setCell ⟨w1.heap.size, 1, none⟩ v') (by have hq := r4; have hq' := r5; obtain ⟨av, cv, rfl⟩ := ho5.form; go_simp) ?_
              obtain ⟨w6, hw6⟩ : ∃ w6, w6 = w5.setCell ⟨w1.heap.size, 1, none⟩ v' := ⟨_, rfl⟩
              rw [← hw6]
              have hb6 : Below w1.heap.size w5 w6 := by rw [hw6]; exact (Below.refl _ _).setCell (show w1.heap.size ≤ w1.heap.size from Nat.le_refl _) _
              have hC6 := hC5.trans (.ofBelow hb6)
              have hG6 : Blk w6 w1.heap.size 28 #[.slice (some ⟨b, 0, none⟩) M.length c1, v'] := by rw [hw6]; exact hG5.set 1 v'
              have hs6 : w6.heap.size = w5.heap.size := by rw [hw6]; simp [World.setCell]
              have ho6 : Own w6 (w1.heap.size + 1) w6.heap.size 4 v' (bls T ++ [.bool (false)]) := by rw [hs6]; exact ho5.keep (by omega) (fun g9 hg9 => by rw [hw6]; exact Below.heap_setCell _ _ _ g9 (show g9 ≠ w1.heap.size by have := ho5.base g9 hg9; omega))
              have hR6 := hR5.below (hb6.mono (show g + 1 ≤ w1.heap.size by omega))
              refine hK.out _ _ (HS1.out w6 hC6) (fun hS9 => ?_)
              clear hK K
              try simp only [Act.put, List.setIfInBounds_toArray, List.set_cons_zero, List.set_cons_succ, List.toList_toArray]
              refine wpAnyH_done (by kernel_rfl) ?_ _
              try simp only [Act.put, List.setIfInBounds_toArray, List.set_cons_zero, List.set_cons_succ]
              have HO6 := Lib.hid ho6
              have HC6 := Lib.hid hC6
              have HG6 := Lib.hid hG6
              have HR6 := Lib.hid hR6
              clear ho6 hC6 hG6 hw6 hS9 hb6 hG5 r4 r5 ho5 hg5 hat5 hoy hC5 hR5 hR hR6
              go_wp2_with fail
              go_roundw
              case rel => exact ⟨k + 1, _, by omega, by go_num, (by rw [Nat.mul_add]; omega), HR6.out, HC6.out, _, T ++ [(false)], by rw [List.length_append, HTL.out]; rfl, HG6.out, by rw [bls, List.map_append]; exact HO6.out⟩
              case measure => simp [intOf]; omega
            refine AllReadyH.cons (o := _) (by simp only [List.getElem?_toArray, List.getElem?_cons_succ, List.getElem?_cons_zero]; exact rfl) (fun K hK => ?_) AllReadyH.nil
            rw [if_pos (by rfl)]
            go_simp
            have hWe : ∃ Wy, Wy = wa.alloc (.cells #[.bool (false)] 4) := ⟨_, rfl⟩
            obtain ⟨Wy, hWy⟩ := hWe
            rw [← hWy]
            have HCn := Lib.hid (HC.out.trans (Chg.ofBelow (hWy ▸ (Below.refl _ _).alloc HC.out.size (.cells #[.bool (false)] 4)) : Chg g wy.heap.size wa Wy))
            have HRN : Hid (Rd Wy (wa.heap.size + 1) (some ⟨wa.heap.size, 0, none⟩) [.bool (false)]) := Lib.hid (by rw [hWy]; exact Rd.one wa _ _)
            have hRn : Rdr Wy g bs (q' + 1) := hWy ▸ hR.row (World.grownBy_alloc wa (.cells #[.bool (false)] 4) none) (by simp)
            clear hWy hR
            refine hK.out _ _ (HS.out Wy HCn.out) (fun hSn => ?_)
            clear hK K HC
            try simp only [Act.put, List.setIfInBounds_toArray, List.set_cons_zero, List.set_cons_succ, List.toList_toArray]
            have hR := hRn
            have HC := HCn
            clear hRn HCn
            refine wpAnyH_ready (rs := [1]) (by kernel_rfl) (by simp) ?_
            refine AllReadyH.cons (o := _) (by simp only [List.getElem?_toArray, List.getElem?_cons_succ, List.getElem?_cons_zero]; exact rfl) (fun K hK => ?_) AllReadyH.nil
            rw [if_pos (by rfl)]
            go_simp
            have r4 : Wy.cell? ⟨w1.heap.size, 1, none⟩ = some vM := (HC.out.blk HGy.out hww hwg).cell 1
            go_simp
            refine hK.out _ _ (HS.out Wy HC.out) (fun hSn => ?_)
            clear hK K r4
            try simp only [Act.put, List.setIfInBounds_toArray, List.set_cons_zero, List.set_cons_succ, List.toList_toArray]
            refine wpAnyH_ready (rs := [30]) (by kernel_rfl) (by simp) ?_
            refine AllReadyH.cons (o := _) (by simp only [List.getElem?_toArray, List.getElem?_cons_succ, List.getElem?_cons_zero]; exact rfl) (fun K hK => ?_) AllReadyH.nil
            have hoy := HC.out.own HOy.out (by omega) hwys
            refine step_append_o Wy rfl (.tmp 17) (.tmp 45) 23 rfl (w1.heap.size + 1) wr.heap.size 4 ib (.bool false) 1 Try.underlying23 hib hx0 hx1 hx2 rfl vM (bls T) rfl hoy _ _ 1 1 [.bool (false)] rfl HRN.out rfl (by simp; rfl) (by unfold maxLen; omega) (by omega) (by have := HC.out.size; omega) (fun v' w5 ho5 hg5 hat5 => ?_)
            have hC5 : Chg g w1.heap.size w1 w5 := (HC1.out.trans (HC.out.mono (by omega))).trans (.ofBelow ((Below.refl w1.heap.size Wy).grown hg5 (by have := HC.out.size; omega) (fun g9 hg9 => by have := hoy.base g9 hg9; omega)))
            have hG5 : Blk w5 w1.heap.size 28 #[.slice (some ⟨b, 0, none⟩) M.length c1, vM] := (HC.out.blk HGy.out hww hwg).grown hg5 (fun e => by have := hoy.base _ e.symm; omega)
            have hR5 := hR.row hg5 (fun g9 hg9 => by have := hoy.base g9 hg9; omega)
            refine hK.out _ _ (HS1.out w5 hC5) (fun hSn => ?_)
            clear hK K
            try simp only [Act.put, List.setIfInBounds_toArray, List.set_cons_zero, List.set_cons_succ, List.toList_toArray]
            refine wpAnyH_take (i := 31) (v := .pointer (some ⟨w1.heap.size, 1, none⟩)) (by simp only [List.getElem?_toArray, List.getElem?_cons_succ, List.getElem?_cons_zero]; exact rfl) (by kernel_rfl) (by kernel_rfl) (by kernel_rfl) (by intro _ _ _ h; exact h) (Or.inl ⟨by kernel_rfl, by intro w hSw; go_simp⟩) (by assumption) ?_
            simp only [Act.put, List.setIfInBounds_toArray, List.set_cons_zero, List.set_cons_succ, List.toList_toArray]
            refine wpAnyH_ready (rs := [32]) (by kernel_rfl) (by simp) ?_
            refine AllReadyH.cons (o := _) (by simp only [List.getElem?_toArray, List.getElem?_cons_succ, List.getElem?_cons_zero]; exact rfl) (fun K hK => ?_) AllReadyH.nil
            have r4 : w5.cell? ⟨w1.heap.size, 1, none⟩ = some vM := hG5.cell 1
            have r5 : w5.frozen? ⟨w1.heap.size, 1, none⟩ = false := hG5.free 1
            rw [if_pos (by rfl)]
            refine oper_store_one 23 (.tmp 47) (.tmp 46) rfl ⟨w1.heap.size, 1, none⟩ rfl (w' := w5.setCell ⟨w1.heap.size, 1, none⟩ v') (by have hq := r4; have hq' := r5; obtain ⟨av, cv, rfl⟩ := ho5.form; go_simp) ?_
            obtain ⟨w6, hw6⟩ : ∃ w6, w6 = w5.setCell ⟨w1.heap.size, 1, none⟩ v' := ⟨_, rfl⟩
            rw [← hw6]
            have hb6 : Below w1.heap.size w5 w6 := by rw [hw6]; exact (Below.refl _ _).setCell (show w1.heap.size ≤ w1.heap.size from Nat.le_refl _) _
            have hC6 := hC5.trans (.ofBelow hb6)
            have hG6 : Blk w6 w1.heap.size 28 #[.slice (some ⟨b, 0, none⟩) M.length c1, v'] := by rw [hw6]; exact hG5.set 1 v'
            have hs6 : w6.heap.size = w5.heap.size := by rw [hw6]; simp [World.setCell]
            have ho6 : Own w6 (w1.heap.size + 1) w6.heap.size 4 v' (bls T ++ [.bool (false)]) := by rw [hs6]; exact ho5.keep (by omega) (fun g9 hg9 => by rw [hw6]; exact Below.heap_setCell _ _ _ g9 (show g9 ≠ w1.heap.size by have := ho5.base g9 hg9; omega))
            have hR6 := hR5.below (hb6.mono (show g + 1 ≤ w1.heap.size by omega))
            refine hK.out _ _ (HS1.out w6 hC6) (fun hS9 => ?_)
            clear hK K
            try simp only [Act.put, List.setIfInBounds_toArray, List.set_cons_zero, List.set_cons_succ, List.toList_toArray]
            refine wpAnyH_done (by kernel_rfl) ?_ _
            try simp only [Act.put, List.setIfInBounds_toArray, List.set_cons_zero, List.set_cons_succ]
            have HO6 := Lib.hid ho6
            have HC6 := Lib.hid hC6
            have HG6 := Lib.hid hG6
            have HR6 := Lib.hid hR6
            clear ho6 hC6 hG6 hw6 hS9 hb6 hG5 r4 r5 ho5 hg5 hat5 hoy hC5 hR5 hR hR6
            go_wp2_with fail
            go_roundw
            case rel => exact ⟨k + 1, _, by omega, by go_num, (by rw [Nat.mul_add]; omega), HR6.out, HC6.out, _, T ++ [(false)], by rw [List.length_append, HTL.out]; rfl, HG6.out, by rw [bls, List.map_append]; exact HO6.out⟩
            case measure => simp [intOf]; omega
    · obtain rfl : k = M.length := by omega
      have hO0 := HO1.out
      have hT16 : T.length ≤ 16 := by omega
      clear hTl HTL
      obtain ⟨aM, cM, rfl⟩ := hoM.form
      rw [List.length_map] at hoM hG
      have hB1 : Below g w w1 := hC1.below (by omega)
      have hBw : Below g w wr := hB1.trans (hCw.below (by omega))
      have hP : Own wr W0.heap.size w1.heap.size 3 (.slice a1 M.length c1) (ints M) := hCw.own hO0 (by omega) (Nat.le_refl _)
      have hrw : Blk wr w.heap.size 28 #[.slice none 0 0, .slice none 0 0] := hCw.blk hr1 (by omega) (by omega)
      have hwz := hCw.size
      have hgl := hG.lt
      clear hO0 hC1 hB1 hCw hr1 HO1 HG HO HRw HCw h1 hlt
      go_wp2_with fail
      refine (pick_any g _ 30 bs _ (by omega) (by omega) hRw).mono ?_
      rintro e w2 ⟨y, rfl, hy0, hy1, h2, hg2, -⟩
      have hG2 := hG.grown hg2 (fun e => by injection e with e; omega)
      have hr2 := hrw.grown hg2 (fun e => by injection e with e; omega)
      have hO2 := hoM.chg hg2 (by omega)
      have hP2 := hP.chg hg2 (by omega)
      have hz2 := hg2.size
      have hB2 : Below g w w2 := hBw.grown hg2 (by have := hBw.size; omega) (fun k hk => by injection hk with hk; omega)
      clear hG hrw hoM hP hBw hg2 hRw hy1
      by_cases h0 : y = 0
      · subst h0
        have r1 : w2.cell? ⟨w1.heap.size, 0, none⟩ = some (.slice a1 M.length c1) := hG2.cell 0
        go_wp2_with fail
        refine (bent_at g _ W0.heap.size w1.heap.size _ _ M bs w2 (by omega) h2 HSM.out (by omega) hP2 (by omega) (by omega)).mono ?_
        rintro e w3 ⟨a', c', M', rfl, hP3, hM', -, hC3⟩
        have hz3 := hC3.size
        have hG3 : Blk w3 w1.heap.size 28 #[.slice a1 M.length c1, .slice aM T.length cM] := (hC3.block _ (by omega) (by omega) (.inr (Nat.le_refl _))).trans hG2
        have hr3 : Blk w3 w.heap.size 28 #[.slice none 0 0, .slice none 0 0] := (hC3.block _ (by omega) (by omega) (.inl (by omega))).trans hr2
        have hO3 : Own w3 (w1.heap.size + 1) wr.heap.size 4 (.slice aM T.length cM) (bls T) := hO2.keep hz3 (fun k hk => hC3.block k (by have := hO2.lt k hk; omega) (by have := hO2.base k hk; omega) (.inr (by have := hO2.base k hk; omega)))
        have hB3 : Below g w w3 := hB2.trans ⟨hC3.os, hC3.tape, hC3.output, hC3.size, fun k hk => hC3.block k (by have := hB2.size; omega) (by omega) (.inl (by omega))⟩
        have r3 : w3.cell? ⟨w1.heap.size, 0, none⟩ = some (.slice a1 M.length c1) := hG3.cell 0
        have f3 : w3.frozen? ⟨w1.heap.size, 0, none⟩ = false := hG3.free 0
        obtain ⟨w4, hw4⟩ : ∃ w4, w4 = w3.setCell ⟨w1.heap.size, 0, none⟩ (.slice a' M'.length c') := ⟨_, rfl⟩
        have hz4 : w4.heap.size = w3.heap.size := by rw [hw4]; simp [World.setCell]
        have hG4 : Blk w4 w1.heap.size 28 #[.slice a' M'.length c', .slice aM T.length cM] := by rw [hw4]; exact hG3.set 0 _
        have hk4 : ∀ k, k ≠ w1.heap.size → w4.heap[k]? = w3.heap[k]? := fun k hk => by rw [hw4]; exact Below.heap_setCell _ _ _ k hk
        have hr4 : Blk w4 w.heap.size 28 #[.slice none 0 0, .slice none 0 0] := (hk4 _ (by omega)).trans hr3
        have hO4 := hO3.keep (w' := w4) (by omega) (fun k hk => hk4 k (by have := hO3.base k hk; omega))
        have hP4 := hP3.keep (w' := w4) (by omega) (fun k hk => hk4 k (hP3.offBlk hG3 (by decide) k hk))
        have hB4 : Below g w w4 := by rw [hw4]; exact hB3.setCell (show g ≤ w1.heap.size by omega) _
        clear hG2 hr2 hO2 hP2 hB2 hC3 hG3 hr3 hO3 hB3 hP3 r1 hk4
        have HO4 := Lib.hid hO4
        have HP4 := Lib.hid hP4
        have HB4 := Lib.hid hB4
        have hM40 := hM'.1
        clear hO4 hP4 hB4 h2 hM'
        go_wp2_with (first
          | (rw [← hw4]; refine wpList_load_row rfl 28 (.tmp 4) rfl w1.heap.size rfl 28 #[.slice a' M'.length c', .slice aM T.length cM] (0, 0) _ hG4 hmu rfl hi2 ?_)
          | (refine wpList_store_row rfl 28 (.tmp 2) (.tmp 64) rfl w.heap.size rfl #[.slice a' M'.length c', .slice aM T.length cM] rfl 28 _ hr4 hi2 rfl (by simp [Value.oneCell']) ?_))
        refine bodyPost_ret (results_cell_row rfl _ _ w.heap.size 28 #[.slice a' M'.length c', .slice aM T.length cM] (0, 0) _ rfl hr4.row hmu rfl hi2) rfl ?_
        exact ⟨M', T, a', aM, c', cM, rfl, fin_marked HP4.out HO4.out (by omega) (by omega), by omega, by omega, below_setRow' HB4.out (by omega) _⟩
      · have e0 : (y == (0 : Int)) = false := beq_eq_false_iff_ne.2 h0
        by_cases h1 : y = 1
        · subst h1
          have r1 : w2.cell? ⟨w1.heap.size, 1, none⟩ = some (.slice aM T.length cM) := hG2.cell 1
          have r1a : ∀ o, (w2.alloc o).cell? ⟨w1.heap.size, 1, none⟩ = some (.slice aM T.length cM) := fun o => cell_alloc r1
          have hlT : (bls T).length = T.length := by simp
          have HO2 := Lib.hid hO2
          have HP2 := Lib.hid hP2
          have HB2 := Lib.hid hB2
          have HL := Lib.hid hlT
          clear hO2 hP2 hB2 h2 hlT
          go_wp2_with (first
            | (at_builtin; refine wpList_append_o _ rfl (.tmp 60) (.tmp 61) 23 rfl (w1.heap.size + 1) wr.heap.size 4 ib (.bool false) 1 Try.underlying23 hib hx0 hx1 hx2 rfl _ (bls T) rfl (HO2.out.alloc _) (w2.heap.size + 1) (some ⟨w2.heap.size, 0, none⟩) 1 1 [.bool true] rfl (Rd.one w2 _ _) rfl (by simp; rfl) (by rw [HL.out]; unfold maxLen; omega) (by rw [HL.out]; omega) (by simp; omega) ?_
               intro v' w3 ho3 hg3 hat3
               obtain ⟨T', hT'⟩ : ∃ T', T' = T ++ [true] := ⟨_, rfl⟩
               have hTb : bls T ++ [.bool true] = bls T' := by rw [hT', bls, bls, List.map_append]; rfl
               have hTl' : T'.length = T.length + 1 := by rw [hT', List.length_append]; rfl
               have HTL' := Lib.hid hTl'
               rw [hTb] at ho3
               have hform : ∃ av cv, v' = .slice av T'.length cv := by
                 obtain ⟨a, c, h⟩ := ho3.form
                 exact ⟨a, c, by rw [h]; simp⟩
               obtain ⟨av, cv, rfl⟩ := hform
               clear hT' hTb hTl'
               have hcz : (w2.alloc (.cells #[.bool true] 4)).heap.size = w2.heap.size + 1 := by simp
               have hs3 := hg3.size
               have hG3 := (hG2.alloc (.cells #[.bool true] 4)).grown hg3 (fun e => by have := HO2.out.base _ e.symm; omega)
               have hr3 := (hr2.alloc (.cells #[.bool true] 4)).grown hg3 (fun e => by have := HO2.out.base _ e.symm; omega)
               have hP3 := (HP2.out.alloc (.cells #[.bool true] 4)).keep hs3 (fun k hk => hg3.block k (by have := HP2.out.lt k hk; omega) (fun e => by have := HP2.out.lt k hk; have := HO2.out.base _ e.symm; omega))
               have hB3 : Below g w w3 := (HB2.out.alloc (by have := HB2.out.size; omega) (.cells #[.bool true] 4)).grown hg3 (by have := HB2.out.size; omega) (fun k hk => by have := HO2.out.base k hk; omega)
               have r3 : w3.cell? ⟨w1.heap.size, 1, none⟩ = some (.slice aM T.length cM) := hG3.cell 1
               have f3 : w3.frozen? ⟨w1.heap.size, 1, none⟩ = false := hG3.free 1
               obtain ⟨w4, hw4⟩ : ∃ w4, w4 = w3.setCell ⟨w1.heap.size, 1, none⟩ (.slice av T'.length cv) := ⟨_, rfl⟩
               have hz4 : w4.heap.size = w3.heap.size := by rw [hw4]; simp [World.setCell]
               have hG4 : Blk w4 w1.heap.size 28 #[.slice a1 M.length c1, .slice av T'.length cv] := by rw [hw4]; exact hG3.set 1 _
               have hk4 : ∀ k, k ≠ w1.heap.size → w4.heap[k]? = w3.heap[k]? := fun k hk => by rw [hw4]; exact Below.heap_setCell _ _ _ k hk
               have hr4 : Blk w4 w.heap.size 28 #[.slice none 0 0, .slice none 0 0] := (hk4 _ (by omega)).trans hr3
               have HO4 := Lib.hid (ho3.keep (w' := w4) (by omega) (fun k hk => hk4 k (by have := ho3.base k hk; omega)))
               have HP4 := Lib.hid (hP3.keep (w' := w4) (by omega) (fun k hk => hk4 k (by have := hP3.lt k hk; omega)))
               have HB4 : Hid (Below g w w4) := Lib.hid (by rw [hw4]; exact hB3.setCell (show g ≤ w1.heap.size by omega) _)
               clear hG3 hr3 hP3 hB3 hk4 ho3 hg3 hat3 hcz r1a)
            | (rw [← hw4]; refine wpList_load_row rfl 28 (.tmp 4) rfl w1.heap.size rfl 28 #[.slice a1 M.length c1, .slice av T'.length cv] (0, 0) _ hG4 hmu rfl hi2 ?_)
            | (refine wpList_store_row rfl 28 (.tmp 2) (.tmp 64) rfl w.heap.size rfl #[.slice a1 M.length c1, .slice av T'.length cv] rfl 28 _ hr4 hi2 rfl (by simp [Value.oneCell']) ?_))
          refine bodyPost_ret (results_cell_row rfl _ _ w.heap.size 28 #[.slice a1 M.length c1, .slice av T'.length cv] (0, 0) _ rfl hr4.row hmu rfl hi2) rfl ?_
          exact ⟨M, T', a1, av, c1, cv, rfl, fin_marked HP4.out HO4.out (by omega) (by omega), by omega, by have := HTL'.out; omega, below_setRow' HB4.out (by omega) _⟩
        · have e1 : (y == (1 : Int)) = false := beq_eq_false_iff_ne.2 h1
          have HO4 := Lib.hid hO2
          have HP4 := Lib.hid hP2
          have HB4 := Lib.hid hB2
          clear hO2 hP2 hB2 h2
          go_wp2_with (first
            | (refine wpList_load_row rfl 28 (.tmp 4) rfl w1.heap.size rfl 28 #[.slice a1 M.length c1, .slice aM T.length cM] (0, 0) _ hG2 hmu rfl hi2 ?_)
            | (refine wpList_store_row rfl 28 (.tmp 2) (.tmp 64) rfl w.heap.size rfl #[.slice a1 M.length c1, .slice aM T.length cM] rfl 28 _ hr2 hi2 rfl (by simp [Value.oneCell']) ?_))
          refine bodyPost_ret (results_cell_row rfl _ _ w.heap.size 28 #[.slice a1 M.length c1, .slice aM T.length cM] (0, 0) _ rfl hr2.row hmu rfl hi2) rfl ?_
          exact ⟨M, T, a1, aM, c1, cM, rfl, fin_marked HP4.out HO4.out (by omega) (by omega), by omega, by omega, below_setRow' HB4.out (by omega) _⟩
end Go.Proofs.Ytbbbfaollcklkaa
