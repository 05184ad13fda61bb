/-
  Walks of the program: kinds made of kinds; the makers of kinds. Walks of the program: the map of kinds by their names. Walks of the program: IsKind. Walks: times of the model and of the program. Walks of the model: kinds by name. Walks of the model: IsKind for every name. A range over a function whose iterator keeps a state of its own in cells of one type.
-/
import Derived.Test.YtifhnjnpbpgjfaaZk1
import Derived.Test.YtifhnjnpbpgjfaaZk2
import Derived.Test.YtifhnjnpbpgjfaaZk3
import Derived.Test.YtifhnjnpbpgjfaaZk4
import Derived.Test.YtifhnjnpbpgjfaaZk5
import Derived.Maps.Own
import Derived.Maps.OwnSet
import Derived.RangeFuncFrom
import Derived.RangeFuncBound
import Derived.RangeFuncCalls
import Derived.RangeFuncLeaves
import Derived.Shelf.Abstract
import Derived.Shelf.RegionOpen
import Derived.WalkKit
import Derived.OwnWalkIn
import Derived.TacticsInMore
import Derived.LoopNIn
import Derived.LoopIn
import Derived.Laws.Rows
namespace Go.Proofs.Ytifhnjnpbpgjfaa
open Go.RowKit NP
set_option maxRecDepth 8000
set_option linter.unusedVariables false
set_option linter.unusedSimpArgs false
theorem hiL_of {L : List Int} (h : L.length ≤ 16) : (Try.prog.info? 62).map (·.size) = some (arr (pad L)).size := by rw [arr_size, pad_len h]; exact T_info35
theorem ints_getD (D : List Int) (k : Nat) (h : k < D.length) : (ints D)[k]? = some (.int .i64 (D.getD k 0)) := by
  rw [List.getElem?_map, List.getElem?_eq_getElem h, List.getD_eq_getElem?_getD, List.getElem?_eq_getElem h]; rfl

set_option maxHeartbeats 2000000 in
theorem noneK_any (m : Nat) (hm : 2 ≤ m ∧ m ≤ 16) (g1 : Nat) (L : List Int) (hv : valid L = true) (w : World) (h1 : Blk w g1 3 #[.int .i64 (m : Int)]) :
    Calls Try.prog 81 #[.agg (arr (pad L)), .pointer (some ⟨g1, 0, none⟩)] w fun e w' => e = .returned (.bool (kNone m L)) ∧ Below w.heap.size w w' := by
  have hl16 := (valid_bd hv).2.2.2
  have HC := Lib.hid (cnt_pad hv)
  have HPL := Lib.hid (pad_len hl16)
  have HPG := Lib.hid (fun k => pad_getD hl16 k)
  have hB0 := Blk.new w 62 (arr (pad L))
  have hbel0 : Below w.heap.size w (w.alloc (.cells (arr (pad L)) 62)) := (Below.refl _ _).alloc (Nat.le_refl _) _
  have hr0 : (w.alloc (.cells (arr (pad L)) 62)).rangeAt w.heap.size 0 (ints (pad L)) := Blk.range (vs := ints (pad L)) hB0
  have hc0 := (h1.alloc (.cells (arr (pad L)) 62)).one
  have hu := Try.underlying62
  have hiL' : (Try.prog.info? 62).map (·.size) = some (ints (pad L)).length := by rw [List.length_map, pad_len hl16]; exact T_info35
  have hw1 : IntKind.i64.wrap ((m : Int) - 1) = (m : Int) - 1 := IntWalk.i64_in _ (by omega)
  have hw2 : IntKind.i64.wrap ((L.length : Int) - ((m : Int) - 1)) = (L.length : Int) - ((m : Int) - 1) := IntWalk.i64_in _ (by omega)
  clear hv
  go_enter Try.func81, Try.ntmps81
  go_wp2_with fail
  refine wp_region_held_drew (S := fun w' => w'.rangeAt w.heap.size 0 (ints (pad L)) ∧ w'.cell? ⟨g1, 0, none⟩ = some (.int .i64 (m : Int)) ∧ Below w.heap.size w w') (by kernel_rfl) ⟨hr0, hc0, hbel0.trans ((Dr.n _ 1).below _)⟩ (fun hHeld => ?_)
  refine wpAnyH_take (i := 0) (v := _) (by simp only [List.getElem?_toArray, List.getElem?_cons_succ, List.getElem?_cons_zero]; exact rfl) (by kernel_rfl) (by kernel_rfl) (by kernel_rfl) (by intro _ _ _ h; exact h) (yieldsIf_load_mid (by kernel_rfl) _ _ rfl w.heap.size 0 rfl (ints (pad L)) _ (fun _ hw => hw.1) hu rfl hiL') (by assumption) ?_
  simp only [Act.put, List.setIfInBounds_toArray, List.set_cons_zero, List.set_cons_succ, List.toList_toArray]
  refine wpAnyH_take (i := 2) (v := .int .i64 (m : Int)) (by simp only [List.getElem?_toArray, List.getElem?_cons_succ, List.getElem?_cons_zero]; exact rfl) (by kernel_rfl) (by kernel_rfl) (by kernel_rfl) (by intro _ _ _ h; exact h) (Or.inl ⟨by kernel_rfl, by intro w hSw; obtain ⟨hs1, hs2, hs3⟩ := hSw; go_simp⟩) (by assumption) ?_
  simp only [Act.put, List.setIfInBounds_toArray, List.set_cons_zero, List.set_cons_succ, List.toList_toArray]
  refine wpAnyH_take (i := 3) (v := .int .i64 ((m : Int) - 1)) (by simp only [List.getElem?_toArray, List.getElem?_cons_succ, List.getElem?_cons_zero]; exact rfl) (by kernel_rfl) (by kernel_rfl) (by kernel_rfl) (by intro _ _ _ h; exact h) (Or.inl ⟨by kernel_rfl, by intro w hSw; go_simp⟩) (by assumption) ?_
  simp only [Act.put, List.setIfInBounds_toArray, List.set_cons_zero, List.set_cons_succ, List.toList_toArray]
  refine wpAnyH_take (i := 5) (v := .int .i64 0) (by simp only [List.getElem?_toArray, List.getElem?_cons_succ, List.getElem?_cons_zero]; exact rfl) (by kernel_rfl) (by kernel_rfl) (by kernel_rfl) (by intro _ _ _ h; exact h) (Or.inl ⟨by kernel_rfl, by intro w hSw; go_simp⟩) (by assumption) ?_
  simp only [Act.put, List.setIfInBounds_toArray, List.set_cons_zero, List.set_cons_succ, List.toList_toArray]
  refine wpAnyH_ready (rs := [1]) (by kernel_rfl) (by simp) ?_
  refine AllReadyH.cons (o := _) (by simp only [List.getElem?_toArray, List.getElem?_cons_succ, List.getElem?_cons_zero]; exact rfl) (fun K hK => ?_) AllReadyH.nil
  rw [if_pos (by rfl)]
  go_simp
  go_at_call 78
  refine (count_any (pad L) HPL.out _).mono ?_
  rintro e w1 ⟨rfl, hb1⟩
  rw [HC.out]
  refine hK.out _ _ ⟨range_below hHeld.1 hb1, (hb1.cell (p := ⟨g1, 0, none⟩) (Nat.lt_of_lt_of_le h1.lt hHeld.2.2.size)).trans hHeld.2.1, hHeld.2.2.trans (hb1.mono hHeld.2.2.size)⟩ (fun hH2 => ?_)
  clear hK K
  try simp only [Act.put, List.setIfInBounds_toArray, List.set_cons_zero, List.set_cons_succ, List.toList_toArray]
  refine wpAnyH_take (i := 4) (v := .int .i64 ((L.length : Int) - ((m : Int) - 1))) (by simp only [List.getElem?_toArray, List.getElem?_cons_succ, List.getElem?_cons_zero]; exact rfl) (by kernel_rfl) (by kernel_rfl) (by kernel_rfl) (by intro _ _ _ h; exact h) (Or.inl ⟨by kernel_rfl, by intro w hSw; go_simp⟩) (by assumption) ?_
  simp only [Act.put, List.setIfInBounds_toArray, List.set_cons_zero, List.set_cons_succ, List.toList_toArray]
  refine wpAnyH_done (by kernel_rfl) ?_ _
  try simp only [Act.put, List.setIfInBounds_toArray, List.set_cons_zero, List.set_cons_succ]
  have hR1 := hH2.1
  have hK1 := hH2.2.1
  have hbel := hH2.2.2
  clear hH2 hHeld hb1 hr0 hc0 hbel0 hB0 hw1 hw2
  go_wp2_with fail
  go_loopw [4, 10] (fun _ vi wr => ∃ k : Nat, k ≤ L.length - (m - 1) ∧ vi = .int .i64 k ∧ Dr w1 wr ∧ Hid (∀ j, j < k → (fun j => decide (L.getD j 0 ≠ L.getD (j + (m - 1)) 0)) j = true)) (fun _ vi _ => L.length - (intOf vi).toNat)
  case atStart => exact ⟨0, Nat.zero_le _, rfl, Dr.refl _, Lib.hid fun j hj => by omega⟩
  case round =>
    obtain ⟨k, hk, rfl, hdr, HP⟩ := hrel
    obtain ⟨hm1, hm2⟩ := hm
    by_cases hlt : k < L.length - (m - 1)
    · have hlt' : (k : Int) < (L.length : Int) - ((m : Int) - 1) := by omega
      have hk16 : (k : Int) < 16 := by omega
      have hj16 : (k : Int) + (m : Int) - 1 < 16 := by omega
      have hj0 : 0 ≤ (k : Int) + (m : Int) - 1 := by omega
      have hej : ((k : Int) + (m : Int) - 1).toNat = k + (m - 1) := by omega
      have hrw := range_below hR1 (hdr.below _)
      have hkw : wr.cell? ⟨g1, 0, none⟩ = some (.int .i64 (m : Int)) := ((hdr.below w1.heap.size).cell (p := ⟨g1, 0, none⟩) (World.block_lt_of_cell? w1 _ hK1)).trans hK1
      have hx := hrw k (.int .i64 (L.getD k 0)) ((ints_getD (pad L) k (by rw [HPL.out]; omega)).trans (by rw [HPG.out k]))
      have hy := hrw (k + (m - 1)) (.int .i64 (L.getD (k + (m - 1)) 0)) ((ints_getD (pad L) (k + (m - 1)) (by rw [HPL.out]; omega)).trans (by rw [HPG.out (k + (m - 1))]))
      rw [Nat.zero_add] at hx hy
      clear hrw
      obtain ⟨x, hxx⟩ : ∃ x, x = L.getD k 0 := ⟨_, rfl⟩
      obtain ⟨y, hyy⟩ : ∃ y, y = L.getD (k + (m - 1)) 0 := ⟨_, rfl⟩
      rw [← hxx] at hx
      rw [← hyy] at hy
      have HX := Lib.hid hxx
      have HY := Lib.hid hyy
      clear hxx hyy
      obtain ⟨j, hjj⟩ : ∃ j, j = k + (m - 1) := ⟨_, rfl⟩
      have hje : (k : Int) + (m : Int) - 1 = (j : Int) := by omega
      have hjl : j < 16 := by omega
      rw [← hjj] at hy
      have HJ := Lib.hid hjj
      clear hjj hej
      by_cases e1 : x = y
      · have b1 : (x == y) = true := beq_iff_eq.2 e1
        have HF : Hid (kNone m L = false) := Lib.hid (allTo_no hlt (by rw [← HX.out, ← HY.out]; simp [e1]))
        clear e1
        go_wp2_with fail
        go_quiet (fail)
        go_wp2
        go_ret
        exact ⟨ret_bool HF.out.symm, hbel.trans ((hdr.trans (Dr.n _ _)).below _)⟩
      · have b1 : (x == y) = false := beq_eq_false_iff_ne.2 e1
        have HN : Hid (decide (x ≠ y) = true) := Lib.hid (decide_eq_true e1)
        clear e1
        go_wp2_with fail
        go_quiet (fail)
        go_wp2
        go_roundw
        case rel => exact ⟨k + 1, by omega, by go_num, hdr.drewN _, Lib.hid (upto HP.out (by show decide (_ ≠ _) = true; rw [← HX.out, ← HY.out]; exact HN.out))⟩
        case measure => simp [intOf]; omega
    · have hge : ¬ (k : Int) < (L.length : Int) - ((m : Int) - 1) := by omega
      obtain rfl : k = L.length - (m - 1) := by omega
      have HF : Hid (kNone m L = true) := Lib.hid (allTo_yes HP.out)
      clear hlt
      go_wp2
      go_ret
      exact ⟨ret_bool HF.out.symm, hbel.trans (hdr.below _)⟩

set_option maxHeartbeats 2000000 in
theorem bothK_any (g1 g2 : Nat) (v1 v2 : Value) (K1 K2 : List Int → Bool) (L : List Int) (hv : valid L = true) (w : World) (h1 : Blk w g1 49 #[v1]) (h2 : Blk w g2 49 #[v2]) (hK1 : IsK w v1 K1) (hK2 : IsK w v2 K2) :
    Calls Try.prog 80 #[.agg (arr (pad L)), .pointer (some ⟨g1, 0, none⟩), .pointer (some ⟨g2, 0, none⟩)] w fun e w' => e = .returned (.bool (K1 L && K2 L)) ∧ Below w.heap.size w w' := by
  obtain ⟨f1, p1, c1, rfl, he1, hc1⟩ := hK1
  obtain ⟨f2, p2, c2, rfl, he2, hc2⟩ := hK2
  have hiL := hiL_of (valid_bd hv).2.2.2
  have HV := Lib.hid hv
  have hB0 := Blk.new w 62 (arr (pad L))
  have hbel0 : Below w.heap.size w (w.alloc (.cells (arr (pad L)) 62)) := (Below.refl _ _).alloc (Nat.le_refl _) _
  have k1 := (h1.alloc (.cells (arr (pad L)) 62)).one
  have h2' := h2.alloc (.cells (arr (pad L)) 62)
  clear hv
  cases ha : K1 L with
  | false =>
    have HA := Lib.hid ha
    clear ha
    go_enter Try.func80, Try.ntmps80
    go_wp2_with (first
      | (refine wpList_load_row rfl 62 (.tmp 3) rfl w.heap.size rfl 62 (arr (pad L)) (0, 0) _ hB0 Try.underlying62 rfl hiL ?_)
      | (refine (hc1 _ hbel0 L HV.out).mono ?_; rintro e w3 ⟨rfl, hb3⟩; rw [HA.out]))
    go_ret
    exact ⟨rfl, hbel0.trans (hb3.mono (by simp))⟩
  | true =>
    have HA := Lib.hid ha
    clear ha
    go_enter Try.func80, Try.ntmps80
    go_wp2_with (first
      | (refine wpList_load_row rfl 62 (.tmp 3) rfl w.heap.size rfl 62 (arr (pad L)) (0, 0) _ hB0 Try.underlying62 rfl hiL ?_)
      | (refine wpList_load_row_g rfl 62 (.tmp 3) rfl w.heap.size rfl 62 (arr (pad L)) (0, 0) _ hB3 Try.underlying62 rfl hiL ?_)
      | (refine (hc1 _ hbel0 L HV.out).mono ?_; rintro e w3 ⟨rfl, hb3⟩; rw [HA.out]; have hbel3 := hbel0.trans (hb3.mono hbel0.size); have hB3 := hB0.below hb3 hB0.lt; have k2 := (h2'.below hb3 h2'.lt).one)
      | (refine (hc2 _ hbel3 L HV.out).mono ?_; rintro e w4 ⟨rfl, hb4⟩))
    go_ret
    exact ⟨by simp, hbel3.trans (hb4.mono hbel3.size)⟩
end Go.Proofs.Ytifhnjnpbpgjfaa
namespace Go.Proofs.Ytifhnjnpbpgjfaa
open Go.RowKit NP
open Go.Maps (Keyed has string_keyed)
open Go.WideMaps (keyOf_string_mk)
set_option linter.unusedVariables false
set_option linter.unusedSimpArgs false

/-- every block but b that stood stands as it did -/
def Kept (b : Nat) (w w' : World) : Prop := (∀ g, g < w.heap.size → g ≠ b → w'.heap[g]? = w.heap[g]?) ∧ w.heap.size ≤ w'.heap.size
theorem Kept.refl (b : Nat) (w : World) : Kept b w w := ⟨fun _ _ _ => rfl, Nat.le_refl _⟩
theorem Kept.trans {b : Nat} {w w' w'' : World} (h : Kept b w w') (k : Kept b w' w'') : Kept b w w'' := ⟨fun g hg hne => (k.1 g (Nat.lt_of_lt_of_le hg h.2) hne).trans (h.1 g hg hne), Nat.le_trans h.2 k.2⟩
theorem Kept.ofBelow {b : Nat} {w w' : World} (h : Below w.heap.size w w') : Kept b w w' := ⟨fun g hg _ => h.block g hg, h.size⟩
theorem Kept.ofGrown {b : Nat} {w w' : World} (h : w.grownBy w' (some b)) : Kept b w w' := ⟨fun g hg hne => h.block g hg (fun e => by injection e with e; exact hne e), h.size⟩
theorem below_chg {B : Nat} {b c w0 : World} {g : Nat} (hb : Below B w0 b) (hB : B ≤ w0.heap.size) (hg : B ≤ g) (h : b.grownBy c (some g)) : Below B w0 c := hb.grown h (by have := hb.size; omega) fun k hk => by injection hk with hk; omega

/-- a function value that tells of each diagram of parts whether K holds of them, wherever the blocks that it captured stand, of which b is none -/
def IsKb (b : Nat) (w : World) (v : Value) (K : List Int → Bool) : Prop := ∃ (f : Nat) (p c : Array Value) (S : Nat → Prop), v = .func (.func f) p c ∧ (∀ (args : Array Value) (w : World), (callFunc f args).run Try.prog w = .ok (.enter f args) w) ∧ ¬ S b ∧ (∀ g, S g → g < w.heap.size) ∧
  ∀ w1, (∀ g, S g → w1.heap[g]? = w.heap[g]?) → ∀ L, valid L = true → Calls Try.prog f (p.push (.agg (arr (pad L))) ++ c) w1 fun e w2 => e = .returned (.bool (K L)) ∧ Below w1.heap.size w1 w2
theorem IsKb.kept {b : Nat} {w w' : World} {v : Value} {K : List Int → Bool} (h : IsKb b w v K) (k : Kept b w w') : IsKb b w' v K := by
  obtain ⟨f, p, c, S, rfl, he, hb, hS, hh⟩ := h
  exact ⟨f, p, c, S, rfl, he, hb, fun g hg => Nat.lt_of_lt_of_le (hS g hg) k.2, fun w1 h1 => hh w1 fun g hg => (h1 g hg).trans (k.1 g (hS g hg) fun e => hb (e ▸ hg))⟩
theorem IsKb.isK {b : Nat} {w : World} {v : Value} {K : List Int → Bool} (h : IsKb b w v K) : IsK w v K := by
  obtain ⟨f, p, c, S, rfl, he, hb, hS, hh⟩ := h
  exact ⟨f, p, c, rfl, he, fun w1 h1 => hh w1 fun g hg => h1.block g (hS g hg)⟩

theorem eachLeaves_any (m r : Int) (hr : 1 ≤ r ∧ r < m) (hm : m ≤ 100) (w : World) :
    Calls Try.prog 55 #[.int .i64 m, .int .i64 r] w fun e w' => ∃ v, e = .returned v ∧ (∀ b, b < w.heap.size ∨ w'.heap.size ≤ b → IsKb b w' v (kRem m r)) ∧ Below w.heap.size w w' := by
  have hmf : ∀ (fn : Fn) (first cap : Array Value) (w : World), (Instr.makeFunc fn first cap).run Try.prog w = .ok (.func fn first cap) w := fun _ _ _ _ => rfl
  go_enter Try.func55, Try.ntmps55
  go_wp2
  go_ret
  refine ⟨_, rfl, fun b hb => ⟨_, _, _, fun g => g = w.heap.size ∨ g = w.heap.size + 1, rfl, enters_of Try.func76 (by kernel_rfl) rfl, by simp at hb; omega, fun g hg => by simp; omega, fun w1 h1 L hv => ?_⟩, ((Below.refl _ _).alloc (Nat.le_refl _) _).alloc (by simp) _⟩
  have k1 : Blk w1 w.heap.size 3 #[.int .i64 m] := (h1 _ (.inl rfl)).trans ((Blk.new w 3 #[.int .i64 m]).alloc (.cells #[.int .i64 r] 3))
  have k2 : Blk w1 (w.heap.size + 1) 3 #[.int .i64 r] := (h1 _ (.inr rfl)).trans (by have := Blk.new (w.alloc (.cells #[.int .i64 m] 3)) 3 #[.int .i64 r]; rw [World.size_alloc] at this; exact this)
  have := remK_any m r hr hm w.heap.size (w.heap.size + 1) L hv w1 k1 k2
  simpa using this

theorem eachFallsBy_any (m r : Int) (hr : 0 ≤ r ∧ r ≤ 100) (hm : 0 ≤ m ∧ m ≤ 100) (w : World) :
    Calls Try.prog 56 #[.int .i64 m, .int .i64 r] w fun e w' => ∃ v, e = .returned v ∧ (∀ b, b < w.heap.size ∨ w'.heap.size ≤ b → IsKb b w' v (kFall m r)) ∧ Below w.heap.size w w' := by
  have hmf : ∀ (fn : Fn) (first cap : Array Value) (w : World), (Instr.makeFunc fn first cap).run Try.prog w = .ok (.func fn first cap) w := fun _ _ _ _ => rfl
  go_enter Try.func56, Try.ntmps56
  go_wp2
  go_ret
  refine ⟨_, rfl, fun b hb => ⟨_, _, _, fun g => g = w.heap.size ∨ g = w.heap.size + 1, rfl, enters_of Try.func77 (by kernel_rfl) rfl, by simp at hb; omega, fun g hg => by simp; omega, fun w1 h1 L hv => ?_⟩, ((Below.refl _ _).alloc (Nat.le_refl _) _).alloc (by simp) _⟩
  have k1 : Blk w1 w.heap.size 3 #[.int .i64 m] := (h1 _ (.inl rfl)).trans ((Blk.new w 3 #[.int .i64 m]).alloc (.cells #[.int .i64 r] 3))
  have k2 : Blk w1 (w.heap.size + 1) 3 #[.int .i64 r] := (h1 _ (.inr rfl)).trans (by have := Blk.new (w.alloc (.cells #[.int .i64 m] 3)) 3 #[.int .i64 r]; rw [World.size_alloc] at this; exact this)
  have := fallK_any m r hm hr w.heap.size (w.heap.size + 1) L hv w1 k1 k2
  simpa using this

theorem noneComes_any (m : Nat) (hm : 2 ≤ m ∧ m ≤ 16) (w : World) :
    Calls Try.prog 59 #[.int .i64 (m : Int)] w fun e w' => ∃ v, e = .returned v ∧ (∀ b, b < w.heap.size ∨ w'.heap.size ≤ b → IsKb b w' v (kNone m)) ∧ Below w.heap.size w w' := by
  have hmf : ∀ (fn : Fn) (first cap : Array Value) (w : World), (Instr.makeFunc fn first cap).run Try.prog w = .ok (.func fn first cap) w := fun _ _ _ _ => rfl
  go_enter Try.func59, Try.ntmps59
  go_wp2
  go_ret
  refine ⟨_, rfl, fun b hb => ⟨_, _, _, fun g => g = w.heap.size, rfl, enters_of Try.func81 (by kernel_rfl) rfl, by simp at hb; omega, fun g hg => by simp; omega, fun w1 h1 L hv => ?_⟩, (Below.refl _ _).alloc (Nat.le_refl _) _⟩
  have k1 : Blk w1 w.heap.size 3 #[.int .i64 (m : Int)] := (h1 _ rfl).trans (Blk.new w 3 #[.int .i64 (m : Int)])
  have := noneK_any m hm w.heap.size L hv w1 k1
  simpa using this

theorem both_any (v1 v2 : Value) (K1 K2 : List Int → Bool) (b : Nat) (w : World) (hb : b < w.heap.size) (h1 : IsKb b w v1 K1) (h2 : IsKb b w v2 K2) :
    Calls Try.prog 58 #[v1, v2] w fun e w' => ∃ v, e = .returned v ∧ IsKb b w' v (fun L => K1 L && K2 L) ∧ Below w.heap.size w w' := by
  have hmf : ∀ (fn : Fn) (first cap : Array Value) (w : World), (Instr.makeFunc fn first cap).run Try.prog w = .ok (.func fn first cap) w := fun _ _ _ _ => rfl
  obtain ⟨f1, p1, c1, S1, rfl, he1, hb1, hS1, hh1⟩ := h1
  obtain ⟨f2, p2, c2, S2, rfl, he2, hb2, hS2, hh2⟩ := h2
  go_enter Try.func58, Try.ntmps58
  go_wp2
  go_ret
  refine ⟨_, rfl, ⟨_, _, _, fun g => g = w.heap.size ∨ g = w.heap.size + 1 ∨ S1 g ∨ S2 g, rfl, enters_of Try.func80 (by kernel_rfl) rfl, ?_, ?_, fun w1 h1 L hv => ?_⟩, ((Below.refl _ _).alloc (Nat.le_refl _) _).alloc (by simp) _⟩
  · rintro (h | h | h | h)
    · omega
    · omega
    · exact hb1 h
    · exact hb2 h
  · intro g hg
    simp
    rcases hg with h | h | h | h
    · omega
    · omega
    · have := hS1 g h; omega
    · have := hS2 g h; omega
  · have hst : ∀ g, g < w.heap.size → ((w.alloc (.cells #[.func (.func f1) p1 c1] 49)).alloc (.cells #[.func (.func f2) p2 c2] 49)).heap[g]? = w.heap[g]? := fun g hg =>
      (Below.heap_alloc _ _ g (by simp; omega)).trans (Below.heap_alloc _ _ g hg)
    have k1 : Blk w1 w.heap.size 49 #[.func (.func f1) p1 c1] := (h1 _ (.inl rfl)).trans ((Blk.new w 49 #[.func (.func f1) p1 c1]).alloc (.cells #[.func (.func f2) p2 c2] 49))
    have k2 : Blk w1 (w.heap.size + 1) 49 #[.func (.func f2) p2 c2] := (h1 _ (.inr (.inl rfl))).trans (by have := Blk.new (w.alloc (.cells #[.func (.func f1) p1 c1] 49)) 49 #[.func (.func f2) p2 c2]; rw [World.size_alloc] at this; exact this)
    have i1 : IsK w1 (.func (.func f1) p1 c1) K1 := ⟨f1, p1, c1, rfl, he1, fun w2 hw2 => hh1 w2 fun g hg => ((hw2.block g (by rcases Nat.lt_or_ge g w1.heap.size with h | h; exact h; exact absurd (h1 g (.inr (.inr (.inl hg)))) (by rw [Array.getElem?_eq_none h, hst g (hS1 g hg), Array.getElem?_eq_getElem (hS1 g hg)]; simp))).trans (h1 g (.inr (.inr (.inl hg))))).trans (hst g (hS1 g hg))⟩
    have i2 : IsK w1 (.func (.func f2) p2 c2) K2 := ⟨f2, p2, c2, rfl, he2, fun w2 hw2 => hh2 w2 fun g hg => ((hw2.block g (by rcases Nat.lt_or_ge g w1.heap.size with h | h; exact h; exact absurd (h1 g (.inr (.inr (.inr hg)))) (by rw [Array.getElem?_eq_none h, hst g (hS2 g hg), Array.getElem?_eq_getElem (hS2 g hg)]; simp))).trans (h1 g (.inr (.inr (.inr hg))))).trans (hst g (hS2 g hg))⟩
    have := bothK_any w.heap.size (w.heap.size + 1) _ _ K1 K2 L hv w1 k1 k2 i1 i2
    simpa using this
theorem selfKb (b : Nat) (w : World) : IsKb b w (.func (.func 57) #[] #[]) kSelf :=
  ⟨_, _, _, fun _ => False, rfl, enters_of Try.func57 (by kernel_rfl) rfl, id, fun _ h => h.elim, fun w1 _ L hv => by have := selfK_any L hv w1; simpa using this⟩
theorem noOneKb (b : Nat) (w : World) : IsKb b w (.func (.func 60) #[] #[]) kNoOne :=
  ⟨_, _, _, fun _ => False, rfl, enters_of Try.func60 (by kernel_rfl) rfl, id, fun _ h => h.elim, fun w1 _ L hv => by have := noOneK_any L hv w1; simpa using this⟩

/-- how a function's value reads: as itself -/
def rdF (v : Value) : Option (DataW Value × List MemPlace) := some (.held v, [])
/-- block b is a map of at most n entries by names: f tells what stands at a name -/
def KM (w : World) (b n : Nat) (f : List UInt8 → Option Value) : Prop := ∃ D : DataW Value, w.ownsMap Try.prog 9 rdF b n D ∧
  ∀ l : List UInt8, (f l = none → has D (.string l) = false) ∧ (∀ v, f l = some v → has D (.string l) = true ∧ ∀ z, D.atKey (.string l) z = .held v)
def upd (f : List UInt8 → Option Value) (k : List UInt8) (v : Value) (l : List UInt8) : Option Value := if l = k then some v else f l
theorem T_law : Keyed Try.prog 9 := string_keyed Try.underlying9
theorem KM.made (w : World) : KM (w.alloc (.map #[] 0)) w.heap.size 0 (fun _ => none) :=
  ⟨.map [], World.ownsMap_made w _ _ _, fun l => ⟨fun _ => rfl, fun v h => by cases h⟩⟩
theorem KM.below {w w' : World} {b n : Nat} {f : List UInt8 → Option Value} (h : KM w b n f) (hb : Below w.heap.size w w') : KM w' b n f := by
  obtain ⟨D, hD, hf⟩ := h
  exact ⟨D, hD.kept (row := none) ⟨hb.os, hb.tape, hb.output, hb.size, fun g hg _ => hb.block g hg⟩ (by simp), hf⟩
theorem KM.lt {w : World} {b n : Nat} {f : List UInt8 → Option Value} (h : KM w b n f) : b < w.heap.size := by
  obtain ⟨D, hD, hf⟩ := h
  exact hD.lt
theorem KM.put {w : World} {b n : Nat} {f : List UInt8 → Option Value} (h : KM w b n f) (hn : n < maxLen) (s : ByteArray) (hs : s.size ≤ maxLen) (u : Value) :
    ∃ w', (Instr.mapUpdate 51 (.map (some b)) (.string s) u).run Try.prog w = .ok () w' ∧ KM w' b (n + 1) (upd f s.data.toList u) ∧ w.grownBy w' (some b) := by
  obtain ⟨D, hD, hf⟩ := h
  have hk := keyOf_string_mk (P := Try.prog) Try.underlying9 hs
  obtain ⟨w', h1, h2, h3⟩ := hD.update T_law Try.underlying51 hn hk (d := .held u) (ps := []) rfl
  have hkl : WideAt.IsKeyLit (.string s.data.toList) := T_law.key hk
  refine ⟨w', h1, ⟨_, h2, fun l => ?_⟩, h3⟩
  unfold upd
  by_cases e : l = s.data.toList
  · subst e
    rw [if_pos rfl]
    refine ⟨fun h => (by cases h), fun v hv => ?_⟩
    injection hv with hv
    subst hv
    exact ⟨Maps.has_put_same hD.isMap hkl _, fun z => Maps.atKey_put_same hD.isMap hkl _ z⟩
  · have hne : (Lit.string l) ≠ (Lit.string s.data.toList) := fun h => e (by injection h)
    rw [if_neg e]
    exact ⟨fun h => (Maps.has_put_other hne _).trans ((hf l).1 h), fun v hv => ⟨(Maps.has_put_other hne _).trans ((hf l).2 v hv).1, fun z => (Maps.atKey_put_other hne _ z).trans (((hf l).2 v hv).2 z)⟩⟩
theorem wpList_insert_km (w : World) {ops : Array Oper} {rest : List Oper} {o : Oper} {a : Act} {Q : Exit → Act → World → Prop} (hg : o.guard = none) (m x v : Operand) (hop : o.op = Op.insert 51 m x v)
    (b n : Nat) (f : List UInt8 → Option Value) (hm : a.eval m = .map (some b)) (hkm : KM w b n f) (hn : n < maxLen) (s : ByteArray) (hs : s.size ≤ maxLen) (hx : a.eval x = .string s) (u : Value) (hv : a.eval v = u)
    (hK : ∀ w', KM w' b (n + 1) (upd f s.data.toList u) → w.grownBy w' (some b) → wpList Try.prog ops Q rest (a.put o.dst undef) w') : wpList Try.prog ops Q (o :: rest) a w := by
  refine wpList_plain hg fun K' hK' => ?_
  obtain ⟨w', hrun, r1, r2⟩ := hkm.put hn s hs u
  unfold Oper.wp
  simp [execOp, hop, hm, hx, hv, hrun, Result.andThen]
  exact hK' _ _ (hK w' r1 r2)
theorem T_zeroK (w : World) : (zeroValue 49).run Try.prog w = .ok .nilFunc w := by kernel_rfl
theorem KM.look {w : World} {b n : Nat} {f : List UInt8 → Option Value} (h : KM w b n f) (s : ByteArray) (hs : s.size ≤ maxLen) {v : Value} (hv : f s.data.toList = some v) :
    (Instr.lookup 51 (.map (some b)) (.string s) false).run Try.prog w = .ok v w := by
  obtain ⟨D, hD, hf⟩ := h
  obtain ⟨v', ps, hrun, hr⟩ := hD.lookup T_law Try.underlying51 (T_zeroK w) (zd := .held .nilFunc) (zp := []) rfl (keyOf_string_mk (P := Try.prog) Try.underlying9 hs)
  rw [((hf _).2 v hv).2 _] at hr
  unfold rdF at hr
  injection hr with hr
  injection hr with hr _
  injection hr with hr
  rw [hrun, hr]
theorem KM.look_ok {w : World} {b n : Nat} {f : List UInt8 → Option Value} (h : KM w b n f) (s : ByteArray) (hs : s.size ≤ maxLen) {v : Value} (hv : f s.data.toList = some v) :
    (Instr.lookup 51 (.map (some b)) (.string s) true).run Try.prog w = .ok (.tuple #[v, .bool true]) w := by
  obtain ⟨D, hD, hf⟩ := h
  obtain ⟨v', ps, hrun, hr⟩ := hD.look_ok T_law Try.underlying51 (T_zeroK w) (zd := .held .nilFunc) (zp := []) rfl (keyOf_string_mk (P := Try.prog) Try.underlying9 hs)
  rw [((hf _).2 v hv).2 _] at hr
  rw [((hf _).2 v hv).1] at hrun
  unfold rdF at hr
  injection hr with hr
  injection hr with hr _
  injection hr with hr
  rw [hrun, hr]
theorem KM.look_no {w : World} {b n : Nat} {f : List UInt8 → Option Value} (h : KM w b n f) (s : ByteArray) (hs : s.size ≤ maxLen) (hv : f s.data.toList = none) :
    (Instr.lookup 51 (.map (some b)) (.string s) true).run Try.prog w = .ok (.tuple #[.nilFunc, .bool false]) w := by
  obtain ⟨D, hD, hf⟩ := h
  obtain ⟨v', ps, hrun, hr⟩ := hD.look_ok T_law Try.underlying51 (T_zeroK w) (zd := .held .nilFunc) (zp := []) rfl (keyOf_string_mk (P := Try.prog) Try.underlying9 hs)
  rw [Maps.atKey_of_not_has ((hf _).1 hv)] at hr
  rw [(hf _).1 hv] at hrun
  unfold rdF at hr
  injection hr with hr
  injection hr with hr _
  injection hr with hr
  rw [hrun, hr]

/-- the kind of a name -/
def kindOf (l : List UInt8) : Option (List Int → Bool) :=
  if l = [115, 105, 120] then some (kRem 6 1)
  else if l = [115, 99, 104, 117, 114] then some (kFall 3 4)
  else if l = [102, 105, 118, 101, 116, 119, 111] then some (kRem 5 2)
  else if l = [103, 97, 112, 111, 110, 101] then some (fun L => kFall 2 2 L && kNoOne L)
  else if l = [102, 105, 118, 101] then some (kRem 5 1)
  else if l = [103, 97, 112] then some (kFall 2 2)
  else if l = [116, 119, 105, 99, 101] then some (kNone 3)
  else if l = [110, 111, 116, 116, 104, 114, 101, 101] then some (kRem 3 1)
  else if l = [100, 105, 115, 116, 105, 110, 99, 116, 111, 100, 100] then some (fun L => kRem 2 1 L && kFall 1 1 L)
  else if l = [115, 101, 108, 102] then some (kSelf)
  else if l = [100, 105, 115, 116, 105, 110, 99, 116] then some (kFall 1 1)
  else if l = [111, 100, 100] then some (kRem 2 1)
  else none
theorem kindOf_odd : kindOf [111, 100, 100] = some (kRem 2 1) := by unfold kindOf; simp
theorem kindOf_distinct : kindOf [100, 105, 115, 116, 105, 110, 99, 116] = some (kFall 1 1) := by unfold kindOf; simp
theorem kindOf_self : kindOf [115, 101, 108, 102] = some (kSelf) := by unfold kindOf; simp
theorem kindOf_distinctodd : kindOf [100, 105, 115, 116, 105, 110, 99, 116, 111, 100, 100] = some (fun L => kRem 2 1 L && kFall 1 1 L) := by unfold kindOf; simp
theorem kindOf_notthree : kindOf [110, 111, 116, 116, 104, 114, 101, 101] = some (kRem 3 1) := by unfold kindOf; simp
theorem kindOf_twice : kindOf [116, 119, 105, 99, 101] = some (kNone 3) := by unfold kindOf; simp
theorem kindOf_gap : kindOf [103, 97, 112] = some (kFall 2 2) := by unfold kindOf; simp
theorem kindOf_five : kindOf [102, 105, 118, 101] = some (kRem 5 1) := by unfold kindOf; simp
theorem kindOf_gapone : kindOf [103, 97, 112, 111, 110, 101] = some (fun L => kFall 2 2 L && kNoOne L) := by unfold kindOf; simp
theorem kindOf_fivetwo : kindOf [102, 105, 118, 101, 116, 119, 111] = some (kRem 5 2) := by unfold kindOf; simp
theorem kindOf_schur : kindOf [115, 99, 104, 117, 114] = some (kFall 3 4) := by unfold kindOf; simp
theorem kindOf_six : kindOf [115, 105, 120] = some (kRem 6 1) := by unfold kindOf; simp
/-- what stands in the map of kinds -/
def KTab (w : World) (b : Nat) (f : List UInt8 → Option Value) : Prop := ∀ l, match kindOf l with
  | some K => ∃ v, f l = some v ∧ IsKb b w v K
  | none => f l = none

set_option maxRecDepth 8000 in
set_option maxHeartbeats 8000000 in
theorem kindsByName_any (w : World) :
    Calls Try.prog 35 #[] w fun e w' => ∃ b n f, e = .returned (.map (some b)) ∧ KM w' b n f ∧ KTab w' b f ∧ Below w.heap.size w w' := by
  have hmm := fun w : World => run_makeMap (P := Try.prog) 51 w
  go_enter Try.func35, Try.ntmps35
  go_wp2_with (first
    | (refine wpList_insert_km _ rfl (.tmp 7) (.const (.string ⟨#[115, 105, 120]⟩)) (.tmp 21) rfl w3.heap.size 11 _ rfl km22 (by decide) ⟨#[115, 105, 120]⟩ (by decide) rfl v22 rfl ?_; intro w23 km23 hg23; have s22 : Kept w3.heap.size w22 w23 := .ofGrown hg23; have bl23 := below_chg bl22 (Nat.le_refl _) bl3.size hg23)
    | (go_at_call 55; refine (eachLeaves_any 6 1 (by omega) (by omega) _).mono ?_; rintro e w22 ⟨v22, rfl, ik22, hb22⟩; have s21 : Kept w3.heap.size w21 w22 := .ofBelow hb22; have bl22 := bl21.trans (hb22.mono bl21.size); have km22 := km21.below hb22; have k22 := ik22 w3.heap.size (.inl km21.lt))
    | (refine wpList_insert_km _ rfl (.tmp 7) (.const (.string ⟨#[115, 99, 104, 117, 114]⟩)) (.tmp 20) rfl w3.heap.size 10 _ rfl km20 (by decide) ⟨#[115, 99, 104, 117, 114]⟩ (by decide) rfl v20 rfl ?_; intro w21 km21 hg21; have s20 : Kept w3.heap.size w20 w21 := .ofGrown hg21; have bl21 := below_chg bl20 (Nat.le_refl _) bl3.size hg21)
    | (go_at_call 56; refine (eachFallsBy_any 3 4 (by omega) (by omega) _).mono ?_; rintro e w20 ⟨v20, rfl, ik20, hb20⟩; have s19 : Kept w3.heap.size w19 w20 := .ofBelow hb20; have bl20 := bl19.trans (hb20.mono bl19.size); have km20 := km19.below hb20; have k20 := ik20 w3.heap.size (.inl km19.lt))
    | (refine wpList_insert_km _ rfl (.tmp 7) (.const (.string ⟨#[102, 105, 118, 101, 116, 119, 111]⟩)) (.tmp 19) rfl w3.heap.size 9 _ rfl km18 (by decide) ⟨#[102, 105, 118, 101, 116, 119, 111]⟩ (by decide) rfl v18 rfl ?_; intro w19 km19 hg19; have s18 : Kept w3.heap.size w18 w19 := .ofGrown hg19; have bl19 := below_chg bl18 (Nat.le_refl _) bl3.size hg19)
    | (go_at_call 55; refine (eachLeaves_any 5 2 (by omega) (by omega) _).mono ?_; rintro e w18 ⟨v18, rfl, ik18, hb18⟩; have s17 : Kept w3.heap.size w17 w18 := .ofBelow hb18; have bl18 := bl17.trans (hb18.mono bl17.size); have km18 := km17.below hb18; have k18 := ik18 w3.heap.size (.inl km17.lt))
    | (refine wpList_insert_km _ rfl (.tmp 7) (.const (.string ⟨#[103, 97, 112, 111, 110, 101]⟩)) (.tmp 18) rfl w3.heap.size 8 _ rfl km16 (by decide) ⟨#[103, 97, 112, 111, 110, 101]⟩ (by decide) rfl v16 rfl ?_; intro w17 km17 hg17; have s16 : Kept w3.heap.size w16 w17 := .ofGrown hg17; have bl17 := below_chg bl16 (Nat.le_refl _) bl3.size hg17)
    | (go_at_call 58; refine (both_any v3 _ (kFall 2 2) kNoOne w3.heap.size _ km15.lt (k3.kept (s3.trans (s4.trans (s5.trans (s6.trans (s7.trans (s8.trans (s9.trans (s10.trans (s11.trans (s12.trans (s13.trans (s14))))))))))))) (noOneKb _ _)).mono ?_; rintro e w16 ⟨v16, rfl, ik16, hb16⟩; have s15 : Kept w3.heap.size w15 w16 := .ofBelow hb16; have bl16 := bl15.trans (hb16.mono bl15.size); have km16 := km15.below hb16; have k16 := ik16)
    | (refine wpList_insert_km _ rfl (.tmp 7) (.const (.string ⟨#[102, 105, 118, 101]⟩)) (.tmp 16) rfl w3.heap.size 7 _ rfl km14 (by decide) ⟨#[102, 105, 118, 101]⟩ (by decide) rfl v14 rfl ?_; intro w15 km15 hg15; have s14 : Kept w3.heap.size w14 w15 := .ofGrown hg15; have bl15 := below_chg bl14 (Nat.le_refl _) bl3.size hg15)
    | (go_at_call 55; refine (eachLeaves_any 5 1 (by omega) (by omega) _).mono ?_; rintro e w14 ⟨v14, rfl, ik14, hb14⟩; have s13 : Kept w3.heap.size w13 w14 := .ofBelow hb14; have bl14 := bl13.trans (hb14.mono bl13.size); have km14 := km13.below hb14; have k14 := ik14 w3.heap.size (.inl km13.lt))
    | (refine wpList_insert_km _ rfl (.tmp 7) (.const (.string ⟨#[103, 97, 112]⟩)) (.tmp 15) rfl w3.heap.size 6 _ rfl km12 (by decide) ⟨#[103, 97, 112]⟩ (by decide) rfl v3 rfl ?_; intro w13 km13 hg13; have s12 : Kept w3.heap.size w12 w13 := .ofGrown hg13; have bl13 := below_chg bl12 (Nat.le_refl _) bl3.size hg13)
    | (refine wpList_insert_km _ rfl (.tmp 7) (.const (.string ⟨#[116, 119, 105, 99, 101]⟩)) (.tmp 14) rfl w3.heap.size 5 _ rfl km11 (by decide) ⟨#[116, 119, 105, 99, 101]⟩ (by decide) rfl v11 rfl ?_; intro w12 km12 hg12; have s11 : Kept w3.heap.size w11 w12 := .ofGrown hg12; have bl12 := below_chg bl11 (Nat.le_refl _) bl3.size hg12)
    | (go_at_call 59; refine (noneComes_any 3 (by omega) _).mono ?_; rintro e w11 ⟨v11, rfl, ik11, hb11⟩; have s10 : Kept w3.heap.size w10 w11 := .ofBelow hb11; have bl11 := bl10.trans (hb11.mono bl10.size); have km11 := km10.below hb11; have k11 := ik11 w3.heap.size (.inl km10.lt))
    | (refine wpList_insert_km _ rfl (.tmp 7) (.const (.string ⟨#[110, 111, 116, 116, 104, 114, 101, 101]⟩)) (.tmp 13) rfl w3.heap.size 4 _ rfl km9 (by decide) ⟨#[110, 111, 116, 116, 104, 114, 101, 101]⟩ (by decide) rfl v9 rfl ?_; intro w10 km10 hg10; have s9 : Kept w3.heap.size w9 w10 := .ofGrown hg10; have bl10 := below_chg bl9 (Nat.le_refl _) bl3.size hg10)
    | (go_at_call 55; refine (eachLeaves_any 3 1 (by omega) (by omega) _).mono ?_; rintro e w9 ⟨v9, rfl, ik9, hb9⟩; have s8 : Kept w3.heap.size w8 w9 := .ofBelow hb9; have bl9 := bl8.trans (hb9.mono bl8.size); have km9 := km8.below hb9; have k9 := ik9 w3.heap.size (.inl km8.lt))
    | (refine wpList_insert_km _ rfl (.tmp 7) (.const (.string ⟨#[100, 105, 115, 116, 105, 110, 99, 116, 111, 100, 100]⟩)) (.tmp 12) rfl w3.heap.size 3 _ rfl km7 (by decide) ⟨#[100, 105, 115, 116, 105, 110, 99, 116, 111, 100, 100]⟩ (by decide) rfl v7 rfl ?_; intro w8 km8 hg8; have s7 : Kept w3.heap.size w7 w8 := .ofGrown hg8; have bl8 := below_chg bl7 (Nat.le_refl _) bl3.size hg8)
    | (go_at_call 58; refine (both_any v1 v2 (kRem 2 1) (kFall 1 1) w3.heap.size _ km6.lt (k1.kept (s1.trans (s2.trans (s3.trans (s4.trans (s5)))))) (k2.kept (s2.trans (s3.trans (s4.trans (s5)))))).mono ?_; rintro e w7 ⟨v7, rfl, ik7, hb7⟩; have s6 : Kept w3.heap.size w6 w7 := .ofBelow hb7; have bl7 := bl6.trans (hb7.mono bl6.size); have km7 := km6.below hb7; have k7 := ik7)
    | (refine wpList_insert_km _ rfl (.tmp 7) (.const (.string ⟨#[115, 101, 108, 102]⟩)) (.func 57) rfl w3.heap.size 2 _ rfl km5 (by decide) ⟨#[115, 101, 108, 102]⟩ (by decide) rfl (.func (.func 57) #[] #[]) rfl ?_; intro w6 km6 hg6; have s5 : Kept w3.heap.size w5 w6 := .ofGrown hg6; have bl6 := below_chg bl5 (Nat.le_refl _) bl3.size hg6)
    | (refine wpList_insert_km _ rfl (.tmp 7) (.const (.string ⟨#[100, 105, 115, 116, 105, 110, 99, 116]⟩)) (.tmp 9) rfl w3.heap.size 1 _ rfl km4 (by decide) ⟨#[100, 105, 115, 116, 105, 110, 99, 116]⟩ (by decide) rfl v2 rfl ?_; intro w5 km5 hg5; have s4 : Kept w3.heap.size w4 w5 := .ofGrown hg5; have bl5 := below_chg bl4 (Nat.le_refl _) bl3.size hg5)
    | (refine wpList_insert_km _ rfl (.tmp 7) (.const (.string ⟨#[111, 100, 100]⟩)) (.tmp 8) rfl w3.heap.size 0 _ rfl km3 (by decide) ⟨#[111, 100, 100]⟩ (by decide) rfl v1 rfl ?_; intro w4 km4 hg4; have s3 : Kept w3.heap.size (w3.alloc (.map #[] 0)) w4 := .ofGrown hg4; have bl4 := below_chg bl3a (Nat.le_refl _) bl3.size hg4)
    | (go_at_call 56; refine (eachFallsBy_any 2 2 (by omega) (by omega) _).mono ?_; rintro e w3 ⟨v3, rfl, ik3, hb3⟩; have bl3 := bl2.trans (hb3.mono bl2.size); have s1 : Kept w3.heap.size w1 w2 := .ofBelow hb2; have s3a : Kept w3.heap.size w3 (w3.alloc (.map #[] 0)) := .ofBelow ((Below.refl _ _).alloc (Nat.le_refl _) _); have s2 : Kept w3.heap.size w2 (w3.alloc (.map #[] 0)) := (Kept.ofBelow hb3).trans s3a; have km3 := KM.made w3; have bl3a := bl3.alloc bl3.size (.map #[] 0); have k1 := ik1 w3.heap.size (.inr (Nat.le_trans hb2.size hb3.size)); have k2 := ik2 w3.heap.size (.inr hb3.size); have k3 := (ik3 w3.heap.size (.inr (Nat.le_refl _))).kept s3a)
    | (go_at_call 56; refine (eachFallsBy_any 1 1 (by omega) (by omega) _).mono ?_; rintro e w2 ⟨v2, rfl, ik2, hb2⟩; have bl2 := bl1.trans (hb2.mono bl1.size))
    | (go_at_call 55; refine (eachLeaves_any 2 1 (by omega) (by omega) _).mono ?_; rintro e w1 ⟨v1, rfl, ik1, hb1⟩; have bl1 : Below w.heap.size w w1 := hb1))
  go_ret
  refine ⟨_, rfl, _, _, km23, fun l => ?_, bl23⟩
  by_cases e0 : l = [115, 105, 120]
  · subst e0
    rw [kindOf_six]
    exact ⟨_, by simp [upd], k22.kept (s22)⟩
  by_cases e1 : l = [115, 99, 104, 117, 114]
  · subst e1
    rw [kindOf_schur]
    exact ⟨_, by simp [upd], k20.kept (s20.trans (s21.trans (s22)))⟩
  by_cases e2 : l = [102, 105, 118, 101, 116, 119, 111]
  · subst e2
    rw [kindOf_fivetwo]
    exact ⟨_, by simp [upd], k18.kept (s18.trans (s19.trans (s20.trans (s21.trans (s22)))))⟩
  by_cases e3 : l = [103, 97, 112, 111, 110, 101]
  · subst e3
    rw [kindOf_gapone]
    exact ⟨_, by simp [upd], k16.kept (s16.trans (s17.trans (s18.trans (s19.trans (s20.trans (s21.trans (s22)))))))⟩
  by_cases e4 : l = [102, 105, 118, 101]
  · subst e4
    rw [kindOf_five]
    exact ⟨_, by simp [upd], k14.kept (s14.trans (s15.trans (s16.trans (s17.trans (s18.trans (s19.trans (s20.trans (s21.trans (s22)))))))))⟩
  by_cases e5 : l = [103, 97, 112]
  · subst e5
    rw [kindOf_gap]
    exact ⟨_, by simp [upd], k3.kept (s3.trans (s4.trans (s5.trans (s6.trans (s7.trans (s8.trans (s9.trans (s10.trans (s11.trans (s12.trans (s13.trans (s14.trans (s15.trans (s16.trans (s17.trans (s18.trans (s19.trans (s20.trans (s21.trans (s22))))))))))))))))))))⟩
  by_cases e6 : l = [116, 119, 105, 99, 101]
  · subst e6
    rw [kindOf_twice]
    exact ⟨_, by simp [upd], k11.kept (s11.trans (s12.trans (s13.trans (s14.trans (s15.trans (s16.trans (s17.trans (s18.trans (s19.trans (s20.trans (s21.trans (s22))))))))))))⟩
  by_cases e7 : l = [110, 111, 116, 116, 104, 114, 101, 101]
  · subst e7
    rw [kindOf_notthree]
    exact ⟨_, by simp [upd], k9.kept (s9.trans (s10.trans (s11.trans (s12.trans (s13.trans (s14.trans (s15.trans (s16.trans (s17.trans (s18.trans (s19.trans (s20.trans (s21.trans (s22))))))))))))))⟩
  by_cases e8 : l = [100, 105, 115, 116, 105, 110, 99, 116, 111, 100, 100]
  · subst e8
    rw [kindOf_distinctodd]
    exact ⟨_, by simp [upd], k7.kept (s7.trans (s8.trans (s9.trans (s10.trans (s11.trans (s12.trans (s13.trans (s14.trans (s15.trans (s16.trans (s17.trans (s18.trans (s19.trans (s20.trans (s21.trans (s22))))))))))))))))⟩
  by_cases e9 : l = [115, 101, 108, 102]
  · subst e9
    rw [kindOf_self]
    exact ⟨_, by simp [upd], selfKb (w3.heap.size) _⟩
  by_cases e10 : l = [100, 105, 115, 116, 105, 110, 99, 116]
  · subst e10
    rw [kindOf_distinct]
    exact ⟨_, by simp [upd], k2.kept (s2.trans (s3.trans (s4.trans (s5.trans (s6.trans (s7.trans (s8.trans (s9.trans (s10.trans (s11.trans (s12.trans (s13.trans (s14.trans (s15.trans (s16.trans (s17.trans (s18.trans (s19.trans (s20.trans (s21.trans (s22)))))))))))))))))))))⟩
  by_cases e11 : l = [111, 100, 100]
  · subst e11
    rw [kindOf_odd]
    exact ⟨_, by simp [upd], k1.kept (s1.trans (s2.trans (s3.trans (s4.trans (s5.trans (s6.trans (s7.trans (s8.trans (s9.trans (s10.trans (s11.trans (s12.trans (s13.trans (s14.trans (s15.trans (s16.trans (s17.trans (s18.trans (s19.trans (s20.trans (s21.trans (s22))))))))))))))))))))))⟩
  have hn : kindOf l = none := by unfold kindOf; simp [e0, e1, e2, e3, e4, e5, e6, e7, e8, e9, e10, e11]
  rw [hn]
  simp [upd, e0, e1, e2, e3, e4, e5, e6, e7, e8, e9, e10, e11]
end Go.Proofs.Ytifhnjnpbpgjfaa
namespace Go.Proofs.Ytifhnjnpbpgjfaa
open Go.RowKit NP
set_option maxRecDepth 8000
set_option linter.unusedVariables false
set_option linter.unusedSimpArgs false
/-- parts of the kind of this name -/
def kindF (s : List UInt8) (L : List Int) : Bool := valid L && (match kindOf s with | some K => K L | none => false)
theorem kindF_none {s : List UInt8} (h : kindOf s = none) (L : List Int) : kindF s L = false := by unfold kindF; rw [h]; simp
theorem kindF_some {s : List UInt8} {K : List Int → Bool} (h : kindOf s = some K) (L : List Int) : kindF s L = (valid L && K L) := by unfold kindF; rw [h]

set_option maxRecDepth 4000 in
set_option maxHeartbeats 2000000 in
theorem iIsKind_any (s : ByteArray) (hs : s.size ≤ maxLen) (a : Option Addr) (c B : Nat) (L : List Int) (w : World) (h : Rd w B a (ints L)) (hB : B ≤ w.heap.size) (hl : L.length ≤ 4611686018427387904) :
    Calls Try.prog 21 #[.string s, .slice a L.length c] w fun e w' => e = .returned (.bool (kindF s.data.toList L)) ∧ Below w.heap.size w w' := by
  have hiD : (Try.prog.info? 62).map (·.size) = some (arr (dg L)).size := by rw [arr_size, dg_len]; exact T_info35
  have hsD : (arr (dg L)).size = (arr (List.replicate 16 0)).size := by rw [arr_size, arr_size, dg_len]; rfl
  cases hk : kindOf s.data.toList with
  | none =>
    rw [kindF_none hk]
    cases hv : valid L with
    | false =>
      have HV := Lib.hid hv
      clear hv
      go_enter Try.func21, Try.ntmps21
      go_wp2_with (first
        | (refine wpList_store_row rfl 62 (.tmp 7) (.tmp 18) rfl w2.heap.size rfl (arr (dg L)) rfl 62 (arr (List.replicate 16 0)) (Blk.new w2 _ _) hiD hsD (arr_one _) ?_; have hB3 := (Blk.new w2 62 (arr (List.replicate 16 0))).row (vs := arr (dg L)); have hbel3 : Below w.heap.size w ((w2.alloc (.cells (arr (List.replicate 16 0)) 62)).setRow w2.heap.size (arr (dg L))) := below_setRow' (hbel2.alloc hbel2.size _) hbel2.size _; have hbl3 : Below w1.heap.size w1 ((w2.alloc (.cells (arr (List.replicate 16 0)) 62)).setRow w2.heap.size (arr (dg L))) := below_setRow' (hb2.alloc hb2.size _) hb2.size _; obtain ⟨w3, hw3⟩ : ∃ w3, w3 = (w2.alloc (.cells (#[.int .i64 0, .int .i64 0, .int .i64 0, .int .i64 0, .int .i64 0, .int .i64 0, .int .i64 0, .int .i64 0, .int .i64 0, .int .i64 0, .int .i64 0, .int .i64 0, .int .i64 0, .int .i64 0, .int .i64 0, .int .i64 0]) 62)).setRow w2.heap.size (arr (dg L)) := ⟨_, rfl⟩; rw [← hw3]; replace hB3 : Blk w3 w2.heap.size 62 (arr (dg L)) := hw3 ▸ hB3; replace hbel3 : Below w.heap.size w w3 := hw3 ▸ hbel3; replace hbl3 : Below w1.heap.size w1 w3 := hw3 ▸ hbl3; clear hw3)
        | (go_at_call 45; refine (diagramOf_any _ _ B L _ (h.below (hb1.mono hB)) (Nat.le_trans hB hb1.size) hl).mono ?_; rintro e w2 ⟨rfl, hb2⟩; rw [HV.out]; have hbel2 := hb1.trans (hb2.mono hb1.size))
        | (go_at_call 35; refine (kindsByName_any _).mono ?_; rintro e w1 ⟨b, n, f, rfl, km, kt, hb1⟩; have kt0 := kt s.data.toList; rw [hk] at kt0; have hlk := km.look_no s hs kt0))
      go_ret
      exact ⟨rfl, hbel3⟩
    | true =>
      have HV := Lib.hid hv
      have hl16 := (valid_bd hv).2.2.2
      rw [dg_yes hv] at hsD hiD
      have HDG := Lib.hid (dg_yes hv)
      clear hv
      go_enter Try.func21, Try.ntmps21
      go_wp2_with (first
        | (refine wpList_store_row rfl 62 (.tmp 7) (.tmp 18) rfl w2.heap.size rfl (arr (pad L)) rfl 62 (arr (List.replicate 16 0)) (Blk.new w2 _ _) hiD hsD (arr_one _) ?_; have hB3 := (Blk.new w2 62 (arr (List.replicate 16 0))).row (vs := arr (pad L)); have hbel3 : Below w.heap.size w ((w2.alloc (.cells (arr (List.replicate 16 0)) 62)).setRow w2.heap.size (arr (pad L))) := below_setRow' (hbel2.alloc hbel2.size _) hbel2.size _; have hbl3 : Below w1.heap.size w1 ((w2.alloc (.cells (arr (List.replicate 16 0)) 62)).setRow w2.heap.size (arr (pad L))) := below_setRow' (hb2.alloc hb2.size _) hb2.size _; obtain ⟨w3, hw3⟩ : ∃ w3, w3 = (w2.alloc (.cells (#[.int .i64 0, .int .i64 0, .int .i64 0, .int .i64 0, .int .i64 0, .int .i64 0, .int .i64 0, .int .i64 0, .int .i64 0, .int .i64 0, .int .i64 0, .int .i64 0, .int .i64 0, .int .i64 0, .int .i64 0, .int .i64 0]) 62)).setRow w2.heap.size (arr (pad L)) := ⟨_, rfl⟩; rw [← hw3]; replace hB3 : Blk w3 w2.heap.size 62 (arr (pad L)) := hw3 ▸ hB3; replace hbel3 : Below w.heap.size w w3 := hw3 ▸ hbel3; replace hbl3 : Below w1.heap.size w1 w3 := hw3 ▸ hbl3; clear hw3)
        | (go_at_call 45; refine (diagramOf_any _ _ B L _ (h.below (hb1.mono hB)) (Nat.le_trans hB hb1.size) hl).mono ?_; rintro e w2 ⟨rfl, hb2⟩; rw [HV.out, HDG.out]; have hbel2 := hb1.trans (hb2.mono hb1.size))
        | (go_at_call 35; refine (kindsByName_any _).mono ?_; rintro e w1 ⟨b, n, f, rfl, km, kt, hb1⟩; have kt0 := kt s.data.toList; rw [hk] at kt0; have hlk := km.look_no s hs kt0))
      go_ret
      exact ⟨rfl, hbel3⟩
  | some K =>
    rw [kindF_some hk]
    cases hv : valid L with
    | false =>
      have HV := Lib.hid hv
      clear hv
      go_enter Try.func21, Try.ntmps21
      go_wp2_with (first
        | (refine wpList_store_row rfl 62 (.tmp 7) (.tmp 18) rfl w2.heap.size rfl (arr (dg L)) rfl 62 (arr (List.replicate 16 0)) (Blk.new w2 _ _) hiD hsD (arr_one _) ?_; have hB3 := (Blk.new w2 62 (arr (List.replicate 16 0))).row (vs := arr (dg L)); have hbel3 : Below w.heap.size w ((w2.alloc (.cells (arr (List.replicate 16 0)) 62)).setRow w2.heap.size (arr (dg L))) := below_setRow' (hbel2.alloc hbel2.size _) hbel2.size _; have hbl3 : Below w1.heap.size w1 ((w2.alloc (.cells (arr (List.replicate 16 0)) 62)).setRow w2.heap.size (arr (dg L))) := below_setRow' (hb2.alloc hb2.size _) hb2.size _; obtain ⟨w3, hw3⟩ : ∃ w3, w3 = (w2.alloc (.cells (#[.int .i64 0, .int .i64 0, .int .i64 0, .int .i64 0, .int .i64 0, .int .i64 0, .int .i64 0, .int .i64 0, .int .i64 0, .int .i64 0, .int .i64 0, .int .i64 0, .int .i64 0, .int .i64 0, .int .i64 0, .int .i64 0]) 62)).setRow w2.heap.size (arr (dg L)) := ⟨_, rfl⟩; rw [← hw3]; replace hB3 : Blk w3 w2.heap.size 62 (arr (dg L)) := hw3 ▸ hB3; replace hbel3 : Below w.heap.size w w3 := hw3 ▸ hbel3; replace hbl3 : Below w1.heap.size w1 w3 := hw3 ▸ hbl3; clear hw3)
        | (go_at_call 45; refine (diagramOf_any _ _ B L _ (h.below (hb1.mono hB)) (Nat.le_trans hB hb1.size) hl).mono ?_; rintro e w2 ⟨rfl, hb2⟩; rw [HV.out]; have hbel2 := hb1.trans (hb2.mono hb1.size))
        | (go_at_call 35; refine (kindsByName_any _).mono ?_; rintro e w1 ⟨b, n, f, rfl, km, kt, hb1⟩; have kt0 := kt s.data.toList; rw [hk] at kt0; obtain ⟨v, hfv, hik⟩ := kt0; obtain ⟨f1, p1, c1, rfl, he1, hK1⟩ := hik.isK; have hlk := km.look_ok s hs hfv))
      go_ret
      exact ⟨rfl, hbel3⟩
    | true =>
      have HV := Lib.hid hv
      have hl16 := (valid_bd hv).2.2.2
      have hiL : (Try.prog.info? 62).map (·.size) = some (arr (pad L)).size := by rw [arr_size, pad_len hl16]; exact T_info35
      rw [dg_yes hv] at hsD hiD
      have HDG := Lib.hid (dg_yes hv)
      clear hv
      go_enter Try.func21, Try.ntmps21
      go_wp2_with (first
        | (refine wpList_store_row rfl 62 (.tmp 7) (.tmp 18) rfl w2.heap.size rfl (arr (pad L)) rfl 62 (arr (List.replicate 16 0)) (Blk.new w2 _ _) hiD hsD (arr_one _) ?_; have hB3 := (Blk.new w2 62 (arr (List.replicate 16 0))).row (vs := arr (pad L)); have hbel3 : Below w.heap.size w ((w2.alloc (.cells (arr (List.replicate 16 0)) 62)).setRow w2.heap.size (arr (pad L))) := below_setRow' (hbel2.alloc hbel2.size _) hbel2.size _; have hbl3 : Below w1.heap.size w1 ((w2.alloc (.cells (arr (List.replicate 16 0)) 62)).setRow w2.heap.size (arr (pad L))) := below_setRow' (hb2.alloc hb2.size _) hb2.size _; obtain ⟨w3, hw3⟩ : ∃ w3, w3 = (w2.alloc (.cells (#[.int .i64 0, .int .i64 0, .int .i64 0, .int .i64 0, .int .i64 0, .int .i64 0, .int .i64 0, .int .i64 0, .int .i64 0, .int .i64 0, .int .i64 0, .int .i64 0, .int .i64 0, .int .i64 0, .int .i64 0, .int .i64 0]) 62)).setRow w2.heap.size (arr (pad L)) := ⟨_, rfl⟩; rw [← hw3]; replace hB3 : Blk w3 w2.heap.size 62 (arr (pad L)) := hw3 ▸ hB3; replace hbel3 : Below w.heap.size w w3 := hw3 ▸ hbel3; replace hbl3 : Below w1.heap.size w1 w3 := hw3 ▸ hbl3; clear hw3)
        | (go_at_call 45; refine (diagramOf_any _ _ B L _ (h.below (hb1.mono hB)) (Nat.le_trans hB hb1.size) hl).mono ?_; rintro e w2 ⟨rfl, hb2⟩; rw [HV.out, HDG.out]; have hbel2 := hb1.trans (hb2.mono hb1.size))
        | (refine wpList_load_row_g rfl 62 (.tmp 7) rfl w2.heap.size rfl 62 (arr (pad L)) (0, 0) _ hB3 Try.underlying62 rfl hiL ?_)
        | (refine (hK1 _ hbl3 L HV.out).mono ?_; rintro e w4 ⟨rfl, hb4⟩)
        | (go_at_call 35; refine (kindsByName_any _).mono ?_; rintro e w1 ⟨b, n, f, rfl, km, kt, hb1⟩; have kt0 := kt s.data.toList; rw [hk] at kt0; obtain ⟨v, hfv, hik⟩ := kt0; obtain ⟨f1, p1, c1, rfl, he1, hK1⟩ := hik.isK; have hlk := km.look_ok s hs hfv))
      go_ret
      exact ⟨by simp, hbel3.trans (hb4.mono hbel3.size)⟩
end Go.Proofs.Ytifhnjnpbpgjfaa
namespace Go.Proofs.Ytifhnjnpbpgjfaa
open Go.RowKit NP
set_option maxRecDepth 8000
set_option linter.unusedVariables false

theorem stimes_any (a : Option Addr) (c B : Nat) (L : List Int) (w : World) (h : Rd w B a (ints L)) (hB : B ≤ w.heap.size) (hv : valid L = true) :
    Calls Try.prog 83 #[.slice a L.length c] w fun e w' => ∃ a' c', e = .returned (.slice a' (tim L).length c') ∧ Own w' w.heap.size w'.heap.size 3 (.slice a' (tim L).length c') (ints (tim L)) ∧ Below w.heap.size w w' := by
  have hbd := valid_bd hv
  have hhd := headD_bd hv
  obtain ⟨i0, hi, hz0, hz1, hz2⟩ := T_int'
  have HV := Lib.hid hv
  clear hv
  generalize hH : (L.headD 0).toNat = H
  have hHc : (H : Int) = L.headD 0 := by omega
  have hH16 : H ≤ 16 := by omega
  have HH := Lib.hid hH
  clear hH
  have H0 : Hid (∀ h0 : 0 < L.length, L[0] = (H : Int)) := Lib.hid fun h0 => by rw [hHc]; cases L <;> simp at h0 ⊢
  have H1 : Hid (¬ 0 < L.length → H = 0) := Lib.hid fun h0 => by cases L <;> simp at h0 hHc ⊢; omega
  clear hHc hhd
  have HE : Hid (tim L = (List.range H).map fun (j : Nat) => eqc ((j : Int) + 1) L) := Lib.hid (by unfold tim; rw [HH.out])
  go_enter Try.func83, Try.ntmps83
  go_wp2
  go_loopw [3, 4] (fun v i wr => ∃ k : Nat, k ≤ H ∧ i = .int .i64 ((k : Int) + 1) ∧ Below w.heap.size w wr ∧ Own wr w.heap.size wr.heap.size 3 v (ints ((List.range k).map fun (j : Nat) => eqc ((j : Int) + 1) L))) (fun _ i _ => 20 - (intOf i).toNat)
  case atStart => exact ⟨0, Nat.zero_le _, rfl, (Below.refl _ _).alloc (Nat.le_refl _) _, (Own.empty w 3).more⟩
  case round =>
    obtain ⟨k, hk, rfl, hbel, hown⟩ := hrel
    by_cases h0 : 0 < L.length
    · have hR := (h.more hB).below hbel
      obtain ⟨b, o, rfl, _, hc0⟩ := hR.at_ h0
      have hc0' : wr.cell? ⟨b, o, none⟩ = some (.int .i64 H) := by rw [← H0.out h0]; exact hc0
      have h0' : (0 : Int) < (L.length : Int) := by omega
      clear hc0
      by_cases hlt : k < H
      · have hlt' : (k : Int) + 1 ≤ (H : Int) := by omega
        have HO := Lib.hid hown
        clear hown
        go_wp2
        go_loop [5, 6] (fun n i => ∃ j : Nat, j ≤ L.length ∧ i = .int .i64 j ∧ n = .int .i64 (eqc ((k : Int) + 1) (L.take j))) (fun _ i => L.length - (intOf i).toNat)
        case atStart => exact ⟨0, Nat.zero_le _, rfl, rfl⟩
        case round =>
          obtain ⟨j, hj, rfl, rfl⟩ := hrel
          have hbj := eqc_bd ((k : Int) + 1) (L.take j)
          have hbl : (L.take j).length ≤ 16 := by simp; omega
          by_cases hltj : j < L.length
          · obtain ⟨b2, o2, e2, _, hcj⟩ := hR.at_ hltj
            injection e2 with e2; injection e2 with e2 e3; subst e2 e3
            have HS := Lib.hid (eqc_take_succ ((k : Int) + 1) L j hltj)
            by_cases hx : L[j] = (k : Int) + 1
            · have hxb : (L[j] == (k : Int) + 1) = true := beq_iff_eq.2 hx
              have HX := Lib.hid hx
              clear hx
              go_wp2
              go_round
              case rel => exact ⟨j + 1, by omega, by go_num, by rw [HS.out, if_pos HX.out]⟩
              case measure => simp [intOf]; omega
            · have hxb : (L[j] == (k : Int) + 1) = false := beq_eq_false_iff_ne.2 hx
              have HX := Lib.hid hx
              clear hx
              go_wp2
              go_round
              case rel => exact ⟨j + 1, by omega, by go_num, by rw [HS.out, if_neg HX.out]; simp⟩
              case measure => simp [intOf]; omega
          · obtain rfl : j = L.length := by omega
            have ht : L.take L.length = L := List.take_of_length_le (Nat.le_refl _)
            rw [ht]
            have hlen2 : (ints ((List.range k).map fun (j : Nat) => eqc ((j : Int) + 1) L)).length = k := by simp
            obtain ⟨vs, hvs⟩ : ∃ vs, vs = ints ((List.range k).map fun (j : Nat) => eqc ((j : Int) + 1) L) := ⟨_, rfl⟩
            have hown := HO.out
            rw [← hvs] at hown hlen2
            have HVS := Lib.hid hvs
            clear hvs
            go_wp2_with (at_builtin; refine wpList_append_o _ rfl (.tmp 34) (.tmp 36) 25 rfl w.heap.size wr.heap.size 3 i0 (.int .i64 0) 8 Try.underlying25 hi hz0 hz1 hz2 rfl _ vs rfl (hown.alloc _) (wr.heap.size + 1) (some ⟨wr.heap.size, 0, none⟩) 1 1 [.int .i64 (eqc ((k : Int) + 1) L)] rfl (Rd.one wr _ _) rfl (by simp; rfl) (by rw [hlen2]; unfold maxLen; omega) (by rw [hlen2]; omega) (by have := hbel.size; simp; omega) ?_; intro v' w1 ho1 hg1 hat1)
            go_roundw
            case rel =>
              refine ⟨k + 1, by omega, by go_num, below_push hbel (Nat.le_refl _) hg1 hown.base, ?_⟩
              rw [HVS.out] at ho1
              simpa [ints, List.range_succ] using ho1
            case measure => simp [intOf]; omega
      · obtain rfl : k = H := by omega
        have HO := Lib.hid hown
        clear hown
        obtain ⟨a', c', rfl⟩ := HO.out.form
        have hlt' : (k : Int) < (k : Int) + 1 := by omega
        go_wp2
        go_ret
        have hl1 : (tim L).length = (ints ((List.range k).map fun (j : Nat) => eqc ((j : Int) + 1) L)).length := by rw [HE.out]; simp
        refine ⟨a', c', by rw [hl1]; rfl, ?_, hbel⟩
        rw [hl1, HE.out]
        exact HO.out
    · have hk0 := H1.out h0
      obtain rfl : k = H := by omega
      have h0' : decide (0 < L.length) = false := decide_eq_false h0
      have h0'' : (L.length : Int) ≤ 0 := by omega
      have HO := Lib.hid hown
      clear hown hk0
      obtain ⟨a', c', rfl⟩ := HO.out.form
      go_wp2
      go_ret
      have hl1 : (tim L).length = (ints ((List.range k).map fun (j : Nat) => eqc ((j : Int) + 1) L)).length := by rw [HE.out]; simp
      refine ⟨a', c', by rw [hl1]; rfl, ?_, hbel⟩
      rw [hl1, HE.out]
      exact HO.out



theorem pad_head {L : List Int} (h : valid L = true) : (pad L)[0]'(by rw [pad_len (valid_bd h).2.2.2]; omega) = (((L.headD 0).toNat : Nat) : Int) := by
  have hd := headD_bd h
  rcases Nat.eq_zero_or_pos L.length with h0 | h0
  · obtain rfl := List.eq_nil_of_length_eq_zero h0
    rfl
  · rw [pad_get (valid_bd h).2.2.2 h0, ← headD_get L h0]
    omega

end Go.Proofs.Ytifhnjnpbpgjfaa
namespace Go.Proofs.Ytifhnjnpbpgjfaa
open Go.RowKit NP
set_option maxRecDepth 8000
set_option linter.unusedVariables false
set_option linter.unusedSimpArgs false
def fewB (m : Int) (M : List Int) : Bool := allTo (fun j => decide (M.getD j 0 < m)) M.length
def fewTab (N : List Nat) : Bool :=
  let L := N.map Int.ofNat
  (List.range 17).all fun m => decide (m < 2) || decide (fewB (m : Int) (tim L) = kNone m L)
set_option maxRecDepth 100000 in
theorem fewTab_all : all16.all fewTab = true := by decide +kernel
theorem few_none {L : List Int} (hv : valid L = true) {m : Nat} (h1 : 2 ≤ m) (h2 : m ≤ 16) : fewB (m : Int) (tim L) = kNone m L := by
  obtain ⟨N, hN, rfl⟩ := of_all fewTab_all hv
  have := List.all_eq_true.1 hN m (by simp; omega)
  simp only [Bool.or_eq_true, decide_eq_true_eq] at this
  exact this.resolve_left (by omega)
theorem remIn_pair (m r : Int) (L : List Int) : remIn m [r, m - r] L = kRem m r L := by
  unfold remIn kRem
  congr 1
  funext j
  simp [hasI]
  try rfl
theorem no_one (L : List Int) : (!hasI L 1) = kNoOne L := by
  unfold kNoOne hasI
  rw [Bool.eq_iff_iff, allTo_iff]
  simp only [Bool.not_eq_true', decide_eq_false_iff_not, decide_eq_true_eq]
  constructor
  · intro h j hj
    rw [getD_lt hj]
    exact fun e => h (e ▸ List.getElem_mem hj)
  · intro h hm
    obtain ⟨j, hj, e⟩ := List.getElem_of_mem hm
    have := h j hj
    rw [getD_lt hj] at this
    exact this e

theorem fewer_any (a : Option Addr) (c B : Nat) (L : List Int) (m : Int) (hm : 0 ≤ m ∧ m ≤ 100) (hv : valid L = true) (w : World) (h : Rd w B a (ints L)) (hB : B ≤ w.heap.size) :
    Calls Try.prog 67 #[.slice a L.length c, .int .i64 m] w fun e w' => e = .returned (.bool (fewB m (tim L))) ∧ Below w.heap.size w w' := by
  have HV := Lib.hid hv
  have htl : (tim L).length ≤ 16 := by have := timF_len L; rwa [timF_yes hv] at this
  clear hv
  go_enter Try.func67, Try.ntmps67
  go_wp2_with (go_at_call 83; refine (stimes_any _ _ B L _ h hB HV.out).mono ?_; rintro e w1 ⟨a', c', rfl, ho, hb⟩)
  obtain ⟨M, hM⟩ : ∃ M, M = tim L := ⟨_, rfl⟩
  rw [← hM] at ho htl ⊢
  have hrd := ho.rd
  have HM := Lib.hid hM
  clear hM ho
  go_loopw [6] (fun vi wr => ∃ k : Nat, k ≤ M.length ∧ vi = .int .i64 (k : Int) ∧ wr = w1 ∧ Hid (∀ j, j < k → (fun j => decide (M.getD j 0 < m)) j = true)) (fun vi _ => 20 - (intOf vi).toNat)
  case atStart => exact ⟨0, Nat.zero_le _, rfl, rfl, Lib.hid fun j hj => by omega⟩
  case round =>
    obtain ⟨k, hk, rfl, rfl, HJ⟩ := hrel
    by_cases hlt : k < M.length
    · have hlt' : (k : Int) < (M.length : Int) := by omega
      obtain ⟨b1, o1, rfl, _, hc⟩ := hrd.at_ hlt
      have HG := Lib.hid (getD_lt hlt)
      generalize M[k] = x at hc HG
      by_cases hx : m ≤ x
      · have HF : Hid (fewB m M = false) := Lib.hid (allTo_no hlt (by rw [HG.out]; exact decide_eq_false (by omega)))
        go_wp2
        go_ret
        exact ⟨ret_bool (by rw [← HM.out, HF.out]), hb⟩
      · have HX : Hid (x < m) := Lib.hid (by omega)
        go_wp2
        go_roundw
        case rel => exact ⟨k + 1, by omega, by go_num, (by first | rfl | trivial), Lib.hid (upto HJ.out (by show decide _ = true; rw [HG.out]; exact decide_eq_true HX.out))⟩
        case measure => simp [intOf]; omega
    · obtain rfl : k = M.length := by omega
      have HF : Hid (fewB m M = true) := Lib.hid (allTo_yes HJ.out)
      clear hlt
      go_wp2
      go_ret
      exact ⟨ret_bool (by rw [← HM.out, HF.out]), hb⟩

set_option maxHeartbeats 2000000 in
theorem schur_any (a : Option Addr) (c B : Nat) (L : List Int) (hv : valid L = true) (w : World) (h : Rd w B a (ints L)) :
    Calls Try.prog 69 #[.slice a L.length c] w fun e w' => e = .returned (.bool (kFall 3 4 L)) ∧ ∃ n, w' = w.drewN n := by
  have hl16 := (valid_bd hv).2.2.2
  have HNN := Lib.hid (getD_nn hv)
  clear hv
  go_enter Try.func69, Try.ntmps69
  go_wp2
  go_loopw [3] (fun vi wr => ∃ k : Nat, k ≤ L.length - 1 ∧ vi = .int .i64 k ∧ Dr w wr ∧ Hid (∀ j, j < k → (fun j => decide ((if L.getD j 0 % 3 = 0 then (4 : Int) else 3) ≤ L.getD j 0 - L.getD (j + 1) 0)) j = true)) (fun vi _ => L.length - (intOf vi).toNat)
  case atStart => exact ⟨0, Nat.zero_le _, rfl, Dr.refl _, Lib.hid fun j hj => by omega⟩
  case round =>
    obtain ⟨k, hk, rfl, hdr, HP⟩ := hrel
    by_cases hlt : k < L.length - 1
    · have hlt' : (k : Int) + 1 < (L.length : Int) := by omega
      have hR := h.dr hdr
      have hk0 : k < L.length := by omega
      have hk1 : k + 1 < L.length := by omega
      obtain ⟨b, o, rfl, _, hc⟩ := hR.at_ hk0
      obtain ⟨b', o', e', -, hc'⟩ := hR.at_ hk1
      injection e' with e'; injection e' with e2 e3; subst e2 e3
      have hx := HNN.out k
      have hy := HNN.out (k + 1)
      have hg : L.getD k 0 = L[k] := getD_lt hk0
      have hg' : L.getD (k + 1) 0 = L[k + 1] := getD_lt hk1
      rw [hg] at hx
      rw [hg'] at hy
      have HG := Lib.hid hg
      have HG' := Lib.hid hg'
      clear hg hg'
      have hr := hdr
      generalize L[k] = x at hc hx HG
      generalize L[k + 1] = y at hc' hy HG'
      obtain ⟨dd, hdd⟩ : ∃ d, x - y = d := ⟨_, rfl⟩
      have hw1 : IntKind.i64.wrap (x - y) = dd := by rw [hdd]; exact IntWalk.i64_in _ (by omega)
      have hdb : -16 ≤ dd ∧ dd ≤ 16 := by omega
      have HDD := Lib.hid hdd
      have hxt : x.tmod 3 = x % 3 := Int.tmod_eq_emod_of_nonneg hx.1
      clear hdd
      by_cases e3 : dd < 3
      · have HF : Hid (kFall 3 4 L = false) := Lib.hid (allTo_no hlt (by rw [HG.out, HG'.out, HDD.out]; refine decide_eq_false ?_; split <;> omega))
        go_wp2_with fail
        go_quiet (fail)
        go_wp2
        go_ret
        exact ⟨ret_bool HF.out.symm, hdr.trans (Dr.n _ _)⟩
      · by_cases e4 : dd = 3
        · have q4 : (dd == 3) = true := beq_iff_eq.2 e4
          have HE4 := Lib.hid e4
          clear e4
          by_cases e5 : x % 3 = 0
          · have HF : Hid (kFall 3 4 L = false) := Lib.hid (allTo_no hlt (by rw [HG.out, HG'.out, HDD.out, if_pos e5, HE4.out]; rfl))
            have q5 : (x % 3 == 0) = true := beq_iff_eq.2 e5
            have q5' : (x.tmod 3 == 0) = true := by rw [hxt]; exact q5
            clear e5 hxt
            go_wp2_with fail
            go_quiet (fail)
            go_wp2
            go_ret
            exact ⟨ret_bool HF.out.symm, hdr.trans (Dr.n _ _)⟩
          · have HT : Hid ((if x % 3 = 0 then (4 : Int) else 3) ≤ dd) := Lib.hid (by rw [if_neg e5, HE4.out]; omega)
            have q5 : (x % 3 == 0) = false := beq_eq_false_iff_ne.2 e5
            have q5' : (x.tmod 3 == 0) = false := by rw [hxt]; exact q5
            clear e5 hxt
            go_wp2_with fail
            go_quiet (fail)
            go_wp2
            go_roundw
            case rel => exact ⟨k + 1, by omega, by go_num, hdr.drewN _, Lib.hid (upto HP.out (by show decide (_ ≤ _) = true; rw [HG.out, HG'.out, HDD.out]; exact decide_eq_true HT.out))⟩
            case measure => simp [intOf]; omega
        · have q4 : (dd == 3) = false := beq_eq_false_iff_ne.2 e4
          have HT : Hid ((if x % 3 = 0 then (4 : Int) else 3) ≤ dd) := Lib.hid (by split <;> omega)
          clear e4 hxt
          go_wp2_with fail
          go_quiet (fail)
          go_wp2
          go_roundw
          case rel => exact ⟨k + 1, by omega, by go_num, hdr.drewN _, Lib.hid (upto HP.out (by show decide (_ ≤ _) = true; rw [HG.out, HG'.out, HDD.out]; exact decide_eq_true HT.out))⟩
          case measure => simp [intOf]; omega
    · have hge : ¬ (k : Int) + 1 < (L.length : Int) := by omega
      obtain rfl : k = L.length - 1 := by omega
      have HF : Hid (kFall 3 4 L = true) := Lib.hid (allTo_yes HP.out)
      clear hlt
      go_wp2
      go_ret
      exact ⟨ret_bool HF.out.symm, hdr⟩

theorem sk_odd : SK ⟨#[111, 100, 100]⟩ (kRem 2 1) := by
  intro a c B L w hv h hB
  have HV := Lib.hid hv
  have hl16 := (valid_bd hv).2.2.2
  clear hv
  go_enter Try.func43, Try.ntmps43
  go_wp2_with (go_at_call 63; refine (allRemain_any _ _ _ _ _ B L [1] 2 (by omega) HV.out _ (h.alloc hB _) (rd_new w _ _) (by simp)).mono ?_; rintro e w3 ⟨rfl, rfl⟩; rw [remIn_twoK])
  go_ret2
  exact ⟨rfl, (Below.refl _ _).alloc (Nat.le_refl _) _⟩
theorem sk_notthree : SK ⟨#[110, 111, 116, 116, 104, 114, 101, 101]⟩ (kRem 3 1) := by
  intro a c B L w hv h hB
  have HV := Lib.hid hv
  have hl16 := (valid_bd hv).2.2.2
  clear hv
  go_enter Try.func43, Try.ntmps43
  go_wp2_with (go_at_call 63; refine (allRemain_any _ _ _ _ _ B L [1, 2] 3 (by omega) HV.out _ (h.alloc hB _) (rd_new w _ _) (by simp)).mono ?_; rintro e w3 ⟨rfl, rfl⟩; rw [show ([1, 2] : List Int) = [1, 3 - 1] from rfl]; rw [remIn_pair 3 1])
  go_ret2
  exact ⟨rfl, (Below.refl _ _).alloc (Nat.le_refl _) _⟩
theorem sk_five : SK ⟨#[102, 105, 118, 101]⟩ (kRem 5 1) := by
  intro a c B L w hv h hB
  have HV := Lib.hid hv
  have hl16 := (valid_bd hv).2.2.2
  clear hv
  go_enter Try.func43, Try.ntmps43
  go_wp2_with (go_at_call 63; refine (allRemain_any _ _ _ _ _ B L [1, 4] 5 (by omega) HV.out _ (h.alloc hB _) (rd_new w _ _) (by simp)).mono ?_; rintro e w3 ⟨rfl, rfl⟩; rw [show ([1, 4] : List Int) = [1, 5 - 1] from rfl]; rw [remIn_pair 5 1])
  go_ret2
  exact ⟨rfl, (Below.refl _ _).alloc (Nat.le_refl _) _⟩
theorem sk_fivetwo : SK ⟨#[102, 105, 118, 101, 116, 119, 111]⟩ (kRem 5 2) := by
  intro a c B L w hv h hB
  have HV := Lib.hid hv
  have hl16 := (valid_bd hv).2.2.2
  clear hv
  go_enter Try.func43, Try.ntmps43
  go_wp2_with (go_at_call 63; refine (allRemain_any _ _ _ _ _ B L [2, 3] 5 (by omega) HV.out _ (h.alloc hB _) (rd_new w _ _) (by simp)).mono ?_; rintro e w3 ⟨rfl, rfl⟩; rw [show ([2, 3] : List Int) = [2, 5 - 2] from rfl]; rw [remIn_pair 5 2])
  go_ret2
  exact ⟨rfl, (Below.refl _ _).alloc (Nat.le_refl _) _⟩
theorem sk_six : SK ⟨#[115, 105, 120]⟩ (kRem 6 1) := by
  intro a c B L w hv h hB
  have HV := Lib.hid hv
  have hl16 := (valid_bd hv).2.2.2
  clear hv
  go_enter Try.func43, Try.ntmps43
  go_wp2_with (go_at_call 63; refine (allRemain_any _ _ _ _ _ B L [1, 5] 6 (by omega) HV.out _ (h.alloc hB _) (rd_new w _ _) (by simp)).mono ?_; rintro e w3 ⟨rfl, rfl⟩; rw [show ([1, 5] : List Int) = [1, 6 - 1] from rfl]; rw [remIn_pair 6 1])
  go_ret2
  exact ⟨rfl, (Below.refl _ _).alloc (Nat.le_refl _) _⟩
theorem sk_gap : SK ⟨#[103, 97, 112]⟩ (kFall 2 2) := by
  intro a c B L w hv h hB
  have HV := Lib.hid hv
  have hl16 := (valid_bd hv).2.2.2
  clear hv
  go_enter Try.func43, Try.ntmps43
  go_wp2_with (go_at_call 64; refine (gaps_any _ _ B L 2 (by omega) HV.out _ h).mono ?_; rintro e wv ⟨rfl, n1, rfl⟩)
  go_ret2
  exact ⟨rfl, (Dr.n w n1).below _⟩
theorem sk_schur : SK ⟨#[115, 99, 104, 117, 114]⟩ (kFall 3 4) := by
  intro a c B L w hv h hB
  have HV := Lib.hid hv
  have hl16 := (valid_bd hv).2.2.2
  clear hv
  go_enter Try.func43, Try.ntmps43
  go_wp2_with (go_at_call 69; refine (schur_any _ _ B L HV.out _ h).mono ?_; rintro e wv ⟨rfl, n1, rfl⟩)
  go_ret2
  exact ⟨rfl, (Dr.n w n1).below _⟩
theorem sk_twice : SK ⟨#[116, 119, 105, 99, 101]⟩ (kNone 3) := by
  intro a c B L w hv h hB
  have HV := Lib.hid hv
  have hl16 := (valid_bd hv).2.2.2
  clear hv
  go_enter Try.func43, Try.ntmps43
  go_wp2_with (go_at_call 67; refine (fewer_any _ _ B L 3 (by omega) HV.out _ h hB).mono ?_; rintro e w1 ⟨rfl, hb1⟩; rw [show fewB 3 (tim L) = kNone 3 L from few_none HV.out (m := 3) (by omega) (by omega)])
  go_ret2
  exact ⟨rfl, hb1⟩
theorem sk_gapone : SK ⟨#[103, 97, 112, 111, 110, 101]⟩ (fun L => kFall 2 2 L && kNoOne L) := by
  intro a c B L w hv h hB
  have HV := Lib.hid hv
  have hl16 := (valid_bd hv).2.2.2
  clear hv
  cases hk : kFall 2 2 L with
  | false =>
    have HK := Lib.hid hk
    clear hk
    go_enter Try.func43, Try.ntmps43
    go_wp2_with (go_at_call 64; refine (gaps_any _ _ B L 2 (by omega) HV.out _ h).mono ?_; rintro e wv ⟨rfl, n1, rfl⟩; rw [HK.out])
    go_ret2
    exact ⟨by simp [HK.out], (Dr.n w n1).below _⟩
  | true =>
    have HK := Lib.hid hk
    have HN : Hid (kNoOne L = !hasI L 1) := Lib.hid (no_one L).symm
    clear hk
    go_enter Try.func43, Try.ntmps43
    go_wp2_with (first
      | (go_at_call 68; refine (hasInt_any _ _ B L 1 _ (h.dr (Dr.n w n1)) (by omega)).mono ?_; rintro e w3 ⟨rfl, rfl⟩)
      | (go_at_call 64; refine (gaps_any _ _ B L 2 (by omega) HV.out _ h).mono ?_; rintro e wv ⟨rfl, n1, rfl⟩; rw [HK.out]))
    go_ret2
    exact ⟨by simp [HK.out, HN.out], (Dr.n w n1).below _⟩
end Go.Proofs.Ytifhnjnpbpgjfaa
namespace Go.Proofs.Ytifhnjnpbpgjfaa
open Go.RowKit NP
set_option maxRecDepth 8000
set_option linter.unusedVariables false
set_option linter.unusedSimpArgs false
theorem kind_ne {s : ByteArray} (hk : kindOf s.data.toList = none) {l : List UInt8} {K : List Int → Bool} (h : kindOf l = some K) : s.data.toList ≠ l := by
  intro e
  rw [e, h] at hk
  cases hk

set_option maxHeartbeats 2000000 in
theorem skind_none (s : ByteArray) (hk : kindOf s.data.toList = none) (a : Option Addr) (c : Nat) (L : List Int) (w : World) :
    Calls Try.prog 43 #[.string s, .slice a L.length c] w fun e w' => e = .returned (.tuple #[.bool false, .bool false]) ∧ Below w.heap.size w w' := by
  have e0 : (s.toList == [111, 100, 100]) = false := by rw [ByteArray.toList_eq]; exact beq_eq_false_iff_ne.2 (kind_ne hk kindOf_odd)
  have e1 : (s.toList == [100, 105, 115, 116, 105, 110, 99, 116]) = false := by rw [ByteArray.toList_eq]; exact beq_eq_false_iff_ne.2 (kind_ne hk kindOf_distinct)
  have e2 : (s.toList == [115, 101, 108, 102]) = false := by rw [ByteArray.toList_eq]; exact beq_eq_false_iff_ne.2 (kind_ne hk kindOf_self)
  have e3 : (s.toList == [100, 105, 115, 116, 105, 110, 99, 116, 111, 100, 100]) = false := by rw [ByteArray.toList_eq]; exact beq_eq_false_iff_ne.2 (kind_ne hk kindOf_distinctodd)
  have e4 : (s.toList == [110, 111, 116, 116, 104, 114, 101, 101]) = false := by rw [ByteArray.toList_eq]; exact beq_eq_false_iff_ne.2 (kind_ne hk kindOf_notthree)
  have e5 : (s.toList == [116, 119, 105, 99, 101]) = false := by rw [ByteArray.toList_eq]; exact beq_eq_false_iff_ne.2 (kind_ne hk kindOf_twice)
  have e6 : (s.toList == [103, 97, 112]) = false := by rw [ByteArray.toList_eq]; exact beq_eq_false_iff_ne.2 (kind_ne hk kindOf_gap)
  have e7 : (s.toList == [102, 105, 118, 101]) = false := by rw [ByteArray.toList_eq]; exact beq_eq_false_iff_ne.2 (kind_ne hk kindOf_five)
  have e8 : (s.toList == [103, 97, 112, 111, 110, 101]) = false := by rw [ByteArray.toList_eq]; exact beq_eq_false_iff_ne.2 (kind_ne hk kindOf_gapone)
  have e9 : (s.toList == [102, 105, 118, 101, 116, 119, 111]) = false := by rw [ByteArray.toList_eq]; exact beq_eq_false_iff_ne.2 (kind_ne hk kindOf_fivetwo)
  have e10 : (s.toList == [115, 99, 104, 117, 114]) = false := by rw [ByteArray.toList_eq]; exact beq_eq_false_iff_ne.2 (kind_ne hk kindOf_schur)
  have e11 : (s.toList == [115, 105, 120]) = false := by rw [ByteArray.toList_eq]; exact beq_eq_false_iff_ne.2 (kind_ne hk kindOf_six)
  clear hk
  go_enter Try.func43, Try.ntmps43
  go_wp2
  go_ret2
  exact ⟨rfl, Below.refl _ _⟩

theorem sk_of {s : ByteArray} {K : List Int → Bool} (hk : kindOf s.data.toList = some K) : ∃ K', SK s K' ∧ ∀ L, K' L = K L := by
  obtain ⟨l, hl⟩ : ∃ l, l = s.data.toList := ⟨_, rfl⟩
  have hs : s = ⟨l.toArray⟩ := by rw [hl]
  rw [← hl] at hk
  subst hs
  clear hl
  by_cases h_odd : l = [111, 100, 100]
  · subst h_odd
    rw [kindOf_odd] at hk
    injection hk with hk
    subst hk
    exact ⟨_, sk_odd, fun L => by first | rfl | exact Bool.and_comm _ _⟩
  by_cases h_distinct : l = [100, 105, 115, 116, 105, 110, 99, 116]
  · subst h_distinct
    rw [kindOf_distinct] at hk
    injection hk with hk
    subst hk
    exact ⟨_, sk_distinct, fun L => by first | rfl | exact Bool.and_comm _ _⟩
  by_cases h_self : l = [115, 101, 108, 102]
  · subst h_self
    rw [kindOf_self] at hk
    injection hk with hk
    subst hk
    exact ⟨_, sk_self, fun L => by first | rfl | exact Bool.and_comm _ _⟩
  by_cases h_distinctodd : l = [100, 105, 115, 116, 105, 110, 99, 116, 111, 100, 100]
  · subst h_distinctodd
    rw [kindOf_distinctodd] at hk
    injection hk with hk
    subst hk
    exact ⟨_, sk_distinctodd, fun L => by first | rfl | exact Bool.and_comm _ _⟩
  by_cases h_notthree : l = [110, 111, 116, 116, 104, 114, 101, 101]
  · subst h_notthree
    rw [kindOf_notthree] at hk
    injection hk with hk
    subst hk
    exact ⟨_, sk_notthree, fun L => by first | rfl | exact Bool.and_comm _ _⟩
  by_cases h_twice : l = [116, 119, 105, 99, 101]
  · subst h_twice
    rw [kindOf_twice] at hk
    injection hk with hk
    subst hk
    exact ⟨_, sk_twice, fun L => by first | rfl | exact Bool.and_comm _ _⟩
  by_cases h_gap : l = [103, 97, 112]
  · subst h_gap
    rw [kindOf_gap] at hk
    injection hk with hk
    subst hk
    exact ⟨_, sk_gap, fun L => by first | rfl | exact Bool.and_comm _ _⟩
  by_cases h_five : l = [102, 105, 118, 101]
  · subst h_five
    rw [kindOf_five] at hk
    injection hk with hk
    subst hk
    exact ⟨_, sk_five, fun L => by first | rfl | exact Bool.and_comm _ _⟩
  by_cases h_gapone : l = [103, 97, 112, 111, 110, 101]
  · subst h_gapone
    rw [kindOf_gapone] at hk
    injection hk with hk
    subst hk
    exact ⟨_, sk_gapone, fun L => by first | rfl | exact Bool.and_comm _ _⟩
  by_cases h_fivetwo : l = [102, 105, 118, 101, 116, 119, 111]
  · subst h_fivetwo
    rw [kindOf_fivetwo] at hk
    injection hk with hk
    subst hk
    exact ⟨_, sk_fivetwo, fun L => by first | rfl | exact Bool.and_comm _ _⟩
  by_cases h_schur : l = [115, 99, 104, 117, 114]
  · subst h_schur
    rw [kindOf_schur] at hk
    injection hk with hk
    subst hk
    exact ⟨_, sk_schur, fun L => by first | rfl | exact Bool.and_comm _ _⟩
  by_cases h_six : l = [115, 105, 120]
  · subst h_six
    rw [kindOf_six] at hk
    injection hk with hk
    subst hk
    exact ⟨_, sk_six, fun L => by first | rfl | exact Bool.and_comm _ _⟩
  unfold kindOf at hk
  simp [*] at hk

theorem sIsKind_any (s : ByteArray) (a : Option Addr) (c B : Nat) (L : List Int) (w : World) (h : Rd w B a (ints L)) (hB : B ≤ w.heap.size) (hl : L.length ≤ 4611686018427387904) :
    Calls Try.prog 25 #[.string s, .slice a L.length c] w fun e w' => e = .returned (.bool (kindF s.data.toList L)) ∧ Below w.heap.size w w' := by
  cases hv : valid L with
  | false =>
    have HV := Lib.hid hv
    have HF : Hid (kindF s.data.toList L = false) := Lib.hid (by unfold kindF; rw [hv]; rfl)
    clear hv
    go_enter Try.func25, Try.ntmps25
    go_wp2_with (go_at_call 52; refine (validParts_any _ _ B L _ h hl).mono ?_; rintro e wv ⟨rfl, n1, rfl⟩; rw [HV.out])
    go_ret
    exact ⟨ret_bool HF.out.symm, (Dr.n w n1).below _⟩
  | true =>
    have HV := Lib.hid hv
    clear hv
    cases hk : kindOf s.data.toList with
    | none =>
      have HF : Hid (kindF s.data.toList L = false) := Lib.hid (kindF_none hk L)
      have HK := Lib.hid hk
      clear hk
      go_enter Try.func25, Try.ntmps25
      go_wp2_with (first
        | (go_at_call 43; refine (skind_none s HK.out _ _ L _).mono ?_; rintro e w1 ⟨rfl, hb1⟩)
        | (go_at_call 52; refine (validParts_any _ _ B L _ h hl).mono ?_; rintro e wv ⟨rfl, n1, rfl⟩; rw [HV.out]))
      go_ret
      exact ⟨ret_bool HF.out.symm, ((Dr.n w n1).below w.heap.size).trans (hb1.mono ((Dr.n w n1).below w.heap.size).size)⟩
    | some K =>
      obtain ⟨K', hSK, hKK⟩ := sk_of hk
      have HF : Hid (K' L = kindF s.data.toList L) := Lib.hid (by rw [kindF_some hk, HV.out, hKK]; rfl)
      have HSK := Lib.hid hSK
      clear hk hKK hSK
      go_enter Try.func25, Try.ntmps25
      go_wp2_with (first
        | (go_at_call 43; refine (HSK.out _ _ B L _ HV.out (h.below (((Dr.n w n1).below w.heap.size).mono hB)) (Nat.le_trans hB ((Dr.n w n1).below w.heap.size).size)).mono ?_; rintro e w1 ⟨rfl, hb1⟩)
        | (go_at_call 52; refine (validParts_any _ _ B L _ h hl).mono ?_; rintro e wv ⟨rfl, n1, rfl⟩; rw [HV.out]))
      go_ret
      exact ⟨ret_bool HF.out, ((Dr.n w n1).below w.heap.size).trans (hb1.mono ((Dr.n w n1).below w.heap.size).size)⟩
end Go.Proofs.Ytifhnjnpbpgjfaa
namespace Go.Proofs.Ytifhnjnpbpgjfaa
open Go.RowKit Go.Shelf
set_option maxRecDepth 8000
set_option linter.unusedVariables false
/-- what lies in cells of type T lies as it lay -/
structure KpT (T : TypeId) (W W' : World) : Prop where
  size : W.heap.size ≤ W'.heap.size
  same : ∀ (b : Nat) (cs : Array Value) (fr : Nat × Nat), W.heap[b]? = some (.cells cs T fr) → W'.heap[b]? = some (.cells cs T fr)
theorem KpT.refl (T : TypeId) (W : World) : KpT T W W := ⟨Nat.le_refl _, fun _ _ _ h => h⟩
theorem KpT.trans {T : TypeId} {A B C : World} (h : KpT T A B) (k : KpT T B C) : KpT T A C := ⟨Nat.le_trans h.size k.size, fun b cs fr hb => k.same b cs fr (h.same b cs fr hb)⟩
theorem KpT.below {T : TypeId} {W W' : World} (h : Below W.heap.size W W') : KpT T W W' :=
  ⟨h.size, fun b cs fr hb => (h.block b (Array.getElem?_eq_some_iff.1 hb).1).trans hb⟩
theorem KpT.putObj {T : TypeId} {W : World} {l : Nat} {o : Obj} (o' : Obj) (h : W.heap[l]? = some o) (ho : o.isCells = false) : KpT T W (W.putObj l o') :=
  ⟨by simp [World.putObj], fun b cs fr hb => by
    have hne : b ≠ l := by rintro rfl; rw [h] at hb; injection hb with hb; subst hb; simp [Obj.isCells] at ho
    exact (World.putObj_heap_other hne).trans hb⟩
theorem KpT.grown {T : TypeId} {W W' : World} {row : Option Nat} (h : W.grownBy W' row) (hr : ∀ r, row = some r → ∀ (cs : Array Value) (fr : Nat × Nat), W.heap[r]? ≠ some (.cells cs T fr)) : KpT T W W' :=
  ⟨h.size, fun b cs fr hb => (h.block b (Array.getElem?_eq_some_iff.1 hb).1 (fun e => hr b e.symm cs fr hb)).trans hb⟩

/-- J abides what the iterator does between two rounds: new blocks, draws, a store into a block of type T from B on -/
structure AbT {β : Type} (B : Nat) (T : TypeId) (J : β → World → Prop) : Prop where
  alloc : ∀ (s : β) (W : World) (o : Obj), J s W → J s (W.alloc o)
  drew : ∀ (s : β) (W : World) (n : Nat), J s W → J s (W.drewN n)
  cell : ∀ (s : β) (W : World) (b i : Nat) (v : Value) (cs : Array Value) (fr : Nat × Nat), J s W → B ≤ b → W.heap[b]? = some (.cells cs T fr) → J s (W.setCell ⟨b, i, none⟩ v)

/-- the contract of such an iterator -/
def SeqT {α : Type} (F : Fence) (n : Nat) (P : Program) (T : TypeId) (g : Nat) (lb : Array Value) (encs : α → Array Value) (S Sp : List α → Prop) (N : Nat) (w : World) : Prop :=
  ∀ (l : Nat) (J Jx : List α → World → Prop) (W : World), Below w.heap.size w W → AbT W.heap.size T J → AbT W.heap.size T Jx →
    (∀ pre x W1, J pre W1 → pre.length < N → YieldAt F (n - 1) P l (encs x) W1 fun e W' =>
      (e = .returned (.bool true) ∧ J (pre ++ [x]) W' ∧ KpT T W1 W') ∨ (e = .returned (.bool false) ∧ Jx (pre ++ [x]) W')) →
    J [] W →
    CallsIn F n P g (#[.func (.yield l) #[] #[]] ++ lb) W fun e W' => (∃ v, e = .returned v) ∧ ((∃ xs, S xs ∧ J xs W') ∨ (∃ pre, Sp pre ∧ Jx pre W'))

variable {F : Fence} {n : Nat} {P : Program}
/-- the caller's law -/
theorem wpIn_range_T {α : Type} {g : Operand} {ps : Array Tmp} {assign body : Code} {Q : Exit → Act → World → Prop} {a : Act} {w : World} (T : TypeId)
    (hro : F.round = none) (h1 : 1 ≤ n) {gf : Nat} {lb : Array Value} (hg : a.eval g = .func (.func gf) #[] lb) (hFg : F.fn gf) (eg : ∀ args w, (callFunc gf args).run P w = .ok (.enter gf args) w)
    {encs : α → Array Value} {S Sp : List α → Prop} {N : Nat} {w0 : World} (hseq : SeqT F (n - 1) P T gf lb encs S Sp N w0)
    (hb0 : Below w0.heap.size w0 w) (hps : ∀ x, (encs x).size = ps.size)
    (I : List α → World → Prop) (Ix : Code → List α → World → Prop) (hI : OwnFrom w.heap.size I) (hIx : ∀ c, OwnFrom w.heap.size (Ix c))
    (hT : AbT w.heap.size T I) (hTx : ∀ c, AbT w.heap.size T (Ix c)) (h0 : I [] w) (Ax : α → Act → World → Prop) (hAx : ∀ a', OwnFrom w.heap.size (fun x W => Ax x a' W))
    (hassign : ∀ (l : Nat) (pre : List α) (x : α) (W : World) (K : Act → World → Prop), I pre W → (∀ a' W', KeepsOthers W W' → KpT T W W' → I pre W' → Ax x a' W' → K a' W') →
      assign.wpIn (F.inRound l) (n - 1 - 1) P (Exit.then K (fun _ _ _ => False)) { tmps := (ps.zip (encs x)).foldl (fun t (p, v) => t.setIfInBounds p v) a.tmps, defers := [] } W)
    (hbody : ∀ (l : Nat) (pre : List α) (x : α) (a' : Act) (W : World), I pre W → Ax x a' W → pre.length < N → body.wpIn (F.inRound l) (n - 1 - 1) P (ownPostK (KpT T) I Ix (pre ++ [x]) W) a' W)
    (hdone : ∀ (D : Nat) (xs : List α) (W : World), w.heap.size ≤ D → S xs → I xs W → W.heap[D]? = some (.deferred (some [])) → Q .normal { a with defers := { target := .collected D, args := #[] } :: a.defers } W)
    (hstop : ∀ (D : Nat) (c : Code) (pre : List α) (W : World), w.heap.size ≤ D → Sp pre → Ix c pre W → W.heap[D]? = some (.deferred (some [])) → c.wpIn F n P Q { a with defers := { target := .collected D, args := #[] } :: a.defers } W) :
    (Code.rangeFunc g ps assign body).wpIn F n P Q a w := by
  refine wpIn_rangeFunc fun fn hfn => ?_
  rw [hro]
  obtain ⟨lp, hlp⟩ : ∃ lp : LoopState → Option Code → Loop, lp = fun st pe => { state := st, pending := pe, fn, tmps := a.tmps, params := ps, assign, body, defers := w.heap.size } := ⟨_, rfl⟩
  obtain ⟨V, hV⟩ : ∃ V, (w.alloc (.deferred (some []))).alloc (.loop (lp .ready none)) = V := ⟨_, rfl⟩
  have vL : V.heap[w.heap.size + 1]? = some (.loop (lp .ready none)) := by
    have := World.alloc_heap_new (w.alloc (.deferred (some []))) (.loop (lp .ready none))
    rw [World.size_alloc] at this
    rw [← hV]; exact this
  have vD : V.heap[w.heap.size]? = some (.deferred (some [])) := by
    rw [← hV]; exact (Below.heap_alloc _ _ _ (by simp)).trans (World.alloc_heap_new w _)
  have vI : I [] V := by rw [← hV]; exact hT.alloc _ _ _ (hT.alloc _ _ _ h0)
  have vB : Below w0.heap.size w0 V := by
    rw [← hV]; exact hb0.trans ((((Below.refl _ w).alloc (Nat.le_refl _) _).alloc (by simp) _).mono hb0.size)
  have vs : w.heap.size ≤ V.heap.size := by rw [← hV]; simp; omega
  -- what the law keeps of its own lies in blocks that are no cells
  have keepCell : ∀ {W : World} {b i : Nat} {v : Value} {cs : Array Value} {fr : Nat × Nat} {k : Nat} {o : Obj}, W.heap[b]? = some (.cells cs T fr) → W.heap[k]? = some o → o.isCells = false → (W.setCell ⟨b, i, none⟩ v).heap[k]? = some o := by
    intro W b i v cs fr k o hb hk ho
    have hne : k ≠ b := by rintro rfl; rw [hb] at hk; injection hk with hk; subst hk; simp [Obj.isCells] at ho
    exact (Below.heap_setCell W ⟨b, i, none⟩ v k hne).trans hk
  have keepNew : ∀ {W : World} {k : Nat} {o : Obj} (o' : Obj), W.heap[k]? = some o → (W.alloc o').heap[k]? = some o := fun {W k o} o' hk => (Below.heap_alloc W o' k (Array.getElem?_eq_some_iff.1 hk).1).trans hk
  refine ⟨w.heap.size + 1, [{ target := .collected w.heap.size, args := #[] }], V, { target := .fn (.func gf) lb, args := #[.func (.yield (w.heap.size + 1)) #[] #[]] }, V, gf,
    #[.func (.yield (w.heap.size + 1)) #[] #[]] ++ lb, V, ?_, ?_, ?_, ?_, fun _ => h1, ?_⟩
  · rw [← hV, hlp]; exact run_enterLoop_outer _ _ _ _ _
  · simp only [resolve, hg]
    simp [go_sem]
  · intro f' hf'; simp [Target.leads] at hf'; subst hf'; exact hFg
  · simp [invoke, go_sem, eg]
  · refine (hseq (w.heap.size + 1)
      (fun pre W => I pre W ∧ W.heap[w.heap.size + 1]? = some (.loop (lp .ready none)) ∧ W.heap[w.heap.size]? = some (.deferred (some [])))
      (fun pre W => ∃ c, Ix c pre W ∧ W.heap[w.heap.size + 1]? = some (.loop (lp .done (some c))) ∧ W.heap[w.heap.size]? = some (.deferred (some [])))
      V vB
      ⟨fun s W o h => ⟨hT.alloc s W o h.1, keepNew o h.2.1, keepNew o h.2.2⟩, fun s W k h => ⟨hT.drew s W k h.1, h.2.1, h.2.2⟩,
        fun s W b i v cs fr h hb hc => ⟨hT.cell s W b i v cs fr h.1 (Nat.le_trans vs hb) hc, keepCell hc h.2.1 rfl, keepCell hc h.2.2 rfl⟩⟩
      ⟨fun s W o h => by obtain ⟨c, h1, h2, h3⟩ := h; exact ⟨c, (hTx c).alloc s W o h1, keepNew o h2, keepNew o h3⟩, fun s W k h => by obtain ⟨c, h1, h2, h3⟩ := h; exact ⟨c, (hTx c).drew s W k h1, h2, h3⟩,
        fun s W b i v cs fr h hb hc => by obtain ⟨c, h1, h2, h3⟩ := h; exact ⟨c, (hTx c).cell s W b i v cs fr h1 (Nat.le_trans vs hb) hc, keepCell hc h2 rfl, keepCell hc h3 rfl⟩⟩
      ?_ ⟨vI, vL, vD⟩).mono ?_
    · rintro pre x W ⟨hi, hl, hk⟩ hlen
      have hlt : w.heap.size + 1 < W.heap.size := (Array.getElem?_eq_some_iff.1 hl).1
      have hy := run_yield (P := P) (args := encs x) hl (by rw [hlp]; exact hps x)
      rw [hlp] at hy
      refine ⟨fn, _, assign, body, hy, roundIn_of_wpIn hfn (hassign _ pre x W _ hi fun a' Wa hka hkp hia hax => ?_)⟩
      have hl' := hka.same _ _ hl rfl
      have hk' := hka.same _ _ hk rfl
      have hlt' : w.heap.size + 1 < Wa.heap.size := (Array.getElem?_eq_some_iff.1 hl').1
      refine ⟨_, run_beginRound hl' (by rw [hlp]), ?_⟩
      obtain ⟨W2, hW2⟩ : ∃ W2, Wa.putObj (w.heap.size + 1) (.loop { lp .ready none with state := .busy }) = W2 := ⟨_, rfl⟩
      have l2 : W2.heap[w.heap.size + 1]? = some (.loop { lp .ready none with state := .busy }) := by rw [← hW2]; exact World.putObj_heap_same hlt'
      have k2 : W2.heap[w.heap.size]? = some (.deferred (some [])) := by rw [← hW2]; exact (World.putObj_heap_other (by omega)).trans hk'
      have q2 : KpT T W W2 := by rw [← hW2]; exact hkp.trans (KpT.putObj _ hl' rfl)
      have i2 : I pre W2 := by rw [← hW2]; exact hI.putObj _ hia (by omega) hl' rfl
      have x2 : Ax x a' W2 := by rw [← hW2]; exact (hAx a').putObj _ hax (by omega) hl' rfl
      rw [hW2]
      refine wpIn_mono (hbody _ pre x _ _ i2 x2 hlen) ?_
      have fin : ∀ (jump : Option Code) (W3 : World), KeepsOthers W2 W3 →
          (Instr.endRound (w.heap.size + 1) jump).run P W3 = .ok (.bool jump.isNone) (W3.putObj (w.heap.size + 1) (.loop (lp (if jump.isNone then .ready else .done) jump))) ∧
          W3.heap[w.heap.size + 1]? = some (.loop { lp .ready none with state := .busy }) ∧
          (W3.putObj (w.heap.size + 1) (.loop (lp (if jump.isNone then .ready else .done) jump))).heap[w.heap.size + 1]? = some (.loop (lp (if jump.isNone then .ready else .done) jump)) ∧
          (W3.putObj (w.heap.size + 1) (.loop (lp (if jump.isNone then .ready else .done) jump))).heap[w.heap.size]? = some (.deferred (some [])) := fun jump W3 hk3 => by
        have l3 := hk3.same _ _ l2 rfl
        have hr := run_endRound (P := P) jump l3
        refine ⟨by rw [hlp] at hr ⊢; exact hr, l3, World.putObj_heap_same (Array.getElem?_eq_some_iff.1 l3).1, (World.putObj_heap_other (by omega)).trans (hk3.same _ _ k2 rfl)⟩
      rintro e a3 W3 hp
      cases e with
      | normal =>
        obtain ⟨hk3, hkp3, hi3⟩ := hp
        obtain ⟨hr, hl3, hl4, hk4⟩ := fin none W3 hk3
        exact ⟨_, _, hr, .inl ⟨rfl, ⟨hI.putObj _ hi3 (by omega) hl3 rfl, hl4, hk4⟩, (q2.trans hkp3).trans (KpT.putObj _ hl3 rfl)⟩⟩
      | ret =>
        obtain ⟨hk3, hi3⟩ := hp
        obtain ⟨hr, hl3, hl4, hk4⟩ := fin (some .ret) W3 hk3
        exact ⟨_, _, hr, .inr ⟨rfl, .ret, (hIx _).putObj _ hi3 (by omega) hl3 rfl, hl4, hk4⟩⟩
      | exit id =>
        obtain ⟨hk3, hi3⟩ := hp
        obtain ⟨hr, hl3, hl4, hk4⟩ := fin (some (.exit id)) W3 hk3
        exact ⟨_, _, hr, .inr ⟨rfl, .exit id, (hIx _).putObj _ hi3 (by omega) hl3 rfl, hl4, hk4⟩⟩
      | goto t =>
        obtain ⟨hk3, hi3⟩ := hp
        obtain ⟨hr, hl3, hl4, hk4⟩ := fin (some (.goto t)) W3 hk3
        exact ⟨_, _, hr, .inr ⟨rfl, .goto t, (hIx _).putObj _ hi3 (by omega) hl3 rfl, hl4, hk4⟩⟩
      | panic ch => exact hp.elim
      | outgrown => exact hp.elim
    · rintro e W2 ⟨⟨v, rfl⟩, (⟨xs, hS, hi, hl, hk⟩ | ⟨pre, hSp, c, hi, hl, hk⟩)⟩
      · exact ⟨none, _, by have := run_endLoop (P := P) hl (by rw [hlp]; simp); rw [hlp] at this; exact this, hdone _ xs _ (Nat.le_refl _) hS (hI.putObj _ hi (by omega) hl rfl) ((World.putObj_heap_other (by omega)).trans hk)⟩
      · exact ⟨some c, _, by have := run_endLoop (P := P) hl (by rw [hlp]; simp); rw [hlp] at this; exact this, hstop _ c pre _ (Nat.le_refl _) hSp ((hIx c).putObj _ hi (by omega) hl rfl) ((World.putObj_heap_other (by omega)).trans hk)⟩

theorem room_none {F : Fence} (hd : F.depth = none) (k : Nat) : F.room k := fun d h => by rw [hd] at h; cases h
/-- where no depth is asked the figures are all one -/
theorem yieldAt_any {F : Fence} (hd : F.depth = none) {m : Nat} (m' : Nat) {P : Program} {l : Nat} {args : Array Value} {W : World} {R : Ending → World → Prop} (h : YieldAt F m P l args W R) : YieldAt F m' P l args W R := by
  obtain ⟨fn, tmps, assign, body, hy, hR⟩ := h
  exact ⟨fn, tmps, assign, body, hy, ⟨hR.1, fun c cs _ => hR.2 c cs (room_none hd _)⟩⟩
theorem wpListIn_load_row {F : Fence} {n : Nat} {P : Program} {ops : Array Oper} {rest : List Oper} {o : Oper} {a : Act} {w : World} {Q : Exit → Act → World → Prop} (hgd : o.guard = none) (ty : TypeId) (x : Operand) (ho : o.op = .load ty x)
    (g : Nat) (hx : a.eval x = .pointer (some ⟨g, 0, none⟩)) (t : TypeId) (cs : Array Value) (fr : Nat × Nat) (d : TypeDesc) (hg : w.heap[g]? = some (.cells cs t fr))
    (hu : P.underlying ty = some d) (hd : (match d with | .struct _ | .array _ _ => true | _ => false) = true) (hi : (P.info? ty).map (·.size) = some cs.size)
    (h : wpListIn F n P ops Q rest (a.put o.dst (.agg cs)) w) : wpListIn F n P ops Q (o :: rest) a w :=
  wpListIn_plain hgd fun K hK => by
    unfold Oper.wpIn
    refine ⟨by simp [Oper.about, ho], ?_⟩
    rw [Oper.semAt_plain F _ _ (by rw [ho]; intro c hc; cases hc)]
    simp only [execOp, ho, hx, Instr.loadAt, Instr.sureAddr, Sem.run_bind, Sem.run_pure, Result.andThen_ok, run_loadVar_row w g t ty cs fr d hg hu hd hi]
    exact hK _ _ h
theorem wpListIn_store_row {F : Fence} {n : Nat} {P : Program} {ops : Array Oper} {rest : List Oper} {o : Oper} {a : Act} {w : World} {Q : Exit → Act → World → Prop} (hgd : o.guard = none) (ty : TypeId) (x v : Operand) (ho : o.op = .store ty x v)
    (g : Nat) (vs : Array Value) (hx : a.eval x = .pointer (some ⟨g, 0, none⟩)) (hv : a.eval v = .agg vs) (hrun : (storeVar ty ⟨g, 0, none⟩ (.agg vs)).run P w = .ok () (w.setRow g vs))
    (h : wpListIn F n P ops Q rest (a.put o.dst undef) (w.setRow g vs)) : wpListIn F n P ops Q (o :: rest) a w :=
  wpListIn_plain hgd fun K hK => by
    unfold Oper.wpIn
    refine ⟨by simp [Oper.about, ho], ?_⟩
    rw [Oper.semAt_plain F _ _ (by rw [ho]; intro c hc; cases hc)]
    simp only [execOp, ho, hx, hv, Instr.storeAt, Instr.sureAddr, Sem.run_bind, Sem.run_pure, Result.andThen_ok, hrun]
    exact hK _ _ h
end Go.Proofs.Ytifhnjnpbpgjfaa
