/-
  Walks: arms and legs (Frobenius), of the program and of the model.
-/
import Derived.Test.YtdoihndifaebcaaW12
import Derived.Test.YtdoihndifaebcaaM18
namespace Go.Proofs.Ytdoihndifaebcaa
open Go.RowKit NP
set_option linter.unusedVariables false
set_option linter.unusedSimpArgs false

theorem durD_le (D : List Int) : durD D ≤ 16 := (ff_spec (fun (k : Nat) => decide ((k : Int) < D.getD k 0)) 16).1
theorem arms_fill {D : List Int} {n k : Nat} (hk : k < n) : (armsTo D k ++ List.replicate (n - k) 0).set k (D.getD k 0 - ((k : Int) + 1)) = armsTo D (k + 1) ++ List.replicate (n - (k + 1)) 0 := by
  rw [show n - k = (n - (k + 1)) + 1 by omega, List.replicate_succ, List.set_append_right _ _ (by rw [armsTo_len]; omega), armsTo_len, Nat.sub_self, List.set_cons_zero, armsTo_succ]
  simp

theorem Own.aside {w w1 : World} {lo hi : Nat} {e : TypeId} {v v2 : Value} {vs2 : List Value} (h2 : Own w lo hi e v2 vs2) {o : Obj} (hg : (w.alloc o).grownBy w1 v.ownBlock) (hne : ∀ g, v.ownBlock = some g → v2.ownBlock = some g → False) : Own w1 lo hi e v2 vs2 :=
  (h2.alloc o).grown hg (by
    cases h : v2.ownBlock with
    | none => exact .inl rfl
    | some g => exact .inr fun e => hne g e.symm h)
theorem apart_push {w : World} {lo hi n : Nat} {e : TypeId} {v v' v2 : Value} {vs2 : List Value} (h2 : Own w lo hi e v2 vs2) (hne : ∀ g, v.ownBlock = some g → v2.ownBlock = some g → False) (hat : v'.ownBlock = v.ownBlock ∨ v'.ownBlock = some n) (hn : hi ≤ n) : ∀ g, v'.ownBlock = some g → v2.ownBlock = some g → False := fun g h h' => by
  rcases hat with hat | hat
  · exact hne g (hat ▸ h) h'
  · rw [hat] at h
    injection h with h
    have := h2.lt g h'
    omega

theorem arms_any (D : List Int) (hD : D.length = 16) (h0 : ∀ k (h : k < D.length), 0 ≤ D[k] ∧ D[k] ≤ 16) (w : World) :
    Calls Try.prog 103 #[.agg (arr D)] w fun e w' => ∃ a', e = .returned (.slice a' (durD D) (durD D)) ∧ Own w' w.heap.size w'.heap.size 3 (.slice a' (durD D) (durD D)) (ints (armsTo D (durD D))) ∧ Below w.heap.size w w' := by
  have hd16 : 16 ≤ D.length := by omega
  have hn := durD_le D
  have hi16 : (Try.prog.info? 55).map (·.size) = some (arr D).size := by rw [arr_size, hD]; exact T_info35
  obtain ⟨i0, hi, hz0, hz1, hz2⟩ := T_int'
  have hmk := run_make_ints 22 3 i0 Try.underlying22 hi hz0 hz1 hz2 (durD D) (by omega)
  have hb := Blk.new w 55 (arr D)
  have H0 := Lib.hid h0
  have HD := Lib.hid hD
  clear hD h0
  go_enter Try.func103, Try.ntmps103
  go_wp2_with (first
    | (refine wpList_load_row rfl 55 (.tmp 1) rfl w.heap.size rfl 55 (arr D) (0, 0) _ hb Try.underlying55 rfl hi16 ?_)
    | (go_at_call 72; refine (durfee_any D HD.out _).mono ?_; rintro e w1 ⟨rfl, hb1⟩; have hbk := hb.below hb1 (by simp); have hbel : Below w.heap.size w w1 := ((Below.refl _ _).alloc (Nat.le_refl _) _).trans (hb1.mono (by simp)); have hs1 : w.heap.size + 1 ≤ w1.heap.size := (by have := hb1.size; simp at this; omega); clear hb1))
  obtain ⟨n, hnd⟩ : ∃ n, n = durD D := ⟨_, rfl⟩
  rw [← hnd] at hn hmk ⊢
  have HND := Lib.hid hnd
  clear hnd
  go_loopw [4, 10] (fun vp vi wr => ∃ k : Nat, k ≤ n ∧ vi = .int .i64 k ∧ Below w.heap.size w wr ∧ Blk wr w.heap.size 55 (arr D) ∧ Blk wr w1.heap.size 3 (arr (armsTo D k ++ List.replicate (n - k) 0))) (fun _ vi _ => n - (intOf vi).toNat)
  case atStart => exact ⟨0, Nat.zero_le _, rfl, hbel.alloc hbel.size _, hbk.alloc _, Blk.new w1 3 (arr (List.replicate n 0))⟩
  case round =>
    obtain ⟨k, hk, rfl, hbr, hbD, hbA⟩ := hrel
    clear hbel hbk hb
    by_cases hlt : k < n
    · have hk16 : k < 16 := by omega
      have hlt' : (k : Int) < (n : Int) := by omega
      have hk16' : (k : Int) < 16 := by omega
      have hkD : k < D.length := by omega
      have hc1 : wr.cell? ⟨w.heap.size, k, none⟩ = some (.int .i64 (D.getD k 0)) := by rw [hbD.cell k, arr_get D k hkD, getD_lt hkD]
      have hAl : k < (armsTo D k ++ List.replicate (n - k) 0).length := by simp [armsTo_len]; omega
      have hc2 : wr.cell? ⟨w1.heap.size, k, none⟩ = some (.int .i64 ((armsTo D k ++ List.replicate (n - k) 0)[k])) := by rw [hbA.cell k, arr_get _ k hAl]
      have hf2 : wr.frozen? ⟨w1.heap.size, k, none⟩ = false := hbA.free k
      have hx := H0.out k hkD
      rw [← getD_lt hkD] at hx
      have HS := Lib.hid (arms_fill (D := D) hlt)
      generalize (armsTo D k ++ List.replicate (n - k) 0)[k] = z at hc2
      generalize D.getD k 0 = x at *
      clear hAl hkD
      go_wp2
      go_roundw
      case rel =>
        refine ⟨k + 1, by omega, by go_num, hbr.setCell (by show w.heap.size ≤ w1.heap.size; omega) _, hbD.off (by show w.heap.size ≠ w1.heap.size; omega) _, ?_⟩
        have e := hbA.set k (.int .i64 (x - ((k : Int) + 1)))
        rw [arr_set, HS.out] at e
        exact e
      case measure => simp [intOf]; omega
    · obtain rfl : k = n := by omega
      go_wp2
      go_ret
      have e := hbA
      rw [Nat.sub_self, List.replicate_zero, List.append_nil] at e
      have e2 := Blk.own (lo := w.heap.size) (vs := ints (armsTo D k)) e (by omega) (by rw [List.length_map, armsTo_len]; unfold maxLen; omega)
      rw [List.length_map, armsTo_len] at e2
      have hh := HND.out
      subst hh
      exact ⟨_, rfl, e2, hbr⟩


end Go.Proofs.Ytdoihndifaebcaa
