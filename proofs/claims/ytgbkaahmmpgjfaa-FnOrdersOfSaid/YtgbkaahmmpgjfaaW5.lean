/-
  Walks: times of the model and of the program.
-/
import Derived.Test.YtgbkaahmmpgjfaaW4
import Derived.Test.YtgbkaahmmpgjfaaM2
namespace Go.Proofs.Ytgbkaahmmpgjfaa
open Go.RowKit NP
set_option linter.unusedVariables false

theorem stimes_any (a : Option Addr) (c B : Nat) (L : List Int) (w : World) (h : Rd w B a (ints L)) (hB : B ≤ w.heap.size) (hv : valid L = true) :
    Calls Try.prog 80 #[.slice a L.length c] w fun e w' => ∃ a' c', e = .returned (.slice a' (tim L).length c') ∧ Own w' w.heap.size w'.heap.size 3 (.slice a' (tim L).length c') (ints (tim L)) ∧ Below w.heap.size w w' := by
  have hbd := valid_bd hv
  have hhd := headD_bd hv
  obtain ⟨i0, hi, hz0, hz1, hz2⟩ := T_int'
  have HV := Lib.hid hv
  clear hv
  generalize hH : (L.headD 0).toNat = H
  have hHc : (H : Int) = L.headD 0 := by omega
  have hH16 : H ≤ 16 := by omega
  have HH := Lib.hid hH
  clear hH
  have H0 : Hid (∀ h0 : 0 < L.length, L[0] = (H : Int)) := Lib.hid fun h0 => by rw [hHc]; cases L <;> simp at h0 ⊢
  have H1 : Hid (¬ 0 < L.length → H = 0) := Lib.hid fun h0 => by cases L <;> simp at h0 hHc ⊢; omega
  clear hHc hhd
  have HE : Hid (tim L = (List.range H).map fun (j : Nat) => eqc ((j : Int) + 1) L) := Lib.hid (by unfold tim; rw [HH.out])
  go_enter Try.func80, Try.ntmps80
  go_wp2
  go_loopw [3, 4] (fun v i wr => ∃ k : Nat, k ≤ H ∧ i = .int .i64 ((k : Int) + 1) ∧ Below w.heap.size w wr ∧ Own wr w.heap.size wr.heap.size 3 v (ints ((List.range k).map fun (j : Nat) => eqc ((j : Int) + 1) L))) (fun _ i _ => 20 - (intOf i).toNat)
  case atStart => exact ⟨0, Nat.zero_le _, rfl, (Below.refl _ _).alloc (Nat.le_refl _) _, (Own.empty w 3).more⟩
  case round =>
    obtain ⟨k, hk, rfl, hbel, hown⟩ := hrel
    by_cases h0 : 0 < L.length
    · have hR := (h.more hB).below hbel
      obtain ⟨b, o, rfl, _, hc0⟩ := hR.at_ h0
      have hc0' : wr.cell? ⟨b, o, none⟩ = some (.int .i64 H) := by rw [← H0.out h0]; exact hc0
      have h0' : (0 : Int) < (L.length : Int) := by omega
      clear hc0
      by_cases hlt : k < H
      · have hlt' : (k : Int) + 1 ≤ (H : Int) := by omega
        have HO := Lib.hid hown
        clear hown
        go_wp2
        go_loop [5, 6] (fun n i => ∃ j : Nat, j ≤ L.length ∧ i = .int .i64 j ∧ n = .int .i64 (eqc ((k : Int) + 1) (L.take j))) (fun _ i => L.length - (intOf i).toNat)
        case atStart => exact ⟨0, Nat.zero_le _, rfl, rfl⟩
        case round =>
          obtain ⟨j, hj, rfl, rfl⟩ := hrel
          have hbj := eqc_bd ((k : Int) + 1) (L.take j)
          have hbl : (L.take j).length ≤ 16 := by simp; omega
          by_cases hltj : j < L.length
          · obtain ⟨b2, o2, e2, _, hcj⟩ := hR.at_ hltj
            injection e2 with e2; injection e2 with e2 e3; subst e2 e3
            have HS := Lib.hid (eqc_take_succ ((k : Int) + 1) L j hltj)
            by_cases hx : L[j] = (k : Int) + 1
            · have hxb : (L[j] == (k : Int) + 1) = true := beq_iff_eq.2 hx
              have HX := Lib.hid hx
              clear hx
              go_wp2
              go_round
              case rel => exact ⟨j + 1, by omega, by go_num, by rw [HS.out, if_pos HX.out]⟩
              case measure => simp [intOf]; omega
            · have hxb : (L[j] == (k : Int) + 1) = false := beq_eq_false_iff_ne.2 hx
              have HX := Lib.hid hx
              clear hx
              go_wp2
              go_round
              case rel => exact ⟨j + 1, by omega, by go_num, by rw [HS.out, if_neg HX.out]; simp⟩
              case measure => simp [intOf]; omega
          · obtain rfl : j = L.length := by omega
            have ht : L.take L.length = L := List.take_of_length_le (Nat.le_refl _)
            rw [ht]
            have hlen2 : (ints ((List.range k).map fun (j : Nat) => eqc ((j : Int) + 1) L)).length = k := by simp
            obtain ⟨vs, hvs⟩ : ∃ vs, vs = ints ((List.range k).map fun (j : Nat) => eqc ((j : Int) + 1) L) := ⟨_, rfl⟩
            have hown := HO.out
            rw [← hvs] at hown hlen2
            have HVS := Lib.hid hvs
            clear hvs
            go_wp2_with (at_builtin; refine wpList_append_o _ rfl (.tmp 34) (.tmp 36) 22 rfl w.heap.size wr.heap.size 3 i0 (.int .i64 0) 8 Try.underlying22 hi hz0 hz1 hz2 rfl _ vs rfl (hown.alloc _) (wr.heap.size + 1) (some ⟨wr.heap.size, 0, none⟩) 1 1 [.int .i64 (eqc ((k : Int) + 1) L)] rfl (Rd.one wr _ _) rfl (by simp; rfl) (by rw [hlen2]; unfold maxLen; omega) (by rw [hlen2]; omega) (by have := hbel.size; simp; omega) ?_; intro v' w1 ho1 hg1 hat1)
            go_roundw
            case rel =>
              refine ⟨k + 1, by omega, by go_num, below_push hbel (Nat.le_refl _) hg1 hown.base, ?_⟩
              rw [HVS.out] at ho1
              simpa [ints, List.range_succ] using ho1
            case measure => simp [intOf]; omega
      · obtain rfl : k = H := by omega
        have HO := Lib.hid hown
        clear hown
        obtain ⟨a', c', rfl⟩ := HO.out.form
        have hlt' : (k : Int) < (k : Int) + 1 := by omega
        go_wp2
        go_ret
        have hl1 : (tim L).length = (ints ((List.range k).map fun (j : Nat) => eqc ((j : Int) + 1) L)).length := by rw [HE.out]; simp
        refine ⟨a', c', by rw [hl1]; rfl, ?_, hbel⟩
        rw [hl1, HE.out]
        exact HO.out
    · have hk0 := H1.out h0
      obtain rfl : k = H := by omega
      have h0' : decide (0 < L.length) = false := decide_eq_false h0
      have h0'' : (L.length : Int) ≤ 0 := by omega
      have HO := Lib.hid hown
      clear hown hk0
      obtain ⟨a', c', rfl⟩ := HO.out.form
      go_wp2
      go_ret
      have hl1 : (tim L).length = (ints ((List.range k).map fun (j : Nat) => eqc ((j : Int) + 1) L)).length := by rw [HE.out]; simp
      refine ⟨a', c', by rw [hl1]; rfl, ?_, hbel⟩
      rw [hl1, HE.out]
      exact HO.out



theorem pad_head {L : List Int} (h : valid L = true) : (pad L)[0]'(by rw [pad_len (valid_bd h).2.2.2]; omega) = (((L.headD 0).toNat : Nat) : Int) := by
  have hd := headD_bd h
  rcases Nat.eq_zero_or_pos L.length with h0 | h0
  · obtain rfl := List.eq_nil_of_length_eq_zero h0
    rfl
  · rw [pad_get (valid_bd h).2.2.2 h0, ← headD_get L h0]
    omega

end Go.Proofs.Ytgbkaahmmpgjfaa
