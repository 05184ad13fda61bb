/-
  Walks: the methods of a diagram: sum, count, durfee, list, conjugate.
-/
import Derived.Test.YthafbdpeignccaaW2
import Derived.Test.YthafbdpeignccaaL1
namespace Go.Proofs.Ythafbdpeignccaa
open Go.RowKit NP
set_option maxRecDepth 8000
set_option linter.unusedVariables false

def cntD (D : List Int) : Nat := ff (fun k => decide (0 < D.getD k 0)) 16
def durD (D : List Int) : Nat := ff (fun (k : Nat) => decide ((k : Int) < D.getD k 0)) 16
theorem box_cell (w : World) (D : List Int) (k : Nat) (hk : k < D.length) : (w.alloc (.cells (arr D) 59)).cell? ⟨w.heap.size, k, none⟩ = some (.int .i64 D[k]) := by
  rw [(Blk.new w _ _).cell k, arr_get D k hk]

theorem count_any (D : List Int) (hD : D.length = 16) (w : World) :
    Calls Try.prog 109 #[.agg (arr D)] w fun e w' => e = .returned (.int .i64 (cntD D)) ∧ Below w.heap.size w w' := by
  have HD := Lib.hid hD
  have hd16 : 16 ≤ D.length := by omega
  clear hD
  go_enter Try.func109, Try.ntmps109
  go_wp2
  go_loop [3] (fun i => ∃ k : Nat, k ≤ 16 ∧ i = .int .i64 k ∧ Hid (∀ j, j < k → (fun k => decide (0 < D.getD k 0)) j = true)) (fun i => 16 - (intOf i).toNat)
  case atStart => exact ⟨0, Nat.zero_le _, rfl, Lib.hid fun j hj => by omega⟩
  case round =>
    obtain ⟨k, hk, rfl, HP⟩ := hrel
    by_cases hlt : k < 16
    · have hkD : k < D.length := by omega
      have hc := box_cell w D k hkD
      by_cases hx : 0 < D[k]
      · go_wp2
        go_round
        case rel => exact ⟨k + 1, by omega, by go_num, Lib.hid fun j hj => by
          rcases Nat.lt_or_ge j k with h | h
          · exact HP.out j h
          · obtain rfl : j = k := by omega
            simp [List.getD, hkD]; omega⟩
        case measure => simp [intOf]; omega
      · have hx' : D[k] ≤ 0 := by omega
        clear hx
        go_wp2
        go_ret
        exact ⟨ret_i64 (by unfold cntD; rw [ff_eq HP.out hk (.inr (by simp [List.getD, hkD]; omega))]), (Below.refl _ _).alloc (Nat.le_refl _) _⟩
    · obtain rfl : k = 16 := by omega
      go_wp2
      go_ret
      exact ⟨ret_i64 (by unfold cntD; rw [ff_eq HP.out hk (.inl rfl)]; rfl), (Below.refl _ _).alloc (Nat.le_refl _) _⟩

theorem T_index (D : List Int) (k : Nat) (hk : k < D.length) (h16 : k < 16) (w : World) : (Instr.index 59 (.agg (arr D)) (.int .i64 k)).run Try.prog w = .ok (.int .i64 D[k]) w :=
  run_index_row 59 3 _ 16 Try.underlying59 Try.underlying3 rfl (by kernel_rfl) (arr D) k _ h16 (arr_get D k hk) .i64 w

theorem dsum_any (D : List Int) (hD : D.length = 16) (hs : sumFits D) (w : World) :
    Calls Try.prog 70 #[.agg (arr D)] w fun e w' => e = .returned (.int .i64 (sumL D)) ∧ Below w.heap.size w w' := by
  have HD := Lib.hid hD
  have hd16 : 16 ≤ D.length := by omega
  have hi16 : (Try.prog.info? 59).map (·.size) = some (arr D).size := by rw [arr_size, hD]; exact T_info35
  clear hD
  have hb := Blk.new w 59 (arr D)
  go_enter Try.func70, Try.ntmps70
  go_wp2_with (refine wpList_load_row rfl 59 (.tmp 1) rfl w.heap.size rfl 59 (arr D) (0, 0) _ hb Try.underlying59 rfl hi16 ?_)
  go_loop [3, 7] (fun s i => ∃ k : Nat, k ≤ 16 ∧ i = .int .i64 k ∧ s = .int .i64 (sumL (D.take k))) (fun _ i => 16 - (intOf i).toNat)
  case atStart => exact ⟨0, Nat.zero_le _, rfl, rfl⟩
  case round =>
    obtain ⟨k, hk, rfl, rfl⟩ := hrel
    by_cases hlt : k < 16
    · have hkD : k < D.length := by omega
      have hc := T_index D k hkD hlt
      have h1 := hs k (by omega)
      have h2 := hs.next hkD
      have H3 := Lib.hid (sumL_take_succ D k hkD)
      go_wp2
      go_round
      case rel => exact ⟨k + 1, by omega, by go_num, by rw [H3.out]⟩
      case measure => simp [intOf]; omega
    · obtain rfl : k = 16 := by omega
      go_wp2
      go_ret
      exact ⟨ret_i64 (by rw [List.take_of_length_le (by rw [HD.out]; omega)]), (Below.refl _ _).alloc (Nat.le_refl _) _⟩

theorem splice_all {α : Type} (Z X : List α) (h : Z.length = X.length) : splice Z 0 X = X := by simp [splice, ← h]
theorem pad_cells {w : World} {g : Nat} {t : TypeId} {M : List Int} (hlen : M.length ≤ 16) (hb : Blk w g t (arr (pad M))) : ∀ j v, (ints M)[j]? = some v → w.cell? ((⟨g, 0, none⟩ : Addr).add j) = some v := by
  intro j v hv
  rw [Addr.add_lit, Nat.zero_add, hb.cell j]
  have hj : j < M.length := by
    have := (List.getElem?_eq_some_iff.1 hv).1
    simpa using this
  rw [arr_get (pad M) j (by rw [pad_len hlen]; omega), pad_get hlen hj]
  simpa [hj] using hv

theorem list_any (M : List Int) (hM : valid M = true) (w : World) :
    Calls Try.prog 76 #[.agg (arr (pad M))] w fun e w' => ∃ a', e = .returned (.slice a' M.length M.length) ∧ Own w' w.heap.size w'.heap.size 3 (.slice a' M.length M.length) (ints M) ∧ Below w.heap.size w w' := by
  have hbd := valid_bd hM
  have hlen : M.length ≤ 16 := hbd.2.2.2
  have hff : cntD (pad M) = M.length := by
    unfold cntD
    refine ff_eq (fun j hj => ?_) hlen ?_
    · have h1 := preS_of_valid hM j hj hj
      rw [List.getD_eq_getElem?_getD, List.getElem?_eq_getElem (by rw [pad_len hlen]; omega), Option.getD_some, pad_get hlen hj]
      simp; omega
    · rcases Nat.lt_or_ge M.length 16 with h | h
      · right
        rw [List.getD_eq_getElem?_getD, List.getElem?_eq_getElem (by rw [pad_len hlen]; omega), Option.getD_some, pad_get0 hlen (Nat.le_refl _) h]
        simp
      · left; omega
  have HF := Lib.hid hff
  clear hff
  have hi16 : (Try.prog.info? 59).map (·.size) = some (arr (pad M)).size := by rw [arr_size, pad_len hlen]; exact T_info35
  obtain ⟨i0, hi, hz0, hz1, hz2⟩ := T_int'
  have hmk := run_make_ints 22 3 i0 Try.underlying22 hi hz0 hz1 hz2 M.length (by omega)
  have hb := Blk.new w 59 (arr (pad M))
  have HM := Lib.hid hM
  clear hM
  go_enter Try.func76, Try.ntmps76
  go_wp2_with (first
    | (refine wpList_load_row rfl 59 (.tmp 1) rfl w.heap.size rfl 59 (arr (pad M)) (0, 0) _ hb Try.underlying59 rfl hi16 ?_)
    | (go_at_call 109; refine (count_any (pad M) (pad_len hlen) _).mono ?_; rintro e w1 ⟨rfl, hb1⟩; rw [HF.out]; have hbk := hb.below hb1 (by simp))
    | ((with_reducible show wpList _ _ _ (Oper.mk _ (Op.call (Call.mk (Callee.builtin Builtin.copy) _ _)) _ _ _ _ :: _) _ _); go_loud (refine wpList_copy_splice rfl (.tmp 7) (.tmp 8) 22 22 rfl 3 Try.underlying22 (by rw [hi]; simp [hz1]) (some ⟨w1.heap.size, 0, none⟩) (some ⟨w.heap.size, 0, none⟩) M.length M.length 16 16 rfl rfl w1.heap.size 0 (ints (List.replicate M.length 0)) 3 (heap_alloc_new w1 _) (ints M) (by rw [show Nat.min 16 M.length = M.length from Nat.min_eq_right hlen]; simp) (fun _ => ⟨rfl, _, rfl, pad_cells hlen (hbk.alloc _)⟩) (by simp) (ints_one M) w.heap.size w ((((Below.refl _ _).alloc (Nat.le_refl _) _).trans (hb1.mono (by simp))).alloc (by have := hb1.size; simp at this; omega) _) (by have := hb1.size; simp at this; omega) ?_); intro w2 hg2 hb2))
  go_ret
  have hg3 : Blk w2 w1.heap.size 3 (ints M).toArray := by
    have := hg2.out
    rw [splice_all _ _ (by simp)] at this
    exact this
  have ho := hg3.own (lo := w.heap.size) (by have := hb1.size; simp at this; omega) (by simp [maxLen]; omega)
  simp only [ints, List.length_map] at ho
  exact ⟨_, rfl, ho, hb2⟩

/-- what has been counted when k rows are done, and j cells of the next -/
def acc (D : List Int) (k j : Nat) : List Int := (List.range 16).map fun (q : Nat) => cnt ((q : Int) + 1) (D.take k) + (if q < j then 1 else 0)
theorem acc_len (D : List Int) (k j : Nat) : (acc D k j).length = 16 := by simp [acc]
theorem acc_get (D : List Int) (k j : Nat) (h : j < 16) : (acc D k j)[j]'(by rw [acc_len]; exact h) = cnt ((j : Int) + 1) (D.take k) := by simp [acc]
theorem acc_set (D : List Int) (k j : Nat) (_h : j < 16) : (acc D k j).set j (cnt ((j : Int) + 1) (D.take k) + 1) = acc D k (j + 1) := by
  apply List.ext_getElem
  · simp [acc]
  · intro q h1 h2
    simp only [acc, List.length_set, List.length_map, List.length_range] at h1
    by_cases hq : j = q
    · subst hq
      simp [acc]
    · rw [List.getElem_set_ne hq]
      simp only [acc, List.getElem_map, List.getElem_range]
      by_cases h3 : q < j
      · rw [if_pos h3, if_pos (by omega)]
      · rw [if_neg h3, if_neg (by omega)]
theorem acc_next (D : List Int) (k : Nat) (hk : k < D.length) (h0 : 0 ≤ D[k]) (j : Nat) (hj : (j : Int) = D[k]) : acc D k j = acc D (k + 1) 0 := by
  apply List.map_congr_left
  intro q _
  rw [cnt_take_succ _ D k hk]
  by_cases h3 : q < j
  · rw [if_pos h3, if_pos (by omega)]; simp
  · rw [if_neg h3, if_neg (by omega)]; simp
theorem acc_zero (D : List Int) : acc D 0 0 = List.replicate 16 0 := by
  unfold acc
  simp [cnt]
  rfl
theorem acc_end (D : List Int) (hD : D.length = 16) : acc D 16 0 = (List.range 16).map fun (j : Nat) => cnt ((j : Int) + 1) D := by
  unfold acc
  rw [List.take_of_length_le (by omega)]
  simp

theorem conjugate_any (D : List Int) (hD : D.length = 16) (h0 : ∀ k (h : k < D.length), 0 ≤ D[k] ∧ D[k] ≤ 16) (w : World) :
    Calls Try.prog 77 #[.agg (arr D)] w fun e w' => e = .returned (.agg (arr (acc D 16 0))) ∧ Below w.heap.size w w' := by
  have HD := Lib.hid hD
  have hd16 : 16 ≤ D.length := by omega
  have hi16 : (Try.prog.info? 59).map (·.size) = some (arr D).size := by rw [arr_size, hD]; exact T_info35
  have H0 := Lib.hid h0
  clear hD h0
  have hb := Blk.new w 59 (arr D)
  have hb' := (hb.alloc (.cells (arr (List.replicate 16 0)) 59)).alloc (.cells (arr (List.replicate 16 0)) 59)
  go_enter Try.func77, Try.ntmps77
  go_wp2_with (refine wpList_load_row rfl 59 (.tmp 1) rfl w.heap.size rfl 59 (arr D) (0, 0) _ hb' Try.underlying59 rfl hi16 ?_)
  go_loopw [8] (fun i wr => ∃ k : Nat, k ≤ 16 ∧ i = .int .i64 k ∧ Below w.heap.size w wr ∧ Blk wr (w.heap.size + 1) 59 (arr (List.replicate 16 0)) ∧ Blk wr (w.heap.size + 2) 59 (arr (acc D k 0))) (fun i _ => 16 - (intOf i).toNat)
  case atStart =>
    refine ⟨0, Nat.zero_le _, rfl, ?_, ?_, ?_⟩
    · exact (((Below.refl _ _).alloc (Nat.le_refl _) _).alloc (by simp) _).alloc (by simp; omega) _
    · have e := (Blk.new (w.alloc (.cells (arr D) 59)) 59 (arr (List.replicate 16 0))).alloc (.cells (arr (List.replicate 16 0)) 59)
      rw [World.size_alloc] at e
      exact e
    · rw [acc_zero]
      have e := Blk.new ((w.alloc (.cells (arr D) 59)).alloc (.cells (arr (List.replicate 16 0)) 59)) 59 (arr (List.replicate 16 0))
      rw [World.size_alloc, World.size_alloc] at e
      exact e
  case round =>
    obtain ⟨k, hk, rfl, hbel, hb2, hb3⟩ := hrel
    obtain ⟨wo, rfl⟩ : ∃ wo : World, wo = wr := ⟨_, rfl⟩
    by_cases hlt : k < 16
    · have hkD : k < D.length := by omega
      have hc := T_index D k hkD hlt
      have h1 := H0.out k hkD
      go_wp2
      go_loopw [12] (fun i wr => ∃ j : Nat, (j : Int) ≤ D[k] ∧ i = .int .i64 j ∧ Below w.heap.size w wr ∧ Blk wr (w.heap.size + 1) 59 (arr (List.replicate 16 0)) ∧ Blk wr (w.heap.size + 2) 59 (arr (acc D k j))) (fun i _ => 16 - (intOf i).toNat)
      case atStart => exact ⟨0, h1.1, rfl, hbel, hb2, hb3⟩
      case round =>
        obtain ⟨j, hj, rfl, hbel', hb2', hb3'⟩ := hrel
        clear hbel hb2 hb3
        by_cases hltj : (j : Int) < D[k]
        · have hj16 : j < 16 := by omega
          have hcj : wr.cell? ⟨w.heap.size + 2, j, none⟩ = some (.int .i64 (cnt ((j : Int) + 1) (D.take k))) := by rw [hb3'.cell j, arr_get _ j (by rw [acc_len]; exact hj16), acc_get D k j hj16]
          have hfj : wr.frozen? ⟨w.heap.size + 2, j, none⟩ = false := hb3'.free j
          have hbd := cnt_bd ((j : Int) + 1) (D.take k)
          have hbl : (D.take k).length ≤ 16 := by simp; omega
          have HS := Lib.hid (acc_set D k j hj16)
          go_wp2
          go_roundw
          case rel =>
            refine ⟨j + 1, by omega, by go_num, hbel'.setCell (by show w.heap.size ≤ w.heap.size + 2; omega) _, hb2'.off (by show w.heap.size + 1 ≠ w.heap.size + 2; omega) _, ?_⟩
            have e := hb3'.set j (.int .i64 (cnt ((j : Int) + 1) (D.take k) + 1))
            rw [arr_set, HS.out] at e
            exact e
          case measure => simp [intOf]; omega
        · have hje : (j : Int) = D[k] := by omega
          have HE := Lib.hid (acc_next D k hkD h1.1 j hje)
          clear hje
          go_wp2
          go_roundw
          case rel => exact ⟨k + 1, by omega, by go_num, hbel', hb2', by rw [← HE.out]; exact hb3'⟩
          case measure => simp [intOf]; omega
    · obtain rfl : k = 16 := by omega
      have hi2 : (Try.prog.info? 59).map (·.size) = some (arr (acc D 16 0)).size := by rw [arr_size, acc_len]; exact T_info35
      have hsz : (arr (acc D 16 0)).size = (arr (List.replicate 16 0)).size := by rw [arr_size, arr_size, acc_len]; rfl
      go_wp2_with (first | (refine wpList_load_row rfl 59 (.tmp 3) rfl (w.heap.size + 2) rfl 59 (arr (acc D 16 0)) (0, 0) _ hb3 Try.underlying59 rfl hi2 ?_) | (refine wpList_store_row rfl 59 (.tmp 2) (.tmp 22) rfl (w.heap.size + 1) rfl (arr (acc D 16 0)) rfl 59 _ hb2 hi2 hsz (arr_one _) ?_))
      refine bodyPost_ret (results_cell_row rfl _ _ (w.heap.size + 1) 59 (arr (acc D 16 0)) (0, 0) _ rfl hb2.row Try.underlying59 rfl hi2) rfl ?_
      exact ⟨rfl, below_setRow' hbel (by omega) _⟩
end Go.Proofs.Ythafbdpeignccaa
