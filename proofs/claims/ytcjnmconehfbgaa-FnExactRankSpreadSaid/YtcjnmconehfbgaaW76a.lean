/-
  Walks of the program: how often each number comes.
-/
import Derived.Test.YtcjnmconehfbgaaW4
import Derived.Test.YtcjnmconehfbgaaM35
import Derived.Test.YtcjnmconehfbgaaD2
import Derived.StillTailTactics
namespace Go.Proofs.Ytcjnmconehfbgaa
open Go.RowKit NP
set_option maxRecDepth 8000
set_option linter.unusedVariables false
theorem T_tal : (Try.prog.info? 88).map (·.size) = some 17 := by kernel_rfl
set_option maxHeartbeats 1000000 in
theorem tallyOf_any (a : Option Addr) (c B : Nat) (L : List Int) (w : World) (h : Rd w B a (ints L)) (hB : B ≤ w.heap.size) (hv : vsm L = true) :
    Calls Try.prog 93 #[.slice a L.length c] w fun e w' => e = .returned (.agg (arr (tlyL L))) ∧ Below w.heap.size w w' := by
  have hln := (vsm_bd hv).2.2.2
  have hi17 : ∀ M, (Try.prog.info? 88).map (·.size) = some (arr (tlyL M)).size := fun M => by rw [arr_size, tlyL_len]; exact T_tal
  have HI := Lib.hid hi17
  have HE := Lib.hid (vsm_each hv)
  have HZ : Hid (arr (List.replicate 17 0) = arr (tlyL [])) := Lib.hid (by congr 1)
  clear hv hi17
  go_enter Try.func93, Try.ntmps93
  go_wp2
  go_loopw [5, 8] (fun _ i wr => ∃ k : Nat, k ≤ L.length ∧ i = .int .i64 k ∧ Below w.heap.size w wr ∧ Blk wr w.heap.size 88 (arr (List.replicate 17 0)) ∧ Blk wr (w.heap.size + 1) 88 (arr (tlyL (L.take k)))) (fun _ i _ => L.length - (intOf i).toNat)
  case atStart =>
    refine ⟨0, Nat.zero_le _, rfl, ((Below.refl _ _).alloc (Nat.le_refl _) _).alloc (by simp) _, (Blk.new w _ _).alloc _, ?_⟩
    have e := Blk.new (w.alloc (.cells (arr (List.replicate 17 0)) 88)) 88 (arr (List.replicate 17 0))
    rw [World.size_alloc] at e
    rw [List.take_zero, ← HZ.out]
    exact e
  case round =>
    obtain ⟨k, hk, rfl, hbel, hb2, hb3⟩ := hrel
    by_cases hlt : k < L.length
    · have hR := (h.more hB).below hbel
      obtain ⟨b, o, rfl, hbB, hc⟩ := hR.at_ hlt
      have hx := HE.out L[k] (List.getElem_mem hlt)
      have hTK := List.take_succ_eq_append_getElem hlt
      obtain ⟨x, hxe⟩ := Int.eq_ofNat_of_zero_le (show 0 ≤ L[k] by omega)
      rw [hxe] at hx hc hTK
      have hx17 : x < 17 := by omega
      have HS := Lib.hid (tlyL_next (L.take k) hx17)
      rw [← hTK] at HS
      have hbd := eqc_bd (x : Int) (L.take k)
      have hlk : (L.take k).length ≤ 16 := by rw [List.length_take]; omega
      have hct : wr.cell? ⟨w.heap.size + 1, x, none⟩ = some (.int .i64 (eqc (x : Int) (L.take k))) := by
        rw [hb3.cell x, arr_get _ x (by rw [tlyL_len]; exact hx17), tlyL_at _ hx17]
      have hft : wr.frozen? ⟨w.heap.size + 1, x, none⟩ = false := hb3.free x
      obtain ⟨q, hq⟩ : ∃ q, q = eqc (x : Int) (L.take k) := ⟨_, rfl⟩
      rw [← hq] at hct hbd HS
      have hq16 : q ≤ 16 := by omega
      have hq0 := hbd.1
      clear hbd hxe hTK hq
      go_wp2_with fail
      go_roundw
      case rel =>
        refine ⟨k + 1, by omega, by go_num, hbel.setCell (by simp) _, hb2.off (by simp) _, ?_⟩
        have e := hb3.set x (.int .i64 (q + 1))
        rw [arr_set, HS.out] at e
        exact e
      case measure => simp [intOf] <;> omega
    · obtain rfl : k = L.length := by omega
      have ht : L.take L.length = L := List.take_of_length_le (Nat.le_refl _)
      rw [ht] at hb3
      have hsz : (arr (tlyL L)).size = (arr (List.replicate 17 0)).size := by rw [arr_size, arr_size, tlyL_len]; rfl
      go_wp2_with (first | (refine wpList_load_row rfl 88 (.tmp 3) rfl (w.heap.size + 1) rfl 88 (arr (tlyL L)) (0, 0) _ hb3 Try.underlying88 rfl (HI.out L) ?_) | (refine wpList_store_row rfl 88 (.tmp 2) (.tmp 18) rfl w.heap.size rfl (arr (tlyL L)) rfl 88 _ hb2 (HI.out L) hsz (arr_one _) ?_))
      refine bodyPost_ret (results_cell_row rfl _ _ w.heap.size 88 (arr (tlyL L)) (0, 0) _ rfl hb2.row Try.underlying88 rfl (HI.out L)) rfl ?_
      exact ⟨rfl, below_setRow' hbel (Nat.le_refl _) _⟩
theorem dtally_any (P : List Int) (hv : valid P = true) (w : World) :
    Calls Try.prog 79 #[.agg (arr (pad P))] w fun e w' => e = .returned (.agg (arr (tlyL P))) ∧ Below w.heap.size w w' := by
  have hlen := (valid_bd hv).2.2.2
  have hi16 : (Try.prog.info? 54).map (·.size) = some (arr (pad P)).size := by rw [arr_size, pad_len hlen]; exact T_info35
  have hi17 : (Try.prog.info? 88).map (·.size) = some (arr (tlyL P)).size := by rw [arr_size, tlyL_len]; exact T_tal
  have hsz : (arr (tlyL P)).size = (arr (List.replicate 17 0)).size := by rw [arr_size, arr_size, tlyL_len]; rfl
  have HV := Lib.hid hv
  have HS := Lib.hid (vsm_of_valid hv)
  clear hv
  have hb := (Blk.new w 54 (arr (pad P))).alloc (.cells (arr (List.replicate 17 0)) 88)
  have ht := Blk.new (w.alloc (.cells (arr (pad P)) 54)) 88 (arr (List.replicate 17 0))
  rw [World.size_alloc] at ht
  have hA := ((Below.refl w.heap.size w).alloc (Nat.le_refl _) (.cells (arr (pad P)) 54)).alloc (by simp) (.cells (arr (List.replicate 17 0)) 88)
  go_enter Try.func79, Try.ntmps79
  go_wp2_with (first
    | (refine wpList_load_row rfl 54 (.tmp 1) rfl w.heap.size rfl 54 (arr (pad P)) (0, 0) _ hb Try.underlying54 rfl hi16 ?_)
    | (go_at_call 94; refine (list_any P HV.out _).mono ?_; rintro e w1 ⟨a', rfl, ho, hb1⟩; rw [World.size_alloc, World.size_alloc] at hb1; have hz1 := hb1.size; rw [World.size_alloc, World.size_alloc] at hz1; have hA1 := hA.trans (hb1.mono (by omega)); have ht1 := ht.below hb1 (by omega))
    | (go_at_call 93; refine (tallyOf_any _ _ _ P _ ho.rd ho.le HS.out).mono ?_; rintro e w2 ⟨rfl, hb2⟩; have ht2 := ht1.below hb2 (by omega); have hA2 := hA1.trans (hb2.mono (by omega)))
    | (refine wpList_store_row rfl 88 (.tmp 2) (.tmp 5) rfl (w.heap.size + 1) rfl (arr (tlyL P)) rfl 88 _ ht2 hi17 hsz (arr_one _) ?_))
  refine bodyPost_ret (results_cell_row rfl _ _ (w.heap.size + 1) 88 (arr (tlyL P)) (0, 0) _ rfl ht2.row Try.underlying88 rfl hi17) rfl ?_
  exact ⟨rfl, below_setRow' hA2 (by omega) _⟩
end Go.Proofs.Ytcjnmconehfbgaa
