/-
  Walks: tallies of the program, the parts of summands.
-/
import Derived.Test.YtgbkaahmmpgjfaaW67
import Derived.Test.YtgbkaahmmpgjfaaW4
import Derived.Test.YtgbkaahmmpgjfaaM35
import Derived.Test.YtgbkaahmmpgjfaaD2
import Derived.StillTailTactics
namespace Go.Proofs.Ytgbkaahmmpgjfaa
open Go.RowKit NP
set_option linter.unusedVariables false
theorem T_tal : (Try.prog.info? 60).map (·.size) = some 17 := by kernel_rfl
theorem pad_snocS {L : List Int} (h : L.length < 16) (x : Int) : (pad L).set L.length x = pad (L ++ [x]) := by
  unfold pad
  rw [show 16 - L.length = (16 - (L.length + 1)) + 1 by omega, List.replicate_succ, List.set_append_right _ _ (Nat.le_refl _), Nat.sub_self, List.set_cons_zero, List.append_assoc]
  simp
set_option maxHeartbeats 1000000 in
theorem tallyOf_any (a : Option Addr) (c B : Nat) (L : List Int) (w : World) (h : Rd w B a (ints L)) (hB : B ≤ w.heap.size) (hv : vsm L = true) :
    Calls Try.prog 59 #[.slice a L.length c] w fun e w' => e = .returned (.agg (arr (tlyL L))) ∧ Below w.heap.size w w' := by
  have hln := (vsm_bd hv).2.2.2
  have hi17 : ∀ M, (Try.prog.info? 60).map (·.size) = some (arr (tlyL M)).size := fun M => by rw [arr_size, tlyL_len]; exact T_tal
  have HI := Lib.hid hi17
  have HE := Lib.hid (vsm_each hv)
  have HZ : Hid (arr (List.replicate 17 0) = arr (tlyL [])) := Lib.hid (by congr 1)
  clear hv hi17
  go_enter Try.func59, Try.ntmps59
  go_wp2
  go_loopw [5, 8] (fun _ i wr => ∃ k : Nat, k ≤ L.length ∧ i = .int .i64 k ∧ Below w.heap.size w wr ∧ Blk wr w.heap.size 60 (arr (List.replicate 17 0)) ∧ Blk wr (w.heap.size + 1) 60 (arr (tlyL (L.take k)))) (fun _ i _ => L.length - (intOf i).toNat)
  case atStart =>
    refine ⟨0, Nat.zero_le _, rfl, ((Below.refl _ _).alloc (Nat.le_refl _) _).alloc (by simp) _, (Blk.new w _ _).alloc _, ?_⟩
    have e := Blk.new (w.alloc (.cells (arr (List.replicate 17 0)) 60)) 60 (arr (List.replicate 17 0))
    rw [World.size_alloc] at e
    rw [List.take_zero, ← HZ.out]
    exact e
  case round =>
    obtain ⟨k, hk, rfl, hbel, hb2, hb3⟩ := hrel
    by_cases hlt : k < L.length
    · have hR := (h.more hB).below hbel
      obtain ⟨b, o, rfl, hbB, hc⟩ := hR.at_ hlt
      have hx := HE.out L[k] (List.getElem_mem hlt)
      have hTK := List.take_succ_eq_append_getElem hlt
      obtain ⟨x, hxe⟩ := Int.eq_ofNat_of_zero_le (show 0 ≤ L[k] by omega)
      rw [hxe] at hx hc hTK
      have hx17 : x < 17 := by omega
      have HS := Lib.hid (tlyL_next (L.take k) hx17)
      rw [← hTK] at HS
      have hbd := eqc_bd (x : Int) (L.take k)
      have hlk : (L.take k).length ≤ 16 := by rw [List.length_take]; omega
      have hct : wr.cell? ⟨w.heap.size + 1, x, none⟩ = some (.int .i64 (eqc (x : Int) (L.take k))) := by
        rw [hb3.cell x, arr_get _ x (by rw [tlyL_len]; exact hx17), tlyL_at _ hx17]
      have hft : wr.frozen? ⟨w.heap.size + 1, x, none⟩ = false := hb3.free x
      obtain ⟨q, hq⟩ : ∃ q, q = eqc (x : Int) (L.take k) := ⟨_, rfl⟩
      rw [← hq] at hct hbd HS
      have hq16 : q ≤ 16 := by omega
      have hq0 := hbd.1
      clear hbd hxe hTK hq
      go_wp2_with fail
      go_roundw
      case rel =>
        refine ⟨k + 1, by omega, by go_num, hbel.setCell (by simp) _, hb2.off (by simp) _, ?_⟩
        have e := hb3.set x (.int .i64 (q + 1))
        rw [arr_set, HS.out] at e
        exact e
      case measure => simp [intOf] <;> omega
    · obtain rfl : k = L.length := by omega
      have ht : L.take L.length = L := List.take_of_length_le (Nat.le_refl _)
      rw [ht] at hb3
      have hsz : (arr (tlyL L)).size = (arr (List.replicate 17 0)).size := by rw [arr_size, arr_size, tlyL_len]; rfl
      go_wp2_with (first | (refine wpList_load_row rfl 60 (.tmp 3) rfl (w.heap.size + 1) rfl 60 (arr (tlyL L)) (0, 0) _ hb3 Try.underlying60 rfl (HI.out L) ?_) | (refine wpList_store_row rfl 60 (.tmp 2) (.tmp 18) rfl w.heap.size rfl (arr (tlyL L)) rfl 60 _ hb2 (HI.out L) hsz (arr_one _) ?_))
      refine bodyPost_ret (results_cell_row rfl _ _ w.heap.size 60 (arr (tlyL L)) (0, 0) _ rfl hb2.row Try.underlying60 rfl (HI.out L)) rfl ?_
      exact ⟨rfl, below_setRow' hbel (Nat.le_refl _) _⟩
set_option maxHeartbeats 1000000 in
theorem tdiag_any (L : List Int) (hv : vsm L = true) (w : World) :
    Calls Try.prog 60 #[.agg (arr (tlyL L))] w fun e w' => e = .returned (.agg (arr (pad (mrg L)))) ∧ Below w.heap.size w w' := by
  have HV := Lib.hid hv
  have HD := Lib.hid (dscA_all (vsm_each hv))
  have hml : (mrg L).length ≤ 16 := by rw [mrg_len]; exact (vsm_bd hv).2.2.2
  have hi16 : (Try.prog.info? 41).map (·.size) = some (arr (pad (mrg L))).size := by rw [arr_size, pad_len hml]; exact T_info35
  have hsz : (arr (pad (mrg L))).size = (arr (List.replicate 16 0)).size := by rw [arr_size, arr_size, pad_len hml]; rfl
  have hbt := Blk.new w 60 (arr (tlyL L))
  clear hv
  go_enter Try.func60, Try.ntmps60
  go_wp2
  go_loopw [4, 5, 13] (fun i p _ wr => ∃ m : Nat, m ≤ 16 ∧ p = .int .i64 ((16 : Int) - m) ∧ i = .int .i64 ((dscA L m).length : Int) ∧ Below (w.heap.size + 1) (w.alloc (.cells (arr (tlyL L)) 60)) wr ∧ Blk wr (w.heap.size + 1) 41 (arr (List.replicate 16 0)) ∧ Blk wr (w.heap.size + 1 + 1) 41 (arr (pad (dscA L m)))) (fun _ p _ _ => (intOf p).toNat)
  case atStart =>
    refine ⟨0, by omega, rfl, rfl, ((Below.refl _ _).alloc (by simp) _).alloc (by simp) _, ?_, ?_⟩
    · have e := (Blk.new (w.alloc (.cells (arr (tlyL L)) 60)) 41 (arr (List.replicate 16 0))).alloc (.cells (arr (List.replicate 16 0)) 41)
      rw [World.size_alloc] at e
      exact e
    · have e := Blk.new ((w.alloc (.cells (arr (tlyL L)) 60)).alloc (.cells (arr (List.replicate 16 0)) 41)) 41 (arr (List.replicate 16 0))
      rw [World.size_alloc, World.size_alloc] at e
      exact e
  case round =>
    obtain ⟨m, hm, rfl, rfl, hbel, hb2, hb3⟩ := hrel
    by_cases hlt : m < 16
    · obtain ⟨p, hp⟩ : ∃ p : Nat, p = 16 - m := ⟨_, rfl⟩
      have hpe : ((16 : Int) - (m : Int)) = (p : Int) := by omega
      have hp17 : p < 17 := by omega
      have hp1 : (1 : Int) ≤ (p : Int) := by omega
      have hp1' : 1 ≤ p := by omega
      have hbd := eqc_bd (p : Int) L
      obtain ⟨q, hq⟩ := Int.eq_ofNat_of_zero_le hbd.1
      have HDS : Hid (dscA L (m + 1) = dscA L m ++ List.replicate q (p : Int)) := Lib.hid (by rw [dscA, hpe, hq, Int.toNat_natCast])
      have hdl := dscA_len HV.out (show m + 1 ≤ 16 by omega)
      rw [HDS.out, List.length_append, List.length_replicate] at hdl
      have hct : wr.cell? ⟨w.heap.size, p, none⟩ = some (.int .i64 (q : Int)) := by
        rw [(hbt.below hbel (by omega)).cell p, arr_get _ p (by rw [tlyL_len]; exact hp17), tlyL_at _ hp17, hq]
      obtain ⟨P, hP⟩ : ∃ P, P = dscA L m := ⟨_, rfl⟩
      rw [← hP] at hb3 HDS hdl ⊢
      rw [hpe]
      have HPm : Hid ((p : Int) - 1 = (16 : Int) - ((m + 1 : Nat) : Int)) := Lib.hid (by omega)
      clear hP hbd hq hpe hp
      have hwo : ∃ wo : World, wo = wr := ⟨_, rfl⟩
      obtain ⟨wo, hwo⟩ := hwo
      go_wp2
      go_loopw [4, 13] (fun i j wr => ∃ y : Nat, y ≤ q ∧ j = .int .i64 y ∧ i = .int .i64 ((P.length + y : Nat) : Int) ∧ Below (w.heap.size + 1) (w.alloc (.cells (arr (tlyL L)) 60)) wr ∧ Blk wr (w.heap.size + 1) 41 (arr (List.replicate 16 0)) ∧ Blk wr (w.heap.size + 1 + 1) 41 (arr (pad (P ++ List.replicate y (p : Int))))) (fun _ j _ => q - (intOf j).toNat)
      case atStart => exact ⟨0, Nat.zero_le _, rfl, rfl, hbel, hb2, by simpa using hb3⟩
      case round =>
        obtain ⟨y, hy, rfl, rfl, hbel', hb2', hb3'⟩ := hrel
        clear hbel hb2 hb3 hct
        by_cases hyl : y < q
        · have hPy : (P ++ List.replicate y (p : Int)).length = P.length + y := by simp
          have hPS : (pad (P ++ List.replicate y (p : Int))).set (P.length + y) (p : Int) = pad (P ++ List.replicate (y + 1) (p : Int)) := by
            have := pad_snocS (L := P ++ List.replicate y (p : Int)) (by rw [hPy]; omega) (p : Int)
            rw [hPy] at this
            rw [this, List.replicate_succ', List.append_assoc]
          have hpl : (pad (P ++ List.replicate y (p : Int))).length = 16 := pad_len (by rw [hPy]; omega)
          have hci : ∃ u, wr.cell? ⟨w.heap.size + 1 + 1, P.length + y, none⟩ = some u := by
            rw [hb3'.cell]
            exact ⟨_, arr_get _ _ (by rw [hpl]; omega)⟩
          obtain ⟨u, hci⟩ := hci
          have hfi : wr.frozen? ⟨w.heap.size + 1 + 1, P.length + y, none⟩ = false := hb3'.free _
          obtain ⟨z, hz⟩ : ∃ z, z = P.length + y := ⟨_, rfl⟩
          rw [← hz] at hci hfi hPS ⊢
          have hz16 : z < 16 := by omega
          have HPS := Lib.hid hPS
          have HZ := Lib.hid hz
          clear hPy hpl hPS hz
          go_wp2_with fail
          go_roundw
          case rel =>
            refine ⟨y + 1, by omega, by go_num, by rw [← Nat.add_assoc, ← HZ.out]; go_num, hbel'.setCell (by simp <;> omega) _, hb2'.off (by simp) _, ?_⟩
            have e := hb3'.set z (.int .i64 (p : Int))
            rw [arr_set, HPS.out] at e
            exact e
          case measure => simp [intOf] <;> omega
        · obtain rfl : y = q := by omega
          rw [← HDS.out] at hb3'
          have HLL : Hid (((P.length + y : Nat) : Int) = ((dscA L (m + 1)).length : Int)) := Lib.hid (by rw [HDS.out]; simp)
          go_wp2
          go_roundw
          case rel => exact ⟨m + 1, by omega, by rw [HPm.out], by rw [HLL.out], hbel', hb2', hb3'⟩
          case measure => simp [intOf] <;> omega
    · obtain rfl : m = 16 := by omega
      rw [HD.out] at hb3
      go_wp2_with (first | (refine wpList_load_row rfl 41 (.tmp 3) rfl (w.heap.size + 1 + 1) rfl 41 (arr (pad (mrg L))) (0, 0) _ hb3 Try.underlying41 rfl hi16 ?_) | (refine wpList_store_row rfl 41 (.tmp 2) (.tmp 21) rfl (w.heap.size + 1) rfl (arr (pad (mrg L))) rfl 41 _ hb2 hi16 hsz (arr_one _) ?_))
      refine bodyPost_ret (results_cell_row rfl _ _ (w.heap.size + 1) 41 (arr (pad (mrg L))) (0, 0) _ rfl hb2.row Try.underlying41 rfl hi16) rfl ?_
      exact ⟨rfl, below_setRow' (((Below.refl w.heap.size w).alloc (Nat.le_refl _) _).trans (hbel.mono (by omega))) (by omega) _⟩
theorem iPartsOfSums_any (a : Option Addr) (c B : Nat) (L : List Int) (w : World) (h : Rd w B a (ints L)) (hB : B ≤ w.heap.size) (hl : L.length ≤ 4611686018427387904) :
    Calls Try.prog 30 #[.slice a L.length c] w fun e w' => ∃ a' c', e = .returned (.slice a' (posF L).length c') ∧ Own w' w.heap.size w'.heap.size 3 (.slice a' (posF L).length c') (ints (posF L)) ∧ Below w.heap.size w w' := by
  cases hv : vsm L with
  | true =>
    have HF := Lib.hid (posF_yes hv)
    have HV := Lib.hid hv
    have HM := Lib.hid (mrg_ok hv)
    clear hv
    go_enter Try.func30, Try.ntmps30
    go_wp2_with (first
      | (go_at_call 32; refine (iValidSums_any _ _ B L _ h hB hl).mono ?_; rintro e w1 ⟨rfl, hb1⟩; rw [HV.out])
      | (go_at_call 59; refine (tallyOf_any _ _ B L _ (h.below (hb1.mono hB)) (Nat.le_trans hB hb1.size) HV.out).mono ?_; rintro e w2 ⟨rfl, hb2⟩)
      | (go_at_call 60; refine (tdiag_any L HV.out _).mono ?_; rintro e w3 ⟨rfl, hb3⟩)
      | (go_at_call 51; refine (list_any (mrg L) HM.out _).mono ?_; rintro e w4 ⟨a', rfl, ho, hb4⟩))
    go_ret
    have h2 := hb1.trans (hb2.mono hb1.size)
    have h3 := h2.trans (hb3.mono h2.size)
    rw [HF.out]
    exact ⟨a', _, rfl, ho.lower h3.size, h3.trans (hb4.mono h3.size)⟩
  | false =>
    have HF := Lib.hid (posF_no hv)
    have HV := Lib.hid hv
    clear hv
    go_enter Try.func30, Try.ntmps30
    go_wp2_with (go_at_call 32; refine (iValidSums_any _ _ B L _ h hB hl).mono ?_; rintro e w1 ⟨rfl, hb1⟩; rw [HV.out])
    go_ret
    rw [HF.out]
    exact ⟨none, 0, rfl, (Own.nil _ _ _).lower hb1.size, hb1⟩
end Go.Proofs.Ytgbkaahmmpgjfaa
