/-
  Walks: cells taken away and put, of the model and of the program.
-/
import Derived.Test.YtpjlbmdpbjdkhaaW6
import Derived.Test.YtpjlbmdpbjdkhaaM5
import Derived.Test.YtpjlbmdpbjdkhaaArr2
namespace Go.Proofs.Ytpjlbmdpbjdkhaa
open Go.RowKit NP
set_option linter.unusedVariables false

theorem Own.take {w : World} {lo hi : Nat} {e : TypeId} {a : Option Addr} {n c : Nat} {vs : List Value} (h : Own w lo hi e (.slice a n c) vs) (k : Nat) (hk : k ≤ vs.length) : Own w lo hi e (.slice a k c) (vs.take k) := by
  refine ⟨?_, fun g hg => h.lt g (by cases a with | none => cases hg | some b => exact hg), h.le⟩
  have hlen : (vs.take k).length = k := by simp; omega
  rw [hlen]
  refine ⟨by rw [hlen]; omega, ?_⟩
  rcases h.row.2 with ⟨e1, e2⟩ | ⟨g, cap, cur, e1, hb, hg, hc, hm, hs, ht⟩
  · injection e1 with e3 e4 e5
    subst e3; subst e5
    have : k = 0 := by omega
    subst this
    exact .inl ⟨rfl, rfl⟩
  · injection e1 with e3 e4 e5
    subst e3; subst e5
    refine .inr ⟨g, c, cur, rfl, hb, hg, by omega, hm, hs, ?_⟩
    rw [← ht, List.take_take]
    congr 1
    omega



theorem rmvOk_no {L : List Int} (h : valid L = false) (i : Int) : rmvOk L i = false := by simp [rmvOk, h]
theorem rmvOk_yes {L : List Int} (h : valid L = true) (i : Int) : rmvOk L i = hasI (crn L) i := by
  unfold rmvOk crn
  rw [h, Bool.true_and, crnTo_fl, hasI_fl]
theorem rmv_no {L : List Int} {i : Int} (h : rmvOk L i = false) : rmv L i = [] := by simp [rmv, h]
theorem rmv_yes {L : List Int} {i : Int} (h : rmvOk L i = true) : ∃ k : Nat, i = k ∧ k < L.length ∧ isC L k = true ∧ valid L = true ∧ rmv L i = lessL L k := by
  have h2 := h
  unfold rmvOk at h
  simp only [Bool.and_eq_true, decide_eq_true_eq] at h
  obtain ⟨hv, ⟨h0, hlt⟩, hc⟩ := h
  obtain ⟨k, rfl⟩ := Int.eq_ofNat_of_zero_le h0
  refine ⟨k, rfl, by omega, hc, hv, ?_⟩
  unfold rmv
  rw [if_pos h2]
  rfl
theorem own_nil0 (w : World) (lo : Nat) (e : TypeId) : Own w lo w.heap.size e (.slice none ([] : List Int).length 0) (ints []) := Own.nil w lo e

theorem iRemoveCell_any (a : Option Addr) (c B : Nat) (L : List Int) (i : Int) (w : World) (h : Rd w B a (ints L)) (hB : B ≤ w.heap.size) (hl : L.length ≤ 4611686018427387904) :
    Calls Try.prog 15 #[.slice a L.length c, .int .i64 i] w fun e w' => ∃ a' c', e = .returned (.tuple #[.slice a' (rmv L i).length c', .bool (rmvOk L i)]) ∧ Own w' w.heap.size w'.heap.size 3 (.slice a' (rmv L i).length c') (ints (rmv L i)) ∧ Below w.heap.size w w' := by
  cases hv : valid L with
  | true =>
    have hl16 := (valid_bd hv).2.2.2
    have hpl := pad_len hl16
    have hi16 : (Try.prog.info? 45).map (·.size) = some (arr (pad L)).size := by rw [arr_size, hpl]; exact T_info35
    have hsz : (arr (pad L)).size = (arr (List.replicate 16 0)).size := by rw [arr_size, arr_size, hpl]; rfl
    have HD := Lib.hid (dg_yes hv)
    have HV := Lib.hid hv
    have HPL := Lib.hid hpl
    clear hpl
    by_cases hin : 0 ≤ i ∧ i < L.length
    · obtain ⟨k, rfl⟩ := Int.eq_ofNat_of_zero_le hin.1
      have hk : k < L.length := by omega
      have hk16 : k < 16 := by omega
      have hg0 : decide ((k : Int) < 0) = false := decide_eq_false (by omega)
      have hg1 : decide (L.length ≤ k) = false := decide_eq_false (by omega)
      have hk' : (k : Int) < 16 := by omega
      clear hin
      have hIC : isCD (pad L) k = isC L k := by rw [isCD_pad hv, if_pos hk]
      have hOk : rmvOk L k = isC L k := by unfold rmvOk; rw [hv, decide_eq_true (by omega : (0 : Int) ≤ (k : Int)), decide_eq_true (by omega : (k : Int) < (L.length : Int))]; rfl
      have HOK := Lib.hid hOk
      clear hOk
      have hgk : (pad L).getD k 0 = L.getD k 0 := pad_getD hl16 k
      have hgl : L.getD k 0 = L[k] := getD_lt hk
      have hp := preS_of_valid hv k hk hk
      have hpk : 1 ≤ L[k] ∧ L[k] ≤ 16 := ⟨hp.1, hp.2.1⟩
      have hpc : (pad L)[k]'(by rw [HPL.out]; exact hk16) = L[k] := by rw [← hgl, ← hgk, getD_lt]
      have HPC := Lib.hid hpc
      have HGL := Lib.hid hgl
      clear hp hgk hgl hpc
      cases hcb : isC L k with
      | true =>
        rw [hcb] at hIC
        have hvl := valid_less hv hk hcb
        have hpll := pad_less hv hk hcb
        rw [HGL.out] at hpll
        have hil : (Try.prog.info? 45).map (·.size) = some (arr (pad (lessL L k))).size := by rw [arr_size, pad_len (valid_bd hvl).2.2.2]; exact T_info35
        have HVL := Lib.hid hvl
        have HPLL := Lib.hid hpll
        have HIC := Lib.hid hIC
        have HC := Lib.hid hcb
        clear hcb hvl hpll hIC hv
        go_enter Try.func15, Try.ntmps15
        go_wp2_with (first
        | (go_at_call 38; refine (diagramOf_any _ _ B L _ h hB hl).mono ?_; rintro e w1 ⟨rfl, hb1⟩; rw [HD.out, HV.out])
        | (refine wpList_store_row rfl 45 (.tmp 6) (.tmp 11) rfl w1.heap.size rfl (arr (pad L)) rfl 45 (arr (List.replicate 16 0)) (Blk.new w1 _ _) hi16 hsz (arr_one _) ?_; have hb2 := (Blk.new w1 45 (arr (List.replicate 16 0))).row (vs := arr (pad L)); have hbel2 : Below w.heap.size w ((w1.alloc (.cells (arr (List.replicate 16 0)) 45)).setRow w1.heap.size (arr (pad L))) := below_setRow' (hb1.alloc hb1.size _) (by exact hb1.size) _; obtain ⟨w2, hw2⟩ : ∃ w2, w2 = (w1.alloc (.cells (#[.int .i64 0, .int .i64 0, .int .i64 0, .int .i64 0, .int .i64 0, .int .i64 0, .int .i64 0, .int .i64 0, .int .i64 0, .int .i64 0, .int .i64 0, .int .i64 0, .int .i64 0, .int .i64 0, .int .i64 0, .int .i64 0]) 45)).setRow w1.heap.size (arr (pad L)) := ⟨_, rfl⟩; rw [← hw2]; replace hb2 : Blk w2 w1.heap.size 45 (arr (pad L)) := hw2 ▸ hb2; replace hbel2 : Below w.heap.size w w2 := hw2 ▸ hbel2; clear hw2)
        | (refine wpList_load_row_g rfl 45 (.tmp 6) rfl (w1.heap.size) rfl 45 (arr (pad L)) (0, 0) _ hb2 Try.underlying45 rfl hi16 ?_)
        | (go_at_call 43; refine (isCorner_any (pad L) HPL.out k hk16 _).mono ?_; rintro e w3 ⟨rfl, hb3⟩; rw [HIC.out]; have hb3' : Blk w3 w1.heap.size 45 (arr (pad L)) := hb2.below hb3 hb2.lt; have hc3 : w3.cell? ⟨w1.heap.size, k, none⟩ = some (.int .i64 L[k]) := (by rw [hb3'.cell k, arr_get _ k (by rw [HPL.out]; exact hk16), HPC.out]); have hf3 : w3.frozen? ⟨w1.heap.size, k, none⟩ = false := hb3'.free k; have hb4 : Blk (w3.setCell ⟨w1.heap.size, k, none⟩ (.int .i64 (L[k] - 1))) w1.heap.size 45 (arr (pad (lessL L k))) := (by have e := hb3'.set k (.int .i64 (L[k] - 1)); rw [arr_set, HPLL.out] at e; exact e); have hbel4 : Below w.heap.size w (w3.setCell ⟨w1.heap.size, k, none⟩ (.int .i64 (L[k] - 1))) := (hbel2.trans (hb3.mono hbel2.size)).setCell (by show w.heap.size ≤ w1.heap.size; exact hb1.size) _)
        | (refine wpList_load_row rfl 45 (.tmp 6) rfl (w1.heap.size) rfl 45 (arr (pad (lessL L k))) (0, 0) _ hb4 Try.underlying45 rfl hil ?_)
        | (go_at_call 40; refine (list_any (lessL L k) HVL.out _).mono ?_; rintro e w5 ⟨a', rfl, ho5, hb5⟩))
        go_ret2
        rw [HOK.out, HC.out]
        have hr : rmv L k = lessL L k := by unfold rmv; rw [HOK.out, HC.out]; rfl
        rw [hr]
        exact ⟨a', (lessL L k).length, rfl, ho5.lower hbel4.size, hbel4.trans (hb5.mono hbel4.size)⟩
      | false =>
        rw [hcb] at hIC
        have HIC := Lib.hid hIC
        have HC := Lib.hid hcb
        clear hcb hIC hv
        go_enter Try.func15, Try.ntmps15
        go_wp2_with (first
        | (go_at_call 38; refine (diagramOf_any _ _ B L _ h hB hl).mono ?_; rintro e w1 ⟨rfl, hb1⟩; rw [HD.out, HV.out])
        | (refine wpList_store_row rfl 45 (.tmp 6) (.tmp 11) rfl w1.heap.size rfl (arr (pad L)) rfl 45 (arr (List.replicate 16 0)) (Blk.new w1 _ _) hi16 hsz (arr_one _) ?_; have hb2 := (Blk.new w1 45 (arr (List.replicate 16 0))).row (vs := arr (pad L)); have hbel2 : Below w.heap.size w ((w1.alloc (.cells (arr (List.replicate 16 0)) 45)).setRow w1.heap.size (arr (pad L))) := below_setRow' (hb1.alloc hb1.size _) (by exact hb1.size) _; obtain ⟨w2, hw2⟩ : ∃ w2, w2 = (w1.alloc (.cells (#[.int .i64 0, .int .i64 0, .int .i64 0, .int .i64 0, .int .i64 0, .int .i64 0, .int .i64 0, .int .i64 0, .int .i64 0, .int .i64 0, .int .i64 0, .int .i64 0, .int .i64 0, .int .i64 0, .int .i64 0, .int .i64 0]) 45)).setRow w1.heap.size (arr (pad L)) := ⟨_, rfl⟩; rw [← hw2]; replace hb2 : Blk w2 w1.heap.size 45 (arr (pad L)) := hw2 ▸ hb2; replace hbel2 : Below w.heap.size w w2 := hw2 ▸ hbel2; clear hw2)
        | (refine wpList_load_row_g rfl 45 (.tmp 6) rfl (w1.heap.size) rfl 45 (arr (pad L)) (0, 0) _ hb2 Try.underlying45 rfl hi16 ?_)
        | (go_at_call 43; refine (isCorner_any (pad L) HPL.out k hk16 _).mono ?_; rintro e w3 ⟨rfl, hb3⟩; rw [HIC.out]))
        go_ret2
        rw [rmv_no (by rw [HOK.out, HC.out]), HOK.out, HC.out]
        exact ⟨none, 0, rfl, own_nil0 _ _ _, hbel2.trans (hb3.mono hbel2.size)⟩
    · have hOk : rmvOk L i = false := by
        unfold rmvOk
        rw [hv]
        rcases Int.lt_or_le i 0 with h0 | h0
        · rw [decide_eq_false (by omega : ¬ 0 ≤ i)]; rfl
        · rw [decide_eq_false (by omega : ¬ i < (L.length : Int))]; simp
      rw [rmv_no hOk, hOk]
      clear hOk
      by_cases h0 : i < 0
      · have hg0 : decide (i < 0) = true := decide_eq_true h0
        clear hin h0 hv
        go_enter Try.func15, Try.ntmps15
        go_wp2_with (first
        | (go_at_call 38; refine (diagramOf_any _ _ B L _ h hB hl).mono ?_; rintro e w1 ⟨rfl, hb1⟩; rw [HD.out, HV.out])
        | (refine wpList_store_row rfl 45 (.tmp 6) (.tmp 11) rfl w1.heap.size rfl (arr (pad L)) rfl 45 (arr (List.replicate 16 0)) (Blk.new w1 _ _) hi16 hsz (arr_one _) ?_; have hb2 := (Blk.new w1 45 (arr (List.replicate 16 0))).row (vs := arr (pad L)); have hbel2 : Below w.heap.size w ((w1.alloc (.cells (arr (List.replicate 16 0)) 45)).setRow w1.heap.size (arr (pad L))) := below_setRow' (hb1.alloc hb1.size _) (by exact hb1.size) _; obtain ⟨w2, hw2⟩ : ∃ w2, w2 = (w1.alloc (.cells (#[.int .i64 0, .int .i64 0, .int .i64 0, .int .i64 0, .int .i64 0, .int .i64 0, .int .i64 0, .int .i64 0, .int .i64 0, .int .i64 0, .int .i64 0, .int .i64 0, .int .i64 0, .int .i64 0, .int .i64 0, .int .i64 0]) 45)).setRow w1.heap.size (arr (pad L)) := ⟨_, rfl⟩; rw [← hw2]; replace hb2 : Blk w2 w1.heap.size 45 (arr (pad L)) := hw2 ▸ hb2; replace hbel2 : Below w.heap.size w w2 := hw2 ▸ hbel2; clear hw2))
        go_ret2
        exact ⟨none, 0, rfl, own_nil0 _ _ _, hbel2⟩
      · have hg0 : decide (i < 0) = false := decide_eq_false h0
        have hg1 : decide ((L.length : Int) ≤ i) = true := decide_eq_true (by omega)
        clear hin h0 hv
        go_enter Try.func15, Try.ntmps15
        go_wp2_with (first
        | (go_at_call 38; refine (diagramOf_any _ _ B L _ h hB hl).mono ?_; rintro e w1 ⟨rfl, hb1⟩; rw [HD.out, HV.out])
        | (refine wpList_store_row rfl 45 (.tmp 6) (.tmp 11) rfl w1.heap.size rfl (arr (pad L)) rfl 45 (arr (List.replicate 16 0)) (Blk.new w1 _ _) hi16 hsz (arr_one _) ?_; have hb2 := (Blk.new w1 45 (arr (List.replicate 16 0))).row (vs := arr (pad L)); have hbel2 : Below w.heap.size w ((w1.alloc (.cells (arr (List.replicate 16 0)) 45)).setRow w1.heap.size (arr (pad L))) := below_setRow' (hb1.alloc hb1.size _) (by exact hb1.size) _; obtain ⟨w2, hw2⟩ : ∃ w2, w2 = (w1.alloc (.cells (#[.int .i64 0, .int .i64 0, .int .i64 0, .int .i64 0, .int .i64 0, .int .i64 0, .int .i64 0, .int .i64 0, .int .i64 0, .int .i64 0, .int .i64 0, .int .i64 0, .int .i64 0, .int .i64 0, .int .i64 0, .int .i64 0]) 45)).setRow w1.heap.size (arr (pad L)) := ⟨_, rfl⟩; rw [← hw2]; replace hb2 : Blk w2 w1.heap.size 45 (arr (pad L)) := hw2 ▸ hb2; replace hbel2 : Below w.heap.size w w2 := hw2 ▸ hbel2; clear hw2))
        go_ret2
        exact ⟨none, 0, rfl, own_nil0 _ _ _, hbel2⟩
  | false =>
    have hh := rmvOk_no hv i
    rw [hh, rmv_no hh]
    have hi16 : (Try.prog.info? 45).map (·.size) = some (arr (dg L)).size := by rw [arr_size, dg_len]; exact T_info35
    have hsz : (arr (dg L)).size = (arr (List.replicate 16 0)).size := by rw [arr_size, arr_size, dg_len]; rfl
    have HV := Lib.hid hv
    clear hh hv
    go_enter Try.func15, Try.ntmps15
    go_wp2_with (first
        | (go_at_call 38; refine (diagramOf_any _ _ B L _ h hB hl).mono ?_; rintro e w1 ⟨rfl, hb1⟩; rw [HV.out])
        | (refine wpList_store_row rfl 45 (.tmp 6) (.tmp 11) rfl w1.heap.size rfl (arr (dg L)) rfl 45 (arr (List.replicate 16 0)) (Blk.new w1 _ _) hi16 hsz (arr_one _) ?_))
    go_ret2
    exact ⟨none, 0, rfl, own_nil0 _ _ _, below_setRow' (hb1.alloc hb1.size _) (by exact hb1.size) _⟩
theorem addOk_no {L : List Int} (h : valid L = false) (i : Int) : addOk L i = false := by simp [addOk, h]
theorem addC_no {L : List Int} {i : Int} (h : addOk L i = false) : addC L i = [] := by simp [addC, h]
theorem addC_yes {L : List Int} {i : Int} (h : addOk L i = true) : addC L i = addL L i.toNat := by simp [addC, h]
theorem addOk_at {L : List Int} (hv : valid L = true) {k : Nat} (hk : k ≤ L.length) : addOk L k = valid (addL L k) := by
  unfold addOk
  rw [hv, decide_eq_true (by omega : (0 : Int) ≤ (k : Int)), decide_eq_true (by omega : (k : Int) ≤ (L.length : Int))]
  rfl
theorem addOk_out {L : List Int} {i : Int} (h : ¬ (0 ≤ i ∧ i ≤ L.length)) : addOk L i = false := by
  unfold addOk
  rcases Int.lt_or_le i 0 with h0 | h0
  · rw [decide_eq_false (by omega : ¬ 0 ≤ i)]; simp
  · rw [decide_eq_false (by omega : ¬ i ≤ (L.length : Int))]; simp
theorem Blk.drs {w : World} {g : Nat} {t : TypeId} {cs : Array Value} (h : Blk w g t cs) (n : Nat) : Blk (w.drewN n) g t cs := h

theorem iAddCell_any (a : Option Addr) (c B : Nat) (L : List Int) (i : Int) (w : World) (h : Rd w B a (ints L)) (hB : B ≤ w.heap.size) (hl : L.length ≤ 4611686018427387904) :
    Calls Try.prog 12 #[.slice a L.length c, .int .i64 i] w fun e w' => ∃ a' c', e = .returned (.tuple #[.slice a' (addC L i).length c', .bool (addOk L i)]) ∧ Own w' w.heap.size w'.heap.size 3 (.slice a' (addC L i).length c') (ints (addC L i)) ∧ Below w.heap.size w w' := by
  cases hv : valid L with
  | true =>
    have hl16 := (valid_bd hv).2.2.2
    have hpl := pad_len hl16
    have hi16 : (Try.prog.info? 45).map (·.size) = some (arr (pad L)).size := by rw [arr_size, hpl]; exact T_info35
    have hsz : (arr (pad L)).size = (arr (List.replicate 16 0)).size := by rw [arr_size, arr_size, hpl]; rfl
    have HD := Lib.hid (dg_yes hv)
    have HV := Lib.hid hv
    have HPL := Lib.hid hpl
    clear hpl
    by_cases hin : 0 ≤ i ∧ i ≤ L.length
    · obtain ⟨k, rfl⟩ := Int.eq_ofNat_of_zero_le hin.1
      have hk : k ≤ L.length := by omega
      have hg0 : decide ((k : Int) < 0) = false := decide_eq_false (by omega)
      have hg1 : decide (L.length < k) = false := decide_eq_false (by omega)
      clear hin
      have hF := pad_fits hv
      have HF := Lib.hid hF
      have HSP := Lib.hid (sumL_pad L)
      have hbd := valid_bd hv
      have hs16 : 0 ≤ sumL L ∧ sumL L ≤ 16 := ⟨hbd.1, hbd.2.1⟩
      have hOk := addOk_at hv hk
      have hVA := valid_add hv hk
      have hxl := pad_getD hl16 k
      clear hF
      by_cases hsum : sumL L = 16
      · have hsb : (sumL L == 16) = true := beq_iff_eq.2 hsum
        rw [hVA, decide_eq_false (by omega : ¬ (sumL L ≠ 16)), Bool.false_and] at hOk
        rw [addC_no hOk, hOk]
        clear hOk hVA hsum hbd hxl hv
        go_enter Try.func12, Try.ntmps12
        go_wp2_with (first
        | (go_at_call 38; refine (diagramOf_any _ _ B L _ h hB hl).mono ?_; rintro e w1 ⟨rfl, hb1⟩; rw [HD.out, HV.out])
        | (refine wpList_store_row rfl 45 (.tmp 6) (.tmp 11) rfl w1.heap.size rfl (arr (pad L)) rfl 45 (arr (List.replicate 16 0)) (Blk.new w1 _ _) hi16 hsz (arr_one _) ?_; have hb2 := (Blk.new w1 45 (arr (List.replicate 16 0))).row (vs := arr (pad L)); have hbel2 : Below w.heap.size w ((w1.alloc (.cells (arr (List.replicate 16 0)) 45)).setRow w1.heap.size (arr (pad L))) := below_setRow' (hb1.alloc hb1.size _) (by exact hb1.size) _; obtain ⟨w2, hw2⟩ : ∃ w2, w2 = (w1.alloc (.cells (#[.int .i64 0, .int .i64 0, .int .i64 0, .int .i64 0, .int .i64 0, .int .i64 0, .int .i64 0, .int .i64 0, .int .i64 0, .int .i64 0, .int .i64 0, .int .i64 0, .int .i64 0, .int .i64 0, .int .i64 0, .int .i64 0]) 45)).setRow w1.heap.size (arr (pad L)) := ⟨_, rfl⟩; rw [← hw2]; replace hb2 : Blk w2 w1.heap.size 45 (arr (pad L)) := hw2 ▸ hb2; replace hbel2 : Below w.heap.size w w2 := hw2 ▸ hbel2; clear hw2)
        | (refine wpList_load_row_g rfl 45 (.tmp 6) rfl (w1.heap.size) rfl 45 (arr (pad L)) (0, 0) _ hb2 Try.underlying45 rfl hi16 ?_)
        | (go_at_call 39; refine (dsum_any (pad L) HPL.out HF.out _).mono ?_; rintro e w3 ⟨rfl, hb3⟩; rw [HSP.out]))
        go_ret2
        exact ⟨none, 0, rfl, own_nil0 _ _ _, hbel2.trans (hb3.mono hbel2.size)⟩
      · have hsb : (sumL L == 16) = false := beq_eq_false_iff_ne.2 hsum
        have hk16 : k < 16 := by omega
        have hk' : (k : Int) < 16 := by omega
        rw [hVA, decide_eq_true hsum, Bool.true_and] at hOk hVA
        have hX : (pad L)[k]'(by rw [HPL.out]; exact hk16) = L.getD k 0 := by rw [← hxl, getD_lt]
        have hPA := fun h => pad_add hl16 hk hk16 h
        have hx0 : 0 ≤ L.getD k 0 ∧ L.getD k 0 ≤ 16 := by
          rcases Nat.lt_or_ge k L.length with h1 | h1
          · have := preS_of_valid hv k h1 h1
            rw [getD_lt h1]; omega
          · rw [getD_ge h1]; omega
        obtain ⟨x, hx⟩ : ∃ x, x = L.getD k 0 := ⟨_, rfl⟩
        rw [← hx] at hX hPA hx0 hOk hVA
        have HX := Lib.hid hX
        have HPA := Lib.hid hPA
        have HOK := Lib.hid hOk
        have HVA := Lib.hid hVA
        clear hX hPA hOk hVA hx hsum hbd hxl
        go_enter Try.func12, Try.ntmps12
        go_wp2_with (first
        | (go_at_call 38; refine (diagramOf_any _ _ B L _ h hB hl).mono ?_; rintro e w1 ⟨rfl, hb1⟩; rw [HD.out, HV.out])
        | (refine wpList_store_row rfl 45 (.tmp 6) (.tmp 11) rfl w1.heap.size rfl (arr (pad L)) rfl 45 (arr (List.replicate 16 0)) (Blk.new w1 _ _) hi16 hsz (arr_one _) ?_; have hb2 := (Blk.new w1 45 (arr (List.replicate 16 0))).row (vs := arr (pad L)); have hbel2 : Below w.heap.size w ((w1.alloc (.cells (arr (List.replicate 16 0)) 45)).setRow w1.heap.size (arr (pad L))) := below_setRow' (hb1.alloc hb1.size _) (by exact hb1.size) _; obtain ⟨w2, hw2⟩ : ∃ w2, w2 = (w1.alloc (.cells (#[.int .i64 0, .int .i64 0, .int .i64 0, .int .i64 0, .int .i64 0, .int .i64 0, .int .i64 0, .int .i64 0, .int .i64 0, .int .i64 0, .int .i64 0, .int .i64 0, .int .i64 0, .int .i64 0, .int .i64 0, .int .i64 0]) 45)).setRow w1.heap.size (arr (pad L)) := ⟨_, rfl⟩; rw [← hw2]; replace hb2 : Blk w2 w1.heap.size 45 (arr (pad L)) := hw2 ▸ hb2; replace hbel2 : Below w.heap.size w w2 := hw2 ▸ hbel2; clear hw2)
        | (refine wpList_load_row_g rfl 45 (.tmp 6) rfl (w1.heap.size) rfl 45 (arr (pad L)) (0, 0) _ hb2 Try.underlying45 rfl hi16 ?_)
        | (go_at_call 39; refine (dsum_any (pad L) HPL.out HF.out _).mono ?_; rintro e w3 ⟨rfl, hb3⟩; rw [HSP.out]; have hb3' : Blk w3 w1.heap.size 45 (arr (pad L)) := hb2.below hb3 hb2.lt; have hc3 : w3.cell? ⟨w1.heap.size, k, none⟩ = some (.int .i64 x) := (by rw [hb3'.cell k, arr_get _ k (by rw [HPL.out]; exact hk16), HX.out]); have hf3 : w3.frozen? ⟨w1.heap.size, k, none⟩ = false := hb3'.free k))
        have hb4 := hb3'.set k (.int .i64 (x + 1))
        have hbel4 : Below w.heap.size w (w3.setCell ⟨w1.heap.size, k, none⟩ (.int .i64 (x + 1))) := (hbel2.trans (hb3.mono hbel2.size)).setCell (by show w.heap.size ≤ w1.heap.size; exact hb1.size) _
        obtain ⟨w4, hw4⟩ : ∃ w4, w4 = w3.setCell ⟨w1.heap.size, k, none⟩ (.int .i64 (x + 1)) := ⟨_, rfl⟩
        rw [← hw4] at hb4 hbel4 ⊢
        clear hw4 hc3 hf3
        rw [arr_set] at hb4
        have hc4 : w4.cell? ⟨w1.heap.size, k, none⟩ = some (.int .i64 (x + 1)) := by rw [hb4.cell k, arr_get _ k (by rw [List.length_set, HPL.out]; exact hk16), List.getElem_set_self]
        by_cases hk0 : k = 0
        · have hd0 : decide (0 < k) = false := decide_eq_false (by omega)
          have hok : addOk L k = true := by rw [HOK.out, decide_eq_true hk0]; rfl
          have hvl : valid (addL L k) = true := by rw [← addOk_at HV.out hk]; exact hok
          have hpl := HPA.out (valid_bd hvl).2.2.2
          rw [hpl] at hb4
          have hil : (Try.prog.info? 45).map (·.size) = some (arr (pad (addL L k))).size := by rw [arr_size, pad_len (valid_bd hvl).2.2.2]; exact T_info35
          have HVL := Lib.hid hvl
          have HOK2 := Lib.hid hok
          clear hvl hpl hok hk0 hv
          go_quiet (fail)
          go_wp2_with (first
        | (refine wpList_load_row rfl 45 (.tmp 6) rfl (w1.heap.size) rfl 45 (arr (pad (addL L k))) (0, 0) _ (hb4.drs _) Try.underlying45 rfl hil ?_)
        | (go_at_call 40; refine (list_any (addL L k) HVL.out _).mono ?_; rintro e w5 ⟨a', rfl, ho5, hb5⟩))
          go_ret2
          rw [addC_yes HOK2.out, HOK2.out]
          exact ⟨a', (addL L k).length, rfl, ho5.lower hbel4.size, hbel4.trans (((Dr.n _ _).below _).trans (hb5.mono hbel4.size))⟩
        · have hd0 : decide (0 < k) = true := decide_eq_true (by omega)
          have hk1 : (k : Int) - 1 = ((k - 1 : Nat) : Int) := by omega
          have hk1' : ((k - 1 : Nat) : Int) < 16 := by omega
          have hc5 : w4.cell? ⟨w1.heap.size, k - 1, none⟩ = some (.int .i64 (L.getD (k - 1) 0)) := by
            rw [hb4.cell (k - 1), arr_get _ (k - 1) (by rw [List.length_set, HPL.out]; omega), List.getElem_set_ne (by omega), ← pad_getD hl16, getD_lt]
          by_cases hcmp : x + 1 ≤ L.getD (k - 1) 0
          · have hok : addOk L k = true := by rw [HOK.out, decide_eq_true hcmp, Bool.or_true]
            have hvl : valid (addL L k) = true := by rw [← addOk_at HV.out hk]; exact hok
            have hpl := HPA.out (valid_bd hvl).2.2.2
            rw [hpl] at hb4
            have hil : (Try.prog.info? 45).map (·.size) = some (arr (pad (addL L k))).size := by rw [arr_size, pad_len (valid_bd hvl).2.2.2]; exact T_info35
            have HVL := Lib.hid hvl
            have HOK2 := Lib.hid hok
            have hcb : decide (L.getD (k - 1) 0 < x + 1) = false := decide_eq_false (by omega)
            clear hvl hpl hok hk0 hv hcmp
            generalize L.getD (k - 1) 0 = y at hc5 hcb
            go_quiet (fail)
            go_wp2_with (first
        | (refine wpList_load_row rfl 45 (.tmp 6) rfl (w1.heap.size) rfl 45 (arr (pad (addL L k))) (0, 0) _ (hb4.drs _) Try.underlying45 rfl hil ?_)
        | (go_at_call 40; refine (list_any (addL L k) HVL.out _).mono ?_; rintro e w5 ⟨a', rfl, ho5, hb5⟩))
            go_ret2
            rw [addC_yes HOK2.out, HOK2.out]
            exact ⟨a', (addL L k).length, rfl, ho5.lower hbel4.size, hbel4.trans (((Dr.n _ _).below _).trans (hb5.mono hbel4.size))⟩
          · have hok : addOk L k = false := by rw [HOK.out, decide_eq_false hcmp, decide_eq_false hk0]; rfl
            have HOK2 := Lib.hid hok
            have hcb : decide (L.getD (k - 1) 0 < x + 1) = true := decide_eq_true (by omega)
            clear hok hk0 hv hcmp
            generalize L.getD (k - 1) 0 = y at hc5 hcb
            go_quiet (fail)
            go_wp2
            go_ret2
            rw [addC_no HOK2.out, HOK2.out]
            exact ⟨none, 0, rfl, own_nil0 _ _ _, hbel4.trans ((Dr.n _ _).below _)⟩
    · have hOk := addOk_out hin
      rw [addC_no hOk, hOk]
      clear hOk
      by_cases h0 : i < 0
      · have hg0 : decide (i < 0) = true := decide_eq_true h0
        clear hin h0 hv
        go_enter Try.func12, Try.ntmps12
        go_wp2_with (first
        | (go_at_call 38; refine (diagramOf_any _ _ B L _ h hB hl).mono ?_; rintro e w1 ⟨rfl, hb1⟩; rw [HD.out, HV.out])
        | (refine wpList_store_row rfl 45 (.tmp 6) (.tmp 11) rfl w1.heap.size rfl (arr (pad L)) rfl 45 (arr (List.replicate 16 0)) (Blk.new w1 _ _) hi16 hsz (arr_one _) ?_; have hb2 := (Blk.new w1 45 (arr (List.replicate 16 0))).row (vs := arr (pad L)); have hbel2 : Below w.heap.size w ((w1.alloc (.cells (arr (List.replicate 16 0)) 45)).setRow w1.heap.size (arr (pad L))) := below_setRow' (hb1.alloc hb1.size _) (by exact hb1.size) _; obtain ⟨w2, hw2⟩ : ∃ w2, w2 = (w1.alloc (.cells (#[.int .i64 0, .int .i64 0, .int .i64 0, .int .i64 0, .int .i64 0, .int .i64 0, .int .i64 0, .int .i64 0, .int .i64 0, .int .i64 0, .int .i64 0, .int .i64 0, .int .i64 0, .int .i64 0, .int .i64 0, .int .i64 0]) 45)).setRow w1.heap.size (arr (pad L)) := ⟨_, rfl⟩; rw [← hw2]; replace hb2 : Blk w2 w1.heap.size 45 (arr (pad L)) := hw2 ▸ hb2; replace hbel2 : Below w.heap.size w w2 := hw2 ▸ hbel2; clear hw2))
        go_ret2
        exact ⟨none, 0, rfl, own_nil0 _ _ _, hbel2⟩
      · have hg0 : decide (i < 0) = false := decide_eq_false h0
        have hg1 : decide ((L.length : Int) < i) = true := decide_eq_true (by omega)
        clear hin h0 hv
        go_enter Try.func12, Try.ntmps12
        go_wp2_with (first
        | (go_at_call 38; refine (diagramOf_any _ _ B L _ h hB hl).mono ?_; rintro e w1 ⟨rfl, hb1⟩; rw [HD.out, HV.out])
        | (refine wpList_store_row rfl 45 (.tmp 6) (.tmp 11) rfl w1.heap.size rfl (arr (pad L)) rfl 45 (arr (List.replicate 16 0)) (Blk.new w1 _ _) hi16 hsz (arr_one _) ?_; have hb2 := (Blk.new w1 45 (arr (List.replicate 16 0))).row (vs := arr (pad L)); have hbel2 : Below w.heap.size w ((w1.alloc (.cells (arr (List.replicate 16 0)) 45)).setRow w1.heap.size (arr (pad L))) := below_setRow' (hb1.alloc hb1.size _) (by exact hb1.size) _; obtain ⟨w2, hw2⟩ : ∃ w2, w2 = (w1.alloc (.cells (#[.int .i64 0, .int .i64 0, .int .i64 0, .int .i64 0, .int .i64 0, .int .i64 0, .int .i64 0, .int .i64 0, .int .i64 0, .int .i64 0, .int .i64 0, .int .i64 0, .int .i64 0, .int .i64 0, .int .i64 0, .int .i64 0]) 45)).setRow w1.heap.size (arr (pad L)) := ⟨_, rfl⟩; rw [← hw2]; replace hb2 : Blk w2 w1.heap.size 45 (arr (pad L)) := hw2 ▸ hb2; replace hbel2 : Below w.heap.size w w2 := hw2 ▸ hbel2; clear hw2))
        go_ret2
        exact ⟨none, 0, rfl, own_nil0 _ _ _, hbel2⟩
  | false =>
    have hh := addOk_no hv i
    rw [hh, addC_no hh]
    have hi16 : (Try.prog.info? 45).map (·.size) = some (arr (dg L)).size := by rw [arr_size, dg_len]; exact T_info35
    have hsz : (arr (dg L)).size = (arr (List.replicate 16 0)).size := by rw [arr_size, arr_size, dg_len]; rfl
    have HV := Lib.hid hv
    clear hh hv
    go_enter Try.func12, Try.ntmps12
    go_wp2_with (first
        | (go_at_call 38; refine (diagramOf_any _ _ B L _ h hB hl).mono ?_; rintro e w1 ⟨rfl, hb1⟩; rw [HV.out])
        | (refine wpList_store_row rfl 45 (.tmp 6) (.tmp 11) rfl w1.heap.size rfl (arr (dg L)) rfl 45 (arr (List.replicate 16 0)) (Blk.new w1 _ _) hi16 hsz (arr_one _) ?_))
    go_ret2
    exact ⟨none, 0, rfl, own_nil0 _ _ _, below_setRow' (hb1.alloc hb1.size _) (by exact hb1.size) _⟩
end Go.Proofs.Ytpjlbmdpbjdkhaa
