/-
  Walks: cells taken away and put, of the model and of the program.
-/
import Derived.Test.YthafbdpeignccaaW6
import Derived.Test.YthafbdpeignccaaM5
import Derived.Test.YthafbdpeignccaaArr2
namespace Go.Proofs.Ythafbdpeignccaa
open Go.RowKit NP
set_option maxRecDepth 8000
set_option linter.unusedVariables false

theorem Own.take {w : World} {lo hi : Nat} {e : TypeId} {a : Option Addr} {n c : Nat} {vs : List Value} (h : Own w lo hi e (.slice a n c) vs) (k : Nat) (hk : k ≤ vs.length) : Own w lo hi e (.slice a k c) (vs.take k) := by
  refine ⟨?_, fun g hg => h.lt g (by cases a with | none => cases hg | some b => exact hg), h.le⟩
  have hlen : (vs.take k).length = k := by simp; omega
  rw [hlen]
  refine ⟨by rw [hlen]; omega, ?_⟩
  rcases h.row.2 with ⟨e1, e2⟩ | ⟨g, cap, cur, e1, hb, hg, hc, hm, hs, ht⟩
  · injection e1 with e3 e4 e5
    subst e3; subst e5
    have : k = 0 := by omega
    subst this
    exact .inl ⟨rfl, rfl⟩
  · injection e1 with e3 e4 e5
    subst e3; subst e5
    refine .inr ⟨g, c, cur, rfl, hb, hg, by omega, hm, hs, ?_⟩
    rw [← ht, List.take_take]
    congr 1
    omega

theorem hasInt_any (a : Option Addr) (c B : Nat) (M : List Int) (n : Int) (w : World) (h : Rd w B a (ints M)) (hl : M.length ≤ 4611686018427387904) :
    Calls Try.prog 110 #[.slice a M.length c, .int .i64 n] w fun e w' => e = .returned (.bool (hasI M n)) ∧ w = w' := by
  go_enter Try.func110, Try.ntmps110
  go_wp2
  go_loop [5] (fun i => ∃ k : Nat, k ≤ M.length ∧ i = .int .i64 k ∧ Hid (∀ j (hj : j < M.length), j < k → M[j] ≠ n)) (fun i => M.length - (intOf i).toNat)
  case atStart => exact ⟨0, Nat.zero_le _, rfl, Lib.hid fun j _ hj => by omega⟩
  case round =>
    obtain ⟨k, hk, rfl, HP⟩ := hrel
    by_cases hlt : k < M.length
    · obtain ⟨b, o, rfl, _, hc⟩ := h.at_ hlt
      by_cases hx : M[k] = n
      · have hxb : (M[k] == n) = true := beq_iff_eq.2 hx
        have HX := Lib.hid hx
        clear hx
        go_wp2
        go_ret
        exact ⟨ret_bool (by unfold hasI; rw [eq_comm, decide_eq_true_eq, ← HX.out]; exact List.getElem_mem hlt), rfl⟩
      · have hxb : (M[k] == n) = false := beq_eq_false_iff_ne.2 hx
        have HX := Lib.hid hx
        clear hx
        go_wp2
        go_round
        case rel => exact ⟨k + 1, by omega, by go_num, Lib.hid fun j hj hjk => by
          rcases Nat.lt_or_ge j k with h | h
          · exact HP.out j hj h
          · obtain rfl : j = k := by omega
            exact HX.out⟩
        case measure => simp [intOf]; omega
    · obtain rfl : k = M.length := by omega
      go_wp2
      go_ret
      exact ⟨ret_bool (by
        unfold hasI
        rw [eq_comm, decide_eq_false_iff_not]
        intro hm
        obtain ⟨j, hj, e⟩ := List.mem_iff_getElem.1 hm
        exact HP.out j hj hj e), rfl⟩

theorem less_any (a : Option Addr) (c B : Nat) (L : List Int) (k : Nat) (w : World) (h : Rd w B a (ints L)) (hB : B ≤ w.heap.size) (hv : valid L = true) (hk : k < L.length) :
    Calls Try.prog 107 #[.slice a L.length c, .int .i64 k] w fun e w' => ∃ a' c', e = .returned (.slice a' (lessL L k).length c') ∧ Own w' w.heap.size w'.heap.size 3 (.slice a' (lessL L k).length c') (ints (lessL L k)) ∧ Below w.heap.size w w' := by
  obtain ⟨i0, hi, hz0, hz1, hz2⟩ := T_int'
  have hl := (valid_bd hv).2.2.2
  have hp := preS_of_valid hv k hk hk
  have hpk : 1 ≤ L[k] ∧ L[k] ≤ 16 := ⟨hp.1, hp.2.1⟩
  clear hp
  have hg : L.getD k 0 = L[k] := getD_lt hk
  have HG := Lib.hid hg
  clear hg
  have HV := Lib.hid hv
  clear hv
  by_cases h0 : L[k] - 1 = 0
  · have h0b : (L[k] - 1 == 0) = true := beq_iff_eq.2 h0
    have HL : Hid (lessL L k = (L.set k (L[k] - 1)).take k) := Lib.hid (by unfold lessL; rw [HG.out, if_pos h0])
    have hc1 : (k : Int) ≤ (k : Int) := Int.le_refl _
    clear h0 hc1
    go_enter Try.func107, Try.ntmps107
    go_wp2_with (at_builtin; refine wpList_append_o _ rfl (.tmp 6) (.tmp 7) 22 rfl w.heap.size (w.heap.size + 1) 3 i0 (.int .i64 0) 8 Try.underlying22 hi hz0 hz1 hz2 rfl _ [] rfl (Own.empty w 3) B a L.length c (ints L) rfl (h.alloc hB _) (by simp) (ints_one L) (by simp; unfold maxLen; omega) (by simp; omega) (by simp) ?_; intro v' w1 ho1 hg1 hat1; rw [List.nil_append] at ho1; obtain ⟨g, c1, hv', hlog, hghi, hcell, hfz⟩ := ho1.at_ (k := k) (by simpa using hk); have hcap : L.length ≤ c1 := (by obtain ⟨g', c', e', hc'⟩ := ho1.formN (by simp; omega); rw [hv'] at e'; injection e' with _ _ e5; simp at hc'; omega); subst hv'; clear hat1; have hcellk : w1.cell? ⟨g, k, none⟩ = some (.int .i64 L[k]) := by rw [hcell]; simp)
    go_ret
    have hset : (ints L).set k (.int .i64 (L[k] - 1)) = ints (L.set k (L[k] - 1)) := by simp [ints, List.map_set]
    have hb1 : Below w.heap.size w w1 := ((Below.refl _ _).alloc (Nat.le_refl _) _).grown hg1 (by simp) (fun x hx => by injection hx with hx; subst hx; exact Nat.le_refl _)
    have hl1 : (ints L).length = L.length := by simp
    rw [hl1] at ho1
    have e := (ho1.set k (.int .i64 (L[k] - 1))).more
    rw [hset] at e
    rw [HL.out]
    have hlt : ((L.set k (L[k] - 1)).take k).length = k := by simp; omega
    rw [hlt]
    have e2 := e.take k (by simp; omega)
    refine ⟨some ⟨g, 0, none⟩, c1, rfl, ?_, hb1.setCell (by show w.heap.size ≤ g; exact hlog) _⟩
    have e3 : (ints (L.set k (L[k] - 1))).take k = ints ((L.set k (L[k] - 1)).take k) := by simp [ints, List.map_take]
    rw [e3] at e2
    exact e2
  · have h0b : (L[k] - 1 == 0) = false := beq_eq_false_iff_ne.2 h0
    have HL : Hid (lessL L k = L.set k (L[k] - 1)) := Lib.hid (by unfold lessL; rw [HG.out, if_neg h0])
    clear h0
    go_enter Try.func107, Try.ntmps107
    go_wp2_with (at_builtin; refine wpList_append_o _ rfl (.tmp 6) (.tmp 7) 22 rfl w.heap.size (w.heap.size + 1) 3 i0 (.int .i64 0) 8 Try.underlying22 hi hz0 hz1 hz2 rfl _ [] rfl (Own.empty w 3) B a L.length c (ints L) rfl (h.alloc hB _) (by simp) (ints_one L) (by simp; unfold maxLen; omega) (by simp; omega) (by simp) ?_; intro v' w1 ho1 hg1 hat1; rw [List.nil_append] at ho1; obtain ⟨g, c1, hv', hlog, hghi, hcell, hfz⟩ := ho1.at_ (k := k) (by simpa using hk); have hcap : L.length ≤ c1 := (by obtain ⟨g', c', e', hc'⟩ := ho1.formN (by simp; omega); rw [hv'] at e'; injection e' with _ _ e5; simp at hc'; omega); subst hv'; clear hat1; have hcellk : w1.cell? ⟨g, k, none⟩ = some (.int .i64 L[k]) := by rw [hcell]; simp)
    go_ret
    have hset : (ints L).set k (.int .i64 (L[k] - 1)) = ints (L.set k (L[k] - 1)) := by simp [ints, List.map_set]
    have hb1 : Below w.heap.size w w1 := ((Below.refl _ _).alloc (Nat.le_refl _) _).grown hg1 (by simp) (fun x hx => by injection hx with hx; subst hx; exact Nat.le_refl _)
    have hl1 : (ints L).length = L.length := by simp
    rw [hl1] at ho1
    have e := (ho1.set k (.int .i64 (L[k] - 1))).more
    rw [hset] at e
    rw [HL.out]
    have hlt : (L.set k (L[k] - 1)).length = L.length := by simp
    rw [hlt]
    exact ⟨some ⟨g, 0, none⟩, c1, by simp, e, hb1.setCell (by show w.heap.size ≤ g; exact hlog) _⟩

theorem rmvOk_no {L : List Int} (h : valid L = false) (i : Int) : rmvOk L i = false := by simp [rmvOk, h]
theorem rmvOk_yes {L : List Int} (h : valid L = true) (i : Int) : rmvOk L i = hasI (crn L) i := by
  unfold rmvOk crn
  rw [h, Bool.true_and, crnTo_fl, hasI_fl]
theorem rmv_no {L : List Int} {i : Int} (h : rmvOk L i = false) : rmv L i = [] := by simp [rmv, h]
theorem rmv_yes {L : List Int} {i : Int} (h : rmvOk L i = true) : ∃ k : Nat, i = k ∧ k < L.length ∧ isC L k = true ∧ valid L = true ∧ rmv L i = lessL L k := by
  have h2 := h
  unfold rmvOk at h
  simp only [Bool.and_eq_true, decide_eq_true_eq] at h
  obtain ⟨hv, ⟨h0, hlt⟩, hc⟩ := h
  obtain ⟨k, rfl⟩ := Int.eq_ofNat_of_zero_le h0
  refine ⟨k, rfl, by omega, hc, hv, ?_⟩
  unfold rmv
  rw [if_pos h2]
  rfl
theorem own_nil0 (w : World) (lo : Nat) (e : TypeId) : Own w lo w.heap.size e (.slice none ([] : List Int).length 0) (ints []) := Own.nil w lo e

theorem iRemoveCell_any (a : Option Addr) (c B : Nat) (L : List Int) (i : Int) (w : World) (h : Rd w B a (ints L)) (hB : B ≤ w.heap.size) (hl : L.length ≤ 4611686018427387904) :
    Calls Try.prog 30 #[.slice a L.length c, .int .i64 i] w fun e w' => ∃ a' c', e = .returned (.tuple #[.slice a' (rmv L i).length c', .bool (rmvOk L i)]) ∧ Own w' w.heap.size w'.heap.size 3 (.slice a' (rmv L i).length c') (ints (rmv L i)) ∧ Below w.heap.size w w' := by
  cases hv : valid L with
  | true =>
    have hl16 := (valid_bd hv).2.2.2
    have hpl := pad_len hl16
    have hi16 : (Try.prog.info? 59).map (·.size) = some (arr (pad L)).size := by rw [arr_size, hpl]; exact T_info35
    have hsz : (arr (pad L)).size = (arr (List.replicate 16 0)).size := by rw [arr_size, arr_size, hpl]; rfl
    have HD := Lib.hid (dg_yes hv)
    have HV := Lib.hid hv
    have HPL := Lib.hid hpl
    clear hpl
    by_cases hin : 0 ≤ i ∧ i < L.length
    · obtain ⟨k, rfl⟩ := Int.eq_ofNat_of_zero_le hin.1
      have hk : k < L.length := by omega
      have hk16 : k < 16 := by omega
      have hg0 : decide ((k : Int) < 0) = false := decide_eq_false (by omega)
      have hg1 : decide (L.length ≤ k) = false := decide_eq_false (by omega)
      have hk' : (k : Int) < 16 := by omega
      clear hin
      have hIC : isCD (pad L) k = isC L k := by rw [isCD_pad hv, if_pos hk]
      have hOk : rmvOk L k = isC L k := by unfold rmvOk; rw [hv, decide_eq_true (by omega : (0 : Int) ≤ (k : Int)), decide_eq_true (by omega : (k : Int) < (L.length : Int))]; rfl
      have HOK := Lib.hid hOk
      clear hOk
      have hgk : (pad L).getD k 0 = L.getD k 0 := pad_getD hl16 k
      have hgl : L.getD k 0 = L[k] := getD_lt hk
      have hp := preS_of_valid hv k hk hk
      have hpk : 1 ≤ L[k] ∧ L[k] ≤ 16 := ⟨hp.1, hp.2.1⟩
      have hpc : (pad L)[k]'(by rw [HPL.out]; exact hk16) = L[k] := by rw [← hgl, ← hgk, getD_lt]
      have HPC := Lib.hid hpc
      have HGL := Lib.hid hgl
      clear hp hgk hgl hpc
      cases hcb : isC L k with
      | true =>
        rw [hcb] at hIC
        have hvl := valid_less hv hk hcb
        have hpll := pad_less hv hk hcb
        rw [HGL.out] at hpll
        have hil : (Try.prog.info? 59).map (·.size) = some (arr (pad (lessL L k))).size := by rw [arr_size, pad_len (valid_bd hvl).2.2.2]; exact T_info35
        have HVL := Lib.hid hvl
        have HPLL := Lib.hid hpll
        have HIC := Lib.hid hIC
        have HC := Lib.hid hcb
        clear hcb hvl hpll hIC hv
        go_enter Try.func30, Try.ntmps30
        go_wp2_with (first
        | (go_at_call 64; refine (diagramOf_any _ _ B L _ h hB hl).mono ?_; rintro e w1 ⟨rfl, hb1⟩; rw [HD.out, HV.out])
        | (refine wpList_store_row rfl 59 (.tmp 6) (.tmp 11) rfl w1.heap.size rfl (arr (pad L)) rfl 59 (arr (List.replicate 16 0)) (Blk.new w1 _ _) hi16 hsz (arr_one _) ?_; have hb2 := (Blk.new w1 59 (arr (List.replicate 16 0))).row (vs := arr (pad L)); have hbel2 : Below w.heap.size w ((w1.alloc (.cells (arr (List.replicate 16 0)) 59)).setRow w1.heap.size (arr (pad L))) := below_setRow' (hb1.alloc hb1.size _) (by exact hb1.size) _; obtain ⟨w2, hw2⟩ : ∃ w2, w2 = (w1.alloc (.cells (#[.int .i64 0, .int .i64 0, .int .i64 0, .int .i64 0, .int .i64 0, .int .i64 0, .int .i64 0, .int .i64 0, .int .i64 0, .int .i64 0, .int .i64 0, .int .i64 0, .int .i64 0, .int .i64 0, .int .i64 0, .int .i64 0]) 59)).setRow w1.heap.size (arr (pad L)) := ⟨_, rfl⟩; rw [← hw2]; replace hb2 : Blk w2 w1.heap.size 59 (arr (pad L)) := hw2 ▸ hb2; replace hbel2 : Below w.heap.size w w2 := hw2 ▸ hbel2; clear hw2)
        | (refine wpList_load_row_g rfl 59 (.tmp 6) rfl (w1.heap.size) rfl 59 (arr (pad L)) (0, 0) _ hb2 Try.underlying59 rfl hi16 ?_)
        | (go_at_call 75; refine (isCorner_any (pad L) HPL.out k hk16 _).mono ?_; rintro e w3 ⟨rfl, hb3⟩; rw [HIC.out]; have hb3' : Blk w3 w1.heap.size 59 (arr (pad L)) := hb2.below hb3 hb2.lt; have hc3 : w3.cell? ⟨w1.heap.size, k, none⟩ = some (.int .i64 L[k]) := (by rw [hb3'.cell k, arr_get _ k (by rw [HPL.out]; exact hk16), HPC.out]); have hf3 : w3.frozen? ⟨w1.heap.size, k, none⟩ = false := hb3'.free k; have hb4 : Blk (w3.setCell ⟨w1.heap.size, k, none⟩ (.int .i64 (L[k] - 1))) w1.heap.size 59 (arr (pad (lessL L k))) := (by have e := hb3'.set k (.int .i64 (L[k] - 1)); rw [arr_set, HPLL.out] at e; exact e); have hbel4 : Below w.heap.size w (w3.setCell ⟨w1.heap.size, k, none⟩ (.int .i64 (L[k] - 1))) := (hbel2.trans (hb3.mono hbel2.size)).setCell (by show w.heap.size ≤ w1.heap.size; exact hb1.size) _)
        | (refine wpList_load_row rfl 59 (.tmp 6) rfl (w1.heap.size) rfl 59 (arr (pad (lessL L k))) (0, 0) _ hb4 Try.underlying59 rfl hil ?_)
        | (go_at_call 76; refine (list_any (lessL L k) HVL.out _).mono ?_; rintro e w5 ⟨a', rfl, ho5, hb5⟩))
        go_ret2
        rw [HOK.out, HC.out]
        have hr : rmv L k = lessL L k := by unfold rmv; rw [HOK.out, HC.out]; rfl
        rw [hr]
        exact ⟨a', (lessL L k).length, rfl, ho5.lower hbel4.size, hbel4.trans (hb5.mono hbel4.size)⟩
      | false =>
        rw [hcb] at hIC
        have HIC := Lib.hid hIC
        have HC := Lib.hid hcb
        clear hcb hIC hv
        go_enter Try.func30, Try.ntmps30
        go_wp2_with (first
        | (go_at_call 64; refine (diagramOf_any _ _ B L _ h hB hl).mono ?_; rintro e w1 ⟨rfl, hb1⟩; rw [HD.out, HV.out])
        | (refine wpList_store_row rfl 59 (.tmp 6) (.tmp 11) rfl w1.heap.size rfl (arr (pad L)) rfl 59 (arr (List.replicate 16 0)) (Blk.new w1 _ _) hi16 hsz (arr_one _) ?_; have hb2 := (Blk.new w1 59 (arr (List.replicate 16 0))).row (vs := arr (pad L)); have hbel2 : Below w.heap.size w ((w1.alloc (.cells (arr (List.replicate 16 0)) 59)).setRow w1.heap.size (arr (pad L))) := below_setRow' (hb1.alloc hb1.size _) (by exact hb1.size) _; obtain ⟨w2, hw2⟩ : ∃ w2, w2 = (w1.alloc (.cells (#[.int .i64 0, .int .i64 0, .int .i64 0, .int .i64 0, .int .i64 0, .int .i64 0, .int .i64 0, .int .i64 0, .int .i64 0, .int .i64 0, .int .i64 0, .int .i64 0, .int .i64 0, .int .i64 0, .int .i64 0, .int .i64 0]) 59)).setRow w1.heap.size (arr (pad L)) := ⟨_, rfl⟩; rw [← hw2]; replace hb2 : Blk w2 w1.heap.size 59 (arr (pad L)) := hw2 ▸ hb2; replace hbel2 : Below w.heap.size w w2 := hw2 ▸ hbel2; clear hw2)
        | (refine wpList_load_row_g rfl 59 (.tmp 6) rfl (w1.heap.size) rfl 59 (arr (pad L)) (0, 0) _ hb2 Try.underlying59 rfl hi16 ?_)
        | (go_at_call 75; refine (isCorner_any (pad L) HPL.out k hk16 _).mono ?_; rintro e w3 ⟨rfl, hb3⟩; rw [HIC.out]))
        go_ret2
        rw [rmv_no (by rw [HOK.out, HC.out]), HOK.out, HC.out]
        exact ⟨none, 0, rfl, own_nil0 _ _ _, hbel2.trans (hb3.mono hbel2.size)⟩
    · have hOk : rmvOk L i = false := by
        unfold rmvOk
        rw [hv]
        rcases Int.lt_or_le i 0 with h0 | h0
        · rw [decide_eq_false (by omega : ¬ 0 ≤ i)]; rfl
        · rw [decide_eq_false (by omega : ¬ i < (L.length : Int))]; simp
      rw [rmv_no hOk, hOk]
      clear hOk
      by_cases h0 : i < 0
      · have hg0 : decide (i < 0) = true := decide_eq_true h0
        clear hin h0 hv
        go_enter Try.func30, Try.ntmps30
        go_wp2_with (first
        | (go_at_call 64; refine (diagramOf_any _ _ B L _ h hB hl).mono ?_; rintro e w1 ⟨rfl, hb1⟩; rw [HD.out, HV.out])
        | (refine wpList_store_row rfl 59 (.tmp 6) (.tmp 11) rfl w1.heap.size rfl (arr (pad L)) rfl 59 (arr (List.replicate 16 0)) (Blk.new w1 _ _) hi16 hsz (arr_one _) ?_; have hb2 := (Blk.new w1 59 (arr (List.replicate 16 0))).row (vs := arr (pad L)); have hbel2 : Below w.heap.size w ((w1.alloc (.cells (arr (List.replicate 16 0)) 59)).setRow w1.heap.size (arr (pad L))) := below_setRow' (hb1.alloc hb1.size _) (by exact hb1.size) _; obtain ⟨w2, hw2⟩ : ∃ w2, w2 = (w1.alloc (.cells (#[.int .i64 0, .int .i64 0, .int .i64 0, .int .i64 0, .int .i64 0, .int .i64 0, .int .i64 0, .int .i64 0, .int .i64 0, .int .i64 0, .int .i64 0, .int .i64 0, .int .i64 0, .int .i64 0, .int .i64 0, .int .i64 0]) 59)).setRow w1.heap.size (arr (pad L)) := ⟨_, rfl⟩; rw [← hw2]; replace hb2 : Blk w2 w1.heap.size 59 (arr (pad L)) := hw2 ▸ hb2; replace hbel2 : Below w.heap.size w w2 := hw2 ▸ hbel2; clear hw2))
        go_ret2
        exact ⟨none, 0, rfl, own_nil0 _ _ _, hbel2⟩
      · have hg0 : decide (i < 0) = false := decide_eq_false h0
        have hg1 : decide ((L.length : Int) ≤ i) = true := decide_eq_true (by omega)
        clear hin h0 hv
        go_enter Try.func30, Try.ntmps30
        go_wp2_with (first
        | (go_at_call 64; refine (diagramOf_any _ _ B L _ h hB hl).mono ?_; rintro e w1 ⟨rfl, hb1⟩; rw [HD.out, HV.out])
        | (refine wpList_store_row rfl 59 (.tmp 6) (.tmp 11) rfl w1.heap.size rfl (arr (pad L)) rfl 59 (arr (List.replicate 16 0)) (Blk.new w1 _ _) hi16 hsz (arr_one _) ?_; have hb2 := (Blk.new w1 59 (arr (List.replicate 16 0))).row (vs := arr (pad L)); have hbel2 : Below w.heap.size w ((w1.alloc (.cells (arr (List.replicate 16 0)) 59)).setRow w1.heap.size (arr (pad L))) := below_setRow' (hb1.alloc hb1.size _) (by exact hb1.size) _; obtain ⟨w2, hw2⟩ : ∃ w2, w2 = (w1.alloc (.cells (#[.int .i64 0, .int .i64 0, .int .i64 0, .int .i64 0, .int .i64 0, .int .i64 0, .int .i64 0, .int .i64 0, .int .i64 0, .int .i64 0, .int .i64 0, .int .i64 0, .int .i64 0, .int .i64 0, .int .i64 0, .int .i64 0]) 59)).setRow w1.heap.size (arr (pad L)) := ⟨_, rfl⟩; rw [← hw2]; replace hb2 : Blk w2 w1.heap.size 59 (arr (pad L)) := hw2 ▸ hb2; replace hbel2 : Below w.heap.size w w2 := hw2 ▸ hbel2; clear hw2))
        go_ret2
        exact ⟨none, 0, rfl, own_nil0 _ _ _, hbel2⟩
  | false =>
    have hh := rmvOk_no hv i
    rw [hh, rmv_no hh]
    have hi16 : (Try.prog.info? 59).map (·.size) = some (arr (dg L)).size := by rw [arr_size, dg_len]; exact T_info35
    have hsz : (arr (dg L)).size = (arr (List.replicate 16 0)).size := by rw [arr_size, arr_size, dg_len]; rfl
    have HV := Lib.hid hv
    clear hh hv
    go_enter Try.func30, Try.ntmps30
    go_wp2_with (first
        | (go_at_call 64; refine (diagramOf_any _ _ B L _ h hB hl).mono ?_; rintro e w1 ⟨rfl, hb1⟩; rw [HV.out])
        | (refine wpList_store_row rfl 59 (.tmp 6) (.tmp 11) rfl w1.heap.size rfl (arr (dg L)) rfl 59 (arr (List.replicate 16 0)) (Blk.new w1 _ _) hi16 hsz (arr_one _) ?_))
    go_ret2
    exact ⟨none, 0, rfl, own_nil0 _ _ _, below_setRow' (hb1.alloc hb1.size _) (by exact hb1.size) _⟩
theorem addOk_no {L : List Int} (h : valid L = false) (i : Int) : addOk L i = false := by simp [addOk, h]
theorem addC_no {L : List Int} {i : Int} (h : addOk L i = false) : addC L i = [] := by simp [addC, h]
theorem addC_yes {L : List Int} {i : Int} (h : addOk L i = true) : addC L i = addL L i.toNat := by simp [addC, h]
theorem addOk_at {L : List Int} (hv : valid L = true) {k : Nat} (hk : k ≤ L.length) : addOk L k = valid (addL L k) := by
  unfold addOk
  rw [hv, decide_eq_true (by omega : (0 : Int) ≤ (k : Int)), decide_eq_true (by omega : (k : Int) ≤ (L.length : Int))]
  rfl
theorem addOk_out {L : List Int} {i : Int} (h : ¬ (0 ≤ i ∧ i ≤ L.length)) : addOk L i = false := by
  unfold addOk
  rcases Int.lt_or_le i 0 with h0 | h0
  · rw [decide_eq_false (by omega : ¬ 0 ≤ i)]; simp
  · rw [decide_eq_false (by omega : ¬ i ≤ (L.length : Int))]; simp
theorem Blk.drs {w : World} {g : Nat} {t : TypeId} {cs : Array Value} (h : Blk w g t cs) (n : Nat) : Blk (w.drewN n) g t cs := h

end Go.Proofs.Ythafbdpeignccaa
