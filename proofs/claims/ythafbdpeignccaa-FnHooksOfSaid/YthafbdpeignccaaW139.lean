/-
  Walks of the program: in how many ways parts grow.
-/
import Derived.Test.YthafbdpeignccaaW138
import Derived.Test.YthafbdpeignccaaW3
import Derived.Test.YthafbdpeignccaaW4
import Derived.Test.YthafbdpeignccaaArr2
namespace Go.Proofs.Ythafbdpeignccaa
open Go.RowKit NP
set_option maxRecDepth 8000
set_option linter.unusedVariables false
set_option linter.unusedSimpArgs false
/-- in how many ways, for whatever numbers -/
def gOk (L : List Int) : Bool := valid L && decide (sumL L ≤ 12)
def gOF (L : List Int) : Int := if gOk L then gF L else -1
set_option maxRecDepth 100000 in
set_option maxHeartbeats 2000000 in
theorem growths_any (P : List Int) (hv : valid P = true) (hs : sumL P ≤ 12) (w : World) :
    Calls Try.prog 71 #[.agg (arr (pad P))] w fun e w' => e = .returned (.int .i64 (gF P)) ∧ Below w.heap.size w w' := by
  have hl16 := (valid_bd hv).2.2.2
  have hpl := pad_len hl16
  have hiP : (Try.prog.info? 59).map (·.size) = some (arr (pad P)).size := by rw [arr_size, hpl]; exact T_info35
  have hb0 := Blk.new w 59 (arr (pad P))
  have hA0 : Below w.heap.size w (w.alloc (.cells (arr (pad P)) 59)) := (Below.refl _ _).alloc (Nat.le_refl _) _
  obtain ⟨w0, hw0⟩ : ∃ w0, w.alloc (.cells (arr (pad P)) 59) = w0 := ⟨_, rfl⟩
  rw [hw0] at hb0 hA0
  have HV := Lib.hid hv
  have HS := Lib.hid hs
  have hg17 : (pad P ++ [1]).length = 17 := by rw [List.length_append, hpl]; rfl
  have HFOLD := Lib.hid (fold17 _ hg17)
  have hsz17 : (arr (pad P ++ [1])).size = 17 := by rw [arr_size, hg17]
  have hO1 := OwnW.one w0 92 17 (pad P ++ [1]) hg17
  have hz0 := hb0.lt
  have hA1 : Below w.heap.size w (w0.alloc (.cells (arr (pad P ++ [1])) 92)) := hA0.alloc (by omega) _
  have hb01 : Blk (w0.alloc (.cells (arr (pad P ++ [1])) 92)) w.heap.size 59 (arr (pad P)) := hb0.alloc _
  obtain ⟨w1, hw1⟩ : ∃ w1, w0.alloc (.cells (arr (pad P ++ [1])) 92) = w1 := ⟨_, rfl⟩
  rw [hw1] at hO1 hA1 hb01
  have HSP : Hid (sumL (pad P) = sumL P) := Lib.hid (sumL_pad P)
  have HSF := Lib.hid (pad_fits hv)
  have hs0 := (valid_bd hv).1
  clear hv hs
  go_enter Try.func71, Try.ntmps71
  go_wp2_with (first
    | ((try rw [HFOLD.out]); (try rw [hw1]); refine wpList_load_row rfl 59 (.tmp 1) rfl w.heap.size rfl 59 (arr (pad P)) (0, 0) _ (by first | exact hb0 | (rw [hw0]; exact hb0) | exact hb01) Try.underlying59 rfl hiP ?_; (try rw [hw0]))
    | ((with_reducible show wpList _ _ _ (Oper.mk _ (Op.build _ _) _ _ _ _ :: _) _ _); refine wpList_execG rfl (exec_build (u1 := .agg (arr (pad P))) (u2 := .int .i64 1) (v := .agg (arr (pad P ++ [1]))) 92 (.tmp 4) (.const (.int .i64 1)) rfl rfl rfl (T_buildG (pad P) hpl 1 _)) ?_)
    | (go_at_call 70; (try rw [HFOLD.out]); (try rw [hw1]); refine (dsum_any (pad P) hpl HSF.out _).mono ?_; rintro e w2 ⟨rfl, hb2⟩; rw [HSP.out]))
  have hz2 := hA1.size
  have hA2 := hA1.trans (hb2.mono hz2)
  have hO2 : OwnW w2 w.heap.size w2.heap.size 92 17 (.slice (some ⟨w0.heap.size, 0, none⟩) 1 1) (gRows (lvT P 0)) := ((hO1.more.below hb2).more).lower (by omega)
  have HO2 := Lib.hid hO2
  obtain ⟨n, hn⟩ := Int.eq_ofNat_of_zero_le hs0
  rw [hn]
  have hn12 : n ≤ 12 := by have := HS.out; omega
  have HN := Lib.hid hn
  clear hO1 hO2 hb01 hb2 hb0 hw1 hw0 hsz17 hg17 hA0 hA1
  go_loopw [3, 9] (fun v3 ii wr => ∃ t : Nat, ii = .int .i64 (t : Int) ∧ t ≤ n ∧ OwnW wr w.heap.size wr.heap.size 92 17 v3 (gRows (lvT P t)) ∧ Below w.heap.size w wr) (fun _ ii _ => n - (intOf ii).toNat)
  case atStart => exact ⟨0, rfl, Nat.zero_le _, HO2.out, hA2⟩
  case round =>
    obtain ⟨t, rfl, ht, hO, hbel⟩ := hrel
    have HO := Lib.hid hO
    have hzr := hbel.size
    clear hO
    by_cases hlt : t < n
    · have hlt' : (t : Int) < (n : Int) := by omega
      have hlv := lvT_ok HV.out HS.out t (by rw [HN.out]; omega)
      have hfa := gF_facts HV.out HS.out
      have HL : Hid (gLv ((n : Int) - (t : Int) - 1 + 1) (lvT P t) ∧ gSum (lvT P t) ≤ 10000) := Lib.hid ⟨by have := hlv.1; rw [HN.out] at this; rwa [Int.sub_add_cancel], by rw [hlv.2]; exact hfa.2.2.1⟩
      have HM : Hid (0 ≤ (n : Int) - (t : Int) - 1 ∧ (n : Int) - (t : Int) - 1 + 1 ≤ 12) := Lib.hid ⟨by omega, by omega⟩
      clear hlv hfa
      go_wp2_with (go_at_call 108; refine (levelBelow_any ((n : Int) - (t : Int) - 1) HM.out w.heap.size _ u3 (lvT P t) HL.out.1 HL.out.2 _ HO.out hzr).mono ?_; rintro e w3 ⟨v', rfl, ho3, hb3⟩)
      go_roundw
      case rel => exact ⟨t + 1, by go_num, by omega, (show OwnW w3 w.heap.size w3.heap.size 92 17 v' (gRows (lvN (lvT P t) (lvT P t).length)) from ho3.lower hzr), hbel.trans (hb3.mono hzr)⟩
      case measure => simp [intOf] <;> omega
    · obtain rfl : t = n := by omega
      obtain ⟨S, hS⟩ := lvT_end HV.out HS.out (t := t) HN.out.symm
      have ho := HO.out
      rw [hS] at ho
      obtain ⟨g, c, hv3, hg1, hg2, hc, -⟩ := ho.at_ (k := 0) (by simp [gRows])
      rw [show (gRows [(S, gF P)]).length = 1 from rfl] at hv3
      subst hv3
      have hlv := lvT_ok HV.out HS.out t (by rw [HN.out]; omega)
      have hSv : valid S = true := (hlv.1.1 (S, gF P) (by rw [hS]; simp)).1
      have hcell : wr.cell? ⟨g, 16, none⟩ = some (.int .i64 (gF P)) := by
        have := hc 16 (gF P) (by omega) (by show (gRow (S, gF P))[16]? = _; exact gRow_last (g := (S, gF P)) hSv)
        simpa using this
      clear hlt hc hlv ho hn
      go_wp2_with fail
      go_ret
      exact ⟨rfl, hbel⟩
set_option maxHeartbeats 1000000 in
theorem iGrowthsOf_any (a : Option Addr) (c B : Nat) (L : List Int) (w : World) (h : Rd w B a (ints L)) (hB : B ≤ w.heap.size) (hl : L.length ≤ 4611686018427387904) :
    Calls Try.prog 27 #[.slice a L.length c] w fun e w' => e = .returned (.int .i64 (gOF L)) ∧ Below w.heap.size w w' := by
  have hi16 : (Try.prog.info? 59).map (·.size) = some (arr (dg L)).size := by rw [arr_size, dg_len]; exact T_info35
  have hsz : (arr (dg L)).size = (arr (List.replicate 16 0)).size := by rw [arr_size, arr_size, dg_len]; rfl
  cases hv : valid L with
  | false =>
    have HE : Hid (gOF L = -1) := Lib.hid (by unfold gOF gOk; rw [hv]; rfl)
    have HV := Lib.hid hv
    clear hv
    go_enter Try.func27, Try.ntmps27
    go_wp2_with (first
      | (go_at_call 64; refine (diagramOf_any _ _ B L _ h hB hl).mono ?_; rintro e w1 ⟨rfl, hb1⟩; rw [HV.out])
      | (refine wpList_store_row rfl 59 (.tmp 3) (.tmp 8) rfl w1.heap.size rfl (arr (dg L)) rfl 59 (arr (List.replicate 16 0)) (Blk.new w1 _ _) hi16 hsz (arr_one _) ?_))
    go_ret
    exact ⟨ret_i64 HE.out.symm, below_setRow' (hb1.alloc hb1.size _) (by exact hb1.size) _⟩
  | true =>
    have HV := Lib.hid hv
    have HDG := Lib.hid (dg_yes hv)
    have hpl := pad_len (valid_bd hv).2.2.2
    have HSF := Lib.hid (pad_fits hv)
    have HSP : Hid (sumL (pad L) = sumL L) := Lib.hid (sumL_pad L)
    rw [dg_yes hv] at hi16 hsz
    by_cases hs : sumL L ≤ 12
    · have HE : Hid (gOF L = gF L) := Lib.hid (by unfold gOF gOk; rw [hv, decide_eq_true hs]; rfl)
      have HS := Lib.hid hs
      have hgt : decide (12 < sumL L) = false := decide_eq_false (by omega)
      clear hv hs
      go_enter Try.func27, Try.ntmps27
      go_wp2_with (first
        | (go_at_call 64; refine (diagramOf_any _ _ B L _ h hB hl).mono ?_; rintro e w1 ⟨rfl, hb1⟩; rw [HV.out, HDG.out])
        | (refine wpList_store_row rfl 59 (.tmp 3) (.tmp 8) rfl w1.heap.size rfl (arr (pad L)) rfl 59 (arr (List.replicate 16 0)) (Blk.new w1 _ _) hi16 hsz (arr_one _) ?_; have hB2 := (Blk.new w1 59 (arr (List.replicate 16 0))).row (vs := arr (pad L)); have hbel2 : Below w.heap.size w ((w1.alloc (.cells (arr (List.replicate 16 0)) 59)).setRow w1.heap.size (arr (pad L))) := below_setRow' (hb1.alloc hb1.size _) (by exact hb1.size) _; obtain ⟨w2, hw2⟩ : ∃ w2, w2 = (w1.alloc (.cells (#[.int .i64 0, .int .i64 0, .int .i64 0, .int .i64 0, .int .i64 0, .int .i64 0, .int .i64 0, .int .i64 0, .int .i64 0, .int .i64 0, .int .i64 0, .int .i64 0, .int .i64 0, .int .i64 0, .int .i64 0, .int .i64 0]) 59)).setRow w1.heap.size (arr (pad L)) := ⟨_, rfl⟩; rw [← hw2]; replace hB2 : Blk w2 w1.heap.size 59 (arr (pad L)) := hw2 ▸ hB2; replace hbel2 : Below w.heap.size w w2 := hw2 ▸ hbel2; clear hw2)
        | (refine wpList_load_row_g rfl 59 (.tmp 3) rfl w1.heap.size rfl 59 (arr (pad L)) (0, 0) _ hB2 Try.underlying59 rfl hi16 ?_)
        | (go_at_call 70; refine (dsum_any (pad L) hpl HSF.out _).mono ?_; rintro e w3 ⟨rfl, hb3⟩; rw [HSP.out]; have hB3 := hB2.below hb3 hB2.lt; have hbel3 := hbel2.trans (hb3.mono hbel2.size))
        | (refine wpList_load_row rfl 59 (.tmp 3) rfl w1.heap.size rfl 59 (arr (pad L)) (0, 0) _ hB3 Try.underlying59 rfl hi16 ?_)
        | (go_at_call 71; refine (growths_any L HV.out HS.out _).mono ?_; rintro e w4 ⟨rfl, hb4⟩))
      go_ret
      exact ⟨ret_i64 HE.out.symm, hbel3.trans (hb4.mono hbel3.size)⟩
    · have HE : Hid (gOF L = -1) := Lib.hid (by unfold gOF gOk; rw [hv, decide_eq_false hs]; rfl)
      have hgt : decide (12 < sumL L) = true := decide_eq_true (by omega)
      clear hv hs
      go_enter Try.func27, Try.ntmps27
      go_wp2_with (first
        | (go_at_call 64; refine (diagramOf_any _ _ B L _ h hB hl).mono ?_; rintro e w1 ⟨rfl, hb1⟩; rw [HV.out, HDG.out])
        | (refine wpList_store_row rfl 59 (.tmp 3) (.tmp 8) rfl w1.heap.size rfl (arr (pad L)) rfl 59 (arr (List.replicate 16 0)) (Blk.new w1 _ _) hi16 hsz (arr_one _) ?_; have hB2 := (Blk.new w1 59 (arr (List.replicate 16 0))).row (vs := arr (pad L)); have hbel2 : Below w.heap.size w ((w1.alloc (.cells (arr (List.replicate 16 0)) 59)).setRow w1.heap.size (arr (pad L))) := below_setRow' (hb1.alloc hb1.size _) (by exact hb1.size) _; obtain ⟨w2, hw2⟩ : ∃ w2, w2 = (w1.alloc (.cells (#[.int .i64 0, .int .i64 0, .int .i64 0, .int .i64 0, .int .i64 0, .int .i64 0, .int .i64 0, .int .i64 0, .int .i64 0, .int .i64 0, .int .i64 0, .int .i64 0, .int .i64 0, .int .i64 0, .int .i64 0, .int .i64 0]) 59)).setRow w1.heap.size (arr (pad L)) := ⟨_, rfl⟩; rw [← hw2]; replace hB2 : Blk w2 w1.heap.size 59 (arr (pad L)) := hw2 ▸ hB2; replace hbel2 : Below w.heap.size w w2 := hw2 ▸ hbel2; clear hw2)
        | (refine wpList_load_row_g rfl 59 (.tmp 3) rfl w1.heap.size rfl 59 (arr (pad L)) (0, 0) _ hB2 Try.underlying59 rfl hi16 ?_)
        | (go_at_call 70; refine (dsum_any (pad L) hpl HSF.out _).mono ?_; rintro e w3 ⟨rfl, hb3⟩; rw [HSP.out]; have hbel3 := hbel2.trans (hb3.mono hbel2.size)))
      go_ret
      exact ⟨ret_i64 HE.out.symm, hbel3⟩
end Go.Proofs.Ythafbdpeignccaa
